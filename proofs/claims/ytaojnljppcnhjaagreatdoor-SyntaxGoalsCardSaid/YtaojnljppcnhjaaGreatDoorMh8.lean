/-
  PrVar.
  RzMem.
  PgTok.
 PgFun.
 PgRead.
 PgListP.
-/
import Derived.Test.YtaojnljppcnhjaaGreatDoorMh7
import Derived.Maps.AppendAt
import Derived.WalkSpells
import Derived.Lib.SliceRun
import Derived.Laws.Rows
import Derived.Deep.AppendLies
import Derived.Deep.LoopGhost
namespace Go.Proofs.YtaojnljppcnhjaaGreatDoor
open Go.RowKit
section
variable {w:World} {R:Nat} {A:Option Addr} {c:Nat} {l:List Tk} {i:Nat} {z:Value} {ns:List (List UInt8)} {at_:Nat} {er:Int}
def VarR (R:Nat) (A:Option Addr) (c:Nat) (l:List Tk) (i:Nat) (z:Value) (ns:List (List UInt8)) (at_:Nat) (er:Int) (s:List UInt8) (w:World) (en:Ending) (w':World):Prop :=
 en=.returned (.agg #[.int .i64 1,.int .i64 ((nameS s ns).1:Int),.string ⟨#[]⟩,.slice none 0 0])∧∃z',Kp R z z' w w'∧Pr w' R A c l i z' (nameS s ns).2 at_ er
theorem nameS_old {s:List UInt8} {ns:List (List UInt8)} {k:Nat} (hk:k < ns.length) (he:ns.getD k []=s) (hs:s≠[95]) (hb:∀m,m < k→ns.getD m []≠s):nameS s ns=(k,ns):=by
 have hm:s∈ns:=by
  rw [←he,List.getD_eq_getElem?_getD,List.getElem?_eq_getElem hk]
  exact List.getElem_mem hk
 unfold nameS
 rw [if_pos ⟨hs,hm⟩]
 have h1:=List.idxOf_lt_length_iff.2 hm
 have h2:=List.getElem_idxOf h1
 rcases Nat.lt_trichotomy (ns.idxOf s) k with h|h|h
 ·refine absurd ?_ (hb _ h)
  rw [List.getD_eq_getElem?_getD,List.getElem?_eq_getElem h1]
  exact h2
 ·rw [h]
 ·have:=List.not_of_lt_findIdx (p:=(·==s)) (xs:=ns) (i:=k) (by simpa [List.idxOf] using h)
  rw [List.getD_eq_getElem?_getD,List.getElem?_eq_getElem hk] at he
  exact absurd this (by rw [show ns[k]=s by simpa using he];simp)
theorem nameS_new {s:List UInt8} {ns:List (List UInt8)} (hb:s=[95]∨∀m,m < ns.length→ns.getD m []≠s):nameS s ns=(ns.length,ns++[s]):=by
 unfold nameS
 rw [if_neg]
 rintro ⟨h1,h2⟩
 rcases hb with h|h
 ·exact h1 h
 ·obtain ⟨m,hm,e⟩:=List.mem_iff_getElem.1 h2
  exact h m hm (by rw [List.getD_eq_getElem?_getD,List.getElem?_eq_getElem hm];exact e)
theorem pnews1 (X:World) (s:List UInt8) (T:TypeId):∀j v,([.string (S s)]:List Value)[j]?=some v→(X.alloc (.cells #[.string (S s)] T)).cell? ((⟨X.heap.size,0,none⟩:Addr).add j)=some v:=by
 intro j v hv
 rw [add_plain,Nat.zero_add,World.cell?_alloc_at _ _ _ _ rfl,← hv,show (#[Value.string (S s)]:Array Value)=([Value.string (S s)]:List Value).toArray from rfl,List.getElem?_toArray]
theorem pone_one (s:List UInt8):∀u∈([.string (S s)]:List Value),u.oneCell'=true:=by
 intro u hu
 rw [List.mem_singleton.1 hu];rfl
theorem pfar {X w4:World} {T:TypeId} {s:List UInt8} {u0 u1 u2 u3:Value} (h:Pr X R A c l i z ns at_ er) (hR:R < w.heap.size∧∀k,z.ownBlock=some k→R < k∧k < w.heap.size) (_hX:Below w.heap.size w X) (hg:(X.alloc (.cells #[.string (S s)] T)).grownBy w4 z.ownBlock)
  (h0:X.cell? ⟨w.heap.size,0,none⟩=some u0) (h1:X.cell? ⟨w.heap.size,1,none⟩=some u1) (h2:X.cell? ⟨w.heap.size,2,none⟩=some u2) (h3:X.cell? ⟨w.heap.size,3,none⟩=some u3) :
  w4.cell? ⟨R,2,none⟩=some z∧w4.frozen? ⟨R,2,none⟩=false∧w4.cell? ⟨w.heap.size,0,none⟩=some u0∧w4.cell? ⟨w.heap.size,1,none⟩=some u1∧w4.cell? ⟨w.heap.size,2,none⟩=some u2∧w4.cell? ⟨w.heap.size,3,none⟩=some u3 ∧
  w4.frozen? ⟨w.heap.size,0,none⟩=X.frozen? ⟨w.heap.size,0,none⟩∧w4.frozen? ⟨w.heap.size,1,none⟩=X.frozen? ⟨w.heap.size,1,none⟩∧w4.frozen? ⟨w.heap.size,2,none⟩=X.frozen? ⟨w.heap.size,2,none⟩∧w4.frozen? ⟨w.heap.size,3,none⟩=X.frozen? ⟨w.heap.size,3,none⟩:=by
 have hlt:w.heap.size < X.heap.size:=by
  rcases Nat.lt_or_ge w.heap.size X.heap.size with h|h
  ·exact h
  ·simp [World.cell?,Array.getElem?_eq_none h] at h0
 have hb:∀k,k < X.heap.size→z.ownBlock≠some k→w4.heap[k]?=X.heap[k]?:=fun k hk ho=>by
  rw [hg.block k (by simp;omega) (fun e=>ho e.symm),Below.heap_alloc _ _ _ hk]
 have b1:=hb R h.lt (fun e=>by have:=(hR.2 _ e).1;omega)
 have b2:=hb w.heap.size hlt (fun e=>by have:=(hR.2 _ e).2;omega)
 have cT:∀j,w4.cell? ⟨w.heap.size,j,none⟩=X.cell? ⟨w.heap.size,j,none⟩:=fun j=>World.cell?_of_block b2
 have fT:∀j,w4.frozen? ⟨w.heap.size,j,none⟩=X.frozen? ⟨w.heap.size,j,none⟩:=fun j=>World.frozen?_of_block (a:=⟨w.heap.size,j,none⟩) b2
 refine ⟨by rw [World.cell?_of_block (a:=⟨R,2,none⟩) b1];exact h.l2,by rw [World.frozen?_of_block (a:=⟨R,2,none⟩) b1];exact h.fr 2,by rw [cT,h0],by rw [cT,h1],by rw [cT,h2],by rw [cT,h3],fT 0,fT 1,fT 2,fT 3⟩
theorem put4_all {X Y:World} {v0 v1 v2 v3 u0 u1 u2 u3:Value} {z0:Value} (h:Pr X R A c l i z ns at_ er) (hk:Kp R z0 z w X) (hR:R < w.heap.size) (hz:z.ownBlock≠some w.heap.size)
  (h0:X.cell? ⟨w.heap.size,0,none⟩=some u0) (h1:X.cell? ⟨w.heap.size,1,none⟩=some u1) (h2:X.cell? ⟨w.heap.size,2,none⟩=some u2) (h3:X.cell? ⟨w.heap.size,3,none⟩=some u3)
  (hY:(((X.setCell ⟨w.heap.size,0,none⟩ v0).setCell ⟨w.heap.size,1,none⟩ v1).setCell ⟨w.heap.size,2,none⟩ v2).setCell ⟨w.heap.size,3,none⟩ v3=Y) :
  Y.cell? ⟨w.heap.size,0,none⟩=some v0∧Y.cell? ⟨w.heap.size,1,none⟩=some v1∧Y.cell? ⟨w.heap.size,2,none⟩=some v2∧Y.cell? ⟨w.heap.size,3,none⟩=some v3∧Pr Y R A c l i z ns at_ er∧Kp R z0 z w Y:=by
 subst hY
 have ho:∀(a b:Nat),a≠b→∀(W:World) (v u:Value),W.cell? ⟨w.heap.size,a,none⟩=some u→(W.setCell ⟨w.heap.size,b,none⟩ v).cell? ⟨w.heap.size,a,none⟩=some u:=fun a b hab W v u hu=>by
  rw [World.cell?_setCell_other _ _ _ _ (by simp only [ne_eq,Addr.mk.injEq,true_and,and_true];omega)];exact hu
 have hs:∀(a:Nat) (W:World) (v u:Value),W.cell? ⟨w.heap.size,a,none⟩=some u→(W.setCell ⟨w.heap.size,a,none⟩ v).cell? ⟨w.heap.size,a,none⟩=some v:=fun a W v u hu=>World.cell?_setCell_same _ _ _ (by rw [hu])
 refine ⟨?_,?_,?_,?_,?_,?_⟩
 ·exact ho _ _ (by omega) _ _ _ (ho _ _ (by omega) _ _ _ (ho _ _ (by omega) _ _ _ (hs _ _ _ _ h0)))
 ·exact ho _ _ (by omega) _ _ _ (ho _ _ (by omega) _ _ _ (hs _ _ _ _ (ho _ _ (by omega) _ _ _ h1)))
 ·exact ho _ _ (by omega) _ _ _ (hs _ _ _ _ (ho _ _ (by omega) _ _ _ (ho _ _ (by omega) _ _ _ h2)))
 ·exact hs _ _ _ _ (ho _ _ (by omega) _ _ _ (ho _ _ (by omega) _ _ _ (ho _ _ (by omega) _ _ _ h3)))
 ·exact (((h.put (p:=⟨w.heap.size,0,none⟩) hR hz _).put (p:=⟨w.heap.size,1,none⟩) hR hz _).put (p:=⟨w.heap.size,2,none⟩) hR hz _).put (p:=⟨w.heap.size,3,none⟩) hR hz _
 ·exact (((((hk)).put (p:=⟨w.heap.size,0,none⟩) (Nat.le_refl _) _).put (p:=⟨w.heap.size,1,none⟩) (Nat.le_refl _) _).put (p:=⟨w.heap.size,2,none⟩) (Nat.le_refl _) _).put (p:=⟨w.heap.size,3,none⟩) (Nat.le_refl _) _
set_option maxHeartbeats 2000000 in
set_option maxRecDepth 10000 in
theorem r_variable_at (h:Pr w R A c l i z ns at_ er) (hns:ns.length≤100000) (s:List UInt8) :
  Calls Tryz.prog 148 #[.pointer (some ⟨R,0,none⟩),.string (S s)] w (VarR R A c l i z ns at_ er s w):=by
 obtain ⟨i0,hi,hz0,hz1,hz2⟩:=info_parts string_info
 obtain ⟨B,zc,rfl⟩:=h.zform
 obtain ⟨X,hX⟩:∃X,X=w.alloc (.cells #[.int .i64 0,.int .i64 0,.string ⟨#[]⟩,.slice none 0 0] 56):=⟨_,rfl⟩
 have HX0:=Lib.hid (show Below w.heap.size w X by rw [hX];exact below1 w _)
 have H:=Lib.hid (h.below HX0.out)
 have hnew:∀j,X.cell? ⟨w.heap.size,j,none⟩=(#[.int .i64 0,.int .i64 0,.string ⟨#[]⟩,.slice none 0 0]:Array Value)[j]?:=fun j=>by rw [hX];exact World.cell?_alloc_at _ _ _ _ rfl
 have n0:X.cell? ⟨w.heap.size,0,none⟩=some (.int .i64 0):=hnew 0
 have n1:X.cell? ⟨w.heap.size,1,none⟩=some (.int .i64 0):=hnew 1
 have n2:X.cell? ⟨w.heap.size,2,none⟩=some (.string ⟨#[]⟩):=hnew 2
 have n3:X.cell? ⟨w.heap.size,3,none⟩=some (.slice none 0 0):=hnew 3
 have f0:∀j,X.frozen? ⟨w.heap.size,j,none⟩=false:=fun j=>by rw [hX];exact World.frozen?_alloc_at _ _ _ _ rfl
 have fr0:=f0 0
 have fr1:=f0 1
 have fr2:=f0 2
 have fr3:=f0 3
 have h2:=H.out.l2
 have fz:=H.out.fr 2
 have HN:=Lib.hid hns
 have HR0:=Lib.hid (And.intro h.lt h.apart)
 have HH:=Lib.hid (show w.heap.size < X.heap.size by rw [hX];simp)
 clear h hnew f0
 go_enter Tryz.func148,Tryz.ntmps148
 go_wp2_with fail
 rw [←hX]
 clear hX
 go_loop [5] (fun v=>∃j:Nat,j≤ns.length∧v=.int .i64 (j:Int)∧Hid (s=[95]∨∀m,m < j→ns.getD m []≠s)) (fun v=>ns.length - (intOf v).toNat)
 case atStart=>exact ⟨0,Nat.zero_le _,rfl,Lib.hid (.inr fun m hm=>absurd hm (by omega))⟩
 case round =>
  obtain ⟨j,hj,rfl,hb⟩:=hrel
  by_cases hlt:j < ns.length
  ·have hlt':(j:Int) < (ns.length:Int):=by omega
   obtain ⟨g,cap,e,hle,hcap,hcell⟩:=H.out.nameAt hlt
   injection e with e1 _ e3
   subst e1 e3
   have HJ:=Lib.hid hlt
   have hns':ns.length≤9223372036854775807:=by omega
   obtain ⟨x,hx⟩:∃x,ns.getD j []=x:=⟨_,rfl⟩
   rw [hx] at hcell
   have HX:=Lib.hid hx
   obtain ⟨b1,hb1⟩:∃b,(x==s)=b:=⟨_,rfl⟩
   obtain ⟨b2,hb2⟩:∃b,(s != [95])=b:=⟨_,rfl⟩
   have HB:=Lib.hid (And.intro hb1 hb2)
   clear hx
   cases b1
   ·have HR:=Lib.hid (show s=[95]∨∀m,m < j+1→ns.getD m []≠s from hb.out.imp id fun h m hm=>by
     rcases Nat.lt_or_ge m j with h1|h1
     ·exact h m h1
     ·obtain rfl:m=j:=by omega
      rw [HX.out];simpa using HB.out.1)
    go_wp2_with fail
    go_round
    case rel=>exact ⟨j+1,by omega,by go_num,HR⟩
    case measure=>simp [intOf];omega
   ·cases b2
    ·have hs:s=[95]:=by simpa using hb2
     have hxs:x=s:=by simpa using hb1
     subst hs
     subst hxs
     clear hb1 hb2 HB
     go_wp2_with fail
     go_round
     case rel=>exact ⟨j+1,by omega,by go_num,Lib.hid (.inl trivial)⟩
     case measure=>simp [intOf];omega
    ·have hb3:(s==[95])=false:=by simpa using hb2
     have hs5:s≠[95]:=by simpa using hb2
     have hxs:x=s:=by simpa using hb1
     have HV:=Lib.hid (nameS_old HJ.out (HX.out.trans hxs) hs5 (hb.out.resolve_left hs5))
     clear hxs
     go_wp2_with fail
     generalize hY:((((X.setCell _ _).setCell _ _).setCell _ _).setCell _ _)=Y
     obtain ⟨q0,q1,q2,q3,hp,hk⟩:=put4_all H.out (Below.kp HX0.out R _) HR0.out.1 (fun e=>absurd (HR0.out.2 _ e).2 (by omega)) n0 n1 n2 n3 hY
     refine bodyPost_ret (v:=.agg #[.int .i64 1,.int .i64 (j:Int),.string ⟨#[]⟩,.slice none 0 0]) (by simp [results,Tryz.results148,go_sem,q0,q1,q2,q3]) rfl ⟨by rw [HV.out],_,hk,by rw [HV.out];exact hp⟩
  ·obtain rfl:j=ns.length:=by omega
   have HV:=Lib.hid (nameS_new hb.out)
   have HXs:=HX0.out.size
   have hne:¬R=w.heap.size:=by have:=HR0.out.1;omega
   have hne2:¬w.heap.size=R:=by have:=HR0.out.1;omega
   have hns':ns.length≤9223372036854775807:=by omega
   go_wp2_with (at_builtin;refine wpList_append_lies _ rfl _ _ 39 rfl (R+1) 9 i0 _ 1 16 Tryz.underlying39 hi hz0 hz1 hz2 rfl (by decide) _ ns.length (nmC ns) rfl (H.out.alloc _).own ⟨X.heap.size,0,none⟩ 1 1 [.string (S s)] rfl rfl (pnews1 X s _) (pone_one s) (by decide) (by unfold maxLen;omega) (by omega) (by have:=HR0.out.1;simp;omega) _ rfl ?_;intro g cap w4 hown hg hat hglt;have HG:=Lib.hid (And.intro hown (And.intro hg hat));have d0:=pfar H.out HR0.out HX0.out hg n0 n1 n2 n3;obtain ⟨d0,d1,d2,d3,d4,d5,d6,d7,d8,d9⟩:=d0;clear hown hg hat hglt)
   obtain ⟨hown,hg,hat⟩:=HG.out
   have HP:=(H.out.alloc (.cells #[.string (S s)] 9)).names hg hown
   have HK:=(((Below.kp HX0.out R (.slice B ns.length zc)).alloc (.cells #[.string (S s)] 9)).names (n:=ns.length+1) (cap:=cap) hg hat).set 2 none (.slice (some ⟨g,0,none⟩) (ns.length+1) cap)
   have hzz:(Value.slice (some ⟨g,0,none⟩) (ns.length+1) cap).ownBlock≠some w.heap.size:=fun e=>by
    have e':g=w.heap.size:=by simpa [Value.ownBlock] using e
    rcases hat with h|h
    ·have:=(HR0.out.2 _ h).2;omega
    ·have:=HH.out;simp at h;omega
   have hc:∀j u,w4.cell? ⟨w.heap.size,j,none⟩=some u→(w4.setCell ⟨R,2,none⟩ (.slice (some ⟨g,0,none⟩) (ns.length+1) cap)).cell? ⟨w.heap.size,j,none⟩=some u:=fun j u hu=>by
    rw [World.cell?_setCell_other _ _ _ _ (by simp only [ne_eq,Addr.mk.injEq];omega)];exact hu
   generalize hY:((((World.setCell (World.setCell w4 _ _) _ _).setCell _ _).setCell _ _).setCell _ _)=Y
   obtain ⟨q0,q1,q2,q3,hp,hk⟩:=put4_all HP HK HR0.out.1 hzz (hc 0 _ d2) (hc 1 _ d3) (hc 2 _ d4) (hc 3 _ d5) hY
   refine bodyPost_ret (v:=.agg #[.int .i64 1,.int .i64 (ns.length:Int),.string ⟨#[]⟩,.slice none 0 0]) (by simp [results,Tryz.results148,go_sem,q0,q1,q2,q3]) rfl ⟨by rw [HV.out],_,hk,by rw [HV.out];exact hp⟩
end
end Go.Proofs.YtaojnljppcnhjaaGreatDoor
namespace Go.Proofs.YtaojnljppcnhjaaGreatDoor
open Go.RowKit
section
variable {α:Type}
structure SitZ (E:Elt α) (lo:Nat) (z:Value) (w:World) (l:List α):Prop where
 at_:∀x∈l,E.At w x
 bd:∀b∈E.blkL l,lo≤b∧b < w.heap.size
 out:∀b∈E.blkL l,z.ownBlock≠some b
variable {E:Elt α} {lo m:Nat} {z z' r:Value} {w w':World} {l k:List α} {T:TypeId}
theorem SitZ.nil (E:Elt α) (lo:Nat) (z:Value) (w:World):SitZ E lo z w []:=⟨fun _ h=>(by cases h),fun _ h=>(by simp [Elt.blkL] at h),fun _ h=>(by simp [Elt.blkL] at h)⟩
theorem SitZ.frame (h:SitZ E lo z w l) (hs:w.heap.size≤w'.heap.size) (hb:∀b∈E.blkL l,w'.heap[b]?=w.heap[b]?) (hz:∀b∈E.blkL l,z'.ownBlock≠some b):SitZ E lo z' w' l :=
 ⟨fun x hx=>E.frame (h.at_ x hx) fun b hbx=>hb b (List.mem_flatMap.2 ⟨x,hx,hbx⟩),fun b hx=>⟨(h.bd b hx).1,Nat.lt_of_lt_of_le (h.bd b hx).2 hs⟩,hz⟩
theorem SitZ.kp {R:Nat} (h:SitZ E lo z w l) (k:Kp R z z' w w') (hR:R < lo):SitZ E lo z' w' l :=
 h.frame k.size (fun b hb=>k.block b (h.bd b hb).2 (by have:=(h.bd b hb).1;omega) (h.out b hb)) fun b hb e=>by
  rcases k.own b e with h1|h1
  ·exact h.out b hb h1
  ·have:=(h.bd b hb).2;omega
theorem SitZ.below (h:SitZ E lo z w l) (k:Below w.heap.size w w'):SitZ E lo z w' l:=h.frame k.size (fun b hb=>k.block b (h.bd b hb).2) h.out
theorem SitZ.alloc (h:SitZ E lo z w l) (o:Obj):SitZ E lo z (w.alloc o) l:=h.below ((Below.refl _ _).alloc (Nat.le_refl _) o)
theorem SitZ.low {lo':Nat} (h:SitZ E lo z w l) (hl:lo'≤lo):SitZ E lo' z w l:=⟨h.at_,fun b hb=>⟨Nat.le_trans hl (h.bd b hb).1,(h.bd b hb).2⟩,h.out⟩
theorem SitZ.put (h:SitZ E lo z w l) {p:Addr} (hp:p.block∉E.blkL l) (v:Value):SitZ E lo z (w.setCell p v) l :=
 h.frame (by simp [World.setCell]) (fun b hb=>Below.heap_setCell _ _ _ _ (fun e=>hp (e ▸ hb))) h.out
theorem SitZ.append (h:SitZ E lo z w l) (h2:SitZ E lo z w k):SitZ E lo z w (l++k):=by
 refine ⟨fun x hx=>(List.mem_append.1 hx).elim (h.at_ x) (h2.at_ x),fun b hb=>?_,fun b hb=>?_⟩
 ·rw [Elt.blkL_append] at hb
  exact (List.mem_append.1 hb).elim (h.bd b) (h2.bd b)
 ·rw [Elt.blkL_append] at hb
  exact (List.mem_append.1 hb).elim (h.out b) (h2.out b)
structure RowZ (E:Elt α) (T:TypeId) (lo:Nat) (z:Value) (w:World) (r:Value) (l:List α):Prop where
 row:w.ownsRow lo T E.k r l.length (E.cellsL l)
 sit:SitZ E lo z w l
 apart:∀k,r.ownBlock=some k→k∉E.blkL l
 zap:∀k,r.ownBlock=some k→z.ownBlock≠some k
theorem RowZ.nil (E:Elt α) (T:TypeId) (lo:Nat) (z:Value) (w:World):RowZ E T lo z w (.slice none 0 0) []:=⟨⟨by simp [Elt.cellsL],.inl ⟨rfl,rfl⟩⟩,SitZ.nil _ _ _ _,fun k hk=>(by cases hk),fun k hk=>(by cases hk)⟩
theorem RowZ.frame (h:RowZ E T lo z w r l) (hs:w.heap.size≤w'.heap.size) (hb:∀b,lo≤b→b < w.heap.size→z.ownBlock≠some b→w'.heap[b]?=w.heap[b]?) (hz:∀b,z'.ownBlock=some b→z.ownBlock=some b∨w.heap.size≤b):RowZ E T lo z' w' r l:=by
 have hzz:∀b,lo≤b→b < w.heap.size→z.ownBlock≠some b→z'.ownBlock≠some b:=fun b _ h2 h3 e=>by
  rcases hz b e with h4|h4
  ·exact h3 h4
  ·omega
 exact ⟨own_of h.row fun k hk=>hb k (own_lt h.row k hk).1 (own_lt h.row k hk).2 (h.zap k hk),h.sit.frame hs (fun b hx=>hb b (h.sit.bd b hx).1 (h.sit.bd b hx).2 (h.sit.out b hx)) (fun b hx=>hzz b (h.sit.bd b hx).1 (h.sit.bd b hx).2 (h.sit.out b hx)),h.apart,fun k hk=>hzz k (own_lt h.row k hk).1 (own_lt h.row k hk).2 (h.zap k hk)⟩
theorem RowZ.kp {R:Nat} (h:RowZ E T lo z w r l) (k:Kp R z z' w w') (hR:R < lo):RowZ E T lo z' w' r l:=h.frame k.size (fun b h1 h2 h3=>k.block b h2 (by omega) h3) k.own
theorem RowZ.below (h:RowZ E T lo z w r l) (hb:Below w.heap.size w w'):RowZ E T lo z w' r l:=h.frame hb.size (fun b _ h2 _=>hb.block b h2) fun _ h=>.inl h
theorem RowZ.zform (h:RowZ E T lo z w r l):∃B cap,r=.slice B l.length cap:=by
 rcases h.row.2 with ⟨e,h1⟩|⟨g,cap,cur,e,_⟩
 ·exact ⟨none,0,by rw [e,h1]⟩
 ·exact ⟨_,cap,e⟩
theorem RowZ.next {g cap:Nat} {w2 w3 w4:World} {u:α} (h:RowZ E T lo z w2 r l) (hz:∀k,z.ownBlock=some k→k < w2.heap.size) (hm:lo≤m) (hrm:∀k,r.ownBlock=some k→k < m) (hu:SitZ E m z w2 [u]) (hb:Below w2.heap.size w2 w3)
  (hown:w4.ownsRow lo T E.k (.slice (some ⟨g,0,none⟩) (l.length+1) cap) (l.length+1) (E.cellsL l++E.cells u)) (hg:w3.grownBy w4 r.ownBlock) (hat:r.ownBlock=some g∨g=w3.heap.size) :
  RowZ E T lo z w4 (.slice (some ⟨g,0,none⟩) (l.length+1) cap) (l++[u]):=by
 have hall:=h.sit.append (hu.low hm)
 have hap:∀k,r.ownBlock=some k→k∉E.blkL (l++[u]):=fun k hk hx=>by
  rw [Elt.blkL_append] at hx
  rcases List.mem_append.1 hx with hx|hx
  ·exact h.apart k hk hx
  ·have:=hrm k hk
   have:=(hu.bd k hx).1
   omega
 have hge:∀k,(Value.slice (some ⟨g,0,none⟩) (l.length+1) cap).ownBlock=some k→g=k:=fun k hk=>by simpa [Value.ownBlock] using hk
 refine ⟨by rw [List.length_append,Elt.cellsL_append];simpa [Elt.cellsL] using hown,(hall.below hb).frame hg.size (fun b hx=>hg.block b ((hall.below hb).bd b hx).2 fun e=>hap b e.symm hx) hall.out,fun k hk hx=>?_,fun k hk e=>?_⟩
 ·obtain rfl:=hge k hk
  rcases hat with h1|h1
  ·exact hap g h1 hx
  ·have:=(hall.bd g hx).2
   have:=hb.size
   omega
 ·obtain rfl:=hge k hk
  rcases hat with h1|h1
  ·exact h.zap g h1 e
  ·have:=hz g e
   have:=hb.size
   omega
end
def ElZ {α β:Type} (E:Elt α) (val:α→Value) (h:α→β) (f:Rd1 β) (R:Nat) (A:Option Addr) (c:Nat) (l:List Tk) (i:Nat) (z:Value) (ns:List (List UInt8)) (w:World) (en:Ending) (w':World):Prop :=
 ∃(x:α) (b:Bool),en=.returned (.tuple #[val x,.bool b]) ∧
  ((b=true∧∃z' ns' j at_,Kp R z z' w w'∧Pr w' R A c l j z' ns' at_ 0∧f (leftT l i) ns=.ok (h x) (leftT l j) ns'∧i < j∧ns'.length+(leftT l j).length≤ns.length+(leftT l i).length∧SitZ E w.heap.size z' w' [x]) ∨
   (b=false∧∃z' ns' j n e,Kp R z z' w w'∧Pr w' R A c l j z' ns' (offT l n) e∧e≠0∧f (leftT l i) ns=.err n e))
end Go.Proofs.YtaojnljppcnhjaaGreatDoor
namespace Go.Proofs.YtaojnljppcnhjaaGreatDoor
open Go.RowKit
section
variable {w:World} {R:Nat} {A:Option Addr} {c:Nat} {l:List Tk} {i:Nat}
set_option maxHeartbeats 1000000 in
theorem p_next_at (h:Pq w R A c l i) :
  Calls Tryz.prog 44 #[.pointer (some ⟨R,0,none⟩)] w fun e w'=>e=.returned (tokV (l.getD i default))∧Below w.heap.size w w':=by
 obtain ⟨X,hX⟩:∃X,X=w.alloc (.cells #[.int .i64 0,.int .i64 0,.string ⟨#[]⟩] 67):=⟨_,rfl⟩
 have HX:=Lib.hid (show Below w.heap.size w X by rw [hX];exact below1 w _)
 have hXX:Pq X R A c l i:=h.below HX.out
 have hnew:∀j,X.cell? ⟨w.heap.size,j,none⟩=(#[.int .i64 0,.int .i64 0,.string ⟨#[]⟩]:Array Value)[j]?:=fun j=>by rw [hX];exact World.cell?_alloc_at _ _ _ _ rfl
 have n0:X.cell? ⟨w.heap.size,0,none⟩=some (.int .i64 0):=hnew 0
 have n1:X.cell? ⟨w.heap.size,1,none⟩=some (.int .i64 0):=hnew 1
 have n2:X.cell? ⟨w.heap.size,2,none⟩=some (.string ⟨#[]⟩):=hnew 2
 have f0:∀j,X.frozen? ⟨w.heap.size,j,none⟩=false:=fun j=>by rw [hX];exact World.frozen?_alloc_at _ _ _ _ rfl
 have fr0:=f0 0
 have fr1:=f0 1
 have fr2:=f0 2
 clear hnew f0 h
 obtain ⟨g,rfl,t0,t1,t2⟩:=hXX.tok
 have h0:=hXX.l0
 have h1:=hXX.l1
 have hil:(i:Int) < (l.length:Int):=by have:=hXX.ilt;omega
 have hi0:(0:Int)≤(i:Int):=by omega
 have hlen:=hXX.toks.1
 have hcap:=hXX.toks.2.1
 have hgR:=hXX.low g rfl
 have hRX:=hXX.lt
 clear hXX
 generalize l.getD i default=t at t0 t1 t2 ⊢
 obtain ⟨k,p,x⟩:=t
 simp only at t0 t1 t2
 generalize l.length=n at h0 hil hlen
 go_enter Tryz.func44,Tryz.ntmps44
 go_wp2_with fail
 rw [←hX]
 clear hX
 go_region
 generalize hY:(((X.setCell _ _).setCell _ _).setCell _ _).drew=Y
 have HB:Below w.heap.size w Y:=by
  rw [←hY]
  exact (((HX.out.setCell (Nat.le_refl _) _).setCell (Nat.le_refl _) _).setCell (Nat.le_refl _) _).drew
 obtain ⟨q0,q1,q2⟩:Y.cell? ⟨w.heap.size,0,none⟩=some (.int .i64 k)∧Y.cell? ⟨w.heap.size,1,none⟩=some (.int .i64 (p:Int))∧Y.cell? ⟨w.heap.size,2,none⟩=some (.string (S x)):=by
  rw [←hY]
  exact put3_cells n0 n1 n2
 clear hY
 go_wp2_with fail
 refine bodyPost_ret (v:=tokV (k,p,x)) (by simp [results,Tryz.results44,go_sem,q0,q1,q2]) rfl ⟨rfl,HB⟩
theorem p_next_of (h:Pq w R A c l i) {k:Int} {p:Nat} {x:List UInt8} (ht:l.getD i default=(k,p,x)) :
  Calls Tryz.prog 44 #[.pointer (some ⟨R,0,none⟩)] w fun e w'=>e=.returned (.agg #[.int .i64 k,.int .i64 (p:Int),.string (S x)])∧Below w.heap.size w w':=by
 have:=p_next_at h
 rw [ht] at this
 exact this
def AccR (R:Nat) (A:Option Addr) (c:Nat) (l:List Tk) (i:Nat) (b:Bool) (w:World) (en:Ending) (w':World):Prop :=
 en=.returned (.bool b)∧Kq R w w'∧Pq w' R A c l (if b then i+1 else i)
theorem good_next {l:List Tk} (h:GoodT l) {i:Nat} (hi:i < l.length) (hne:(l.getD i default).2.2≠[]):i+1 < l.length:=by
 refine (ended_step h.ended hi fun e=>?_).1
 rw [h.kinds i hi] at e
 revert hne e
 cases (l.getD i default).2.2 with
 | nil=>exact fun h _=>h rfl
 | cons x r =>
  intro _ e
  simp only [kindO] at e
  split at e
  ·omega
  ·split at e
   ·omega
   ·split at e<;>omega
set_option maxHeartbeats 1000000 in
set_option maxRecDepth 10000 in
theorem accept_at (hg:GoodT l) (h:Pq w R A c l i) (s:List UInt8) (hs:s≠[]) {b:Bool} (hb:((l.getD i default).2.2==s)=b) :
  Calls Tryz.prog 45 #[.pointer (some ⟨R,0,none⟩),.string (S s)] w (AccR R A c l i b w):=by
 have HN:=Lib.hid (show b=true→i+1 < l.length from fun hb2=>good_next hg h.ilt (by rw [hb2] at hb;rw [beq_iff_eq.1 hb];exact hs))
 have HI:=Lib.hid (show (i:Int)+1≤16386 by have:=h.ilt;have:=hg.small;omega)
 generalize ht:l.getD i default=t at hb
 obtain ⟨k,p,x⟩:=t
 have Q:=Lib.hid (p_next_of h ht)
 have H:=Lib.hid (fun W (hb:Below w.heap.size w W)=>h.below hb)
 have ft:=tok_text k p (S x)
 have hb':(x==s)=b:=hb
 have hn':(x != s) = !b:=by rw [←hb'];rfl
 have HS:=Lib.hid hs
 clear h hb ht hs hg
 cases b
 ·go_enter Tryz.func45,Tryz.ntmps45
  go_wp2_with (go_at_call 44;refine Q.out.mono ?_;rintro en w1 ⟨rfl,hb1⟩;have H1:=Lib.hid hb1;clear hb1)
  go_ret
  exact ⟨rfl,Below.kp H1.out R Z0,H.out _ H1.out⟩
 ·have hi1:(i:Int)+1≤9223372036854775807:=by have:=HI.out;omega
  go_enter Tryz.func45,Tryz.ntmps45
  go_wp2_with (go_at_call 44;refine Q.out.mono ?_;rintro en w1 ⟨rfl,hb1⟩;have H1:=Lib.hid hb1;clear hb1;have l1:=(H.out _ H1.out).l1;have f1:=(H.out _ H1.out).fr 1)
  go_ret
  exact ⟨rfl,(Below.kp H1.out R Z0).set 1 none _,(H.out _ H1.out).set (q:=i+1) (by first|exact HN.out rfl|exact HN.out trivial)⟩
set_option maxHeartbeats 1000000 in
set_option maxRecDepth 10000 in
theorem expect_at (hg:GoodT l) (h:Pq w R A c l i) (s:List UInt8) (hs:s≠[]) {b:Bool} (hb:((l.getD i default).2.2==s)=b) :
  Calls Tryz.prog 56 #[.pointer (some ⟨R,0,none⟩),.string (S s)] w fun en w'=>en=.returned (.int .i64 (if b then 0 else 16))∧Kq R w w'∧Pq w' R A c l (if b then i+1 else i):=by
 have Q:=Lib.hid (accept_at hg h s hs hb)
 clear h hb hs hg
 cases b
 ·go_enter Tryz.func56,Tryz.ntmps56
  go_wp2_with (go_at_call 45;refine Q.out.mono ?_;rintro en w1 ⟨rfl,hb1⟩;have H1:=Lib.hid hb1;clear hb1)
  go_ret
  exact ⟨rfl,H1.out⟩
 ·go_enter Tryz.func56,Tryz.ntmps56
  go_wp2_with (go_at_call 45;refine Q.out.mono ?_;rintro en w1 ⟨rfl,hb1⟩;have H1:=Lib.hid hb1;clear hb1)
  go_ret
  exact ⟨rfl,H1.out⟩
def NameQ (R:Nat) (A:Option Addr) (c:Nat) (l:List Tk) (i:Nat) (w:World) (en:Ending) (w':World):Prop :=
 ∃(t:List UInt8) (er:Int) (j:Nat),en=.returned (.tuple #[.string (S t),.int .i64 er])∧Kq R w w'∧Pq w' R A c l j∧t.length≤16384 ∧
  ((er=0∧j=i+1∧t=(l.getD i default).2.2∧∀ns,nmS (leftT l i) ns=.ok t (leftT l j) ns)∨((er=16∨er=7)∧j=i∧t=[]∧∀ns,nmS (leftT l i) ns=.err (leftT l j).length er))
set_option maxHeartbeats 1000000 in
set_option maxRecDepth 10000 in
theorem p_name_at (hg:GoodT l) (h:Pq w R A c l i) :
  Calls Tryz.prog 79 #[.pointer (some ⟨R,0,none⟩)] w (NameQ R A c l i w):=by
 have HI:=Lib.hid (show (i:Int)+1≤16386 by have:=h.ilt;have:=hg.small;omega)
 have hi1:(i:Int)+1≤9223372036854775807:=by have:=HI.out;omega
 have hx0:∃t,l.getD i default=t:=⟨_,rfl⟩
 obtain ⟨t,ht⟩:=hx0
 obtain ⟨k,p,x⟩:=t
 have HC:=Lib.hid (left_cons h.ilt)
 have HN:=Lib.hid (show x≠[]→i+1 < l.length from fun hne=>good_next hg h.ilt (by rw [ht];exact hne))
 have HX:=Lib.hid (show x.length≤16384 by have:=hg.texts i h.ilt;rw [ht] at this;exact this)
 have HK:=Lib.hid (show k=kindO x by have:=hg.kinds i h.ilt;rw [ht] at this;exact this)
 have Q:=Lib.hid (p_next_of h ht)
 have H:=Lib.hid h
 have HT:=Lib.hid ht
 have hR:=h.lt
 clear h ht hg
 obtain ⟨b,hk⟩:∃b,(k==1)=b:=⟨_,rfl⟩
 have hk2:(k != 1) = !b:=by rw [←hk];rfl
 obtain ⟨r,hr⟩:∃r,resB x=r:=⟨_,rfl⟩
 have QR:=Lib.hid (fun W=>res_at (S x) W (r:=r) hr)
 have HR:=Lib.hid hr
 have HB:=Lib.hid hk
 clear hr
 cases b
 ·have hkf:k≠1:=by simpa using HB.out
  go_enter Tryz.func79,Tryz.ntmps79
  go_wp2_with (go_at_call 44;refine Q.out.mono ?_;rintro en w2 ⟨rfl,hb2⟩;have H2:=Lib.hid hb2;clear hb2)
  refine bodyPost_ret (v:=.tuple #[.string ⟨#[]⟩,.int .i64 16]) (by simp [results,Tryz.results79,go_sem]) rfl ?_
  have hb3:=H2.out.alloc H2.out.size (.cells #[.int .i64 k,.int .i64 (p:Int),.string (S x)] 67)
  exact ⟨[],16,i,rfl,Below.kp hb3 R Z0,H.out.below hb3,by simp,.inr ⟨.inl rfl,rfl,rfl,fun ns=>by rw [HC.out,HT.out,nmS,if_pos hkf]⟩⟩
 ·obtain rfl:k=1:=by simpa using HB.out
  cases r
  ·go_enter Tryz.func79,Tryz.ntmps79
   go_wp2_with (first
    | (go_at_call 44;refine Q.out.mono ?_;rintro en w2 ⟨rfl,hb2⟩;have H2:=Lib.hid hb2;clear hb2;have hb3:=H2.out.alloc H2.out.size (.cells #[.int .i64 1,.int .i64 (p:Int),.string (S x)] 67);have HP:=Lib.hid (H.out.below hb3);have l1:=HP.out.l1;have f1:=HP.out.fr 1;have H3:=Lib.hid hb3;have hne:¬w2.heap.size=R:=(by have:=H2.out.size;omega);clear hb3)
    | (go_at_call 102;refine (QR.out _).mono ?_;rintro en w3 ⟨rfl,rfl⟩))
   refine bodyPost_ret (v:=.tuple #[.string (S x),.int .i64 0]) (by simp [results,Tryz.results79,go_sem]) rfl ?_
   have hxne:x≠[]:=fun e=>by have:=HK.out;rw [e] at this;exact absurd this (by decide)
   refine ⟨x,0,i+1,rfl,(Below.kp H3.out R Z0).set 1 none _,HP.out.set (q:=i+1) (HN.out hxne),HX.out,.inl ⟨rfl,rfl,by rw [HT.out],fun ns=>?_⟩⟩
   rw [HC.out,HT.out,nmS,if_neg (by simp),HR.out]
   rfl
  ·go_enter Tryz.func79,Tryz.ntmps79
   go_wp2_with (first
    | (go_at_call 44;refine Q.out.mono ?_;rintro en w2 ⟨rfl,hb2⟩;have H2:=Lib.hid hb2;clear hb2)
    | (go_at_call 102;refine (QR.out _).mono ?_;rintro en w3 ⟨rfl,rfl⟩))
   refine bodyPost_ret (v:=.tuple #[.string ⟨#[]⟩,.int .i64 7]) (by simp [results,Tryz.results79,go_sem]) rfl ?_
   have hb3:=H2.out.alloc H2.out.size (.cells #[.int .i64 1,.int .i64 (p:Int),.string (S x)] 67)
   refine ⟨[],7,i,rfl,Below.kp hb3 R Z0,H.out.below hb3,by simp,.inr ⟨.inr rfl,rfl,rfl,fun ns=>?_⟩⟩
   rw [HC.out,HT.out,nmS,if_neg (by simp),HR.out]
   rfl
end
end Go.Proofs.YtaojnljppcnhjaaGreatDoor
namespace Go.Proofs.YtaojnljppcnhjaaGreatDoor
open Go.RowKit
theorem RowAt.cells {w:World} {l:List Tm} {b o:Nat} (h:RowAt w l b o):∀(j:Nat) (u:Value),(pcells l)[j]?=some u→w.cell? ((⟨b,o,none⟩:Addr).add j)=some u:=by
 induction l generalizing o with
 | nil=>intro j u hu;simp [pcells] at hu
 | cons t r ih =>
  intro j u hu
  simp only [RowAt] at h
  obtain ⟨⟨h0,h1,h2,h3⟩,_,hr⟩:=h
  rw [add_plain]
  simp only [pcells,List.flatMap_cons] at hu
  by_cases hj:j < 4
  ·rw [List.getElem?_append_left (by rw [pcell_len];exact hj)] at hu
   match j,hj with
   | 0,_=>rw [←hu];exact h0
   | 1,_=>rw [←hu];exact h1
   | 2,_=>rw [←hu];exact h2
   | 3,_=>rw [←hu];exact h3
  ·rw [List.getElem?_append_right (by rw [pcell_len];omega),pcell_len] at hu
   have:=ih hr (j - 4) u hu
   rw [add_plain,show o+4+(j - 4)=o+j by omega] at this
   exact this
theorem term_info:(Tryz.prog.info? 56).map (fun i=>(i.zero,i.size,i.bytes))=some (some (.agg #[.int .i64 0,.int .i64 0,.string ⟨#[]⟩,.slice none 0 0]),4,56):=by kernel_rfl
def Cloned (w:World) (l:List Tm) (e:Ending) (w':World):Prop:=∃g cap,e=.returned (.slice (some ⟨g,0,none⟩) l.length cap)∧w.heap.size≤g∧g < w'.heap.size∧l.length≤cap∧cap≤maxLen∧(∀j u,(pcells l)[j]?=some u→w'.cell? ⟨g,j,none⟩=some u)∧Below w.heap.size w w'∧∀j,w'.frozen? ⟨g,j,none⟩=false
set_option maxHeartbeats 400000 in
theorem clone_at (l:List Tm) (b o c:Nat) (w:World) (h0:0 < l.length) (hl:RowAt w l b o) (hsz:l.length≤1000000) :
  Calls Tryz.prog 166 #[.slice (some ⟨b,o,none⟩) l.length c] w (Cloned w l):=by
 obtain ⟨i0,hi,hz0,hz1,hz2⟩:=info_parts term_info
 have hn:=fun (W:World)=>Lib.run_eql_slice_nil (P:=Tryz.prog) W 52 56 (some ⟨b,o,none⟩) l.length c 0 0 Tryz.underlying52
 go_enter Tryz.func166,Tryz.ntmps166
 have hl1:RowAt (w.alloc (.cells #[] 56)) l b o:=(At_keep ((Below.refl _ _).alloc (Nat.le_refl _) _)).2 _ _ _ hl
 have HC:=Lib.hid hl1.cells
 have HO:=Lib.hid (World.ownsRow_lit (base:=w.heap.size) (e:=56) (size:=4) w #[] 0 (Nat.le_refl _) (Nat.zero_le _) rfl)
 clear hl hl1
 go_wp2_with (at_builtin;refine wpList_append_own _ rfl _ _ 52 rfl w.heap.size 56 i0 _ 4 56 Tryz.underlying52 hi hz0 hz1 hz2 rfl (by decide) _ 0 [] rfl HO.out ⟨b,o,none⟩ l.length c (pcells l) rfl (pcells_length l) HC.out (pcells_one l) (by unfold maxLen;omega) (by omega) (by simp) ?_;intro v' w1 hown1 hg1 _)
 have HG:=Lib.hid hg1
 have HW:=Lib.hid hown1
 clear hg1 hown1
 go_ret
 obtain ⟨hlen,hv⟩:=HW.out
 rcases hv with ⟨_,h⟩|⟨g,cap,cur,rfl,hb,hheap,hle,hcap,_,hcur⟩
 ·omega
 ·refine ⟨g,cap,by simp only [Nat.zero_add];rfl,hb,?_,by omega,hcap,fun j u hu=>?_,?_,fun j=>by simp [World.frozen?,hheap]⟩
  ·rcases Nat.lt_or_ge g w1.heap.size with h|h
   ·exact h
   ·rw [Array.getElem?_eq_none h] at hheap;cases hheap
  ·have hj:j < (pcells l).length:=(List.getElem?_eq_some_iff.1 hu).1
   rw [pcells_length] at hj
   rw [World.ownsRow.cellAt HW.out j (by omega)]
   simpa using hu
  ·exact ((Below.refl _ _).alloc (Nat.le_refl _) _).grown HG.out (by simp) (fun k hk=>(World.ownsRow.lt HO.out k hk).1)
theorem clip_at (A:Option Addr) (n c:Nat) (w:World) (hn:n≤c) (_hc:c≤9223372036854775807) :
  Calls Tryz.prog 165 #[.slice A n c] w fun e w'=>e=.returned (.slice A n n)∧w=w':=by
 go_enter Tryz.func165,Tryz.ntmps165
 go_wp2_with fail
 go_ret
 exact ⟨rfl,rfl⟩
theorem clone_none (w:World) :
  Calls Tryz.prog 166 #[.slice none 0 0] w fun e w'=>e=.returned (.slice none 0 0)∧w=w':=by
 have hn:=fun (W:World)=>Lib.run_eql_slice_nil (P:=Tryz.prog) W 52 56 none 0 0 0 0 Tryz.underlying52
 go_enter Tryz.func166,Tryz.ntmps166
 go_wp2_with fail
 go_ret
 exact ⟨rfl,rfl⟩
def FunQ (lo:Nat) (w:World) (s:ByteArray) (l:List Tm) (e:Ending) (w':World):Prop :=
 ∃A,e=.returned (Tm.mk 2 0 s A l.length l).val∧Below w.heap.size w w'∧SitG elTm lo w' [.mk 2 0 s A l.length l]∧∀b∈blkA A l.length,w.heap.size≤b
theorem sit_fun {lo g:Nat} {w w':World} {s:ByteArray} {l:List Tm} (hs:s.size≤maxLen) (hl:SitG elTm lo w l) (hb:Below w.heap.size w w') (h0:0 < l.length) (hsz:l.length≤1000000) (hlo:lo≤w.heap.size) (hg:w.heap.size≤g) (hg':g < w'.heap.size)
  (hc:∀j u,(pcells l)[j]?=some u→w'.cell? ⟨g,j,none⟩=some u) (hfz:∀j,w'.frozen? ⟨g,j,none⟩=false):SitG elTm lo w' [.mk 2 0 s (some ⟨g,0,none⟩) l.length l]:=by
 have hl2:=hl.below hb
 have e:elTm.blkL [Tm.mk 2 0 s (some ⟨g,0,none⟩) l.length l]=g :: elTm.blkL l:=by
  simp only [Elt.blkL,List.flatMap_cons,List.flatMap_nil,List.append_nil]
  show (Tm.mk 2 0 s (some ⟨g,0,none⟩) l.length l).blk=g :: l.flatMap Tm.blk
  rw [Tm.blk,blkA,if_neg (by omega),blkO,blkL_flat]
  rfl
 refine ⟨fun x hx=>?_,?_,fun b hb2=>?_,fun b hb2=>?_⟩
 ·rw [List.mem_singleton.1 hx]
  refine (At_iff _ _).2 ⟨⟨by simp only [Tm.kind];unfold Fits;omega,by simp only [Tm.num];unfold Fits;omega,hs⟩,Nat.le_refl _,by unfold maxLen;simp only [Tm.cap];omega,fun _=>⟨g,0,rfl,RowAt.of fun i hi=>⟨fun j u hu=>?_,hl2.at_ _ (getD_mem hi)⟩⟩⟩
  have hj:j < 4:=by
   have:=(List.getElem?_eq_some_iff.1 hu).1
   simpa [Tm.cells] using this
  rw [Nat.zero_add]
  exact hc _ _ ((pcells_get l hi hj).trans hu)
 ·rw [e,List.nodup_cons]
  refine ⟨fun hx=>?_,hl.nd⟩
  have:=(hl.bd g hx).2
  omega
 ·rw [e] at hb2
  rcases List.mem_cons.1 hb2 with rfl|hb2
  ·exact ⟨Nat.le_trans hlo hg,hg'⟩
  ·exact hl2.bd b hb2
 ·rw [e] at hb2
  rcases List.mem_cons.1 hb2 with rfl|hb2
  ·exact hfz
  ·exact hl2.fz b hb2
set_option maxHeartbeats 400000 in
theorem fun_some (lo:Nat) (s:ByteArray) (l:List Tm) (b o c:Nat) (w:World) (h0:0 < l.length) (hl:RowAt w l b o) (hsz:l.length≤1000000) (hs:s.size≤maxLen) (hlo:lo≤w.heap.size) (hsit:SitG elTm lo w l) :
  Calls Tryz.prog 156 #[.string s,.slice (some ⟨b,o,none⟩) l.length c] w (FunQ lo w s l):=by
 have Q1:=Lib.hid (fun W (h:Below w.heap.size w W)=>clone_at l b o c W h0 ((At_keep h).2 _ _ _ hl) hsz)
 have HS:=Lib.hid hsit
 clear hl hsit
 go_enter Tryz.func156,Tryz.ntmps156
 go_wp2_with fail
 refine (Q1.out _ ((Below.refl _ _).alloc (Nat.le_refl _) _)).mono ?_
 rintro e w1 ⟨g,cap,rfl,hg,hg',hle,hcap,hc,hb,hfg⟩
 have hcap':cap≤9223372036854775807:=by unfold maxLen at hcap;exact hcap
 obtain ⟨d0,d1,d2,d3,hb1⟩:=box4 hb
 have f0:∀j,w1.frozen? ⟨w.heap.size,j,none⟩=false:=fun j=>by
  rw [hb.frozen (p:=⟨w.heap.size,j,none⟩) (by simp),World.frozen?_alloc_at _ _ _ _ rfl]
 have HC:=Lib.hid hc
 have HFg:=Lib.hid hfg
 have HB:=Lib.hid hb
 have hgw:w.heap.size < g:=by simp at hg;omega
 have f00:=f0 0
 have f01:=f0 1
 have f02:=f0 2
 have f03:=f0 3
 clear hc hb f0 hg hfg
 go_wp2_with fail
 refine (clip_at _ _ _ _ hle hcap').mono ?_
 rintro e w2 ⟨rfl,rfl⟩
 go_wp2_with fail
 have hb2:Below w.heap.size w ((((w1.setCell ⟨w.heap.size,0,none⟩ (.int .i64 2)).setCell ⟨w.heap.size,1,none⟩ (.int .i64 0)).setCell ⟨w.heap.size,2,none⟩ (.string s)).setCell ⟨w.heap.size,3,none⟩ (.slice (some ⟨g,0,none⟩) l.length l.length)) :=
  (((hb1.setCell (Nat.le_refl _) _).setCell (Nat.le_refl _) _).setCell (Nat.le_refl _) _).setCell (Nat.le_refl _) _
 refine bodyPost_ret (v:=.agg #[.int .i64 2,.int .i64 0,.string s,.slice (some ⟨g,0,none⟩) l.length l.length]) (by simp [results,Tryz.results156,go_sem,d0,d1,d2,d3]) rfl ⟨some ⟨g,0,none⟩,rfl,hb2,?_,fun b hb=>by rw [blkA,if_neg (by omega),blkO,List.mem_singleton] at hb;simp only at hb;omega⟩
 refine sit_fun hs HS.out hb2 h0 hsz hlo (by omega) (by simpa [World.setCell] using hg') (fun j u hu=>?_) (fun j=>by rw [World.frozen?_setCell,World.frozen?_setCell,World.frozen?_setCell,World.frozen?_setCell];exact HFg.out j)
 have hne:∀q:Nat,(⟨g,j,none⟩:Addr)≠⟨w.heap.size,q,none⟩:=fun q e=>by injection e with e _;omega
 rw [World.cell?_setCell_other _ _ _ _ (hne 3).symm,World.cell?_setCell_other _ _ _ _ (hne 2).symm,World.cell?_setCell_other _ _ _ _ (hne 1).symm,World.cell?_setCell_other _ _ _ _ (hne 0).symm]
 exact HC.out _ _ hu
theorem fun_nil (lo:Nat) (s:ByteArray) (w:World) (hs:s.size≤maxLen) :
  Calls Tryz.prog 156 #[.string s,.slice none 0 0] w (FunQ lo w s []):=by
 go_enter Tryz.func156,Tryz.ntmps156
 go_wp2_with fail
 refine (clone_none _).mono ?_
 rintro e w1 ⟨rfl,rfl⟩
 go_wp2_with fail
 refine (clip_at _ _ _ _ (Nat.le_refl _) (by omega)).mono ?_
 rintro e w2 ⟨rfl,rfl⟩
 go_wp2_with fail
 refine bodyPost_ret (v:=.agg #[.int .i64 2,.int .i64 0,.string s,.slice none 0 0]) (by simp [results,Tryz.results156,go_sem]) rfl ⟨none,rfl,(Below.refl _ _).alloc (Nat.le_refl _) _,⟨fun x hx=>?_,by simp [Elt.blkL,elTm,Tm.blk,blkA,blkL],fun b hb=>?_,fun b hb=>?_⟩,fun b hb=>(by simp [blkA] at hb)⟩
 ·rw [List.mem_singleton.1 hx]
  exact (At_iff _ _).2 ⟨⟨by simp only [Tm.kind];unfold Fits;omega,by simp only [Tm.num];unfold Fits;omega,hs⟩,Lst.nil _⟩
 ·simp [Elt.blkL,elTm,Tm.blk,blkA,blkL] at hb
 ·simp [Elt.blkL,elTm,Tm.blk,blkA,blkL] at hb
theorem fun_q (lo:Nat) (s:ByteArray) (l:List Tm) (A:Option Addr) (c:Nat) (w:World) (hl:Lst w A l c) (hA:l=[]→A=none∧c=0) (hsz:l.length≤1000000) (hs:s.size≤maxLen) (hlo:lo≤w.heap.size) (hsit:SitG elTm lo w l) :
  Calls Tryz.prog 156 #[.string s,.slice A l.length c] w (FunQ lo w s l):=by
 by_cases h0:l=[]
 ·obtain ⟨rfl,rfl⟩:=hA h0
  subst h0
  exact fun_nil lo s w hs
 ·have hp:0 < l.length:=List.length_pos_iff.2 h0
  obtain ⟨b,o,rfl,hr⟩:=hl.2.2 hp
  exact fun_some lo s l b o c w hp hr hsz hs hlo hsit
end Go.Proofs.YtaojnljppcnhjaaGreatDoor
namespace Go.Proofs.YtaojnljppcnhjaaGreatDoor
open Go.RowKit
def kV (l:List Tk) (i:Nat):Bool:=(l.getD i default).1==2
def xV (l:List Tk) (i:Nat):List UInt8:=(l.getD i default).2.2
abbrev nsL (l:List Tk) (a i:Nat):List (List UInt8):=nsU (kV l) (xV l) a i
abbrev gL (l:List Tk) (a:Nat) (v:Int):Int:=gU (kV l) (xV l) a v
def OkV (l:List Tk) (i j:Nat) (us:List Tm):Prop:=neatL us∧(occL us).Nodup∧∀v∈occL us,(i:Int)≤v∧v < (j:Int)∧kV l v.toNat=true
theorem OkV.nil (l:List Tk) (i j:Nat):OkV l i j []:=⟨trivial,by simp [occL],fun v hv=>by simp [occL] at hv⟩
theorem OkV.wide {l:List Tk} {i j i' j':Nat} {us:List Tm} (h:OkV l i j us) (hi:i'≤i) (hj:j≤j'):OkV l i' j' us:=⟨h.1,h.2.1,fun v hv=>by have:=h.2.2 v hv;exact ⟨by omega,by omega,this.2.2⟩⟩
theorem OkV.append {l:List Tk} {i j j' k:Nat} {us vs:List Tm} (h:OkV l i j us) (h2:OkV l j' k vs) (h1:j≤j') (hi:i≤j') (hk:j≤k):OkV l i k (us++vs):=by
 refine ⟨(neatL_append us vs).2 ⟨h.1,h2.1⟩,?_,fun v hv=>?_⟩
 ·rw [occL_append,List.nodup_append]
  refine ⟨h.2.1,h2.2.1,fun x hx y hy e=>?_⟩
  have:=h.2.2 x hx
  have:=h2.2.2 y hy
  omega
 ·rw [occL_append] at hv
  rcases List.mem_append.1 hv with hv|hv
  ·have:=h.2.2 v hv;exact ⟨by omega,by omega,this.2.2⟩
  ·have:=h2.2.2 v hv;exact ⟨by omega,by omega,this.2.2⟩
theorem OkV.swap {l:List Tk} {i j:Nat} {us vs:List Tm} (h:OkV l i j (us++vs)):OkV l i j (vs++us):=by
 refine ⟨(neatL_append vs us).2 ((neatL_append us vs).1 h.1).symm,?_,fun v hv=>h.2.2 v ?_⟩
 ·have:=h.2.1
  rw [occL_append] at this ⊢
  exact (List.perm_append_comm.nodup_iff).1 this
 ·rw [occL_append] at hv ⊢
  exact List.mem_append.2 (List.mem_append.1 hv).symm
theorem OkV.int (l:List Tk) (i j:Nat) (n:Int) (A:Option Addr) (c:Nat):OkV l i j [.mk 0 n ⟨#[]⟩ A c []]:=⟨⟨.inl ⟨rfl,rfl,rfl⟩,trivial⟩,by simp [occL,Tm.occ],fun v hv=>by simp [occL,Tm.occ] at hv⟩
theorem OkV.var {l:List Tk} {i:Nat} (hk:(l.getD i default).1=2) (A:Option Addr) (c:Nat):OkV l i (i+1) [.mk 1 (i:Int) ⟨#[]⟩ A c []]:=⟨⟨.inr (.inl ⟨rfl,rfl,rfl⟩),trivial⟩,by simp [occL,Tm.occ],fun v hv=>by
 simp only [occL,Tm.occ,if_true,List.append_nil,List.mem_singleton] at hv
 subst hv
 exact ⟨by omega,by omega,by rw [Int.toNat_natCast,kV,hk];rfl⟩⟩
theorem OkV.fun_ {l:List Tk} {i j:Nat} {us:List Tm} (h:OkV l i j us) (s:ByteArray) (A:Option Addr) (c:Nat):OkV l i j [.mk 2 0 s A c us]:=by
 have e:occL [Tm.mk 2 0 s A c us]=occL us:=by simp [occL,Tm.occ]
 exact ⟨⟨.inr (.inr ⟨rfl,rfl,h.1⟩),trivial⟩,by rw [e];exact h.2.1,fun v hv=>h.2.2 v (by rw [e] at hv;exact hv)⟩
structure Rdr (α β:Type) where
 E:Elt α
 val:α→Value
 h:(Int→Int)→α→β
 tms:α→List Tm
def rdTm:Rdr Tm Tm:=⟨elTm,Tm.val,Tm.num2,fun t=>[t]⟩
def rdAm:Rdr Am As:=⟨elAm,Am.val,fun g x=>(x.name.data.toList,numL2 g x.args),Am.args⟩
def rdGl:Rdr Gl Gs:=⟨elGl,Gl.val,fun g x=>(x.op,x.name.data.toList,numL2 g x.args),Gl.args⟩
def rdDl:Rdr Dl Dl:=⟨elDl,fun x=>.agg #[.string (S x.1),.int .i64 x.2],fun _ x=>x,fun _=>[]⟩
section
variable {α β:Type} (D:Rdr α β)
def ElR (f:Rd1 β) (R:Nat) (A:Option Addr) (c:Nat) (l:List Tk) (a i:Nat) (w:World) (en:Ending) (w':World):Prop :=
 ∃(x:α) (j:Nat) (er:Int),en=.returned (.tuple #[D.val x,.int .i64 er])∧Kq R w w'∧Pq w' R A c l j∧SitG D.E w.heap.size w' [x] ∧
  ((er=0∧f (leftT l i) (nsL l a i)=.ok (D.h (gL l a) x) (leftT l j) (nsL l a j)∧i < j∧OkV l i j (D.tms x))∨(er≠0∧f (leftT l i) (nsL l a i)=.err (leftT l j).length er))
def listS (f:Rd1 β) (most:Nat) (acc:List β) (ts:List Tok) (ns:List (List UInt8)):PS (List β) :=
 if acc.length=most then .err ts.length 6 else
 match f ts ns with
 | .err l e=>.err l e
 | .ok x r ns2=>if isS [44] r then (if _h:r.tail.length < ts.length then listS f most (acc++[x]) r.tail ns2 else .err 0 0) else .ok (acc++[x]) r ns2
termination_by ts.length
decreasing_by exact _h
def ListR (T:TypeId) (f:Rd1 β) (most:Nat) (R:Nat) (A:Option Addr) (c:Nat) (l:List Tk) (a i:Nat) (w:World) (en:Ending) (w':World):Prop :=
 ∃(xs:List α) (j:Nat) (er:Int) (r:Value),en=.returned (.tuple #[r,.int .i64 er])∧Kq R w w'∧Pq w' R A c l j∧RowG D.E T w.heap.size w' r xs ∧
  ((er=0∧listS f most [] (leftT l i) (nsL l a i)=.ok (xs.map (D.h (gL l a))) (leftT l j) (nsL l a j)∧i < j∧OkV l i j (xs.flatMap D.tms)∧0 < xs.length∧xs.length≤16385)∨(er≠0∧xs=[]∧r=.slice none 0 0∧listS f most [] (leftT l i) (nsL l a i)=.err (leftT l j).length er))
def ListL (T:TypeId) (f:Rd1 β) (most:Nat) (R:Nat) (A:Option Addr) (c:Nat) (l:List Tk) (a i n:Nat) (w:World) (gk:Nat) (r:Value) (wr:World) (q:Nat) (xs:List α):Prop :=
 Kq R w wr∧Pq wr R A c l q∧RowG D.E T w.heap.size wr r xs∧listS f most [] (leftT l i) (nsL l a i)=listS f most (xs.map (D.h (gL l a))) (leftT l q) (nsL l a q)∧i≤q∧(xs≠[]→i < q)∧OkV l i q (xs.flatMap D.tms) ∧
  xs.length≤q∧(leftT l q).length≤n∧l.length - q≤gk
end
theorem isS_left {l:List Tk} (hg:GoodT l) {i:Nat} (hi:i < l.length) {s:List UInt8} (hs:kindO s=4):isS s (leftT l i)=((l.getD i default).2.2==s):=by
 rw [left_isS hi,hg.acc hi hs]
theorem listS_comma {β:Type} {f:Rd1 β} {most:Nat} {acc:List β} {l:List Tk} {q j:Nat} {ns ns2:List (List UInt8)} {y:β} (hm:acc.length≠most) (hf:f (leftT l q) ns=.ok y (leftT l j) ns2) (hq:q < j) (hj:j+1 < l.length) (hc:isS [44] (leftT l j)=true) :
  listS f most acc (leftT l q) ns=listS f most (acc++[y]) (leftT l (j+1)) ns2:=by
 rw [listS,if_neg hm,hf]
 simp only [hc,if_true,left_tail]
 rw [dif_pos (by rw [left_length,left_length];omega)]
theorem listS_stop {β:Type} {f:Rd1 β} {most:Nat} {acc:List β} {ts r:List Tok} {ns ns2:List (List UInt8)} {y:β} (hm:acc.length≠most) (hf:f ts ns=.ok y r ns2) (hc:isS [44] r=false) :
  listS f most acc ts ns=.ok (acc++[y]) r ns2:=by
 rw [listS,if_neg hm,hf]
 simp only [hc]
 rfl
theorem listS_err {β:Type} {f:Rd1 β} {most:Nat} {acc:List β} {ts:List Tok} {ns:List (List UInt8)} {n:Nat} {e:Int} (hm:acc.length≠most) (hf:f ts ns=.err n e):listS f most acc ts ns=.err n e:=by
 rw [listS,if_neg hm,hf]
theorem listS_much {β:Type} {f:Rd1 β} {most:Nat} {acc:List β} {ts:List Tok} {ns:List (List UInt8)} (hm:acc.length=most):listS f most acc ts ns=.err ts.length 6:=by
 rw [listS,if_pos hm]
end Go.Proofs.YtaojnljppcnhjaaGreatDoor
namespace Go.Proofs.YtaojnljppcnhjaaGreatDoor
open Go.RowKit
section
variable {α:Type} {E:Elt α} {T:TypeId} {lo:Nat} {w:World} {r:Value} {l:List α}
theorem RowG.zform (h:RowG E T lo w r l):∃B cap,r=.slice B l.length cap:=by
 rcases h.row.2 with ⟨e,h1⟩|⟨g,cap,cur,e,_⟩
 ·exact ⟨none,0,by rw [e,h1]⟩
 ·exact ⟨_,cap,e⟩
end
end Go.Proofs.YtaojnljppcnhjaaGreatDoor
