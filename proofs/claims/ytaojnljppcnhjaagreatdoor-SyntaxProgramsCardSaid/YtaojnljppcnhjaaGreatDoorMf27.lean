/-
  RzRen.
  RzRuleP.
-/
import Derived.Test.YtaojnljppcnhjaaGreatDoorMf10
import Derived.Test.YtaojnljppcnhjaaGreatDoorMf20
import Derived.Test.YtaojnljppcnhjaaGreatDoorMf26
import Derived.Test.YtaojnljppcnhjaaGreatDoorMf3
namespace Go.Proofs.YtaojnljppcnhjaaGreatDoor
open Go.RowKit
def RenZ (f:Int→Int) (l:List Tm) (w:World) (en:Ending) (w':World):Prop :=
 ∃(A:Option Addr) (c:Nat) (k:List Tm),en=.returned (.slice A k.length c)∧Below w.heap.size w w'∧stripL k=numL2 f l∧Lst w' A k c∧(∀b∈blkA A k.length++blkL k,w.heap.size≤b∧b < w'.heap.size)∧(k=[]→A=none∧c=0)
theorem numL2_app (f:Int→Int) (l m:List Tm):numL2 f (l++m)=numL2 f l++numL2 f m:=by
 induction l with
 | nil=>rfl
 | cons t r ih=>simp only [List.cons_append,numL2,ih]
theorem nodes_in {l:List Tm} {j:Nat} (hj:j < l.length):nodesL (l.getD j default).args < nodesL l:=by
 induction l generalizing j with
 | nil=>simp at hj
 | cons t r ih =>
  cases j with
  | zero =>
   obtain ⟨k,n,s,A,c,a⟩:=t
   simp only [List.getD_cons_zero,Tm.args,nodesL,Tm.nodes]
   omega
  | succ j =>
   have:=ih (j:=j) (by simpa using hj)
   simp only [List.getD_cons_succ,nodesL]
   omega
theorem len_nodes (l:List Tm):l.length≤nodesL l:=by
 induction l with
 | nil=>simp [nodesL]
 | cons t r ih =>
  obtain ⟨k,n,s,A,c,a⟩:=t
  simp only [List.length_cons,nodesL,Tm.nodes]
  omega
theorem place_fits {vs:List Int} (h:vs.length≤100000) (n:Int):Fits (placeS vs n):=by
 unfold placeS Fits
 split
 ·rename_i hm
  have:=List.idxOf_lt_length_iff.2 hm
  omega
 ·omega
theorem RowZ.lst {lo:Nat} {z:Value} {w:World} {B:Option Addr} {zc:Nat} {acc:List Tm} (h:RowZ elTm 56 lo z w (.slice B acc.length zc) acc):Lst w B acc zc∧(∀b∈blkA B acc.length++blkL acc,lo≤b∧b < w.heap.size):=by
 rcases h.row.2 with ⟨e,h1⟩|⟨g,cap,cur,e,hb,hg,hle,hcap,hcs,hcur⟩
 ·injection e with e1 e2 e3
  subst e1 e3
  have hn:=List.length_eq_zero_iff.1 h1
  subst hn
  exact ⟨Lst.nil w,fun b hb=>by simp [blkA,blkL] at hb⟩
 ·injection e with e1 e2 e3
  subst e1 e3
  have hlt:=own_lt h.row g rfl
  refine ⟨⟨hle,hcap,fun _=>⟨g,0,rfl,RowAt.of fun i hi=>⟨fun j u hu=>?_,h.sit.at_ _ (getD_mem hi)⟩⟩⟩,fun b hb=>?_⟩
  ·have hj:j < 4:=by
    have:=(List.getElem?_eq_some_iff.1 hu).1
    simpa [Tm.cells] using this
   have hc:=World.ownsRow.cellAt h.row (i*4+j) (by show i*4+j < acc.length*4;omega)
   have hg2:=Elt.cellsL_get elTm acc hi (j:=j) hj
   rw [show 0+4*i+j=i*4+j by omega,hc]
   exact hg2.trans hu
  ·rcases List.mem_append.1 hb with h1|h1
   ·unfold blkA at h1
    split at h1
    ·cases h1
    ·rw [blkO,List.mem_singleton] at h1
     simp only at h1
     subst h1
     exact hlt
   ·rw [blkL_flat] at h1
    exact h.sit.bd b h1
theorem RowZ.put2 {α:Type} {E:Elt α} {T0:TypeId} {lo T:Nat} {z:Value} {w:World} {r:Value} {l:List α} (h:RowZ E T0 lo z w r l) (h1:∀k,r.ownBlock=some k→k≠T) (h2:T∉E.blkL l) (j:Nat) (v:Value):RowZ E T0 lo z (w.setCell ⟨T,j,none⟩ v) r l :=
 ⟨own_of h.row fun k hk=>Below.heap_setCell _ _ _ _ (h1 k hk),h.sit.put h2 v,h.apart,h.zap⟩
theorem news_set (w:World) (p:Addr) (v:Value) (u:Tm) (T:TypeId):∀j x,(elTm.cells u)[j]?=some x→((w.setCell p v).alloc (.cells #[.int .i64 u.kind,.int .i64 u.num,.string u.name,.slice u.at_ u.args.length u.cap] T)).cell? ((⟨w.heap.size,0,none⟩:Addr).add j)=some x:=by
 intro j x hx
 have e:(w.setCell p v).heap.size=w.heap.size:=by simp [World.setCell]
 rw [add_plain,Nat.zero_add,← e,World.cell?_alloc_at _ _ _ _ rfl,← hx,show (#[.int .i64 u.kind,.int .i64 u.num,.string u.name,.slice u.at_ u.args.length u.cap]:Array Value)=(elTm.cells u).toArray from rfl,List.getElem?_toArray]
structure RenL (f:Int→Int) (l:List Tm) (w:World) (j:Nat) (B:Option Addr) (zc:Nat) (acc:List Tm) (wr:World):Prop where
 b:Below w.heap.size w wr
 row:RowZ elTm 56 w.heap.size Z0 wr (.slice B acc.length zc) acc
 p:stripL acc=numL2 f (l.take j)
 e:acc=[]→B=none∧zc=0
theorem num2_next (f:Int→Int) {l:List Tm} {j:Nat} (hj:j < l.length):numL2 f (l.take (j+1))=numL2 f (l.take j)++[(l.getD j default).num2 f]:=by
 rw [ttake_next hj,numL2_app];rfl
theorem sitz_new {lo:Nat} {w:World} {k n:Int} {s:ByteArray} {A:Option Addr} {c:Nat} {a:List Tm} (hk:Fits k) (hn:Fits n) (hs:s.size≤maxLen) (hl:Lst w A a c) (hb:∀b∈blkA A a.length++blkL a,lo≤b∧b < w.heap.size):SitZ elTm lo Z0 w [.mk k n s A c a]:=by
 have e:elTm.blkL [Tm.mk k n s A c a]=blkA A a.length++blkL a:=by rw [Elt.blkL_one];show (Tm.mk k n s A c a).blk=_;rw [Tm.blk]
 refine ⟨fun x hx=>?_,fun b hx=>hb b (by rw [←e];exact hx),fun b _=>Z0_own b⟩
 rw [List.mem_singleton.1 hx]
 exact (At_iff _ _).2 ⟨⟨hk,hn,hs⟩,hl⟩
set_option maxHeartbeats 8000000 in
set_option maxRecDepth 100000 in
theorem renumber_z (V:Option Addr) (vs:List Int) (vc:Nat) (hvs:vs.length≤100000):∀(n:Nat) (A:Option Addr) (l:List Tm) (c:Nat) (w:World),nodesL l=n→n≤100000→Lst w A l c→Ints w V vs →
  Calls Tryz.prog 37 #[.slice V vs.length vc,.slice A l.length c] w (RenZ (placeS vs) l w):=by
 intro n
 induction n using Nat.strongRecOn with
 | _ n ih =>
  intro A l c w hn hn2 hL hI
  obtain ⟨i0,hi,hz0,hz1,hz2⟩:=info_parts term_info
  have hlen:l.length≤100000:=by have:=len_nodes l;omega
  have hvl:vs.length≤9223372036854775807:=by omega
  have HV:=Lib.hid hvs
  have HLn:=Lib.hid hlen
  have hlen2:l.length≤9223372036854775807:=by omega
  have HL:=Lib.hid hL
  have HI:=Lib.hid hI
  have QP:=Lib.hid (fun W (x r:Int) (hb:Below w.heap.size w W) (hr:placeS vs x=r)=>place_z V vs vc x W (HI.out.below hb) hvl hr)
  have QR:=Lib.hid (fun (j:Nat) (hj:j < l.length) (A':Option Addr) (c':Nat) W (hb:Below w.heap.size w W) (hl:Lst W A' (l.getD j default).args c')=>ih (nodesL (l.getD j default).args) (by rw [←hn];exact nodes_in hj) A' (l.getD j default).args c' W rfl (by have:=nodes_in hj;omega) hl (HI.out.below hb))
  have H0:=Lib.hid (show RenL (placeS vs) l w 0 none 0 [] w from ⟨Below.refl _ _,RowZ.nil _ _ _ _ _,rfl,fun _=>⟨rfl,rfl⟩⟩)
  clear hL hI hvs hlen hn hn2 ih
  go_enter Tryz.func37,Tryz.ntmps37
  go_wp2_with fail
  go_loopg [5,6] l.length (fun gk v i wr=>∃(j:Nat) (B:Option Addr) (zc:Nat) (acc:List Tm),j≤l.length∧i=.int .i64 (j:Int)∧v=.slice B acc.length zc∧Hid (RenL (placeS vs) l w j B zc acc wr∧l.length - j≤gk∧acc.length=j))
  case atStart=>exact ⟨0,none,0,[],Nat.zero_le _,rfl,rfl,Lib.hid ⟨H0.out,Nat.le_refl _,rfl⟩⟩
  case round =>
   clear H0
   obtain ⟨j,B,zc,acc,hj,rfl,rfl,hJ⟩:=hrel
   have HJ:=Lib.hid hJ.out.1
   have HGk:=Lib.hid hJ.out.2
   clear hJ
   by_cases hlt:j < l.length
   ·obtain ⟨b,o,rfl,⟨c0,c1,c2,c3⟩,hx⟩:=(HL.out.below HJ.out.b).get hlt
    have HN:=Lib.hid (num2_next (placeS vs) hlt)
    have HX:=Lib.hid hx
    have Q1:=Lib.hid (QR.out j hlt)
    have hjl:j≤100000:=by have:=HLn.out;omega
    have hal:acc.length≤100000:=by have:=HGk.out.2;omega
    clear hx QR
    generalize l.getD j default=x at *
    obtain ⟨k',n',s',A',c',a'⟩:=x
    simp only [Tm.kind,Tm.num,Tm.name,Tm.at_,Tm.args,Tm.cap] at c0 c1 c2 c3
    obtain ⟨y,hy⟩:∃y,(if k'=1 then placeS vs n' else n')=y:=⟨_,rfl⟩
    have HY:=Lib.hid (show (Tm.mk k' n' s' A' c' a').num2 (placeS vs)=.mk k' y s' none 0 (numL2 (placeS vs) a') by rw [Tm.num2,hy])
    have hat:=(At_iff _ _).1 HX.out
    have HAt:=Lib.hid (show Fits k'∧s'.size≤maxLen∧Lst wr A' a' c' from ⟨hat.1.1,hat.1.2.2,hat.2⟩)
    have HFy:=Lib.hid (show Fits y by
     rw [←hy]
     split
     ·exact place_fits HV.out _
     ·exact hat.1.2.1)
    clear hat
    by_cases hk:k'=1
    ·subst hk
     have hp:placeS vs n'=y:=by rw [←hy];rfl
     have QPl:=Lib.hid (QP.out (wr.alloc (.cells #[.int .i64 1,.int .i64 n',.string s',.slice A' a'.length c'] 56)) n' y (HJ.out.b.trans ((below1 wr _).mono HJ.out.b.size)) hp)
     clear hy hp
     have hb0:=Lib.hid ((Below.refl wr.heap.size wr).alloc (Nat.le_refl _) (.cells #[.int .i64 1,.int .i64 y,.string s',.slice A' a'.length c'] 56))
     have Q2:=Lib.hid (Q1.out A' c' (wr.alloc (.cells #[.int .i64 1,.int .i64 y,.string s',.slice A' a'.length c'] 56)) (HJ.out.b.trans (hb0.out.mono HJ.out.b.size)) (HAt.out.2.2.below hb0.out))
     clear Q1 QP
     go_wp2_with (go_at_call 63;(with_reducible refine QPl.out.mono ?_);rintro e w4 ⟨rfl,rfl⟩)
     refine Q2.out.mono ?_
     rintro e w5 ⟨A2,c2,k2,rfl,hb5,hp5,hl5,hbl5,he5⟩
     have HB5:=Lib.hid hb5
     have hs5:wr.heap.size+1≤w5.heap.size:=by have:=hb5.size;simpa using this
     have HBx:=Lib.hid ((BoxL.new wr [.int .i64 1,.int .i64 y,.string s',.slice A' a'.length c'] 56).below hb5)
     have HRow5:=Lib.hid (((HJ.out.row.below hb0.out).below hb5).put2 (T:=wr.heap.size) (fun k hk=>by have:=(own_lt HJ.out.row.row k hk).2;omega) (fun hx=>by have:=(HJ.out.row.sit.bd _ hx).2;omega) 3 (.slice A2 k2.length c2))
     have HS5:=Lib.hid ((sitz_new (k:=1) (n:=y) (s:=s') (A:=A2) (c:=c2) (a:=k2) (lo:=wr.heap.size+1) HAt.out.1 HFy.out HAt.out.2.1 hl5 (fun b hb=>by have:=hbl5 b hb;simp only [World.size_alloc] at this;exact this)).put (p:=⟨wr.heap.size,3,none⟩) (fun hx=>by
      have e:elTm.blkL [Tm.mk 1 y s' A2 c2 k2]=blkA A2 k2.length++blkL k2:=by rw [Elt.blkL_one];show (Tm.mk 1 y s' A2 c2 k2).blk=_;rw [Tm.blk]
      rw [e] at hx
      have:=(hbl5 _ hx).1
      simp only [World.size_alloc] at this
      omega) (.slice A2 k2.length c2))
     have HP5:=Lib.hid (show stripL k2=numL2 (placeS vs) a' from hp5)
     have HBw:=Lib.hid (show Below w.heap.size w (w5.setCell ⟨wr.heap.size,3,none⟩ (.slice A2 k2.length c2)) from ((HJ.out.b.trans (hb0.out.mono HJ.out.b.size)).trans (hb5.mono (by have:=HJ.out.b.size;simp;omega))).setCell HJ.out.b.size _)
     have HRl:=Lib.hid (own_lt HJ.out.row.row)
     obtain ⟨d0,d1,d2,d3,g0,g1,g2,g3⟩:=HBx.out.get4
     clear hb5 hp5 hl5 hbl5 he5 Q2
     go_wp2_with (first
      | (at_builtin; refine wpList_append_lies _ rfl _ _ 52 rfl w.heap.size 56 i0 _ 4 56 Tryz.underlying52 hi hz0 hz1 hz2 rfl (by decide) (.slice B acc.length zc) acc.length (Elt.cellsL elTm acc) rfl (HRow5.out.row.alloc _) ⟨w5.heap.size, 0, none⟩ 1 1 (Elt.cells elTm (.mk 1 y s' A2 c2 k2)) rfl rfl (news_set w5 _ _ (Tm.mk 1 y s' A2 c2 k2) _) (Elt.one elTm _) (by decide) (by unfold maxLen; omega) (by omega) (by have := HBw.out.size; simp [World.setCell] at this ⊢; omega) _ rfl ?_; intro g cap w7 hown hg hat hglt
         have hbx := (Below.refl (w5.setCell ⟨wr.heap.size, 3, none⟩ (.slice A2 k2.length c2)).heap.size (w5.setCell ⟨wr.heap.size, 3, none⟩ (.slice A2 k2.length c2))).alloc (Nat.le_refl _) (.cells #[.int .i64 1, .int .i64 y, .string s', .slice A2 k2.length c2] 56)
         have HRow7 := Lib.hid (HRow5.out.next (fun k hk => absurd hk (Z0_own k)) (show w.heap.size ≤ wr.heap.size + 1 by have := HJ.out.b.size; omega) (fun k hk => by have := (HRl.out k hk).2; omega) HS5.out hbx hown hg hat)
         have HB7 := Lib.hid ((HBw.out.trans (hbx.mono HBw.out.size)).grown hg (by have := HBw.out.size; simp at this ⊢; omega) (fun k hk => (HRl.out k hk).1))
         clear hown hg hat hglt hbx))
     have hgk:=HGk.out
     have HNx:=Lib.hid (show RenL (placeS vs) l w (j+1) (some ⟨g,0,none⟩) cap (acc++[.mk 1 y s' A2 c2 k2]) w7 from
      ⟨HB7.out,by rw [List.length_append];exact HRow7.out,by rw [HN.out,HY.out,stripL_append,HJ.out.p,← HP5.out];simp only [stripL,Tm.strip],fun e=>by simp at e⟩)
     go_roundg (gk - 1)
     case measure=>omega
     case rel=>exact ⟨j+1,some ⟨g,0,none⟩,cap,acc++[.mk 1 y s' A2 c2 k2],by omega,by go_num,by rw [List.length_append];rfl,Lib.hid ⟨HNx.out,by omega,by rw [List.length_append,hgk.2];rfl⟩⟩
    ·have hk1:(k'==1)=false:=by simpa using hk
     have hyn:y=n':=by rw [←hy,if_neg hk]
     subst hyn
     clear hy hk
     have hb0:=Lib.hid ((Below.refl wr.heap.size wr).alloc (Nat.le_refl _) (.cells #[.int .i64 k',.int .i64 y,.string s',.slice A' a'.length c'] 56))
     have Q2:=Lib.hid (Q1.out A' c' (wr.alloc (.cells #[.int .i64 k',.int .i64 y,.string s',.slice A' a'.length c'] 56)) (HJ.out.b.trans (hb0.out.mono HJ.out.b.size)) (HAt.out.2.2.below hb0.out))
     clear Q1 QP
     go_wp2_with fail
     refine Q2.out.mono ?_
     rintro e w5 ⟨A2,c2,k2,rfl,hb5,hp5,hl5,hbl5,he5⟩
     have HB5:=Lib.hid hb5
     have hs5:wr.heap.size+1≤w5.heap.size:=by have:=hb5.size;simpa using this
     have HBx:=Lib.hid ((BoxL.new wr [.int .i64 k',.int .i64 y,.string s',.slice A' a'.length c'] 56).below hb5)
     have HRow5:=Lib.hid (((HJ.out.row.below hb0.out).below hb5).put2 (T:=wr.heap.size) (fun k hk=>by have:=(own_lt HJ.out.row.row k hk).2;omega) (fun hx=>by have:=(HJ.out.row.sit.bd _ hx).2;omega) 3 (.slice A2 k2.length c2))
     have HS5:=Lib.hid ((sitz_new (k:=k') (n:=y) (s:=s') (A:=A2) (c:=c2) (a:=k2) (lo:=wr.heap.size+1) HAt.out.1 HFy.out HAt.out.2.1 hl5 (fun b hb=>by have:=hbl5 b hb;simp only [World.size_alloc] at this;exact this)).put (p:=⟨wr.heap.size,3,none⟩) (fun hx=>by
      have e:elTm.blkL [Tm.mk k' y s' A2 c2 k2]=blkA A2 k2.length++blkL k2:=by rw [Elt.blkL_one];show (Tm.mk k' y s' A2 c2 k2).blk=_;rw [Tm.blk]
      rw [e] at hx
      have:=(hbl5 _ hx).1
      simp only [World.size_alloc] at this
      omega) (.slice A2 k2.length c2))
     have HP5:=Lib.hid (show stripL k2=numL2 (placeS vs) a' from hp5)
     have HBw:=Lib.hid (show Below w.heap.size w (w5.setCell ⟨wr.heap.size,3,none⟩ (.slice A2 k2.length c2)) from ((HJ.out.b.trans (hb0.out.mono HJ.out.b.size)).trans (hb5.mono (by have:=HJ.out.b.size;simp;omega))).setCell HJ.out.b.size _)
     have HRl:=Lib.hid (own_lt HJ.out.row.row)
     obtain ⟨d0,d1,d2,d3,g0,g1,g2,g3⟩:=HBx.out.get4
     clear hb5 hp5 hl5 hbl5 he5 Q2
     go_wp2_with (first
      | (at_builtin; refine wpList_append_lies _ rfl _ _ 52 rfl w.heap.size 56 i0 _ 4 56 Tryz.underlying52 hi hz0 hz1 hz2 rfl (by decide) (.slice B acc.length zc) acc.length (Elt.cellsL elTm acc) rfl (HRow5.out.row.alloc _) ⟨w5.heap.size, 0, none⟩ 1 1 (Elt.cells elTm (.mk k' y s' A2 c2 k2)) rfl rfl (news_set w5 _ _ (Tm.mk k' y s' A2 c2 k2) _) (Elt.one elTm _) (by decide) (by unfold maxLen; omega) (by omega) (by have := HBw.out.size; simp [World.setCell] at this ⊢; omega) _ rfl ?_; intro g cap w7 hown hg hat hglt
         have hbx := (Below.refl (w5.setCell ⟨wr.heap.size, 3, none⟩ (.slice A2 k2.length c2)).heap.size (w5.setCell ⟨wr.heap.size, 3, none⟩ (.slice A2 k2.length c2))).alloc (Nat.le_refl _) (.cells #[.int .i64 k', .int .i64 y, .string s', .slice A2 k2.length c2] 56)
         have HRow7 := Lib.hid (HRow5.out.next (fun k hk => absurd hk (Z0_own k)) (show w.heap.size ≤ wr.heap.size + 1 by have := HJ.out.b.size; omega) (fun k hk => by have := (HRl.out k hk).2; omega) HS5.out hbx hown hg hat)
         have HB7 := Lib.hid ((HBw.out.trans (hbx.mono HBw.out.size)).grown hg (by have := HBw.out.size; simp at this ⊢; omega) (fun k hk => (HRl.out k hk).1))
         clear hown hg hat hglt hbx))
     have hgk:=HGk.out
     have HNx:=Lib.hid (show RenL (placeS vs) l w (j+1) (some ⟨g,0,none⟩) cap (acc++[.mk k' y s' A2 c2 k2]) w7 from
      ⟨HB7.out,by rw [List.length_append];exact HRow7.out,by rw [HN.out,HY.out,stripL_append,HJ.out.p,← HP5.out];simp only [stripL,Tm.strip],fun e=>by simp at e⟩)
     go_roundg (gk - 1)
     case measure=>omega
     case rel=>exact ⟨j+1,some ⟨g,0,none⟩,cap,acc++[.mk k' y s' A2 c2 k2],by omega,by go_num,by rw [List.length_append];rfl,Lib.hid ⟨HNx.out,by omega,by rw [List.length_append,hgk.2];rfl⟩⟩
   ·obtain rfl:j=l.length:=by omega
    have HE:=Lib.hid HJ.out.row.lst
    go_wp2_with fail
    go_ret
    exact ⟨B,zc,acc,rfl,HJ.out.b,by rw [HJ.out.p,List.take_length],HE.out.1,HE.out.2,HJ.out.e⟩
end Go.Proofs.YtaojnljppcnhjaaGreatDoor
namespace Go.Proofs.YtaojnljppcnhjaaGreatDoor
open Go.RowKit
theorem occ_strip2:(∀t:Tm,t.strip.occ=t.occ)∧(∀l,occL (stripL l)=occL l):=by
 refine Tm.induct2 (fun k n s A c a ih=>?_) rfl (fun t r h1 h2=>?_)
 ·simp only [Tm.strip,Tm.occ,ih]
 ·simp only [stripL,occL,h1,h2]
theorem num2_strip2 (f:Int→Int):(∀t:Tm,t.strip.num2 f=t.num2 f)∧(∀l,numL2 f (stripL l)=numL2 f l):=by
 refine Tm.induct2 (fun k n s A c a ih=>?_) rfl (fun t r h1 h2=>?_)
 ·simp only [Tm.strip,Tm.num2,ih]
 ·simp only [stripL,numL2,h1,h2]
theorem nodes_form:(∀t:Tm,t.form=true→t.nodes=t.size)∧(∀l,formL l=true→nodesL l=sizeL l):=by
 refine Tm.induct2 (fun k n s A c a ih=>?_) (fun _=>rfl) (fun t r h1 h2=>?_)
 ·intro h
  simp only [Tm.form] at h
  simp only [Tm.nodes,Tm.size]
  by_cases h0:k=0
  ·rw [if_pos h0] at h
   simp only [Bool.and_eq_true,decide_eq_true_eq] at h
   rw [List.length_eq_zero_iff.1 h.2.2.2,if_neg (by omega)]
   rfl
  by_cases h1:k=1
  ·rw [if_neg h0,if_pos h1] at h
   simp only [Bool.and_eq_true,decide_eq_true_eq] at h
   rw [List.length_eq_zero_iff.1 h.2.2.2,if_neg (by omega)]
   rfl
  by_cases h2:k=2
  ·rw [if_neg h0,if_neg h1,if_pos h2] at h
   simp only [Bool.and_eq_true] at h
   rw [if_pos h2,ih h.2.2]
  ·rw [if_neg h0,if_neg h1,if_neg h2] at h
   cases h
 ·intro h
  simp only [formL,Bool.and_eq_true] at h
  simp only [nodesL,sizeL,h1 h.1,h2 h.2]
theorem nodes_rightA {u:Am} (h:rightA (sA u).1 (sA u).2=true):nodesL u.args≤200:=by
 simp only [rightA,rightT,sA,Bool.and_eq_true] at h
 rw [nodes_form.2 u.args (by rw [←form_strip.2];exact h.2.2.1),← size_strip.2]
 exact of_decide_eq_true h.2.2.2.1
theorem nodes_rightG {u:Gl} (h:rightG (sG u)=true):nodesL u.args≤200:=by
 have h2:rightT (stripL u.args)=true:=by
  unfold rightG at h
  split at h
  ·simp only [rightA,sG,Bool.and_eq_true] at h
   exact h.2.2
  ·simp only [sG,Bool.and_eq_true] at h
   exact h.2.2
 simp only [rightT,Bool.and_eq_true,decide_eq_true_eq] at h2
 rw [nodes_form.2 u.args (by rw [←form_strip.2];exact h2.1),← size_strip.2]
 exact h2.2.1
theorem parts_facts {ex:Rd1 Tm} {ts:List Tok} {ns:List (List UInt8)} {q:Rs} {r:List Tok} {ns2:List (List UInt8)} (h:partsS ex ts ns=.ok q r ns2):AllA q.keep∧AllA q.remove∧AllG q.guard∧AllG q.body∧q.keep.length+q.remove.length≤4∧q.guard.length≤12∧q.body.length≤12:=by
 unfold partsS at h
 split at h
 ·cases h
 ·split at h
  ·cases h
  ·rename_i z r3 ns4 hb
   split at h
   ·cases h
   ·rename_i w r5 ns6 hg
    injection h with h2 _ _
    subst h2
    obtain ⟨a1,a2,a3,a4⟩:=both_facts hb
    obtain ⟨g1,g2,g3,g4⟩:=goals2_facts hg
    obtain ⟨b1,b2⟩:=body_facts w.2 g2
    exact ⟨a1,a2,g1,b1,a3,g3,Nat.le_trans b2 g4⟩
section
variable {α:Type} [Inhabited α] {E:Elt α} {T:TypeId} {lo g n cap:Nat} {z:Value} {w:World} {xs:List α}
theorem cellsL_set (E:Elt α):∀(xs:List α) {i:Nat} (u:α) (j:Nat) (v:Value),i < xs.length→j < E.k→E.cells u=(E.cells (xs.getD i default)).set j v→E.cellsL (xs.set i u)=(E.cellsL xs).set (i*E.k+j) v
 | [],i,u,j,v,hi,_,_=>by simp at hi
 | x :: r,0,u,j,v,_,hj,hc=>by
  simp only [List.getD_cons_zero] at hc
  simp only [List.set_cons_zero,Elt.cellsL,List.flatMap_cons,hc,Nat.zero_mul,Nat.zero_add]
  rw [List.set_append_left _ _ (by rw [E.len];exact hj)]
 | x :: r,i+1,u,j,v,hi,hj,hc=>by
  simp only [List.getD_cons_succ] at hc
  have ih:=cellsL_set E r (i:=i) u j v (by simpa using hi) hj hc
  simp only [Elt.cellsL] at ih
  simp only [List.set_cons_succ,Elt.cellsL,List.flatMap_cons,ih]
  rw [List.set_append_right _ _ (by rw [E.len,Nat.add_mul];omega),E.len,show (i+1)*E.k+j - E.k=i*E.k+j by rw [Nat.add_mul];omega]
theorem RowZ.setA (h:RowZ E T lo z w (.slice (some ⟨g,0,none⟩) xs.length cap) xs) {i:Nat} (hi:i < xs.length) (u:α) (hu:SitZ E lo z w [u]) (hg:g∉E.blkL [u]) (j:Nat) (v:Value) (hj:j < E.k) (hc:E.cells u=(E.cells (xs.getD i default)).set j v) :
  RowZ E T lo z (w.setCell ⟨g,i*E.k+j,none⟩ v) (.slice (some ⟨g,0,none⟩) xs.length cap) (xs.set i u):=by
 have hgx:g∉E.blkL xs:=h.apart g rfl
 have hsub:∀b,b∈E.blkL (xs.set i u)→b∈E.blkL xs∨b∈E.blkL [u]:=fun b hb=>by
  obtain ⟨x,hx,hbx⟩:=List.mem_flatMap.1 hb
  rcases List.mem_or_eq_of_mem_set hx with h1|h1
  ·exact .inl (List.mem_flatMap.2 ⟨x,h1,hbx⟩)
  ·subst h1;exact .inr (by rw [Elt.blkL_one];exact hbx)
 have hno:g∉E.blkL (xs.set i u):=fun hb=>(hsub g hb).elim hgx hg
 have hs0:SitZ E lo z w (xs.set i u):=⟨fun x hx=>by
  rcases List.mem_or_eq_of_mem_set hx with h1|h1
  ·exact h.sit.at_ x h1
  ·subst h1;exact hu.at_ x (List.mem_singleton.2 rfl),fun b hb=>(hsub b hb).elim (h.sit.bd b) (hu.bd b),fun b hb=>(hsub b hb).elim (h.sit.out b) (hu.out b)⟩
 refine ⟨?_,hs0.put hno v,fun k hk hx=>?_,h.zap⟩
 ·have:=(World.ownsRow.stored h.row (i*E.k+j) v).1
  rw [List.length_set,cellsL_set E xs u j v hi hj hc]
  exact this
 ·have e:g=k:=by simpa [Value.ownBlock] using hk
  subst e
  exact hno hx
end
theorem RowZ.away {α:Type} {E:Elt α} {T0:TypeId} {lo:Nat} {z:Value} {w:World} {r:Value} {l:List α} (h:RowZ E T0 lo z w r l) {G:Nat} (hG:G < lo∨((∀k,r.ownBlock=some k→k≠G)∧∀b∈E.blkL l,b≠G)) (j:Nat) (v:Value):RowZ E T0 lo z (w.setCell ⟨G,j,none⟩ v) r l:=by
 rcases hG with h1|h1
 ·exact h.put h1 v
 ·exact h.put2 h1.1 (fun hx=>h1.2 G hx rfl) j v
theorem Pr.reset {w:World} {R:Nat} {A:Option Addr} {c:Nat} {l:List Tk} {i:Nat} {z:Value} {ns:List (List UInt8)} {at_:Nat} {er:Int} (h:Pr w R A c l i z ns at_ er):Pr (w.setCell ⟨R,2,none⟩ (.slice none 0 0)) R A c l i Z0 [] at_ er:=by
 have ho:∀j,j≠2→∀v,w.cell? ⟨R,j,none⟩=some v→(w.setCell ⟨R,2,none⟩ (.slice none 0 0)).cell? ⟨R,j,none⟩=some v:=fun j hj v hv=>by
  rw [World.cell?_setCell_other _ _ _ _ (by simp only [ne_eq,Addr.mk.injEq,true_and,and_true];omega)];exact hv
 refine ⟨by simpa [World.setCell] using h.lt,ho 0 (by omega) _ h.l0,ho 1 (by omega) _ h.l1,World.cell?_setCell_same _ _ _ (by rw [h.l2]),ho 3 (by omega) _ h.l3,ho 4 (by omega) _ h.l4,fun j=>by rw [World.frozen?_setCell];exact h.fr j,?_,h.low,h.ilt,World.ownsRow_nil _ _ _ _⟩
 refine ⟨h.toks.1,h.toks.2.1,fun hn=>?_⟩
 obtain ⟨g,e,hr⟩:=h.toks.2.2 hn
 have hg:=h.low g e
 exact ⟨g,e,fun i hi j u hu=>by rw [World.cell?_setCell_other _ _ _ _ (by simp only [ne_eq,Addr.mk.injEq];omega)];exact hr i hi j u hu⟩
section
variable {α:Type} [Inhabited α] {E:Elt α} {T:TypeId} {lo n cap i:Nat} {B:Option Addr} {z:Value} {w:World} {xs ks done:List α}
theorem RowZ.elt (h:RowZ E T lo z w (.slice B n cap) xs) (hi:i < xs.length):∃g,B=some ⟨g,0,none⟩∧lo≤g∧g < w.heap.size∧n=xs.length∧∀j u,(E.cells (xs.getD i default))[j]?=some u→w.cell? ⟨g,i*E.k+j,none⟩=some u:=by
 rcases h.row.2 with ⟨_,h1⟩|⟨g,cap',cur,e,hb,hg,hle,hcap,hcs,hcur⟩
 ·omega
 ·injection e with e1 e2 e3
  subst e1 e2 e3
  have hlt:=own_lt h.row g rfl
  refine ⟨g,rfl,hlt.1,hlt.2,rfl,fun j u hu=>?_⟩
  have hj:j < E.k:=by
   have:=(List.getElem?_eq_some_iff.1 hu).1
   rwa [E.len] at this
  have hlt:i*E.k+j < xs.length*E.k:=by
   have:=Nat.mul_le_mul_right E.k (show i+1≤xs.length from hi)
   rw [Nat.add_mul] at this
   omega
  rw [World.ownsRow.cellAt h.row _ hlt,E.cellsL_get xs hi hj]
  exact hu
theorem done_get (hd:done.length=i) (hi:i < ks.length):(done++ks.drop i).getD i default=ks.getD i default∧i < (done++ks.drop i).length∧(done++ks.drop i).length=ks.length∧∀u,(done++ks.drop i).set i u=(done++[u])++ks.drop (i+1):=by
 have e:ks.drop i=ks.getD i default :: ks.drop (i+1):=by
  rw [List.drop_eq_getElem_cons hi]
  simp [List.getD,hi]
 refine ⟨?_,by simp;omega,by simp;omega,fun u=>?_⟩
 ·rw [List.getD_eq_getElem?_getD,List.getElem?_append_right (by omega),e]
  simp [hd]
 ·rw [e,List.set_append_right _ _ (by omega),hd,Nat.sub_self,List.set_cons_zero,List.append_assoc]
  rfl
end
theorem getD_in {α:Type} [Inhabited α] {l:List α} {i:Nat} (h:i < l.length):l.getD i default∈l:=by
 rw [List.getD_eq_getElem?_getD,List.getElem?_eq_getElem h]
 exact List.getElem_mem h
theorem am_cells (u v:Am) (h:u.name=v.name):elAm.cells u=(elAm.cells v).set 1 (.slice u.at_ u.args.length u.cap):=by
 show [.string u.name,_]=[Value.string v.name,_].set 1 _
 rw [h];rfl
theorem gl_cells (u v:Gl) (h:u.name=v.name) (h2:u.op=v.op):elGl.cells u=(elGl.cells v).set 2 (.slice u.at_ u.args.length u.cap):=by
 show [.int .i64 u.op,.string u.name,_]=[Value.int .i64 v.op,.string v.name,_].set 2 _
 rw [h,h2];rfl
theorem am_blk (u:Am):elAm.blkL [u]=blkA u.at_ u.args.length++blkL u.args:=by rw [Elt.blkL_one];rfl
theorem gl_blk2 (u:Gl):elGl.blkL [u]=blkA u.at_ u.args.length++blkL u.args:=by rw [Elt.blkL_one];rfl
section
variable {lo g n cap i:Nat} {z:Value} {wr w5:World} {A2:Option Addr} {c2:Nat} {k2:List Tm}
theorem num_stepA {ks done:List Am} (row:RowZ elAm 92 lo z wr (.slice (some ⟨g,0,none⟩) n cap) (done++ks.drop i)) (hd:done.length=i) (hi:i < ks.length) (hz:∀k,z.ownBlock=some k→k < wr.heap.size) (hb:Below wr.heap.size wr w5) (hl:Lst w5 A2 k2 c2) (hbl:∀b∈blkA A2 k2.length++blkL k2,wr.heap.size≤b∧b < w5.heap.size) (he:k2=[]→A2=none∧c2=0) (hk:k2.length≤16385) :
  RowZ elAm 92 lo z (w5.setCell ⟨g,i*2+1,none⟩ (.slice A2 k2.length c2)) (.slice (some ⟨g,0,none⟩) n cap) ((done++[⟨(ks.getD i default).name,A2,c2,k2⟩])++ks.drop (i+1)):=by
 obtain ⟨h1,h2,h3,h4⟩:=done_get hd hi
 obtain ⟨g',e,hg1,hg2,hn,_⟩:=row.elt h2
 injection e with e
 injection e with e
 subst e hn
 have hat:=row.sit.at_ _ (getD_in h2)
 rw [h1] at hat
 rw [←h4]
 have r5:=row.below hb
 refine r5.setA h2 ⟨(ks.getD i default).name,A2,c2,k2⟩ ⟨fun x hx=>?_,fun b hb2=>?_,fun b hb2=>?_⟩ (fun hx=>?_) 1 (.slice A2 k2.length c2) (by show 1 < 2;omega) (by rw [h1];exact am_cells ⟨(ks.getD i default).name,A2,c2,k2⟩ _ rfl)
 ·rw [List.mem_singleton.1 hx]
  exact ⟨⟨hat.1.1,hl⟩,he,hk⟩
 ·rw [am_blk] at hb2
  exact ⟨by have:=(hbl b hb2).1;omega,(hbl b hb2).2⟩
 ·rw [am_blk] at hb2
  intro e
  have:=hz b e
  have:=(hbl b hb2).1
  omega
 ·rw [am_blk] at hx
  have:=(hbl g hx).1
  omega
theorem num_stepG {ks done:List Gl} (row:RowZ elGl 54 lo z wr (.slice (some ⟨g,0,none⟩) n cap) (done++ks.drop i)) (hd:done.length=i) (hi:i < ks.length) (hz:∀k,z.ownBlock=some k→k < wr.heap.size) (hb:Below wr.heap.size wr w5) (hl:Lst w5 A2 k2 c2) (hbl:∀b∈blkA A2 k2.length++blkL k2,wr.heap.size≤b∧b < w5.heap.size) :
  RowZ elGl 54 lo z (w5.setCell ⟨g,i*3+2,none⟩ (.slice A2 k2.length c2)) (.slice (some ⟨g,0,none⟩) n cap) ((done++[⟨(ks.getD i default).op,(ks.getD i default).name,A2,c2,k2⟩])++ks.drop (i+1)):=by
 obtain ⟨h1,h2,h3,h4⟩:=done_get hd hi
 obtain ⟨g',e,hg1,hg2,hn,_⟩:=row.elt h2
 injection e with e
 injection e with e
 subst e hn
 have hat:=row.sit.at_ _ (getD_in h2)
 rw [h1] at hat
 rw [←h4]
 have r5:=row.below hb
 refine r5.setA h2 ⟨(ks.getD i default).op,(ks.getD i default).name,A2,c2,k2⟩ ⟨fun x hx=>?_,fun b hb2=>?_,fun b hb2=>?_⟩ (fun hx=>?_) 2 (.slice A2 k2.length c2) (by show 2 < 3;omega) (by rw [h1];exact gl_cells ⟨(ks.getD i default).op,(ks.getD i default).name,A2,c2,k2⟩ _ rfl rfl)
 ·rw [List.mem_singleton.1 hx]
  exact ⟨hat.1,hat.2.1,hl⟩
 ·rw [gl_blk2] at hb2
  exact ⟨by have:=(hbl b hb2).1;omega,(hbl b hb2).2⟩
 ·rw [gl_blk2] at hb2
  intro e
  have:=hz b e
  have:=(hbl b hb2).1
  omega
 ·rw [gl_blk2] at hx
  have:=(hbl g hx).1
  omega
end
def RuleZ (ex:Rd1 Tm) (R:Nat) (A:Option Addr) (c:Nat) (l:List Tk) (i:Nat) (w:World) (en:Ending) (w':World):Prop :=
 ∃(t:List UInt8) (kv rv gv bv:Value) (n:Nat) (b:Bool),en=.returned (.tuple #[.agg #[.string (S t),kv,rv,gv,bv,.int .i64 (n:Int)],.bool b])∧(SlV kv∧SlV rv∧SlV gv∧SlV bv) ∧
  ((b=true∧∃z' ns' j at_ m1 m2 m3 ks rs gs bs,Kp R Z0 z' w w'∧Pr w' R A c l j z' ns' at_ 0∧ruleS ex (leftT l i)=.ok ⟨t,ks.map sA,rs.map sA,gs.map sG,bs.map sG,n⟩ (leftT l j) ns'∧i < j∧t.length≤16384∧RowsZ (w.heap.size+2) m1 m2 m3 z' w' kv rv gv bv ks rs gs bs) ∨
   (b=false∧∃z' ns' j n e,Kp R Z0 z' w w'∧Pr w' R A c l j z' ns' (offT l n) e∧e≠0∧ruleS ex (leftT l i)=.err n e))
end Go.Proofs.YtaojnljppcnhjaaGreatDoor
