/-
  RzGoals.
  RzHeads.
  RzPartsP.
 RzParts.
 RzRen.
 RzRuleP.
 RzRule.
-/
import Derived.Test.YtaojnljppcnhjaaGreatDoorMh26
import Derived.Test.YtaojnljppcnhjaaGreatDoorMh21
import Derived.Deep.Onto
import Derived.Deep.CutRange
import Derived.Deep.CutBlock
import Derived.Test.YtaojnljppcnhjaaGreatDoorMh12
import Derived.Test.YtaojnljppcnhjaaGreatDoorMh22
import Derived.Test.YtaojnljppcnhjaaGreatDoorMh4
namespace Go.Proofs.YtaojnljppcnhjaaGreatDoor
open Go.RowKit
set_option maxHeartbeats 8000000 in
set_option maxRecDepth 100000 in
theorem goals_z {R:Nat} {A:Option Addr} {c:Nat} {l:List Tk} (hg:GoodT l) {n:Nat} {ex:Rd1 Tm} (hE:ExprZ R A c l n ex) (hSz:Sized ex) (most:Nat) (hmost:most≤100) (i:Nat) (z:Value) (ns:List (List UInt8)) (at_:Nat) (w:World) (h:Pr w R A c l i z ns at_ 0) (hn:(leftT l i).length≤n) (hns:ns.length+(leftT l i).length≤100000) :
  Calls Tryz.prog 35 #[.pointer (some ⟨R,0,none⟩),.int .i64 (most:Int)] w (ListZ elGl 54 sG (fun ts ns=>goalsS ex most [] ts ns) R A c l i z ns w):=by
 obtain ⟨i0,hi,hz0,hz1,hz2⟩:=info_parts goal_info
 have HG:=Lib.hid hg
 have hR:=h.lt
 have HNN:=Lib.hid (And.intro hn hns)
 have QE:=Lib.hid hE
 have HSz:=Lib.hid hSz
 have H0:=Lib.hid (show LoopZ elGl 54 sG (fun acc ts ns=>goalsS ex most acc ts ns) R A c l i z ns w (l.length - i) (.slice none 0 0) w i [] z ns at_ from
  ⟨Kp.refl _ _ _,h,RowZ.nil _ _ _ _ _,rfl,Nat.le_refl _,Nat.zero_le _,Nat.le_refl _,Nat.le_refl _⟩)
 clear hg hE h hn hns hSz
 go_enter Tryz.func35,Tryz.ntmps35
 go_wp2_with fail
 go_loopg [6] (l.length - i) (fun gk v wr=>∃(q:Nat) (xs:List Gl) (z1:Value) (ns1:List (List UInt8)) (a1:Nat) (x:Value),v=x∧Hid (LoopZ elGl 54 sG (fun acc ts ns=>goalsS ex most acc ts ns) R A c l i z ns w gk x wr q xs z1 ns1 a1))
 case atStart=>exact ⟨i,[],z,ns,at_,_,rfl,H0⟩
 case round =>
  clear H0
  obtain ⟨q,xs,z1,ns1,a1,x,hzx,hI⟩:=hrel
  have hzx':=hzx.symm
  clear hzx
  subst hzx'
  obtain ⟨B,zc,rfl⟩:=hI.out.row.zform
  have hqs:xs.length≤16385:=by have:=hI.out.len;have:=hI.out.p.ilt;have:=HG.out.small;omega
  have hlen:(xs.length:Int)≤16385:=by omega
  have hle2:xs.length≤9223372036854775807:=by omega
  obtain ⟨t,ht⟩:∃t,l.getD q default=t:=⟨_,rfl⟩
  obtain ⟨k,p,x⟩:=t
  have HT:=Lib.hid ht
  have HI:=Lib.hid hI.out.p.ilt
  have fa:=tok_at k (p:Int) (S x)
  have QT:=Lib.hid (r_tok_of hI.out.p ht)
  have QF:=Lib.hid (fun W (hW:Pr W R A c l q z1 ns1 a1 0)=>r_fail_at hW p 6)
  clear ht
  by_cases hm:most≤xs.length
  ·have hm1:(most:Int)≤(xs.length:Int):=by omega
   have HX:=Lib.hid hm
   clear hm
   go_wp2_with (first
    | (go_at_call 27;(with_reducible refine QT.out.mono ?_);rintro en w2 ⟨rfl,hb2⟩;have HB2:=Lib.hid hb2;have HP2:=Lib.hid (hI.out.p.below hb2);clear hb2)
    | (go_at_call 31;(with_reducible refine (QF.out _ HP2.out).mono ?_);rintro en w3 ⟨rfl,hk3,hp3⟩;have HP3:=Lib.hid hp3;have HK3:=Lib.hid ((hI.out.k.trans (Below.kp HB2.out R z1)).trans hk3);clear hk3 hp3))
   refine bodyPost_ret (v:=.tuple #[.slice none 0 0,.bool false]) (by simp [results,Tryz.results35,go_sem]) rfl ?_
   refine ⟨[],false,_,rfl,.inr ⟨rfl,rfl,z1,ns1,q,(leftT l q).length,6,HK3.out,by rw [off_here HI.out,HT.out];exact HP3.out,by decide,?_⟩⟩
   have hall:goalsS ex most [] (leftT l i) ns=goalsS ex most (xs.map sG) (leftT l q) ns1:=hI.out.all
   show goalsS ex most [] (leftT l i) ns=_
   rw [hall,goalsS,if_pos (by rw [List.length_map];exact HX.out)]
  ·have hm2:(xs.length:Int) < (most:Int):=by omega
   have HX:=Lib.hid hm
   clear hm
   go_wp2_with (go_at_call 27;(with_reducible refine QT.out.mono ?_);rintro en w2 ⟨rfl,hb2⟩;have HB2:=Lib.hid hb2;have HP2:=Lib.hid (hI.out.p.below hb2);clear hb2)
   refine (plain_z HG.out QE.out q z1 ns1 a1 _ HP2.out (by have h1:=HNN.out.1;have h2:=hI.out.iq;simp only [left_length] at h1 ⊢;omega) (by have h1:=HNN.out.2;have h2:=hI.out.nsl;simp only [left_length] at h1 h2 ⊢;omega)).mono ?_
   rintro e w3 ⟨u,b,he,ho⟩
   have he2:e=.returned (.tuple #[.agg #[.int .i64 u.op,.string u.name,.slice u.at_ u.args.length u.cap],.bool b]):=he
   clear he
   subst he2
   have hs2:wr.heap.size≤w2.heap.size:=HB2.out.size
   have hsw:w.heap.size≤wr.heap.size:=hI.out.k.size
   rcases ho with ⟨rfl,z3,ns3,j,a3,hk3,hp3,hf,hqj,hl3,hs3⟩|⟨rfl,z3,ns3,j,m,e3,hk3,hp3,he3,hf⟩
   ·have hbx:=(Below.refl w3.heap.size w3).alloc (Nat.le_refl _) (.cells #[.int .i64 u.op,.string u.name,.slice u.at_ u.args.length u.cap] 54)
    have hsz3:sizeL u.args≤1000000:=by
     have h1:=goal_sized HSz.out hf
     have h2:sizeL (stripL u.args)=sizeL u.args:=size_strip.2 _
     have h3:=HG.out.small
     simp only [sG,left_length] at h1
     omega
    obtain ⟨r,hr⟩:∃r,rightG (sG u)=r:=⟨_,rfl⟩
    have HRt:=Lib.hid hr
    have QR:=Lib.hid (ref_right_goal_at u _ (((show Gl.At w3 u from hs3.at_ u (List.mem_singleton.2 rfl))).below hbx) hsz3 ((goalB_strip u.op u.name u.args).trans hr))
    have HF:=Lib.hid (And.intro hf (And.intro hqj hl3))
    have HK3:=Lib.hid (((hI.out.k.trans (Below.kp HB2.out R z1)).trans hk3).trans (Below.kp hbx R z3))
    have HP3:=Lib.hid (hp3.below hbx)
    have HU3:=Lib.hid (BoxL.new w3 [.int .i64 u.op,.string u.name,.slice u.at_ u.args.length u.cap] 54)
    have HRow3:=Lib.hid ((((hI.out.row.below HB2.out).kp hk3 (by omega))).below hbx)
    have HS3:=Lib.hid (hs3.below hbx)
    have hs3':w2.heap.size≤w3.heap.size:=hk3.size
    have HOr:=Lib.hid (own_lt hI.out.row.row)
    clear hk3 hp3 hf hqj hl3 hs3 hbx hsz3 hr
    have HPl:=Lib.hid (show goalsS ex most (xs.map sG) (leftT l q) ns1=if rightG (sG u)=false then .err (leftT l q).length 6 else if isS [44] (leftT l j) then (if _h:(leftT l j).tail.length < (leftT l q).length then goalsS ex most (xs.map sG++[sG u]) (leftT l j).tail ns3 else .err 0 0) else .ok (xs.map sG++[sG u]) (leftT l j) ns3 by
     rw [goalsS,if_neg (by rw [List.length_map];exact HX.out),HF.out.1])
    cases r
    ·go_wp2_with (first
      | (go_at_call 41;(with_reducible refine QR.out.mono ?_);rintro en w4 ⟨rfl,hb4⟩;have HP4:=Lib.hid (HP3.out.below hb4);have HK4:=Lib.hid (HK3.out.trans (Below.kp hb4 R z3));clear hb4)
      | (go_at_call 31;(with_reducible refine (r_fail_at HP4.out p 6).mono ?_);rintro en w5 ⟨rfl,hk5,hp5⟩;have HP5:=Lib.hid hp5;have HK5:=Lib.hid (HK4.out.trans hk5);clear hk5 hp5))
     refine bodyPost_ret (v:=.tuple #[.slice none 0 0,.bool false]) (by simp [results,Tryz.results35,go_sem]) rfl ?_
     refine ⟨[],false,_,rfl,.inr ⟨rfl,rfl,z3,ns3,j,(leftT l q).length,6,HK5.out,by rw [off_here HI.out,HT.out];exact HP5.out,by decide,?_⟩⟩
     have hall:goalsS ex most [] (leftT l i) ns=goalsS ex most (xs.map sG) (leftT l q) ns1:=hI.out.all
     show goalsS ex most [] (leftT l i) ns=_
     rw [hall,HPl.out,if_pos HRt.out]
    ·obtain ⟨b,hb⟩:∃b,((l.getD j default).2.2==[44])=b:=⟨_,rfl⟩
     have HBb:=Lib.hid hb
     have HC:=Lib.hid (isS_text HG.out HP3.out.ilt [44] (by decide) hb)
     have QX:=Lib.hid (fun W (hW:Pr W R A c l j z3 ns3 a3 0)=>z_is_at HG.out hW [44] (by decide) HBb.out)
     have hmw:w.heap.size≤w2.heap.size:=by omega
     clear hb
     cases b
     ·go_wp2_with (first
      | (go_at_call 41;(with_reducible refine QR.out.mono ?_);rintro en w4 ⟨rfl,hb4⟩;have HP4:=Lib.hid (HP3.out.below hb4);have HK4:=Lib.hid (HK3.out.trans (Below.kp hb4 R z3));have HRow4:=Lib.hid (HRow3.out.below hb4);have HS4:=Lib.hid (HS3.out.below hb4);obtain ⟨d0,d1,d2,_⟩:=(HU3.out.below hb4).get3;have hs4:w3.heap.size+1≤w4.heap.size:=(by have:=hb4.size;simpa using this);clear hb4)
      | (at_builtin; refine wpList_append_lies _ rfl _ _ 33 rfl w.heap.size 54 i0 _ 3 48 Tryz.underlying33 hi hz0 hz1 hz2 rfl (by decide) (.slice B xs.length zc) xs.length (Elt.cellsL elGl xs) rfl (HRow4.out.row.alloc _) ⟨w4.heap.size, 0, none⟩ 1 1 (Elt.cells elGl u) rfl rfl (news1_of elGl w4 u _) (Elt.one elGl u) (by decide) (by unfold maxLen; omega) (by omega) (by simp; omega) _ rfl ?_; intro g cap w5 hown hg hat hglt
         have hbx := (Below.refl w4.heap.size w4).alloc (Nat.le_refl _) (.cells #[.int .i64 u.op, .string u.name, .slice u.at_ u.args.length u.cap] 54)
         have HRow5 := Lib.hid (HRow4.out.next (fun k hk => (HP4.out.zlt k hk).2) hmw (fun k hk => by have := (HOr.out k hk).2; omega) HS4.out hbx hown hg hat)
         have HK5 := Lib.hid ((HK4.out.alloc _).grown hg (fun k hk => (HOr.out k hk).1))
         have HP5 := Lib.hid ((HP4.out.below hbx).of hg.size (fun k hk hx => hg.block k hk (fun e => by rcases hx with h1 | h1; (have := (HOr.out k e.symm).1; omega); exact HRow4.out.zap k e.symm h1)))
         clear hown hg hat hglt hbx)
      | (go_at_call 47;(with_reducible refine (QX.out _ HP5.out).mono ?_);rintro en w6 ⟨rfl,hb6⟩;have HB6:=Lib.hid hb6;clear hb6))
      refine bodyPost_ret (v:=.tuple #[.slice (some ⟨g,0,none⟩) (xs.length+1) cap,.bool true]) (by simp [results,Tryz.results35,go_sem]) rfl ?_
      have hl:=HF.out.2.2
      have hl2:=hI.out.nsl
      have hiq:=hI.out.iq
      have hle:=hI.out.len
      have hqj:=HF.out.2.1
      have hj:=HP3.out.ilt
      have hsm:=HG.out.small
      refine ⟨xs++[u],true,_,rfl,.inl ⟨rfl,z3,ns3,j,a3,HK5.out.trans (Below.kp HB6.out R z3),HP5.out.below HB6.out,?_,by omega,by omega,HRow5.out.below HB6.out,by simp only [List.length_append,List.length_cons,List.length_nil];omega⟩⟩
      have hall:goalsS ex most [] (leftT l i) ns=goalsS ex most (xs.map sG) (leftT l q) ns1:=hI.out.all
      show goalsS ex most [] (leftT l i) ns=_
      rw [hall,HPl.out,if_neg (by rw [HRt.out];simp),HC.out,List.map_append]
      rfl
     ·have HN:=Lib.hid (show j+1 < l.length from good_next HG.out HP3.out.ilt (by rw [beq_iff_eq.1 HBb.out];decide))
      have QN:=Lib.hid (fun W (hW:Pr W R A c l j z3 ns3 a3 0)=>z_next_at HG.out hW (by rw [beq_iff_eq.1 HBb.out];decide))
      go_wp2_with (first
      | (go_at_call 41;(with_reducible refine QR.out.mono ?_);rintro en w4 ⟨rfl,hb4⟩;have HP4:=Lib.hid (HP3.out.below hb4);have HK4:=Lib.hid (HK3.out.trans (Below.kp hb4 R z3));have HRow4:=Lib.hid (HRow3.out.below hb4);have HS4:=Lib.hid (HS3.out.below hb4);obtain ⟨d0,d1,d2,_⟩:=(HU3.out.below hb4).get3;have hs4:w3.heap.size+1≤w4.heap.size:=(by have:=hb4.size;simpa using this);clear hb4)
      | (at_builtin; refine wpList_append_lies _ rfl _ _ 33 rfl w.heap.size 54 i0 _ 3 48 Tryz.underlying33 hi hz0 hz1 hz2 rfl (by decide) (.slice B xs.length zc) xs.length (Elt.cellsL elGl xs) rfl (HRow4.out.row.alloc _) ⟨w4.heap.size, 0, none⟩ 1 1 (Elt.cells elGl u) rfl rfl (news1_of elGl w4 u _) (Elt.one elGl u) (by decide) (by unfold maxLen; omega) (by omega) (by simp; omega) _ rfl ?_; intro g cap w5 hown hg hat hglt
         have hbx := (Below.refl w4.heap.size w4).alloc (Nat.le_refl _) (.cells #[.int .i64 u.op, .string u.name, .slice u.at_ u.args.length u.cap] 54)
         have HRow5 := Lib.hid (HRow4.out.next (fun k hk => (HP4.out.zlt k hk).2) hmw (fun k hk => by have := (HOr.out k hk).2; omega) HS4.out hbx hown hg hat)
         have HK5 := Lib.hid ((HK4.out.alloc _).grown hg (fun k hk => (HOr.out k hk).1))
         have HP5 := Lib.hid ((HP4.out.below hbx).of hg.size (fun k hk hx => hg.block k hk (fun e => by rcases hx with h1 | h1; (have := (HOr.out k e.symm).1; omega); exact HRow4.out.zap k e.symm h1)))
         clear hown hg hat hglt hbx)
      | (go_at_call 47;(with_reducible refine (QX.out _ HP5.out).mono ?_);rintro en w6 ⟨rfl,hb6⟩;have HB6:=Lib.hid hb6;have HP6:=Lib.hid (HP5.out.below hb6);clear hb6)
      | (go_at_call 48;(with_reducible refine (QN.out _ HP6.out).mono ?_);rintro en w7 ⟨rfl,hk7,hp7⟩;have HK7:=Lib.hid hk7;have HP7:=Lib.hid hp7;clear hk7 hp7))
      have HN2:=Lib.hid (show LoopZ elGl 54 sG (fun acc ts ns=>goalsS ex most acc ts ns) R A c l i z ns w (gk - 1) (.slice (some ⟨g,0,none⟩) (xs.length+1) cap) w7 (j+1) (xs++[u]) z3 ns3 a3 by
       have hl:=HF.out.2.2
       have hl2:=hI.out.nsl
       have hiq:=hI.out.iq
       have hle:=hI.out.len
       have hqj:=HF.out.2.1
       have hj:=HN.out
       have hgk:=hI.out.gk_
       refine ⟨(HK5.out.trans (Below.kp HB6.out R z3)).trans HK7.out,HP7.out,(HRow5.out.below HB6.out).kp HK7.out hR,?_,by omega,by simp only [List.length_append,List.length_cons,List.length_nil];omega,by simp only [left_length] at hl hl2 ⊢;omega,by omega⟩
       have hall:goalsS ex most [] (leftT l i) ns=goalsS ex most (xs.map sG) (leftT l q) ns1:=hI.out.all
       show goalsS ex most [] (leftT l i) ns=_
       rw [hall,HPl.out,if_neg (by rw [HRt.out];simp),HC.out,if_pos rfl,dif_pos (by simp only [left_tail,left_length];omega),left_tail,List.map_append]
       rfl)
      have HGk:=Lib.hid (show gk - 1 < gk by have:=HN.out;have:=hI.out.gk_;have:=HF.out.2.1;omega)
      go_wp2_with fail
      go_roundg (gk - 1)
      case measure=>exact HGk.out
      case rel=>exact ⟨j+1,xs++[u],z3,ns3,a3,_,rfl,HN2⟩
   ·have HF:=Lib.hid (And.intro hf he3)
    have HP3:=Lib.hid (hp3.alloc (.cells #[.int .i64 u.op,.string u.name,.slice u.at_ u.args.length u.cap] 54))
    have HK3:=Lib.hid (((hI.out.k.trans (Below.kp HB2.out R z1)).trans hk3).alloc (.cells #[.int .i64 u.op,.string u.name,.slice u.at_ u.args.length u.cap] 54))
    clear hk3 hp3 hf he3
    go_wp2_with fail
    refine bodyPost_ret (v:=.tuple #[.slice none 0 0,.bool false]) (by simp [results,Tryz.results35,go_sem]) rfl ?_
    refine ⟨[],false,_,rfl,.inr ⟨rfl,rfl,z3,ns3,j,m,e3,HK3.out,HP3.out,HF.out.2,?_⟩⟩
    have hall:goalsS ex most [] (leftT l i) ns=goalsS ex most (xs.map sG) (leftT l q) ns1:=hI.out.all
    show goalsS ex most [] (leftT l i) ns=_
    rw [hall,goalsS,if_neg (by rw [List.length_map];exact HX.out),HF.out.1]
end Go.Proofs.YtaojnljppcnhjaaGreatDoor
namespace Go.Proofs.YtaojnljppcnhjaaGreatDoor
open Go.RowKit
end Go.Proofs.YtaojnljppcnhjaaGreatDoor
namespace Go.Proofs.YtaojnljppcnhjaaGreatDoor
open Go.RowKit
theorem RowZ.low {α:Type} {E:Elt α} {T:TypeId} {lo lo':Nat} {z:Value} {w:World} {r:Value} {l:List α} (h:RowZ E T lo z w r l) (hl:lo'≤lo):RowZ E T lo' z w r l:=⟨h.row.mono hl,h.sit.low hl,h.apart,h.zap⟩
theorem RowZ.lt {α:Type} {E:Elt α} {T:TypeId} {lo:Nat} {z:Value} {w:World} {r:Value} {l:List α} (h:RowZ E T lo z w r l):∀k,r.ownBlock=some k→lo≤k∧k < w.heap.size:=own_lt h.row
theorem RowZ.put {α:Type} {E:Elt α} {T:TypeId} {lo:Nat} {z:Value} {w:World} {r:Value} {l:List α} (h:RowZ E T lo z w r l) {p:Addr} (hp:p.block < lo) (v:Value):RowZ E T lo z (w.setCell p v) r l :=
 h.frame (by simp [World.setCell]) (fun b h1 _ _=>Below.heap_setCell _ _ _ _ (by omega)) (fun _ h=>.inl h)
structure RowsZ (lo m1 m2 m3:Nat) (z:Value) (w:World) (kv rv gv bv:Value) (ks rs:List Am) (gs bs:List Gl):Prop where
 k:RowZ elAm 92 lo z w kv ks
 r:RowZ elAm 92 m1 z w rv rs
 g:RowZ elGl 54 m2 z w gv gs
 b:RowZ elGl 54 m3 z w bv bs
 l1:lo≤m1∧m1≤m2∧m2≤m3
 k1:∀k,kv.ownBlock=some k→k < m1
 r1:∀k,rv.ownBlock=some k→k < m2
 g1:∀k,gv.ownBlock=some k→k < m3
section
variable {lo m1 m2 m3 R:Nat} {z z':Value} {w w':World} {kv rv gv bv:Value} {ks rs:List Am} {gs bs:List Gl}
theorem RowsZ.kp (h:RowsZ lo m1 m2 m3 z w kv rv gv bv ks rs gs bs) (k:Kp R z z' w w') (hR:R < lo):RowsZ lo m1 m2 m3 z' w' kv rv gv bv ks rs gs bs :=
 ⟨h.k.kp k hR,h.r.kp k (by have:=h.l1;omega),h.g.kp k (by have:=h.l1;omega),h.b.kp k (by have:=h.l1;omega),h.l1,h.k1,h.r1,h.g1⟩
theorem RowsZ.below (h:RowsZ lo m1 m2 m3 z w kv rv gv bv ks rs gs bs) (hb:Below w.heap.size w w'):RowsZ lo m1 m2 m3 z w' kv rv gv bv ks rs gs bs :=
 ⟨h.k.below hb,h.r.below hb,h.g.below hb,h.b.below hb,h.l1,h.k1,h.r1,h.g1⟩
theorem RowsZ.put (h:RowsZ lo m1 m2 m3 z w kv rv gv bv ks rs gs bs) {p:Addr} (hp:p.block < lo) (v:Value):RowsZ lo m1 m2 m3 z (w.setCell p v) kv rv gv bv ks rs gs bs :=
 ⟨h.k.put hp v,h.r.put (by have:=h.l1;omega) v,h.g.put (by have:=h.l1;omega) v,h.b.put (by have:=h.l1;omega) v,h.l1,h.k1,h.r1,h.g1⟩
end
abbrev Zr:List Value:=[.string ⟨#[]⟩,.slice none 0 0,.slice none 0 0,.slice none 0 0,.slice none 0 0,.int .i64 0]
structure PbZ (R:Nat) (A:Option Addr) (c:Nat) (l:List Tk) (z0:Value) (w:World) (W:World) (q:Nat) (z:Value) (ns:List (List UInt8)) (a:Nat) (er:Int) (v0 v1 v2 v3 v4:Value):Prop where
 k:Kp R z0 z w W
 p:Pr W R A c l q z ns a er
 zero:BoxL W w.heap.size Zr
 box:BoxL W (w.heap.size+1) [v0,v1,v2,v3,v4,.int .i64 0]
 zw:z.ownBlock≠some w.heap.size
 zb:z.ownBlock≠some (w.heap.size+1)
section
variable {R:Nat} {A:Option Addr} {c:Nat} {l:List Tk} {z0 z z':Value} {w W W':World} {q j:Nat} {ns ns':List (List UInt8)} {a a':Nat} {er er':Int} {v0 v1 v2 v3 v4:Value}
theorem PbZ.below (h:PbZ R A c l z0 w W q z ns a er v0 v1 v2 v3 v4) (hb:Below W.heap.size W W'):PbZ R A c l z0 w W' q z ns a er v0 v1 v2 v3 v4 :=
 ⟨h.k.trans (Below.kp hb R z),h.p.below hb,h.zero.below hb,h.box.below hb,h.zw,h.zb⟩
theorem BoxL.drewN {w:World} {T:Nat} {vs:List Value} (h:BoxL w T vs) (n:Nat):BoxL (w.drewN n) T vs:=⟨h.lt,h.cells,h.free⟩
theorem PbZ.drewN (h:PbZ R A c l z0 w W q z ns a er v0 v1 v2 v3 v4) (n:Nat):PbZ R A c l z0 w (W.drewN n) q z ns a er v0 v1 v2 v3 v4 :=
 ⟨h.k.drewN n,h.p.drewN n,h.zero.drewN n,h.box.drewN n,h.zw,h.zb⟩
theorem PbZ.call (h:PbZ R A c l z0 w W q z ns a er v0 v1 v2 v3 v4) (hR:R < w.heap.size) (hk:Kp R z z' W W') (hp:Pr W' R A c l j z' ns' a' er'):PbZ R A c l z0 w W' j z' ns' a' er' v0 v1 v2 v3 v4 :=
 ⟨h.k.trans hk,hp,h.zero.kz hk (by omega) h.zw,h.box.kz hk (by omega) h.zb,hk.off h.zero.lt h.zw,hk.off h.box.lt h.zb⟩
theorem PbZ.set (h:PbZ R A c l z0 w W q z ns a er v0 v1 v2 v3 v4) (hR:R < w.heap.size) {k:Nat} (hk:k < 5) (v:Value) {u0 u1 u2 u3 u4:Value} (he:[v0,v1,v2,v3,v4,.int .i64 0].set k v=[u0,u1,u2,u3,u4,.int .i64 0]):PbZ R A c l z0 w (W.setCell ⟨w.heap.size+1,k,none⟩ v) q z ns a er u0 u1 u2 u3 u4 :=
 ⟨h.k.put (p:=⟨w.heap.size+1,k,none⟩) (Nat.le_succ _) v,h.p.store (p:=⟨w.heap.size+1,k,none⟩) (by show R < w.heap.size+1;omega) h.zb v,h.zero.put (p:=⟨w.heap.size+1,k,none⟩) (by show w.heap.size+1≠w.heap.size;omega) v,he ▸ h.box.set (j:=k) (by simp;omega) v,h.zw,h.zb⟩
def SlV (v:Value):Prop:=∃A n c,v=.slice A n c
def PartsZ (f:Rd1 Rs) (R:Nat) (A:Option Addr) (c:Nat) (l:List Tk) (i:Nat) (z:Value) (ns:List (List UInt8)) (w:World) (en:Ending) (w':World):Prop :=
 ∃(t:List UInt8) (kv rv gv bv:Value) (b:Bool),en=.returned (.tuple #[.agg #[.string (S t),kv,rv,gv,bv,.int .i64 0],.bool b])∧(SlV kv∧SlV rv∧SlV gv∧SlV bv) ∧
  ((b=true∧∃z' ns' j at_ m1 m2 m3 ks rs gs bs,Kp R z z' w w'∧Pr w' R A c l j z' ns' at_ 0∧f (leftT l i) ns=.ok ⟨t,ks.map sA,rs.map sA,gs.map sG,bs.map sG,0⟩ (leftT l j) ns'∧i < j∧ns'.length+(leftT l j).length≤ns.length+(leftT l i).length∧t.length≤16384∧RowsZ (w.heap.size+2) m1 m2 m3 z' w' kv rv gv bv ks rs gs bs) ∨
   (b=false∧∃z' ns' j n e,Kp R z z' w w'∧Pr w' R A c l j z' ns' (offT l n) e∧e≠0∧f (leftT l i) ns=.err n e))
def LabZ (R:Nat) (A:Option Addr) (c:Nat) (l:List Tk) (i:Nat) (z:Value) (ns:List (List UInt8)) (w W:World):Prop :=
 ∃t q a,PbZ R A c l z w W q z ns a 0 (.string (S t)) (.slice none 0 0) (.slice none 0 0) (.slice none 0 0) (.slice none 0 0)∧labelS (leftT l i) ns=.ok t (leftT l q) ns∧i≤q∧t.length≤16384
def ArrZ (ex:Rd1 Tm) (R:Nat) (A:Option Addr) (c:Nat) (l:List Tk) (i:Nat) (z:Value) (ns:List (List UInt8)) (w:World) (t:List UInt8) (W:World):Prop :=
 ∃q z1 ns1 a kv rv ks rs m1,PbZ R A c l z w W q z1 ns1 a 0 (.string (S t)) kv rv (.slice none 0 0) (.slice none 0 0)∧(l.getD q default).2.2≠[]∧bothS ex (leftT l i) ns=.ok (ks.map sA,rs.map sA) (leftT l (q+1)) ns1∧i≤q∧ns1.length+(leftT l q).length≤ns.length+(leftT l i).length ∧
  RowZ elAm 92 (w.heap.size+2) z1 W kv ks∧RowZ elAm 92 m1 z1 W rv rs∧(w.heap.size+2≤m1∧m1≤W.heap.size)∧(∀k,kv.ownBlock=some k→k < m1)
def GoZ (ex:Rd1 Tm) (R:Nat) (A:Option Addr) (c:Nat) (l:List Tk) (i:Nat) (ns:List (List UInt8)) (z0:Value) (w:World) (t:List UInt8) (kA rA:Option Addr) (kc rc:Nat) (ks rs:List Am) (m1:Nat) (b:Bool) (W:World):Prop :=
 (b=true∧∃q z1 ns1 a gA gc bA bc gs bs m2 m3,PbZ R A c l z0 w W q z1 ns1 a 0 (.string (S t)) (.slice kA ks.length kc) (.slice rA rs.length rc) (.slice gA gs.length gc) (.slice bA bs.length bc)∧goals1S ex (leftT l i) ns=.ok (gs.map sG,bs.map sG) (leftT l q) ns1∧i≤q∧ns1.length+(leftT l q).length≤ns.length+(leftT l i).length ∧
  RowsZ (w.heap.size+2) m1 m2 m3 z1 W (.slice kA ks.length kc) (.slice rA rs.length rc) (.slice gA gs.length gc) (.slice bA bs.length bc) ks rs gs bs∧bs.length≤16385) ∨
 (b=false∧∃q z1 ns1 n e gA gc gn bA bc bn,PbZ R A c l z0 w W q z1 ns1 (offT l n) e (.string (S t)) (.slice kA ks.length kc) (.slice rA rs.length rc) (.slice gA gn gc) (.slice bA bn bc)∧e≠0∧goals1S ex (leftT l i) ns=.err n e)
theorem RowZ.first {α:Type} {E:Elt α} {T:TypeId} {lo:Nat} {z:Value} {w:World} {B:Option Addr} {zc:Nat} {l:List α} (h:RowZ E T lo z w (.slice B l.length zc) l) (h0:0 < l.length):∃g,B=some ⟨g,0,none⟩∧∀j u,(E.cellsL l)[j]?=some u→w.cell? ⟨g,j,none⟩=some u:=by
 rcases h.row.2 with ⟨_,h1⟩|⟨g,cap,cur,e,hb,hg,hle,hcap,hcs,hcur⟩
 ·omega
 ·injection e with e1 e2 e3
  subst e1 e3
  refine ⟨g,rfl,fun j u hu=>?_⟩
  have hj:j < (E.cellsL l).length:=(List.getElem?_eq_some_iff.1 hu).1
  rw [Elt.cellsL_len] at hj
  rw [World.ownsRow.cellAt h.row j hj]
  exact hu
end
end Go.Proofs.YtaojnljppcnhjaaGreatDoor
namespace Go.Proofs.YtaojnljppcnhjaaGreatDoor
open Go.RowKit
section
variable {R:Nat} {A:Option Addr} {c:Nat} {l:List Tk}
end
end Go.Proofs.YtaojnljppcnhjaaGreatDoor
namespace Go.Proofs.YtaojnljppcnhjaaGreatDoor
open Go.RowKit
def RenZ (f:Int→Int) (l:List Tm) (w:World) (en:Ending) (w':World):Prop :=
 ∃(A:Option Addr) (c:Nat) (k:List Tm),en=.returned (.slice A k.length c)∧Below w.heap.size w w'∧stripL k=numL2 f l∧Lst w' A k c∧(∀b∈blkA A k.length++blkL k,w.heap.size≤b∧b < w'.heap.size)∧(k=[]→A=none∧c=0)
theorem numL2_app (f:Int→Int) (l m:List Tm):numL2 f (l++m)=numL2 f l++numL2 f m:=by
 induction l with
 | nil=>rfl
 | cons t r ih=>simp only [List.cons_append,numL2,ih]
theorem nodes_in {l:List Tm} {j:Nat} (hj:j < l.length):nodesL (l.getD j default).args < nodesL l:=by
 induction l generalizing j with
 | nil=>simp at hj
 | cons t r ih =>
  cases j with
  | zero =>
   obtain ⟨k,n,s,A,c,a⟩:=t
   simp only [List.getD_cons_zero,Tm.args,nodesL,Tm.nodes]
   omega
  | succ j =>
   have:=ih (j:=j) (by simpa using hj)
   simp only [List.getD_cons_succ,nodesL]
   omega
theorem len_nodes (l:List Tm):l.length≤nodesL l:=by
 induction l with
 | nil=>simp [nodesL]
 | cons t r ih =>
  obtain ⟨k,n,s,A,c,a⟩:=t
  simp only [List.length_cons,nodesL,Tm.nodes]
  omega
theorem place_fits {vs:List Int} (h:vs.length≤100000) (n:Int):Fits (placeS vs n):=by
 unfold placeS Fits
 split
 ·rename_i hm
  have:=List.idxOf_lt_length_iff.2 hm
  omega
 ·omega
theorem RowZ.lst {lo:Nat} {z:Value} {w:World} {B:Option Addr} {zc:Nat} {acc:List Tm} (h:RowZ elTm 56 lo z w (.slice B acc.length zc) acc):Lst w B acc zc∧(∀b∈blkA B acc.length++blkL acc,lo≤b∧b < w.heap.size):=by
 rcases h.row.2 with ⟨e,h1⟩|⟨g,cap,cur,e,hb,hg,hle,hcap,hcs,hcur⟩
 ·injection e with e1 e2 e3
  subst e1 e3
  have hn:=List.length_eq_zero_iff.1 h1
  subst hn
  exact ⟨Lst.nil w,fun b hb=>by simp [blkA,blkL] at hb⟩
 ·injection e with e1 e2 e3
  subst e1 e3
  have hlt:=own_lt h.row g rfl
  refine ⟨⟨hle,hcap,fun _=>⟨g,0,rfl,RowAt.of fun i hi=>⟨fun j u hu=>?_,h.sit.at_ _ (getD_mem hi)⟩⟩⟩,fun b hb=>?_⟩
  ·have hj:j < 4:=by
    have:=(List.getElem?_eq_some_iff.1 hu).1
    simpa [Tm.cells] using this
   have hc:=World.ownsRow.cellAt h.row (i*4+j) (by show i*4+j < acc.length*4;omega)
   have hg2:=Elt.cellsL_get elTm acc hi (j:=j) hj
   rw [show 0+4*i+j=i*4+j by omega,hc]
   exact hg2.trans hu
  ·rcases List.mem_append.1 hb with h1|h1
   ·unfold blkA at h1
    split at h1
    ·cases h1
    ·rw [blkO,List.mem_singleton] at h1
     simp only at h1
     subst h1
     exact hlt
   ·rw [blkL_flat] at h1
    exact h.sit.bd b h1
theorem RowZ.put2 {α:Type} {E:Elt α} {T0:TypeId} {lo T:Nat} {z:Value} {w:World} {r:Value} {l:List α} (h:RowZ E T0 lo z w r l) (h1:∀k,r.ownBlock=some k→k≠T) (h2:T∉E.blkL l) (j:Nat) (v:Value):RowZ E T0 lo z (w.setCell ⟨T,j,none⟩ v) r l :=
 ⟨own_of h.row fun k hk=>Below.heap_setCell _ _ _ _ (h1 k hk),h.sit.put h2 v,h.apart,h.zap⟩
theorem news_set (w:World) (p:Addr) (v:Value) (u:Tm) (T:TypeId):∀j x,(elTm.cells u)[j]?=some x→((w.setCell p v).alloc (.cells #[.int .i64 u.kind,.int .i64 u.num,.string u.name,.slice u.at_ u.args.length u.cap] T)).cell? ((⟨w.heap.size,0,none⟩:Addr).add j)=some x:=by
 intro j x hx
 have e:(w.setCell p v).heap.size=w.heap.size:=by simp [World.setCell]
 rw [add_plain,Nat.zero_add,← e,World.cell?_alloc_at _ _ _ _ rfl,← hx,show (#[.int .i64 u.kind,.int .i64 u.num,.string u.name,.slice u.at_ u.args.length u.cap]:Array Value)=(elTm.cells u).toArray from rfl,List.getElem?_toArray]
structure RenL (f:Int→Int) (l:List Tm) (w:World) (j:Nat) (B:Option Addr) (zc:Nat) (acc:List Tm) (wr:World):Prop where
 b:Below w.heap.size w wr
 row:RowZ elTm 56 w.heap.size Z0 wr (.slice B acc.length zc) acc
 p:stripL acc=numL2 f (l.take j)
 e:acc=[]→B=none∧zc=0
theorem num2_next (f:Int→Int) {l:List Tm} {j:Nat} (hj:j < l.length):numL2 f (l.take (j+1))=numL2 f (l.take j)++[(l.getD j default).num2 f]:=by
 rw [ttake_next hj,numL2_app];rfl
theorem sitz_new {lo:Nat} {w:World} {k n:Int} {s:ByteArray} {A:Option Addr} {c:Nat} {a:List Tm} (hk:Fits k) (hn:Fits n) (hs:s.size≤maxLen) (hl:Lst w A a c) (hb:∀b∈blkA A a.length++blkL a,lo≤b∧b < w.heap.size):SitZ elTm lo Z0 w [.mk k n s A c a]:=by
 have e:elTm.blkL [Tm.mk k n s A c a]=blkA A a.length++blkL a:=by rw [Elt.blkL_one];show (Tm.mk k n s A c a).blk=_;rw [Tm.blk]
 refine ⟨fun x hx=>?_,fun b hx=>hb b (by rw [←e];exact hx),fun b _=>Z0_own b⟩
 rw [List.mem_singleton.1 hx]
 exact (At_iff _ _).2 ⟨⟨hk,hn,hs⟩,hl⟩
set_option maxHeartbeats 8000000 in
set_option maxRecDepth 100000 in
theorem renumber_z (V:Option Addr) (vs:List Int) (vc:Nat) (hvs:vs.length≤100000):∀(n:Nat) (A:Option Addr) (l:List Tm) (c:Nat) (w:World),nodesL l=n→n≤100000→Lst w A l c→Ints w V vs →
  Calls Tryz.prog 37 #[.slice V vs.length vc,.slice A l.length c] w (RenZ (placeS vs) l w):=by
 intro n
 induction n using Nat.strongRecOn with
 | _ n ih =>
  intro A l c w hn hn2 hL hI
  obtain ⟨i0,hi,hz0,hz1,hz2⟩:=info_parts term_info
  have hlen:l.length≤100000:=by have:=len_nodes l;omega
  have hvl:vs.length≤9223372036854775807:=by omega
  have HV:=Lib.hid hvs
  have HLn:=Lib.hid hlen
  have hlen2:l.length≤9223372036854775807:=by omega
  have HL:=Lib.hid hL
  have HI:=Lib.hid hI
  have QP:=Lib.hid (fun W (x r:Int) (hb:Below w.heap.size w W) (hr:placeS vs x=r)=>place_z V vs vc x W (HI.out.below hb) hvl hr)
  have QR:=Lib.hid (fun (j:Nat) (hj:j < l.length) (A':Option Addr) (c':Nat) W (hb:Below w.heap.size w W) (hl:Lst W A' (l.getD j default).args c')=>ih (nodesL (l.getD j default).args) (by rw [←hn];exact nodes_in hj) A' (l.getD j default).args c' W rfl (by have:=nodes_in hj;omega) hl (HI.out.below hb))
  have H0:=Lib.hid (show RenL (placeS vs) l w 0 none 0 [] w from ⟨Below.refl _ _,RowZ.nil _ _ _ _ _,rfl,fun _=>⟨rfl,rfl⟩⟩)
  clear hL hI hvs hlen hn hn2 ih
  go_enter Tryz.func37,Tryz.ntmps37
  go_wp2_with fail
  go_loopg [5,6] l.length (fun gk v i wr=>∃(j:Nat) (B:Option Addr) (zc:Nat) (acc:List Tm),j≤l.length∧i=.int .i64 (j:Int)∧v=.slice B acc.length zc∧Hid (RenL (placeS vs) l w j B zc acc wr∧l.length - j≤gk∧acc.length=j))
  case atStart=>exact ⟨0,none,0,[],Nat.zero_le _,rfl,rfl,Lib.hid ⟨H0.out,Nat.le_refl _,rfl⟩⟩
  case round =>
   clear H0
   obtain ⟨j,B,zc,acc,hj,rfl,rfl,hJ⟩:=hrel
   have HJ:=Lib.hid hJ.out.1
   have HGk:=Lib.hid hJ.out.2
   clear hJ
   by_cases hlt:j < l.length
   ·obtain ⟨b,o,rfl,⟨c0,c1,c2,c3⟩,hx⟩:=(HL.out.below HJ.out.b).get hlt
    have HN:=Lib.hid (num2_next (placeS vs) hlt)
    have HX:=Lib.hid hx
    have Q1:=Lib.hid (QR.out j hlt)
    have hjl:j≤100000:=by have:=HLn.out;omega
    have hal:acc.length≤100000:=by have:=HGk.out.2;omega
    clear hx QR
    generalize l.getD j default=x at *
    obtain ⟨k',n',s',A',c',a'⟩:=x
    simp only [Tm.kind,Tm.num,Tm.name,Tm.at_,Tm.args,Tm.cap] at c0 c1 c2 c3
    obtain ⟨y,hy⟩:∃y,(if k'=1 then placeS vs n' else n')=y:=⟨_,rfl⟩
    have HY:=Lib.hid (show (Tm.mk k' n' s' A' c' a').num2 (placeS vs)=.mk k' y s' none 0 (numL2 (placeS vs) a') by rw [Tm.num2,hy])
    have hat:=(At_iff _ _).1 HX.out
    have HAt:=Lib.hid (show Fits k'∧s'.size≤maxLen∧Lst wr A' a' c' from ⟨hat.1.1,hat.1.2.2,hat.2⟩)
    have HFy:=Lib.hid (show Fits y by
     rw [←hy]
     split
     ·exact place_fits HV.out _
     ·exact hat.1.2.1)
    clear hat
    by_cases hk:k'=1
    ·subst hk
     have hp:placeS vs n'=y:=by rw [←hy];rfl
     have QPl:=Lib.hid (QP.out (wr.alloc (.cells #[.int .i64 1,.int .i64 n',.string s',.slice A' a'.length c'] 56)) n' y (HJ.out.b.trans ((below1 wr _).mono HJ.out.b.size)) hp)
     clear hy hp
     have hb0:=Lib.hid ((Below.refl wr.heap.size wr).alloc (Nat.le_refl _) (.cells #[.int .i64 1,.int .i64 y,.string s',.slice A' a'.length c'] 56))
     have Q2:=Lib.hid (Q1.out A' c' (wr.alloc (.cells #[.int .i64 1,.int .i64 y,.string s',.slice A' a'.length c'] 56)) (HJ.out.b.trans (hb0.out.mono HJ.out.b.size)) (HAt.out.2.2.below hb0.out))
     clear Q1 QP
     go_wp2_with (go_at_call 63;(with_reducible refine QPl.out.mono ?_);rintro e w4 ⟨rfl,rfl⟩)
     refine Q2.out.mono ?_
     rintro e w5 ⟨A2,c2,k2,rfl,hb5,hp5,hl5,hbl5,he5⟩
     have HB5:=Lib.hid hb5
     have hs5:wr.heap.size+1≤w5.heap.size:=by have:=hb5.size;simpa using this
     have HBx:=Lib.hid ((BoxL.new wr [.int .i64 1,.int .i64 y,.string s',.slice A' a'.length c'] 56).below hb5)
     have HRow5:=Lib.hid (((HJ.out.row.below hb0.out).below hb5).put2 (T:=wr.heap.size) (fun k hk=>by have:=(own_lt HJ.out.row.row k hk).2;omega) (fun hx=>by have:=(HJ.out.row.sit.bd _ hx).2;omega) 3 (.slice A2 k2.length c2))
     have HS5:=Lib.hid ((sitz_new (k:=1) (n:=y) (s:=s') (A:=A2) (c:=c2) (a:=k2) (lo:=wr.heap.size+1) HAt.out.1 HFy.out HAt.out.2.1 hl5 (fun b hb=>by have:=hbl5 b hb;simp only [World.size_alloc] at this;exact this)).put (p:=⟨wr.heap.size,3,none⟩) (fun hx=>by
      have e:elTm.blkL [Tm.mk 1 y s' A2 c2 k2]=blkA A2 k2.length++blkL k2:=by rw [Elt.blkL_one];show (Tm.mk 1 y s' A2 c2 k2).blk=_;rw [Tm.blk]
      rw [e] at hx
      have:=(hbl5 _ hx).1
      simp only [World.size_alloc] at this
      omega) (.slice A2 k2.length c2))
     have HP5:=Lib.hid (show stripL k2=numL2 (placeS vs) a' from hp5)
     have HBw:=Lib.hid (show Below w.heap.size w (w5.setCell ⟨wr.heap.size,3,none⟩ (.slice A2 k2.length c2)) from ((HJ.out.b.trans (hb0.out.mono HJ.out.b.size)).trans (hb5.mono (by have:=HJ.out.b.size;simp;omega))).setCell HJ.out.b.size _)
     have HRl:=Lib.hid (own_lt HJ.out.row.row)
     obtain ⟨d0,d1,d2,d3,g0,g1,g2,g3⟩:=HBx.out.get4
     clear hb5 hp5 hl5 hbl5 he5 Q2
     go_wp2_with (first
      | (at_builtin; refine wpList_append_lies _ rfl _ _ 52 rfl w.heap.size 56 i0 _ 4 56 Tryz.underlying52 hi hz0 hz1 hz2 rfl (by decide) (.slice B acc.length zc) acc.length (Elt.cellsL elTm acc) rfl (HRow5.out.row.alloc _) ⟨w5.heap.size, 0, none⟩ 1 1 (Elt.cells elTm (.mk 1 y s' A2 c2 k2)) rfl rfl (news_set w5 _ _ (Tm.mk 1 y s' A2 c2 k2) _) (Elt.one elTm _) (by decide) (by unfold maxLen; omega) (by omega) (by have := HBw.out.size; simp [World.setCell] at this ⊢; omega) _ rfl ?_; intro g cap w7 hown hg hat hglt
         have hbx := (Below.refl (w5.setCell ⟨wr.heap.size, 3, none⟩ (.slice A2 k2.length c2)).heap.size (w5.setCell ⟨wr.heap.size, 3, none⟩ (.slice A2 k2.length c2))).alloc (Nat.le_refl _) (.cells #[.int .i64 1, .int .i64 y, .string s', .slice A2 k2.length c2] 56)
         have HRow7 := Lib.hid (HRow5.out.next (fun k hk => absurd hk (Z0_own k)) (show w.heap.size ≤ wr.heap.size + 1 by have := HJ.out.b.size; omega) (fun k hk => by have := (HRl.out k hk).2; omega) HS5.out hbx hown hg hat)
         have HB7 := Lib.hid ((HBw.out.trans (hbx.mono HBw.out.size)).grown hg (by have := HBw.out.size; simp at this ⊢; omega) (fun k hk => (HRl.out k hk).1))
         clear hown hg hat hglt hbx))
     have hgk:=HGk.out
     have HNx:=Lib.hid (show RenL (placeS vs) l w (j+1) (some ⟨g,0,none⟩) cap (acc++[.mk 1 y s' A2 c2 k2]) w7 from
      ⟨HB7.out,by rw [List.length_append];exact HRow7.out,by rw [HN.out,HY.out,stripL_append,HJ.out.p,← HP5.out];simp only [stripL,Tm.strip],fun e=>by simp at e⟩)
     go_roundg (gk - 1)
     case measure=>omega
     case rel=>exact ⟨j+1,some ⟨g,0,none⟩,cap,acc++[.mk 1 y s' A2 c2 k2],by omega,by go_num,by rw [List.length_append];rfl,Lib.hid ⟨HNx.out,by omega,by rw [List.length_append,hgk.2];rfl⟩⟩
    ·have hk1:(k'==1)=false:=by simpa using hk
     have hyn:y=n':=by rw [←hy,if_neg hk]
     subst hyn
     clear hy hk
     have hb0:=Lib.hid ((Below.refl wr.heap.size wr).alloc (Nat.le_refl _) (.cells #[.int .i64 k',.int .i64 y,.string s',.slice A' a'.length c'] 56))
     have Q2:=Lib.hid (Q1.out A' c' (wr.alloc (.cells #[.int .i64 k',.int .i64 y,.string s',.slice A' a'.length c'] 56)) (HJ.out.b.trans (hb0.out.mono HJ.out.b.size)) (HAt.out.2.2.below hb0.out))
     clear Q1 QP
     go_wp2_with fail
     refine Q2.out.mono ?_
     rintro e w5 ⟨A2,c2,k2,rfl,hb5,hp5,hl5,hbl5,he5⟩
     have HB5:=Lib.hid hb5
     have hs5:wr.heap.size+1≤w5.heap.size:=by have:=hb5.size;simpa using this
     have HBx:=Lib.hid ((BoxL.new wr [.int .i64 k',.int .i64 y,.string s',.slice A' a'.length c'] 56).below hb5)
     have HRow5:=Lib.hid (((HJ.out.row.below hb0.out).below hb5).put2 (T:=wr.heap.size) (fun k hk=>by have:=(own_lt HJ.out.row.row k hk).2;omega) (fun hx=>by have:=(HJ.out.row.sit.bd _ hx).2;omega) 3 (.slice A2 k2.length c2))
     have HS5:=Lib.hid ((sitz_new (k:=k') (n:=y) (s:=s') (A:=A2) (c:=c2) (a:=k2) (lo:=wr.heap.size+1) HAt.out.1 HFy.out HAt.out.2.1 hl5 (fun b hb=>by have:=hbl5 b hb;simp only [World.size_alloc] at this;exact this)).put (p:=⟨wr.heap.size,3,none⟩) (fun hx=>by
      have e:elTm.blkL [Tm.mk k' y s' A2 c2 k2]=blkA A2 k2.length++blkL k2:=by rw [Elt.blkL_one];show (Tm.mk k' y s' A2 c2 k2).blk=_;rw [Tm.blk]
      rw [e] at hx
      have:=(hbl5 _ hx).1
      simp only [World.size_alloc] at this
      omega) (.slice A2 k2.length c2))
     have HP5:=Lib.hid (show stripL k2=numL2 (placeS vs) a' from hp5)
     have HBw:=Lib.hid (show Below w.heap.size w (w5.setCell ⟨wr.heap.size,3,none⟩ (.slice A2 k2.length c2)) from ((HJ.out.b.trans (hb0.out.mono HJ.out.b.size)).trans (hb5.mono (by have:=HJ.out.b.size;simp;omega))).setCell HJ.out.b.size _)
     have HRl:=Lib.hid (own_lt HJ.out.row.row)
     obtain ⟨d0,d1,d2,d3,g0,g1,g2,g3⟩:=HBx.out.get4
     clear hb5 hp5 hl5 hbl5 he5 Q2
     go_wp2_with (first
      | (at_builtin; refine wpList_append_lies _ rfl _ _ 52 rfl w.heap.size 56 i0 _ 4 56 Tryz.underlying52 hi hz0 hz1 hz2 rfl (by decide) (.slice B acc.length zc) acc.length (Elt.cellsL elTm acc) rfl (HRow5.out.row.alloc _) ⟨w5.heap.size, 0, none⟩ 1 1 (Elt.cells elTm (.mk k' y s' A2 c2 k2)) rfl rfl (news_set w5 _ _ (Tm.mk k' y s' A2 c2 k2) _) (Elt.one elTm _) (by decide) (by unfold maxLen; omega) (by omega) (by have := HBw.out.size; simp [World.setCell] at this ⊢; omega) _ rfl ?_; intro g cap w7 hown hg hat hglt
         have hbx := (Below.refl (w5.setCell ⟨wr.heap.size, 3, none⟩ (.slice A2 k2.length c2)).heap.size (w5.setCell ⟨wr.heap.size, 3, none⟩ (.slice A2 k2.length c2))).alloc (Nat.le_refl _) (.cells #[.int .i64 k', .int .i64 y, .string s', .slice A2 k2.length c2] 56)
         have HRow7 := Lib.hid (HRow5.out.next (fun k hk => absurd hk (Z0_own k)) (show w.heap.size ≤ wr.heap.size + 1 by have := HJ.out.b.size; omega) (fun k hk => by have := (HRl.out k hk).2; omega) HS5.out hbx hown hg hat)
         have HB7 := Lib.hid ((HBw.out.trans (hbx.mono HBw.out.size)).grown hg (by have := HBw.out.size; simp at this ⊢; omega) (fun k hk => (HRl.out k hk).1))
         clear hown hg hat hglt hbx))
     have hgk:=HGk.out
     have HNx:=Lib.hid (show RenL (placeS vs) l w (j+1) (some ⟨g,0,none⟩) cap (acc++[.mk k' y s' A2 c2 k2]) w7 from
      ⟨HB7.out,by rw [List.length_append];exact HRow7.out,by rw [HN.out,HY.out,stripL_append,HJ.out.p,← HP5.out];simp only [stripL,Tm.strip],fun e=>by simp at e⟩)
     go_roundg (gk - 1)
     case measure=>omega
     case rel=>exact ⟨j+1,some ⟨g,0,none⟩,cap,acc++[.mk k' y s' A2 c2 k2],by omega,by go_num,by rw [List.length_append];rfl,Lib.hid ⟨HNx.out,by omega,by rw [List.length_append,hgk.2];rfl⟩⟩
   ·obtain rfl:j=l.length:=by omega
    have HE:=Lib.hid HJ.out.row.lst
    go_wp2_with fail
    go_ret
    exact ⟨B,zc,acc,rfl,HJ.out.b,by rw [HJ.out.p,List.take_length],HE.out.1,HE.out.2,HJ.out.e⟩
end Go.Proofs.YtaojnljppcnhjaaGreatDoor
namespace Go.Proofs.YtaojnljppcnhjaaGreatDoor
open Go.RowKit
theorem occ_strip2:(∀t:Tm,t.strip.occ=t.occ)∧(∀l,occL (stripL l)=occL l):=by
 refine Tm.induct2 (fun k n s A c a ih=>?_) rfl (fun t r h1 h2=>?_)
 ·simp only [Tm.strip,Tm.occ,ih]
 ·simp only [stripL,occL,h1,h2]
theorem num2_strip2 (f:Int→Int):(∀t:Tm,t.strip.num2 f=t.num2 f)∧(∀l,numL2 f (stripL l)=numL2 f l):=by
 refine Tm.induct2 (fun k n s A c a ih=>?_) rfl (fun t r h1 h2=>?_)
 ·simp only [Tm.strip,Tm.num2,ih]
 ·simp only [stripL,numL2,h1,h2]
theorem nodes_form:(∀t:Tm,t.form=true→t.nodes=t.size)∧(∀l,formL l=true→nodesL l=sizeL l):=by
 refine Tm.induct2 (fun k n s A c a ih=>?_) (fun _=>rfl) (fun t r h1 h2=>?_)
 ·intro h
  simp only [Tm.form] at h
  simp only [Tm.nodes,Tm.size]
  by_cases h0:k=0
  ·rw [if_pos h0] at h
   simp only [Bool.and_eq_true,decide_eq_true_eq] at h
   rw [List.length_eq_zero_iff.1 h.2.2.2,if_neg (by omega)]
   rfl
  by_cases h1:k=1
  ·rw [if_neg h0,if_pos h1] at h
   simp only [Bool.and_eq_true,decide_eq_true_eq] at h
   rw [List.length_eq_zero_iff.1 h.2.2.2,if_neg (by omega)]
   rfl
  by_cases h2:k=2
  ·rw [if_neg h0,if_neg h1,if_pos h2] at h
   simp only [Bool.and_eq_true] at h
   rw [if_pos h2,ih h.2.2]
  ·rw [if_neg h0,if_neg h1,if_neg h2] at h
   cases h
 ·intro h
  simp only [formL,Bool.and_eq_true] at h
  simp only [nodesL,sizeL,h1 h.1,h2 h.2]
theorem nodes_rightG {u:Gl} (h:rightG (sG u)=true):nodesL u.args≤200:=by
 have h2:rightT (stripL u.args)=true:=by
  unfold rightG at h
  split at h
  ·simp only [rightA,sG,Bool.and_eq_true] at h
   exact h.2.2
  ·simp only [sG,Bool.and_eq_true] at h
   exact h.2.2
 simp only [rightT,Bool.and_eq_true,decide_eq_true_eq] at h2
 rw [nodes_form.2 u.args (by rw [←form_strip.2];exact h2.1),← size_strip.2]
 exact h2.2.1
section
variable {α:Type} [Inhabited α] {E:Elt α} {T:TypeId} {lo g n cap:Nat} {z:Value} {w:World} {xs:List α}
theorem cellsL_set (E:Elt α):∀(xs:List α) {i:Nat} (u:α) (j:Nat) (v:Value),i < xs.length→j < E.k→E.cells u=(E.cells (xs.getD i default)).set j v→E.cellsL (xs.set i u)=(E.cellsL xs).set (i*E.k+j) v
 | [],i,u,j,v,hi,_,_=>by simp at hi
 | x :: r,0,u,j,v,_,hj,hc=>by
  simp only [List.getD_cons_zero] at hc
  simp only [List.set_cons_zero,Elt.cellsL,List.flatMap_cons,hc,Nat.zero_mul,Nat.zero_add]
  rw [List.set_append_left _ _ (by rw [E.len];exact hj)]
 | x :: r,i+1,u,j,v,hi,hj,hc=>by
  simp only [List.getD_cons_succ] at hc
  have ih:=cellsL_set E r (i:=i) u j v (by simpa using hi) hj hc
  simp only [Elt.cellsL] at ih
  simp only [List.set_cons_succ,Elt.cellsL,List.flatMap_cons,ih]
  rw [List.set_append_right _ _ (by rw [E.len,Nat.add_mul];omega),E.len,show (i+1)*E.k+j - E.k=i*E.k+j by rw [Nat.add_mul];omega]
theorem RowZ.setA (h:RowZ E T lo z w (.slice (some ⟨g,0,none⟩) xs.length cap) xs) {i:Nat} (hi:i < xs.length) (u:α) (hu:SitZ E lo z w [u]) (hg:g∉E.blkL [u]) (j:Nat) (v:Value) (hj:j < E.k) (hc:E.cells u=(E.cells (xs.getD i default)).set j v) :
  RowZ E T lo z (w.setCell ⟨g,i*E.k+j,none⟩ v) (.slice (some ⟨g,0,none⟩) xs.length cap) (xs.set i u):=by
 have hgx:g∉E.blkL xs:=h.apart g rfl
 have hsub:∀b,b∈E.blkL (xs.set i u)→b∈E.blkL xs∨b∈E.blkL [u]:=fun b hb=>by
  obtain ⟨x,hx,hbx⟩:=List.mem_flatMap.1 hb
  rcases List.mem_or_eq_of_mem_set hx with h1|h1
  ·exact .inl (List.mem_flatMap.2 ⟨x,h1,hbx⟩)
  ·subst h1;exact .inr (by rw [Elt.blkL_one];exact hbx)
 have hno:g∉E.blkL (xs.set i u):=fun hb=>(hsub g hb).elim hgx hg
 have hs0:SitZ E lo z w (xs.set i u):=⟨fun x hx=>by
  rcases List.mem_or_eq_of_mem_set hx with h1|h1
  ·exact h.sit.at_ x h1
  ·subst h1;exact hu.at_ x (List.mem_singleton.2 rfl),fun b hb=>(hsub b hb).elim (h.sit.bd b) (hu.bd b),fun b hb=>(hsub b hb).elim (h.sit.out b) (hu.out b)⟩
 refine ⟨?_,hs0.put hno v,fun k hk hx=>?_,h.zap⟩
 ·have:=(World.ownsRow.stored h.row (i*E.k+j) v).1
  rw [List.length_set,cellsL_set E xs u j v hi hj hc]
  exact this
 ·have e:g=k:=by simpa [Value.ownBlock] using hk
  subst e
  exact hno hx
end
section
variable {α:Type} [Inhabited α] {E:Elt α} {T:TypeId} {lo n cap i:Nat} {B:Option Addr} {z:Value} {w:World} {xs ks done:List α}
theorem RowZ.elt (h:RowZ E T lo z w (.slice B n cap) xs) (hi:i < xs.length):∃g,B=some ⟨g,0,none⟩∧lo≤g∧g < w.heap.size∧n=xs.length∧∀j u,(E.cells (xs.getD i default))[j]?=some u→w.cell? ⟨g,i*E.k+j,none⟩=some u:=by
 rcases h.row.2 with ⟨_,h1⟩|⟨g,cap',cur,e,hb,hg,hle,hcap,hcs,hcur⟩
 ·omega
 ·injection e with e1 e2 e3
  subst e1 e2 e3
  have hlt:=own_lt h.row g rfl
  refine ⟨g,rfl,hlt.1,hlt.2,rfl,fun j u hu=>?_⟩
  have hj:j < E.k:=by
   have:=(List.getElem?_eq_some_iff.1 hu).1
   rwa [E.len] at this
  have hlt:i*E.k+j < xs.length*E.k:=by
   have:=Nat.mul_le_mul_right E.k (show i+1≤xs.length from hi)
   rw [Nat.add_mul] at this
   omega
  rw [World.ownsRow.cellAt h.row _ hlt,E.cellsL_get xs hi hj]
  exact hu
theorem done_get (hd:done.length=i) (hi:i < ks.length):(done++ks.drop i).getD i default=ks.getD i default∧i < (done++ks.drop i).length∧(done++ks.drop i).length=ks.length∧∀u,(done++ks.drop i).set i u=(done++[u])++ks.drop (i+1):=by
 have e:ks.drop i=ks.getD i default :: ks.drop (i+1):=by
  rw [List.drop_eq_getElem_cons hi]
  simp [List.getD,hi]
 refine ⟨?_,by simp;omega,by simp;omega,fun u=>?_⟩
 ·rw [List.getD_eq_getElem?_getD,List.getElem?_append_right (by omega),e]
  simp [hd]
 ·rw [e,List.set_append_right _ _ (by omega),hd,Nat.sub_self,List.set_cons_zero,List.append_assoc]
  rfl
end
theorem getD_in {α:Type} [Inhabited α] {l:List α} {i:Nat} (h:i < l.length):l.getD i default∈l:=by
 rw [List.getD_eq_getElem?_getD,List.getElem?_eq_getElem h]
 exact List.getElem_mem h
theorem gl_cells (u v:Gl) (h:u.name=v.name) (h2:u.op=v.op):elGl.cells u=(elGl.cells v).set 2 (.slice u.at_ u.args.length u.cap):=by
 show [.int .i64 u.op,.string u.name,_]=[Value.int .i64 v.op,.string v.name,_].set 2 _
 rw [h,h2];rfl
theorem am_blk (u:Am):elAm.blkL [u]=blkA u.at_ u.args.length++blkL u.args:=by rw [Elt.blkL_one];rfl
theorem gl_blk2 (u:Gl):elGl.blkL [u]=blkA u.at_ u.args.length++blkL u.args:=by rw [Elt.blkL_one];rfl
section
variable {lo g n cap i:Nat} {z:Value} {wr w5:World} {A2:Option Addr} {c2:Nat} {k2:List Tm}
theorem num_stepG {ks done:List Gl} (row:RowZ elGl 54 lo z wr (.slice (some ⟨g,0,none⟩) n cap) (done++ks.drop i)) (hd:done.length=i) (hi:i < ks.length) (hz:∀k,z.ownBlock=some k→k < wr.heap.size) (hb:Below wr.heap.size wr w5) (hl:Lst w5 A2 k2 c2) (hbl:∀b∈blkA A2 k2.length++blkL k2,wr.heap.size≤b∧b < w5.heap.size) :
  RowZ elGl 54 lo z (w5.setCell ⟨g,i*3+2,none⟩ (.slice A2 k2.length c2)) (.slice (some ⟨g,0,none⟩) n cap) ((done++[⟨(ks.getD i default).op,(ks.getD i default).name,A2,c2,k2⟩])++ks.drop (i+1)):=by
 obtain ⟨h1,h2,h3,h4⟩:=done_get hd hi
 obtain ⟨g',e,hg1,hg2,hn,_⟩:=row.elt h2
 injection e with e
 injection e with e
 subst e hn
 have hat:=row.sit.at_ _ (getD_in h2)
 rw [h1] at hat
 rw [←h4]
 have r5:=row.below hb
 refine r5.setA h2 ⟨(ks.getD i default).op,(ks.getD i default).name,A2,c2,k2⟩ ⟨fun x hx=>?_,fun b hb2=>?_,fun b hb2=>?_⟩ (fun hx=>?_) 2 (.slice A2 k2.length c2) (by show 2 < 3;omega) (by rw [h1];exact gl_cells ⟨(ks.getD i default).op,(ks.getD i default).name,A2,c2,k2⟩ _ rfl rfl)
 ·rw [List.mem_singleton.1 hx]
  exact ⟨hat.1,hat.2.1,hl⟩
 ·rw [gl_blk2] at hb2
  exact ⟨by have:=(hbl b hb2).1;omega,(hbl b hb2).2⟩
 ·rw [gl_blk2] at hb2
  intro e
  have:=hz b e
  have:=(hbl b hb2).1
  omega
 ·rw [gl_blk2] at hx
  have:=(hbl g hx).1
  omega
end
def RuleZ (ex:Rd1 Tm) (R:Nat) (A:Option Addr) (c:Nat) (l:List Tk) (i:Nat) (w:World) (en:Ending) (w':World):Prop :=
 ∃(t:List UInt8) (kv rv gv bv:Value) (n:Nat) (b:Bool),en=.returned (.tuple #[.agg #[.string (S t),kv,rv,gv,bv,.int .i64 (n:Int)],.bool b])∧(SlV kv∧SlV rv∧SlV gv∧SlV bv) ∧
  ((b=true∧∃z' ns' j at_ m1 m2 m3 ks rs gs bs,Kp R Z0 z' w w'∧Pr w' R A c l j z' ns' at_ 0∧ruleS ex (leftT l i)=.ok ⟨t,ks.map sA,rs.map sA,gs.map sG,bs.map sG,n⟩ (leftT l j) ns'∧i < j∧t.length≤16384∧RowsZ (w.heap.size+2) m1 m2 m3 z' w' kv rv gv bv ks rs gs bs) ∨
   (b=false∧∃z' ns' j n e,Kp R Z0 z' w w'∧Pr w' R A c l j z' ns' (offT l n) e∧e≠0∧ruleS ex (leftT l i)=.err n e))
end Go.Proofs.YtaojnljppcnhjaaGreatDoor
namespace Go.Proofs.YtaojnljppcnhjaaGreatDoor
open Go.RowKit
def usA (us:List Int) (ks:List Am):List Int:=(occL (ks.flatMap Am.args)).foldl putS us
def usG (us:List Int) (ks:List Gl):List Int:=(occL (ks.flatMap Gl.args)).foldl putS us
theorem usG_next (us:List Int) {ks:List Gl} {j:Nat} (hj:j < ks.length):usG us (ks.take (j+1))=(occL (ks.getD j default).args).foldl putS (usG us (ks.take j)):=by
 have e:ks.take (j+1)=ks.take j++[ks.getD j default]:=by
  rw [List.take_add_one]
  simp [List.getD,hj]
 unfold usG
 rw [e,List.flatMap_append,occL_app,List.foldl_append]
 simp
theorem occ_len2 (l:List Tm) (h:nodesL l≤200):(occL l).length≤200∧sizeL l≤200:=by
 have h1:=occ_length.2 l
 have h2:(∀t:Tm,t.size≤t.nodes)∧(∀l,sizeL l≤nodesL l):=by
  refine Tm.induct2 (fun k n s A c a ih=>?_) (Nat.le_refl _) (fun t r h1 h2=>?_)
  ·simp only [Tm.size,Tm.nodes]
   split<;>omega
  ·simp only [sizeL,nodesL];omega
 have:=h2.2 l
 omega
theorem usG_len (us:List Int):∀(ks:List Gl),(∀x∈ks,nodesL x.args≤200)→(usG us ks).length≤us.length+ks.length*200:=fun ks h=>by
 unfold usG
 have h1:=fold_len (occL (ks.flatMap Gl.args)) us
 have h2:(occL (ks.flatMap Gl.args)).length≤ks.length*200:=by
  clear h1
  induction ks with
  | nil=>simp [occL]
  | cons x r ih =>
   rw [List.flatMap_cons,occL_app,List.length_append,List.length_cons]
   have:=(occ_len2 x.args (h x List.mem_cons_self)).1
   have:=ih (fun y hy=>h y (List.mem_cons_of_mem _ hy))
   omega
 omega
theorem flat_sA (ks:List Am):(ks.map sA).flatMap (·.2)=stripL (ks.flatMap Am.args):=by
 induction ks with
 | nil=>rfl
 | cons x r ih=>rw [List.map_cons,List.flatMap_cons,List.flatMap_cons,stripL_append,ih];rfl
theorem flat_sG (ks:List Gl):(ks.map sG).flatMap (·.2.2)=stripL (ks.flatMap Gl.args):=by
 induction ks with
 | nil=>rfl
 | cons x r ih=>rw [List.map_cons,List.flatMap_cons,List.flatMap_cons,stripL_append,ih];rfl
structure NumA (f:Int→Int) (base:Nat) (ks done:List Am) (j:Nat):Prop where
 len:done.length=j
 p:done.map sA=(ks.take j).map (fun x=>As.num2 f (sA x))
 new:∀b∈elAm.blkL done,base≤b
structure NumG (f:Int→Int) (base:Nat) (ks done:List Gl) (j:Nat):Prop where
 len:done.length=j
 p:done.map sG=(ks.take j).map (fun x=>Gs.num2 f (sG x))
 new:∀b∈elGl.blkL done,base≤b
theorem NumA.next {f:Int→Int} {base m:Nat} {ks done:List Am} {j:Nat} (h:NumA f base ks done j) (hj:j < ks.length) {A2:Option Addr} {c2:Nat} {k2:List Tm} (hp:stripL k2=numL2 f (ks.getD j default).args) (hm:base≤m) (hbl:∀b∈blkA A2 k2.length++blkL k2,m≤b):NumA f base ks (done++[⟨(ks.getD j default).name,A2,c2,k2⟩]) (j+1):=by
 refine ⟨by rw [List.length_append,h.len];rfl,?_,fun b hb=>?_⟩
 ·have e:ks.take (j+1)=ks.take j++[ks.getD j default]:=by
   rw [List.take_add_one]
   simp [List.getD,hj]
  rw [e,List.map_append,List.map_append,h.p]
  simp only [List.map_cons,List.map_nil,sA,As.num2,(num2_strip2 f).2,hp]
 ·rw [Elt.blkL_append] at hb
  rcases List.mem_append.1 hb with hb|hb
  ·exact h.new b hb
  ·rw [am_blk] at hb
   have:=hbl b hb
   omega
theorem NumG.next {f:Int→Int} {base m:Nat} {ks done:List Gl} {j:Nat} (h:NumG f base ks done j) (hj:j < ks.length) {A2:Option Addr} {c2:Nat} {k2:List Tm} (hp:stripL k2=numL2 f (ks.getD j default).args) (hm:base≤m) (hbl:∀b∈blkA A2 k2.length++blkL k2,m≤b):NumG f base ks (done++[⟨(ks.getD j default).op,(ks.getD j default).name,A2,c2,k2⟩]) (j+1):=by
 refine ⟨by rw [List.length_append,h.len];rfl,?_,fun b hb=>?_⟩
 ·have e:ks.take (j+1)=ks.take j++[ks.getD j default]:=by
   rw [List.take_add_one]
   simp [List.getD,hj]
  rw [e,List.map_append,List.map_append,h.p]
  simp only [List.map_cons,List.map_nil,sG,Gs.num2,(num2_strip2 f).2,hp]
 ·rw [Elt.blkL_append] at hb
  rcases List.mem_append.1 hb with hb|hb
  ·exact h.new b hb
  ·rw [gl_blk2] at hb
   have:=hbl b hb
   omega
structure RestZ (R:Nat) (A:Option Addr) (c:Nat) (l:List Tk) (w:World) (T base:Nat) (q:Nat) (z:Value) (ns:List (List UInt8)) (a:Nat) (V:Option Addr) (vc:Nat) (vs:List Int) (vals:List Value) (wr:World):Prop where
 k:Kp R Z0 z w wr
 p:Pr wr R A c l q z ns a 0
 zero:BoxL wr w.heap.size Zr
 box:BoxL wr T vals
 own:OwnI wr base (.slice V vs.length vc) vs
 top:base≤wr.heap.size
 zT:∀k,z.ownBlock=some k→k < T
section
variable {R:Nat} {A:Option Addr} {c:Nat} {l:List Tk} {w wr w':World} {T base q a vc:Nat} {z:Value} {ns:List (List UInt8)} {V:Option Addr} {vs:List Int} {vals:List Value}
theorem RestZ.drew (h:RestZ R A c l w T base q z ns a V vc vs vals wr):RestZ R A c l w T base q z ns a V vc vs vals wr.drew :=
 ⟨h.k.drew,h.p.drew,⟨h.zero.lt,h.zero.cells,h.zero.free⟩,⟨h.box.lt,h.box.cells,h.box.free⟩,h.own,h.top,h.zT⟩
theorem RowZ.drew {α:Type} {E:Elt α} {T0:TypeId} {lo:Nat} {r:Value} {L:List α} (h:RowZ E T0 lo z wr r L):RowZ E T0 lo z wr.drew r L:=h.frame (Nat.le_refl _) (fun _ _ _ _=>rfl) (fun _ h=>.inl h)
theorem RestZ.below (h:RestZ R A c l w T base q z ns a V vc vs vals wr) (hb:Below wr.heap.size wr w'):RestZ R A c l w T base q z ns a V vc vs vals w' :=
 ⟨h.k.trans (Below.kp hb R z),h.p.below hb,h.zero.below hb,h.box.below hb,h.own.below hb,Nat.le_trans h.top hb.size,h.zT⟩
theorem RestZ.put (h:RestZ R A c l w T base q z ns a V vc vs vals wr) {G:Nat} (h1:w.heap.size < G) (h2:G < base) (h3:G≠T) (hR:R < w.heap.size) (hz:z.ownBlock≠some G) (j:Nat) (v:Value):RestZ R A c l w T base q z ns a V vc vs vals (wr.setCell ⟨G,j,none⟩ v) :=
 ⟨h.k.put (p:=⟨G,j,none⟩) (Nat.le_of_lt h1) v,h.p.store (p:=⟨G,j,none⟩) (by show R < G;omega) hz v,h.zero.put (p:=⟨G,j,none⟩) (by show G≠w.heap.size;omega) v,h.box.put (p:=⟨G,j,none⟩) h3 v,ownsRow_setCell_below h.own h2 v,by simpa [World.setCell] using h.top,h.zT⟩
end
section
variable {R:Nat} {A:Option Addr} {c:Nat} {l:List Tk}
end
end Go.Proofs.YtaojnljppcnhjaaGreatDoor
