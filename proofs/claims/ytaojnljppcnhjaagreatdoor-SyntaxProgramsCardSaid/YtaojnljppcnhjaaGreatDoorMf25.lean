/-
  RzGoals.
  RzHeads.
  RzPartsP.
-/
import Derived.Test.YtaojnljppcnhjaaGreatDoorMf24
import Derived.Test.YtaojnljppcnhjaaGreatDoorMf19
import Derived.Deep.Onto
namespace Go.Proofs.YtaojnljppcnhjaaGreatDoor
open Go.RowKit
set_option maxHeartbeats 8000000 in
set_option maxRecDepth 100000 in
theorem goals_z {R:Nat} {A:Option Addr} {c:Nat} {l:List Tk} (hg:GoodT l) {n:Nat} {ex:Rd1 Tm} (hE:ExprZ R A c l n ex) (hSz:Sized ex) (most:Nat) (hmost:most≤100) (i:Nat) (z:Value) (ns:List (List UInt8)) (at_:Nat) (w:World) (h:Pr w R A c l i z ns at_ 0) (hn:(leftT l i).length≤n) (hns:ns.length+(leftT l i).length≤100000) :
  Calls Tryz.prog 35 #[.pointer (some ⟨R,0,none⟩),.int .i64 (most:Int)] w (ListZ elGl 54 sG (fun ts ns=>goalsS ex most [] ts ns) R A c l i z ns w):=by
 obtain ⟨i0,hi,hz0,hz1,hz2⟩:=info_parts goal_info
 have HG:=Lib.hid hg
 have hR:=h.lt
 have HNN:=Lib.hid (And.intro hn hns)
 have QE:=Lib.hid hE
 have HSz:=Lib.hid hSz
 have H0:=Lib.hid (show LoopZ elGl 54 sG (fun acc ts ns=>goalsS ex most acc ts ns) R A c l i z ns w (l.length - i) (.slice none 0 0) w i [] z ns at_ from
  ⟨Kp.refl _ _ _,h,RowZ.nil _ _ _ _ _,rfl,Nat.le_refl _,Nat.zero_le _,Nat.le_refl _,Nat.le_refl _⟩)
 clear hg hE h hn hns hSz
 go_enter Tryz.func35,Tryz.ntmps35
 go_wp2_with fail
 go_loopg [6] (l.length - i) (fun gk v wr=>∃(q:Nat) (xs:List Gl) (z1:Value) (ns1:List (List UInt8)) (a1:Nat) (x:Value),v=x∧Hid (LoopZ elGl 54 sG (fun acc ts ns=>goalsS ex most acc ts ns) R A c l i z ns w gk x wr q xs z1 ns1 a1))
 case atStart=>exact ⟨i,[],z,ns,at_,_,rfl,H0⟩
 case round =>
  clear H0
  obtain ⟨q,xs,z1,ns1,a1,x,hzx,hI⟩:=hrel
  have hzx':=hzx.symm
  clear hzx
  subst hzx'
  obtain ⟨B,zc,rfl⟩:=hI.out.row.zform
  have hqs:xs.length≤16385:=by have:=hI.out.len;have:=hI.out.p.ilt;have:=HG.out.small;omega
  have hlen:(xs.length:Int)≤16385:=by omega
  have hle2:xs.length≤9223372036854775807:=by omega
  obtain ⟨t,ht⟩:∃t,l.getD q default=t:=⟨_,rfl⟩
  obtain ⟨k,p,x⟩:=t
  have HT:=Lib.hid ht
  have HI:=Lib.hid hI.out.p.ilt
  have fa:=tok_at k (p:Int) (S x)
  have QT:=Lib.hid (r_tok_of hI.out.p ht)
  have QF:=Lib.hid (fun W (hW:Pr W R A c l q z1 ns1 a1 0)=>r_fail_at hW p 6)
  clear ht
  by_cases hm:most≤xs.length
  ·have hm1:(most:Int)≤(xs.length:Int):=by omega
   have HX:=Lib.hid hm
   clear hm
   go_wp2_with (first
    | (go_at_call 27;(with_reducible refine QT.out.mono ?_);rintro en w2 ⟨rfl,hb2⟩;have HB2:=Lib.hid hb2;have HP2:=Lib.hid (hI.out.p.below hb2);clear hb2)
    | (go_at_call 31;(with_reducible refine (QF.out _ HP2.out).mono ?_);rintro en w3 ⟨rfl,hk3,hp3⟩;have HP3:=Lib.hid hp3;have HK3:=Lib.hid ((hI.out.k.trans (Below.kp HB2.out R z1)).trans hk3);clear hk3 hp3))
   refine bodyPost_ret (v:=.tuple #[.slice none 0 0,.bool false]) (by simp [results,Tryz.results35,go_sem]) rfl ?_
   refine ⟨[],false,_,rfl,.inr ⟨rfl,rfl,z1,ns1,q,(leftT l q).length,6,HK3.out,by rw [off_here HI.out,HT.out];exact HP3.out,by decide,?_⟩⟩
   have hall:goalsS ex most [] (leftT l i) ns=goalsS ex most (xs.map sG) (leftT l q) ns1:=hI.out.all
   show goalsS ex most [] (leftT l i) ns=_
   rw [hall,goalsS,if_pos (by rw [List.length_map];exact HX.out)]
  ·have hm2:(xs.length:Int) < (most:Int):=by omega
   have HX:=Lib.hid hm
   clear hm
   go_wp2_with (go_at_call 27;(with_reducible refine QT.out.mono ?_);rintro en w2 ⟨rfl,hb2⟩;have HB2:=Lib.hid hb2;have HP2:=Lib.hid (hI.out.p.below hb2);clear hb2)
   refine (plain_z HG.out QE.out q z1 ns1 a1 _ HP2.out (by have h1:=HNN.out.1;have h2:=hI.out.iq;simp only [left_length] at h1 ⊢;omega) (by have h1:=HNN.out.2;have h2:=hI.out.nsl;simp only [left_length] at h1 h2 ⊢;omega)).mono ?_
   rintro e w3 ⟨u,b,he,ho⟩
   have he2:e=.returned (.tuple #[.agg #[.int .i64 u.op,.string u.name,.slice u.at_ u.args.length u.cap],.bool b]):=he
   clear he
   subst he2
   have hs2:wr.heap.size≤w2.heap.size:=HB2.out.size
   have hsw:w.heap.size≤wr.heap.size:=hI.out.k.size
   rcases ho with ⟨rfl,z3,ns3,j,a3,hk3,hp3,hf,hqj,hl3,hs3⟩|⟨rfl,z3,ns3,j,m,e3,hk3,hp3,he3,hf⟩
   ·have hbx:=(Below.refl w3.heap.size w3).alloc (Nat.le_refl _) (.cells #[.int .i64 u.op,.string u.name,.slice u.at_ u.args.length u.cap] 54)
    have hsz3:sizeL u.args≤1000000:=by
     have h1:=goal_sized HSz.out hf
     have h2:sizeL (stripL u.args)=sizeL u.args:=size_strip.2 _
     have h3:=HG.out.small
     simp only [sG,left_length] at h1
     omega
    obtain ⟨r,hr⟩:∃r,rightG (sG u)=r:=⟨_,rfl⟩
    have HRt:=Lib.hid hr
    have QR:=Lib.hid (ref_right_goal_at u _ (((show Gl.At w3 u from hs3.at_ u (List.mem_singleton.2 rfl))).below hbx) hsz3 ((goalB_strip u.op u.name u.args).trans hr))
    have HF:=Lib.hid (And.intro hf (And.intro hqj hl3))
    have HK3:=Lib.hid (((hI.out.k.trans (Below.kp HB2.out R z1)).trans hk3).trans (Below.kp hbx R z3))
    have HP3:=Lib.hid (hp3.below hbx)
    have HU3:=Lib.hid (BoxL.new w3 [.int .i64 u.op,.string u.name,.slice u.at_ u.args.length u.cap] 54)
    have HRow3:=Lib.hid ((((hI.out.row.below HB2.out).kp hk3 (by omega))).below hbx)
    have HS3:=Lib.hid (hs3.below hbx)
    have hs3':w2.heap.size≤w3.heap.size:=hk3.size
    have HOr:=Lib.hid (own_lt hI.out.row.row)
    clear hk3 hp3 hf hqj hl3 hs3 hbx hsz3 hr
    have HPl:=Lib.hid (show goalsS ex most (xs.map sG) (leftT l q) ns1=if rightG (sG u)=false then .err (leftT l q).length 6 else if isS [44] (leftT l j) then (if _h:(leftT l j).tail.length < (leftT l q).length then goalsS ex most (xs.map sG++[sG u]) (leftT l j).tail ns3 else .err 0 0) else .ok (xs.map sG++[sG u]) (leftT l j) ns3 by
     rw [goalsS,if_neg (by rw [List.length_map];exact HX.out),HF.out.1])
    cases r
    ·go_wp2_with (first
      | (go_at_call 41;(with_reducible refine QR.out.mono ?_);rintro en w4 ⟨rfl,hb4⟩;have HP4:=Lib.hid (HP3.out.below hb4);have HK4:=Lib.hid (HK3.out.trans (Below.kp hb4 R z3));clear hb4)
      | (go_at_call 31;(with_reducible refine (r_fail_at HP4.out p 6).mono ?_);rintro en w5 ⟨rfl,hk5,hp5⟩;have HP5:=Lib.hid hp5;have HK5:=Lib.hid (HK4.out.trans hk5);clear hk5 hp5))
     refine bodyPost_ret (v:=.tuple #[.slice none 0 0,.bool false]) (by simp [results,Tryz.results35,go_sem]) rfl ?_
     refine ⟨[],false,_,rfl,.inr ⟨rfl,rfl,z3,ns3,j,(leftT l q).length,6,HK5.out,by rw [off_here HI.out,HT.out];exact HP5.out,by decide,?_⟩⟩
     have hall:goalsS ex most [] (leftT l i) ns=goalsS ex most (xs.map sG) (leftT l q) ns1:=hI.out.all
     show goalsS ex most [] (leftT l i) ns=_
     rw [hall,HPl.out,if_pos HRt.out]
    ·obtain ⟨b,hb⟩:∃b,((l.getD j default).2.2==[44])=b:=⟨_,rfl⟩
     have HBb:=Lib.hid hb
     have HC:=Lib.hid (isS_text HG.out HP3.out.ilt [44] (by decide) hb)
     have QX:=Lib.hid (fun W (hW:Pr W R A c l j z3 ns3 a3 0)=>z_is_at HG.out hW [44] (by decide) HBb.out)
     have hmw:w.heap.size≤w2.heap.size:=by omega
     clear hb
     cases b
     ·go_wp2_with (first
      | (go_at_call 41;(with_reducible refine QR.out.mono ?_);rintro en w4 ⟨rfl,hb4⟩;have HP4:=Lib.hid (HP3.out.below hb4);have HK4:=Lib.hid (HK3.out.trans (Below.kp hb4 R z3));have HRow4:=Lib.hid (HRow3.out.below hb4);have HS4:=Lib.hid (HS3.out.below hb4);obtain ⟨d0,d1,d2,_⟩:=(HU3.out.below hb4).get3;have hs4:w3.heap.size+1≤w4.heap.size:=(by have:=hb4.size;simpa using this);clear hb4)
      | (at_builtin; refine wpList_append_lies _ rfl _ _ 33 rfl w.heap.size 54 i0 _ 3 48 Tryz.underlying33 hi hz0 hz1 hz2 rfl (by decide) (.slice B xs.length zc) xs.length (Elt.cellsL elGl xs) rfl (HRow4.out.row.alloc _) ⟨w4.heap.size, 0, none⟩ 1 1 (Elt.cells elGl u) rfl rfl (news1_of elGl w4 u _) (Elt.one elGl u) (by decide) (by unfold maxLen; omega) (by omega) (by simp; omega) _ rfl ?_; intro g cap w5 hown hg hat hglt
         have hbx := (Below.refl w4.heap.size w4).alloc (Nat.le_refl _) (.cells #[.int .i64 u.op, .string u.name, .slice u.at_ u.args.length u.cap] 54)
         have HRow5 := Lib.hid (HRow4.out.next (fun k hk => (HP4.out.zlt k hk).2) hmw (fun k hk => by have := (HOr.out k hk).2; omega) HS4.out hbx hown hg hat)
         have HK5 := Lib.hid ((HK4.out.alloc _).grown hg (fun k hk => (HOr.out k hk).1))
         have HP5 := Lib.hid ((HP4.out.below hbx).of hg.size (fun k hk hx => hg.block k hk (fun e => by rcases hx with h1 | h1; (have := (HOr.out k e.symm).1; omega); exact HRow4.out.zap k e.symm h1)))
         clear hown hg hat hglt hbx)
      | (go_at_call 47;(with_reducible refine (QX.out _ HP5.out).mono ?_);rintro en w6 ⟨rfl,hb6⟩;have HB6:=Lib.hid hb6;clear hb6))
      refine bodyPost_ret (v:=.tuple #[.slice (some ⟨g,0,none⟩) (xs.length+1) cap,.bool true]) (by simp [results,Tryz.results35,go_sem]) rfl ?_
      have hl:=HF.out.2.2
      have hl2:=hI.out.nsl
      have hiq:=hI.out.iq
      have hle:=hI.out.len
      have hqj:=HF.out.2.1
      have hj:=HP3.out.ilt
      have hsm:=HG.out.small
      refine ⟨xs++[u],true,_,rfl,.inl ⟨rfl,z3,ns3,j,a3,HK5.out.trans (Below.kp HB6.out R z3),HP5.out.below HB6.out,?_,by omega,by omega,HRow5.out.below HB6.out,by simp only [List.length_append,List.length_cons,List.length_nil];omega⟩⟩
      have hall:goalsS ex most [] (leftT l i) ns=goalsS ex most (xs.map sG) (leftT l q) ns1:=hI.out.all
      show goalsS ex most [] (leftT l i) ns=_
      rw [hall,HPl.out,if_neg (by rw [HRt.out];simp),HC.out,List.map_append]
      rfl
     ·have HN:=Lib.hid (show j+1 < l.length from good_next HG.out HP3.out.ilt (by rw [beq_iff_eq.1 HBb.out];decide))
      have QN:=Lib.hid (fun W (hW:Pr W R A c l j z3 ns3 a3 0)=>z_next_at HG.out hW (by rw [beq_iff_eq.1 HBb.out];decide))
      go_wp2_with (first
      | (go_at_call 41;(with_reducible refine QR.out.mono ?_);rintro en w4 ⟨rfl,hb4⟩;have HP4:=Lib.hid (HP3.out.below hb4);have HK4:=Lib.hid (HK3.out.trans (Below.kp hb4 R z3));have HRow4:=Lib.hid (HRow3.out.below hb4);have HS4:=Lib.hid (HS3.out.below hb4);obtain ⟨d0,d1,d2,_⟩:=(HU3.out.below hb4).get3;have hs4:w3.heap.size+1≤w4.heap.size:=(by have:=hb4.size;simpa using this);clear hb4)
      | (at_builtin; refine wpList_append_lies _ rfl _ _ 33 rfl w.heap.size 54 i0 _ 3 48 Tryz.underlying33 hi hz0 hz1 hz2 rfl (by decide) (.slice B xs.length zc) xs.length (Elt.cellsL elGl xs) rfl (HRow4.out.row.alloc _) ⟨w4.heap.size, 0, none⟩ 1 1 (Elt.cells elGl u) rfl rfl (news1_of elGl w4 u _) (Elt.one elGl u) (by decide) (by unfold maxLen; omega) (by omega) (by simp; omega) _ rfl ?_; intro g cap w5 hown hg hat hglt
         have hbx := (Below.refl w4.heap.size w4).alloc (Nat.le_refl _) (.cells #[.int .i64 u.op, .string u.name, .slice u.at_ u.args.length u.cap] 54)
         have HRow5 := Lib.hid (HRow4.out.next (fun k hk => (HP4.out.zlt k hk).2) hmw (fun k hk => by have := (HOr.out k hk).2; omega) HS4.out hbx hown hg hat)
         have HK5 := Lib.hid ((HK4.out.alloc _).grown hg (fun k hk => (HOr.out k hk).1))
         have HP5 := Lib.hid ((HP4.out.below hbx).of hg.size (fun k hk hx => hg.block k hk (fun e => by rcases hx with h1 | h1; (have := (HOr.out k e.symm).1; omega); exact HRow4.out.zap k e.symm h1)))
         clear hown hg hat hglt hbx)
      | (go_at_call 47;(with_reducible refine (QX.out _ HP5.out).mono ?_);rintro en w6 ⟨rfl,hb6⟩;have HB6:=Lib.hid hb6;have HP6:=Lib.hid (HP5.out.below hb6);clear hb6)
      | (go_at_call 48;(with_reducible refine (QN.out _ HP6.out).mono ?_);rintro en w7 ⟨rfl,hk7,hp7⟩;have HK7:=Lib.hid hk7;have HP7:=Lib.hid hp7;clear hk7 hp7))
      have HN2:=Lib.hid (show LoopZ elGl 54 sG (fun acc ts ns=>goalsS ex most acc ts ns) R A c l i z ns w (gk - 1) (.slice (some ⟨g,0,none⟩) (xs.length+1) cap) w7 (j+1) (xs++[u]) z3 ns3 a3 by
       have hl:=HF.out.2.2
       have hl2:=hI.out.nsl
       have hiq:=hI.out.iq
       have hle:=hI.out.len
       have hqj:=HF.out.2.1
       have hj:=HN.out
       have hgk:=hI.out.gk_
       refine ⟨(HK5.out.trans (Below.kp HB6.out R z3)).trans HK7.out,HP7.out,(HRow5.out.below HB6.out).kp HK7.out hR,?_,by omega,by simp only [List.length_append,List.length_cons,List.length_nil];omega,by simp only [left_length] at hl hl2 ⊢;omega,by omega⟩
       have hall:goalsS ex most [] (leftT l i) ns=goalsS ex most (xs.map sG) (leftT l q) ns1:=hI.out.all
       show goalsS ex most [] (leftT l i) ns=_
       rw [hall,HPl.out,if_neg (by rw [HRt.out];simp),HC.out,if_pos rfl,dif_pos (by simp only [left_tail,left_length];omega),left_tail,List.map_append]
       rfl)
      have HGk:=Lib.hid (show gk - 1 < gk by have:=HN.out;have:=hI.out.gk_;have:=HF.out.2.1;omega)
      go_wp2_with fail
      go_roundg (gk - 1)
      case measure=>exact HGk.out
      case rel=>exact ⟨j+1,xs++[u],z3,ns3,a3,_,rfl,HN2⟩
   ·have HF:=Lib.hid (And.intro hf he3)
    have HP3:=Lib.hid (hp3.alloc (.cells #[.int .i64 u.op,.string u.name,.slice u.at_ u.args.length u.cap] 54))
    have HK3:=Lib.hid (((hI.out.k.trans (Below.kp HB2.out R z1)).trans hk3).alloc (.cells #[.int .i64 u.op,.string u.name,.slice u.at_ u.args.length u.cap] 54))
    clear hk3 hp3 hf he3
    go_wp2_with fail
    refine bodyPost_ret (v:=.tuple #[.slice none 0 0,.bool false]) (by simp [results,Tryz.results35,go_sem]) rfl ?_
    refine ⟨[],false,_,rfl,.inr ⟨rfl,rfl,z3,ns3,j,m,e3,HK3.out,HP3.out,HF.out.2,?_⟩⟩
    have hall:goalsS ex most [] (leftT l i) ns=goalsS ex most (xs.map sG) (leftT l q) ns1:=hI.out.all
    show goalsS ex most [] (leftT l i) ns=_
    rw [hall,goalsS,if_neg (by rw [List.length_map];exact HX.out),HF.out.1]
end Go.Proofs.YtaojnljppcnhjaaGreatDoor
namespace Go.Proofs.YtaojnljppcnhjaaGreatDoor
open Go.RowKit
set_option maxHeartbeats 8000000 in
set_option maxRecDepth 100000 in
theorem heads_z {R:Nat} {A:Option Addr} {c:Nat} {l:List Tk} (hg:GoodT l) {n:Nat} {ex:Rd1 Tm} (hE:ExprZ R A c l n ex) (hSz:Sized ex) (before:Nat) (hmost:before≤100) (i:Nat) (z:Value) (ns:List (List UInt8)) (at_:Nat) (w:World) (h:Pr w R A c l i z ns at_ 0) (hn:(leftT l i).length≤n) (hns:ns.length+(leftT l i).length≤100000) :
  Calls Tryz.prog 78 #[.pointer (some ⟨R,0,none⟩),.int .i64 (before:Int)] w (ListZ elAm 92 sA (fun ts ns=>headsS ex before [] ts ns) R A c l i z ns w):=by
 obtain ⟨i0,hi,hz0,hz1,hz2⟩:=info_parts atom_info
 have HG:=Lib.hid hg
 have hR:=h.lt
 have HNN:=Lib.hid (And.intro hn hns)
 have QE:=Lib.hid hE
 have HSz:=Lib.hid hSz
 have H0:=Lib.hid (show LoopZ elAm 92 sA (fun acc ts ns=>headsS ex before acc ts ns) R A c l i z ns w (l.length - i) (.slice none 0 0) w i [] z ns at_ from
  ⟨Kp.refl _ _ _,h,RowZ.nil _ _ _ _ _,rfl,Nat.le_refl _,Nat.zero_le _,Nat.le_refl _,Nat.le_refl _⟩)
 clear hg hE h hn hns hSz
 go_enter Tryz.func78,Tryz.ntmps78
 go_wp2_with fail
 go_loopg [6] (l.length - i) (fun gk v wr=>∃(q:Nat) (xs:List Am) (z1:Value) (ns1:List (List UInt8)) (a1:Nat) (x:Value),v=x∧Hid (LoopZ elAm 92 sA (fun acc ts ns=>headsS ex before acc ts ns) R A c l i z ns w gk x wr q xs z1 ns1 a1))
 case atStart=>exact ⟨i,[],z,ns,at_,_,rfl,H0⟩
 case round =>
  clear H0
  obtain ⟨q,xs,z1,ns1,a1,x,hzx,hI⟩:=hrel
  have hzx':=hzx.symm
  clear hzx
  subst hzx'
  obtain ⟨B,zc,rfl⟩:=hI.out.row.zform
  have hqs:xs.length≤16385:=by have:=hI.out.len;have:=hI.out.p.ilt;have:=HG.out.small;omega
  have hlen:(xs.length:Int)≤16385:=by omega
  have hle2:xs.length≤9223372036854775807:=by omega
  obtain ⟨t,ht⟩:∃t,l.getD q default=t:=⟨_,rfl⟩
  obtain ⟨k,p,x⟩:=t
  have HT:=Lib.hid ht
  have HI:=Lib.hid hI.out.p.ilt
  have fa:=tok_at k (p:Int) (S x)
  have QT:=Lib.hid (r_tok_of hI.out.p ht)
  have QF:=Lib.hid (fun W (hW:Pr W R A c l q z1 ns1 a1 0)=>r_fail_at hW p 6)
  clear ht
  by_cases hm:4≤before+xs.length
  ·have hm1:(4:Int)≤(before:Int)+(xs.length:Int):=by omega
   have HX:=Lib.hid hm
   clear hm
   go_wp2_with (first
    | (go_at_call 27;(with_reducible refine QT.out.mono ?_);rintro en w2 ⟨rfl,hb2⟩;have HB2:=Lib.hid hb2;have HP2:=Lib.hid (hI.out.p.below hb2);clear hb2)
    | (go_at_call 31;(with_reducible refine (QF.out _ HP2.out).mono ?_);rintro en w3 ⟨rfl,hk3,hp3⟩;have HP3:=Lib.hid hp3;have HK3:=Lib.hid ((hI.out.k.trans (Below.kp HB2.out R z1)).trans hk3);clear hk3 hp3))
   refine bodyPost_ret (v:=.tuple #[.slice none 0 0,.bool false]) (by simp [results,Tryz.results78,go_sem]) rfl ?_
   refine ⟨[],false,_,rfl,.inr ⟨rfl,rfl,z1,ns1,q,(leftT l q).length,6,HK3.out,by rw [off_here HI.out,HT.out];exact HP3.out,by decide,?_⟩⟩
   have hall:headsS ex before [] (leftT l i) ns=headsS ex before (xs.map sA) (leftT l q) ns1:=hI.out.all
   show headsS ex before [] (leftT l i) ns=_
   rw [hall,headsS,if_pos (by rw [List.length_map];exact HX.out)]
  ·have hm2:(before:Int)+(xs.length:Int) < 4:=by omega
   have HX:=Lib.hid hm
   clear hm
   go_wp2_with (go_at_call 27;(with_reducible refine QT.out.mono ?_);rintro en w2 ⟨rfl,hb2⟩;have HB2:=Lib.hid hb2;have HP2:=Lib.hid (hI.out.p.below hb2);clear hb2)
   refine (atom_z HG.out QE.out q z1 ns1 a1 _ HP2.out (by have h1:=HNN.out.1;have h2:=hI.out.iq;simp only [left_length] at h1 ⊢;omega) (by have h1:=HNN.out.2;have h2:=hI.out.nsl;simp only [left_length] at h1 h2 ⊢;omega)).mono ?_
   rintro e w3 ⟨u,b,he,ho⟩
   have he2:e=.returned (.tuple #[.agg #[.string u.name,.slice u.at_ u.args.length u.cap],.bool b]):=he
   clear he
   subst he2
   have hs2:wr.heap.size≤w2.heap.size:=HB2.out.size
   have hsw:w.heap.size≤wr.heap.size:=hI.out.k.size
   rcases ho with ⟨rfl,z3,ns3,j,a3,hk3,hp3,hf,hqj,hl3,hs3⟩|⟨rfl,z3,ns3,j,m,e3,hk3,hp3,he3,hf⟩
   ·have hbx:=(Below.refl w3.heap.size w3).alloc (Nat.le_refl _) (.cells #[.string u.name,.slice u.at_ u.args.length u.cap] 92)
    have hsz3:sizeL u.args≤1000000:=by
     have h1:=atom_sized HSz.out hf
     have h2:sizeL (stripL u.args)=sizeL u.args:=size_strip.2 _
     have h3:=HG.out.small
     simp only [sA,left_length] at h1
     omega
    obtain ⟨r,hr⟩:∃r,rightA (sA u).1 (sA u).2=r:=⟨_,rfl⟩
    have HRt:=Lib.hid hr
    have QR:=Lib.hid (ref_right_atom_at u _ (((show Am.At w3 u from (hs3.at_ u (List.mem_singleton.2 rfl)).1)).below hbx) hsz3 ((atomB_strip u.name u.args).trans hr))
    have HF:=Lib.hid (And.intro hf (And.intro hqj hl3))
    have HK3:=Lib.hid (((hI.out.k.trans (Below.kp HB2.out R z1)).trans hk3).trans (Below.kp hbx R z3))
    have HP3:=Lib.hid (hp3.below hbx)
    have HU3:=Lib.hid (BoxL.new w3 [.string u.name,.slice u.at_ u.args.length u.cap] 92)
    have HRow3:=Lib.hid ((((hI.out.row.below HB2.out).kp hk3 (by omega))).below hbx)
    have HS3:=Lib.hid (hs3.below hbx)
    have hs3':w2.heap.size≤w3.heap.size:=hk3.size
    have HOr:=Lib.hid (own_lt hI.out.row.row)
    clear hk3 hp3 hf hqj hl3 hs3 hbx hsz3 hr
    have HPl:=Lib.hid (show headsS ex before (xs.map sA) (leftT l q) ns1=if rightA (sA u).1 (sA u).2=false then .err (leftT l q).length 6 else if isS [44] (leftT l j) then (if _h:(leftT l j).tail.length < (leftT l q).length then headsS ex before (xs.map sA++[sA u]) (leftT l j).tail ns3 else .err 0 0) else .ok (xs.map sA++[sA u]) (leftT l j) ns3 by
     rw [headsS,if_neg (by rw [List.length_map];exact HX.out),HF.out.1])
    cases r
    ·go_wp2_with (first
      | (go_at_call 39;(with_reducible refine QR.out.mono ?_);rintro en w4 ⟨rfl,hb4⟩;have HP4:=Lib.hid (HP3.out.below hb4);have HK4:=Lib.hid (HK3.out.trans (Below.kp hb4 R z3));clear hb4)
      | (go_at_call 31;(with_reducible refine (r_fail_at HP4.out p 6).mono ?_);rintro en w5 ⟨rfl,hk5,hp5⟩;have HP5:=Lib.hid hp5;have HK5:=Lib.hid (HK4.out.trans hk5);clear hk5 hp5))
     refine bodyPost_ret (v:=.tuple #[.slice none 0 0,.bool false]) (by simp [results,Tryz.results78,go_sem]) rfl ?_
     refine ⟨[],false,_,rfl,.inr ⟨rfl,rfl,z3,ns3,j,(leftT l q).length,6,HK5.out,by rw [off_here HI.out,HT.out];exact HP5.out,by decide,?_⟩⟩
     have hall:headsS ex before [] (leftT l i) ns=headsS ex before (xs.map sA) (leftT l q) ns1:=hI.out.all
     show headsS ex before [] (leftT l i) ns=_
     rw [hall,HPl.out,if_pos HRt.out]
    ·obtain ⟨b,hb⟩:∃b,((l.getD j default).2.2==[44])=b:=⟨_,rfl⟩
     have HBb:=Lib.hid hb
     have HC:=Lib.hid (isS_text HG.out HP3.out.ilt [44] (by decide) hb)
     have QX:=Lib.hid (fun W (hW:Pr W R A c l j z3 ns3 a3 0)=>z_is_at HG.out hW [44] (by decide) HBb.out)
     have hmw:w.heap.size≤w2.heap.size:=by omega
     clear hb
     cases b
     ·go_wp2_with (first
      | (go_at_call 39;(with_reducible refine QR.out.mono ?_);rintro en w4 ⟨rfl,hb4⟩;have HP4:=Lib.hid (HP3.out.below hb4);have HK4:=Lib.hid (HK3.out.trans (Below.kp hb4 R z3));have HRow4:=Lib.hid (HRow3.out.below hb4);have HS4:=Lib.hid (HS3.out.below hb4);obtain ⟨d0,d1,_⟩:=(HU3.out.below hb4).get2;have hs4:w3.heap.size+1≤w4.heap.size:=(by have:=hb4.size;simpa using this);clear hb4)
      | (at_builtin; refine wpList_append_lies _ rfl _ _ 32 rfl w.heap.size 92 i0 _ 2 40 Tryz.underlying32 hi hz0 hz1 hz2 rfl (by decide) (.slice B xs.length zc) xs.length (Elt.cellsL elAm xs) rfl (HRow4.out.row.alloc _) ⟨w4.heap.size, 0, none⟩ 1 1 (Elt.cells elAm u) rfl rfl (news1_of elAm w4 u _) (Elt.one elAm u) (by decide) (by unfold maxLen; omega) (by omega) (by simp; omega) _ rfl ?_; intro g cap w5 hown hg hat hglt
         have hbx := (Below.refl w4.heap.size w4).alloc (Nat.le_refl _) (.cells #[.string u.name, .slice u.at_ u.args.length u.cap] 92)
         have HRow5 := Lib.hid (HRow4.out.next (fun k hk => (HP4.out.zlt k hk).2) hmw (fun k hk => by have := (HOr.out k hk).2; omega) HS4.out hbx hown hg hat)
         have HK5 := Lib.hid ((HK4.out.alloc _).grown hg (fun k hk => (HOr.out k hk).1))
         have HP5 := Lib.hid ((HP4.out.below hbx).of hg.size (fun k hk hx => hg.block k hk (fun e => by rcases hx with h1 | h1; (have := (HOr.out k e.symm).1; omega); exact HRow4.out.zap k e.symm h1)))
         clear hown hg hat hglt hbx)
      | (go_at_call 47;(with_reducible refine (QX.out _ HP5.out).mono ?_);rintro en w6 ⟨rfl,hb6⟩;have HB6:=Lib.hid hb6;clear hb6))
      refine bodyPost_ret (v:=.tuple #[.slice (some ⟨g,0,none⟩) (xs.length+1) cap,.bool true]) (by simp [results,Tryz.results78,go_sem]) rfl ?_
      have hl:=HF.out.2.2
      have hl2:=hI.out.nsl
      have hiq:=hI.out.iq
      have hle:=hI.out.len
      have hqj:=HF.out.2.1
      have hj:=HP3.out.ilt
      have hsm:=HG.out.small
      refine ⟨xs++[u],true,_,rfl,.inl ⟨rfl,z3,ns3,j,a3,HK5.out.trans (Below.kp HB6.out R z3),HP5.out.below HB6.out,?_,by omega,by omega,HRow5.out.below HB6.out,by simp only [List.length_append,List.length_cons,List.length_nil];omega⟩⟩
      have hall:headsS ex before [] (leftT l i) ns=headsS ex before (xs.map sA) (leftT l q) ns1:=hI.out.all
      show headsS ex before [] (leftT l i) ns=_
      rw [hall,HPl.out,if_neg (by rw [HRt.out];simp),HC.out,List.map_append]
      rfl
     ·have HN:=Lib.hid (show j+1 < l.length from good_next HG.out HP3.out.ilt (by rw [beq_iff_eq.1 HBb.out];decide))
      have QN:=Lib.hid (fun W (hW:Pr W R A c l j z3 ns3 a3 0)=>z_next_at HG.out hW (by rw [beq_iff_eq.1 HBb.out];decide))
      go_wp2_with (first
      | (go_at_call 39;(with_reducible refine QR.out.mono ?_);rintro en w4 ⟨rfl,hb4⟩;have HP4:=Lib.hid (HP3.out.below hb4);have HK4:=Lib.hid (HK3.out.trans (Below.kp hb4 R z3));have HRow4:=Lib.hid (HRow3.out.below hb4);have HS4:=Lib.hid (HS3.out.below hb4);obtain ⟨d0,d1,_⟩:=(HU3.out.below hb4).get2;have hs4:w3.heap.size+1≤w4.heap.size:=(by have:=hb4.size;simpa using this);clear hb4)
      | (at_builtin; refine wpList_append_lies _ rfl _ _ 32 rfl w.heap.size 92 i0 _ 2 40 Tryz.underlying32 hi hz0 hz1 hz2 rfl (by decide) (.slice B xs.length zc) xs.length (Elt.cellsL elAm xs) rfl (HRow4.out.row.alloc _) ⟨w4.heap.size, 0, none⟩ 1 1 (Elt.cells elAm u) rfl rfl (news1_of elAm w4 u _) (Elt.one elAm u) (by decide) (by unfold maxLen; omega) (by omega) (by simp; omega) _ rfl ?_; intro g cap w5 hown hg hat hglt
         have hbx := (Below.refl w4.heap.size w4).alloc (Nat.le_refl _) (.cells #[.string u.name, .slice u.at_ u.args.length u.cap] 92)
         have HRow5 := Lib.hid (HRow4.out.next (fun k hk => (HP4.out.zlt k hk).2) hmw (fun k hk => by have := (HOr.out k hk).2; omega) HS4.out hbx hown hg hat)
         have HK5 := Lib.hid ((HK4.out.alloc _).grown hg (fun k hk => (HOr.out k hk).1))
         have HP5 := Lib.hid ((HP4.out.below hbx).of hg.size (fun k hk hx => hg.block k hk (fun e => by rcases hx with h1 | h1; (have := (HOr.out k e.symm).1; omega); exact HRow4.out.zap k e.symm h1)))
         clear hown hg hat hglt hbx)
      | (go_at_call 47;(with_reducible refine (QX.out _ HP5.out).mono ?_);rintro en w6 ⟨rfl,hb6⟩;have HB6:=Lib.hid hb6;have HP6:=Lib.hid (HP5.out.below hb6);clear hb6)
      | (go_at_call 48;(with_reducible refine (QN.out _ HP6.out).mono ?_);rintro en w7 ⟨rfl,hk7,hp7⟩;have HK7:=Lib.hid hk7;have HP7:=Lib.hid hp7;clear hk7 hp7))
      have HN2:=Lib.hid (show LoopZ elAm 92 sA (fun acc ts ns=>headsS ex before acc ts ns) R A c l i z ns w (gk - 1) (.slice (some ⟨g,0,none⟩) (xs.length+1) cap) w7 (j+1) (xs++[u]) z3 ns3 a3 by
       have hl:=HF.out.2.2
       have hl2:=hI.out.nsl
       have hiq:=hI.out.iq
       have hle:=hI.out.len
       have hqj:=HF.out.2.1
       have hj:=HN.out
       have hgk:=hI.out.gk_
       refine ⟨(HK5.out.trans (Below.kp HB6.out R z3)).trans HK7.out,HP7.out,(HRow5.out.below HB6.out).kp HK7.out hR,?_,by omega,by simp only [List.length_append,List.length_cons,List.length_nil];omega,by simp only [left_length] at hl hl2 ⊢;omega,by omega⟩
       have hall:headsS ex before [] (leftT l i) ns=headsS ex before (xs.map sA) (leftT l q) ns1:=hI.out.all
       show headsS ex before [] (leftT l i) ns=_
       rw [hall,HPl.out,if_neg (by rw [HRt.out];simp),HC.out,if_pos rfl,dif_pos (by simp only [left_tail,left_length];omega),left_tail,List.map_append]
       rfl)
      have HGk:=Lib.hid (show gk - 1 < gk by have:=HN.out;have:=hI.out.gk_;have:=HF.out.2.1;omega)
      go_wp2_with fail
      go_roundg (gk - 1)
      case measure=>exact HGk.out
      case rel=>exact ⟨j+1,xs++[u],z3,ns3,a3,_,rfl,HN2⟩
   ·have HF:=Lib.hid (And.intro hf he3)
    have HP3:=Lib.hid (hp3.alloc (.cells #[.string u.name,.slice u.at_ u.args.length u.cap] 92))
    have HK3:=Lib.hid (((hI.out.k.trans (Below.kp HB2.out R z1)).trans hk3).alloc (.cells #[.string u.name,.slice u.at_ u.args.length u.cap] 92))
    clear hk3 hp3 hf he3
    go_wp2_with fail
    refine bodyPost_ret (v:=.tuple #[.slice none 0 0,.bool false]) (by simp [results,Tryz.results78,go_sem]) rfl ?_
    refine ⟨[],false,_,rfl,.inr ⟨rfl,rfl,z3,ns3,j,m,e3,HK3.out,HP3.out,HF.out.2,?_⟩⟩
    have hall:headsS ex before [] (leftT l i) ns=headsS ex before (xs.map sA) (leftT l q) ns1:=hI.out.all
    show headsS ex before [] (leftT l i) ns=_
    rw [hall,headsS,if_neg (by rw [List.length_map];exact HX.out),HF.out.1]
end Go.Proofs.YtaojnljppcnhjaaGreatDoor
namespace Go.Proofs.YtaojnljppcnhjaaGreatDoor
open Go.RowKit
theorem RowZ.low {α:Type} {E:Elt α} {T:TypeId} {lo lo':Nat} {z:Value} {w:World} {r:Value} {l:List α} (h:RowZ E T lo z w r l) (hl:lo'≤lo):RowZ E T lo' z w r l:=⟨h.row.mono hl,h.sit.low hl,h.apart,h.zap⟩
theorem RowZ.lt {α:Type} {E:Elt α} {T:TypeId} {lo:Nat} {z:Value} {w:World} {r:Value} {l:List α} (h:RowZ E T lo z w r l):∀k,r.ownBlock=some k→lo≤k∧k < w.heap.size:=own_lt h.row
theorem RowZ.put {α:Type} {E:Elt α} {T:TypeId} {lo:Nat} {z:Value} {w:World} {r:Value} {l:List α} (h:RowZ E T lo z w r l) {p:Addr} (hp:p.block < lo) (v:Value):RowZ E T lo z (w.setCell p v) r l :=
 h.frame (by simp [World.setCell]) (fun b h1 _ _=>Below.heap_setCell _ _ _ _ (by omega)) (fun _ h=>.inl h)
structure RowsZ (lo m1 m2 m3:Nat) (z:Value) (w:World) (kv rv gv bv:Value) (ks rs:List Am) (gs bs:List Gl):Prop where
 k:RowZ elAm 92 lo z w kv ks
 r:RowZ elAm 92 m1 z w rv rs
 g:RowZ elGl 54 m2 z w gv gs
 b:RowZ elGl 54 m3 z w bv bs
 l1:lo≤m1∧m1≤m2∧m2≤m3
 k1:∀k,kv.ownBlock=some k→k < m1
 r1:∀k,rv.ownBlock=some k→k < m2
 g1:∀k,gv.ownBlock=some k→k < m3
section
variable {lo m1 m2 m3 R:Nat} {z z':Value} {w w':World} {kv rv gv bv:Value} {ks rs:List Am} {gs bs:List Gl}
theorem RowsZ.kp (h:RowsZ lo m1 m2 m3 z w kv rv gv bv ks rs gs bs) (k:Kp R z z' w w') (hR:R < lo):RowsZ lo m1 m2 m3 z' w' kv rv gv bv ks rs gs bs :=
 ⟨h.k.kp k hR,h.r.kp k (by have:=h.l1;omega),h.g.kp k (by have:=h.l1;omega),h.b.kp k (by have:=h.l1;omega),h.l1,h.k1,h.r1,h.g1⟩
theorem RowsZ.below (h:RowsZ lo m1 m2 m3 z w kv rv gv bv ks rs gs bs) (hb:Below w.heap.size w w'):RowsZ lo m1 m2 m3 z w' kv rv gv bv ks rs gs bs :=
 ⟨h.k.below hb,h.r.below hb,h.g.below hb,h.b.below hb,h.l1,h.k1,h.r1,h.g1⟩
theorem RowsZ.put (h:RowsZ lo m1 m2 m3 z w kv rv gv bv ks rs gs bs) {p:Addr} (hp:p.block < lo) (v:Value):RowsZ lo m1 m2 m3 z (w.setCell p v) kv rv gv bv ks rs gs bs :=
 ⟨h.k.put hp v,h.r.put (by have:=h.l1;omega) v,h.g.put (by have:=h.l1;omega) v,h.b.put (by have:=h.l1;omega) v,h.l1,h.k1,h.r1,h.g1⟩
end
abbrev Zr:List Value:=[.string ⟨#[]⟩,.slice none 0 0,.slice none 0 0,.slice none 0 0,.slice none 0 0,.int .i64 0]
structure PbZ (R:Nat) (A:Option Addr) (c:Nat) (l:List Tk) (z0:Value) (w:World) (W:World) (q:Nat) (z:Value) (ns:List (List UInt8)) (a:Nat) (er:Int) (v0 v1 v2 v3 v4:Value):Prop where
 k:Kp R z0 z w W
 p:Pr W R A c l q z ns a er
 zero:BoxL W w.heap.size Zr
 box:BoxL W (w.heap.size+1) [v0,v1,v2,v3,v4,.int .i64 0]
 zw:z.ownBlock≠some w.heap.size
 zb:z.ownBlock≠some (w.heap.size+1)
section
variable {R:Nat} {A:Option Addr} {c:Nat} {l:List Tk} {z0 z z':Value} {w W W':World} {q j:Nat} {ns ns':List (List UInt8)} {a a':Nat} {er er':Int} {v0 v1 v2 v3 v4:Value}
theorem PbZ.below (h:PbZ R A c l z0 w W q z ns a er v0 v1 v2 v3 v4) (hb:Below W.heap.size W W'):PbZ R A c l z0 w W' q z ns a er v0 v1 v2 v3 v4 :=
 ⟨h.k.trans (Below.kp hb R z),h.p.below hb,h.zero.below hb,h.box.below hb,h.zw,h.zb⟩
theorem BoxL.drewN {w:World} {T:Nat} {vs:List Value} (h:BoxL w T vs) (n:Nat):BoxL (w.drewN n) T vs:=⟨h.lt,h.cells,h.free⟩
theorem PbZ.drewN (h:PbZ R A c l z0 w W q z ns a er v0 v1 v2 v3 v4) (n:Nat):PbZ R A c l z0 w (W.drewN n) q z ns a er v0 v1 v2 v3 v4 :=
 ⟨h.k.drewN n,h.p.drewN n,h.zero.drewN n,h.box.drewN n,h.zw,h.zb⟩
theorem PbZ.call (h:PbZ R A c l z0 w W q z ns a er v0 v1 v2 v3 v4) (hR:R < w.heap.size) (hk:Kp R z z' W W') (hp:Pr W' R A c l j z' ns' a' er'):PbZ R A c l z0 w W' j z' ns' a' er' v0 v1 v2 v3 v4 :=
 ⟨h.k.trans hk,hp,h.zero.kz hk (by omega) h.zw,h.box.kz hk (by omega) h.zb,hk.off h.zero.lt h.zw,hk.off h.box.lt h.zb⟩
theorem PbZ.set (h:PbZ R A c l z0 w W q z ns a er v0 v1 v2 v3 v4) (hR:R < w.heap.size) {k:Nat} (hk:k < 5) (v:Value) {u0 u1 u2 u3 u4:Value} (he:[v0,v1,v2,v3,v4,.int .i64 0].set k v=[u0,u1,u2,u3,u4,.int .i64 0]):PbZ R A c l z0 w (W.setCell ⟨w.heap.size+1,k,none⟩ v) q z ns a er u0 u1 u2 u3 u4 :=
 ⟨h.k.put (p:=⟨w.heap.size+1,k,none⟩) (Nat.le_succ _) v,h.p.store (p:=⟨w.heap.size+1,k,none⟩) (by show R < w.heap.size+1;omega) h.zb v,h.zero.put (p:=⟨w.heap.size+1,k,none⟩) (by show w.heap.size+1≠w.heap.size;omega) v,he ▸ h.box.set (j:=k) (by simp;omega) v,h.zw,h.zb⟩
theorem PbZ.end_ (h:PbZ R A c l z0 w W q z ns a er v0 v1 v2 v3 v4) (hR:R < w.heap.size) (u0 u1 u2 u3 u4 u5:Value):Kp R z0 z w (sets6 W w.heap.size u0 u1 u2 u3 u4 u5)∧Pr (sets6 W w.heap.size u0 u1 u2 u3 u4 u5) R A c l q z ns a er :=
 ⟨(((((h.k.put (p:=⟨w.heap.size,0,none⟩) (Nat.le_refl _) _).put (p:=⟨w.heap.size,1,none⟩) (Nat.le_refl _) _).put (p:=⟨w.heap.size,2,none⟩) (Nat.le_refl _) _).put (p:=⟨w.heap.size,3,none⟩) (Nat.le_refl _) _).put (p:=⟨w.heap.size,4,none⟩) (Nat.le_refl _) _).put (p:=⟨w.heap.size,5,none⟩) (Nat.le_refl _) _,
  (((((h.p.store (p:=⟨w.heap.size,0,none⟩) hR h.zw _).store (p:=⟨w.heap.size,1,none⟩) hR h.zw _).store (p:=⟨w.heap.size,2,none⟩) hR h.zw _).store (p:=⟨w.heap.size,3,none⟩) hR h.zw _).store (p:=⟨w.heap.size,4,none⟩) hR h.zw _).store (p:=⟨w.heap.size,5,none⟩) hR h.zw _⟩
theorem RowsZ.end_ {lo m1 m2 m3 T:Nat} {kv rv gv bv:Value} {ks rs:List Am} {gs bs:List Gl} (h:RowsZ lo m1 m2 m3 z W kv rv gv bv ks rs gs bs) (hT:T < lo) (u0 u1 u2 u3 u4 u5:Value):RowsZ lo m1 m2 m3 z (sets6 W T u0 u1 u2 u3 u4 u5) kv rv gv bv ks rs gs bs :=
 (((((h.put (p:=⟨T,0,none⟩) hT _).put (p:=⟨T,1,none⟩) hT _).put (p:=⟨T,2,none⟩) hT _).put (p:=⟨T,3,none⟩) hT _).put (p:=⟨T,4,none⟩) hT _).put (p:=⟨T,5,none⟩) hT _
def SlV (v:Value):Prop:=∃A n c,v=.slice A n c
theorem sl4 {a b c d:Option Addr} {a1 a2 b1 b2 c1 c2 d1 d2:Nat}:SlV (.slice a a1 a2)∧SlV (.slice b b1 b2)∧SlV (.slice c c1 c2)∧SlV (.slice d d1 d2):=⟨⟨_,_,_,rfl⟩,⟨_,_,_,rfl⟩,⟨_,_,_,rfl⟩,⟨_,_,_,rfl⟩⟩
def PartsZ (f:Rd1 Rs) (R:Nat) (A:Option Addr) (c:Nat) (l:List Tk) (i:Nat) (z:Value) (ns:List (List UInt8)) (w:World) (en:Ending) (w':World):Prop :=
 ∃(t:List UInt8) (kv rv gv bv:Value) (b:Bool),en=.returned (.tuple #[.agg #[.string (S t),kv,rv,gv,bv,.int .i64 0],.bool b])∧(SlV kv∧SlV rv∧SlV gv∧SlV bv) ∧
  ((b=true∧∃z' ns' j at_ m1 m2 m3 ks rs gs bs,Kp R z z' w w'∧Pr w' R A c l j z' ns' at_ 0∧f (leftT l i) ns=.ok ⟨t,ks.map sA,rs.map sA,gs.map sG,bs.map sG,0⟩ (leftT l j) ns'∧i < j∧ns'.length+(leftT l j).length≤ns.length+(leftT l i).length∧t.length≤16384∧RowsZ (w.heap.size+2) m1 m2 m3 z' w' kv rv gv bv ks rs gs bs) ∨
   (b=false∧∃z' ns' j n e,Kp R z z' w w'∧Pr w' R A c l j z' ns' (offT l n) e∧e≠0∧f (leftT l i) ns=.err n e))
def LabZ (R:Nat) (A:Option Addr) (c:Nat) (l:List Tk) (i:Nat) (z:Value) (ns:List (List UInt8)) (w W:World):Prop :=
 ∃t q a,PbZ R A c l z w W q z ns a 0 (.string (S t)) (.slice none 0 0) (.slice none 0 0) (.slice none 0 0) (.slice none 0 0)∧labelS (leftT l i) ns=.ok t (leftT l q) ns∧i≤q∧t.length≤16384
def ArrZ (ex:Rd1 Tm) (R:Nat) (A:Option Addr) (c:Nat) (l:List Tk) (i:Nat) (z:Value) (ns:List (List UInt8)) (w:World) (t:List UInt8) (W:World):Prop :=
 ∃q z1 ns1 a kv rv ks rs m1,PbZ R A c l z w W q z1 ns1 a 0 (.string (S t)) kv rv (.slice none 0 0) (.slice none 0 0)∧(l.getD q default).2.2≠[]∧bothS ex (leftT l i) ns=.ok (ks.map sA,rs.map sA) (leftT l (q+1)) ns1∧i≤q∧ns1.length+(leftT l q).length≤ns.length+(leftT l i).length ∧
  RowZ elAm 92 (w.heap.size+2) z1 W kv ks∧RowZ elAm 92 m1 z1 W rv rs∧(w.heap.size+2≤m1∧m1≤W.heap.size)∧(∀k,kv.ownBlock=some k→k < m1)
def GoZ (ex:Rd1 Tm) (R:Nat) (A:Option Addr) (c:Nat) (l:List Tk) (i:Nat) (ns:List (List UInt8)) (z0:Value) (w:World) (t:List UInt8) (kA rA:Option Addr) (kc rc:Nat) (ks rs:List Am) (m1:Nat) (b:Bool) (W:World):Prop :=
 (b=true∧∃q z1 ns1 a gA gc bA bc gs bs m2 m3,PbZ R A c l z0 w W q z1 ns1 a 0 (.string (S t)) (.slice kA ks.length kc) (.slice rA rs.length rc) (.slice gA gs.length gc) (.slice bA bs.length bc)∧goals1S ex (leftT l i) ns=.ok (gs.map sG,bs.map sG) (leftT l q) ns1∧i≤q∧ns1.length+(leftT l q).length≤ns.length+(leftT l i).length ∧
  RowsZ (w.heap.size+2) m1 m2 m3 z1 W (.slice kA ks.length kc) (.slice rA rs.length rc) (.slice gA gs.length gc) (.slice bA bs.length bc) ks rs gs bs∧bs.length≤16385) ∨
 (b=false∧∃q z1 ns1 n e gA gc gn bA bc bn,PbZ R A c l z0 w W q z1 ns1 (offT l n) e (.string (S t)) (.slice kA ks.length kc) (.slice rA rs.length rc) (.slice gA gn gc) (.slice bA bn bc)∧e≠0∧goals1S ex (leftT l i) ns=.err n e)
theorem RowZ.first {α:Type} {E:Elt α} {T:TypeId} {lo:Nat} {z:Value} {w:World} {B:Option Addr} {zc:Nat} {l:List α} (h:RowZ E T lo z w (.slice B l.length zc) l) (h0:0 < l.length):∃g,B=some ⟨g,0,none⟩∧∀j u,(E.cellsL l)[j]?=some u→w.cell? ⟨g,j,none⟩=some u:=by
 rcases h.row.2 with ⟨_,h1⟩|⟨g,cap,cur,e,hb,hg,hle,hcap,hcs,hcur⟩
 ·omega
 ·injection e with e1 e2 e3
  subst e1 e3
  refine ⟨g,rfl,fun j u hu=>?_⟩
  have hj:j < (E.cellsL l).length:=(List.getElem?_eq_some_iff.1 hu).1
  rw [Elt.cellsL_len] at hj
  rw [World.ownsRow.cellAt h.row j hj]
  exact hu
theorem gap_none (k:Nat):¬(Value.slice none 0 0).ownBlock=some k:=fun e=>by cases e
theorem headsS_len {ex:Rd1 Tm} {before:Nat}:∀(n:Nat) (ts:List Tok),ts.length≤n→∀acc ns xs r ns2,acc.length+before≤4→headsS ex before acc ts ns=.ok xs r ns2→xs.length+before≤4
 | n,ts,hn,acc,ns,xs,r,ns2,ha,h=>by
  rw [headsS] at h
  split at h
  ·cases h
  ·rename_i hlt
   cases hx:atomS ex ts ns with
   | err a e=>rw [hx] at h;cases h
   | ok x r1 ns1 =>
    rw [hx] at h
    simp only at h
    split at h
    ·cases h
    ·split at h
     ·split at h
      ·rename_i h2
       cases n with
       | zero=>omega
       | succ n=>exact headsS_len n _ (by omega) _ _ _ _ _ (by simp only [List.length_append,List.length_cons,List.length_nil];omega) h
      ·cases h
     ·injection h with e1 e2 e3
      subst e1
      simp only [List.length_append,List.length_cons,List.length_nil]
      omega
end
end Go.Proofs.YtaojnljppcnhjaaGreatDoor
