/-
  PgListTm.
  PgAtom.
  RzTok.
 PgAtom2.
 PgListAm.
-/
import Derived.Test.YtaojnljppcnhjaaGreatDoorMh8
import Derived.Test.YtaojnljppcnhjaaGreatDoorMh7
namespace Go.Proofs.YtaojnljppcnhjaaGreatDoor
open Go.RowKit
theorem news2_Tm (w:World) (o:Obj) (u:Tm) (T:TypeId):∀j v,(elTm.cells u)[j]?=some v→((w.alloc o).alloc (.cells #[.int .i64 u.kind,.int .i64 u.num,.string u.name,.slice u.at_ u.args.length u.cap] T)).cell? ((⟨w.heap.size+1,0,none⟩:Addr).add j)=some v:=by
 intro j v hv
 have e:(w.alloc o).heap.size=w.heap.size+1:=by simp
 rw [add_plain,Nat.zero_add,← e,World.cell?_alloc_at _ _ _ _ rfl,← hv,show (#[.int .i64 u.kind,.int .i64 u.num,.string u.name,.slice u.at_ u.args.length u.cap]:Array Value)=(elTm.cells u).toArray from rfl,List.getElem?_toArray]
set_option maxHeartbeats 4000000 in
set_option maxRecDepth 10000 in
theorem list_Tm_at {R:Nat} {A:Option Addr} {c:Nat} {l:List Tk} (hg:GoodT l) (a n most:Nat) (hmost:most≤9223372036854775807) (ex:Rd1 Tm)
  (hE:∀(i:Nat) (w:World),Pq w R A c l i→a≤i→(leftT l i).length≤n→Calls Tryz.prog 129 #[.pointer (some ⟨R,0,none⟩)] w (ElR rdTm ex R A c l a i w))
  (i:Nat) (w:World) (h:Pq w R A c l i) (ha:a≤i) (hn:(leftT l i).length≤n) :
  Calls Tryz.prog 128 #[.pointer (some ⟨R,0,none⟩),.int .i64 (most:Int),.func (.func 129) #[.pointer (some ⟨R,0,none⟩)] #[]] w (ListR rdTm 56 ex most R A c l a i w):=by
 obtain ⟨i0,hi,hz0,hz1,hz2⟩:=info_parts term_info
 have HG:=Lib.hid hg
 have Q:=Lib.hid hE
 have hR:=h.lt
 have H0:=Lib.hid (show ListL rdTm 56 ex most R A c l a i n w (l.length - i) (.slice none 0 0) w i [] from
  ⟨Kp.refl _ _ _,h,RowG.nil _ _ _ _,rfl,Nat.le_refl _,fun h=>absurd rfl h,OkV.nil _ _ _,Nat.zero_le _,hn,Nat.le_refl _⟩)
 have HA:=Lib.hid ha
 have HM:=Lib.hid hmost
 clear hg hE h hn ha hmost
 go_enter Tryz.func128,Tryz.ntmps128
 go_wp2_with fail
 go_loopg [8] (l.length - i) (fun gk z wr=>∃(q:Nat) (xs:List Tm) (x:Value),z=x∧Hid (ListL rdTm 56 ex most R A c l a i n w gk x wr q xs))
 case atStart=>exact ⟨i,[],_,rfl,H0⟩
 case round =>
  clear H0
  obtain ⟨q,xs,z,hzx,hI⟩:=hrel
  have hzx':=hzx.symm
  clear hzx
  subst hzx'
  obtain ⟨B,zc,rfl⟩:=RowG.zform hI.out.2.2.1
  obtain ⟨k1,k2,k3,k4,k5,k6,k7,k8,k9,k10⟩:=hI.out
  have hqs:xs.length≤16385:=by have:=k2.ilt;have:=HG.out.small;omega
  have hlen:(xs.length:Int)≤16385:=by omega
  have hle2:xs.length≤9223372036854775807:=by omega
  clear k1 k3 k4 k5 k6 k7 k8 k9 k10
  by_cases hm:xs.length=most
  ·have hm':(((xs.length:Nat):Int)==(most:Int))=true:=by simp [hm]
   have HX:=Lib.hid hm
   clear hm k2
   go_wp2_with fail
   refine bodyPost_ret (v:=.tuple #[.slice none 0 0,.int .i64 6]) (by simp [results,Tryz.results128,go_sem]) rfl ?_
   obtain ⟨k1,k2,k3,k4,k5,k6,k7,k8,k9,k10⟩:=hI.out
   exact ⟨[],q,6,.slice none 0 0,rfl,k1,k2,RowG.nil _ _ _ _,.inr ⟨by omega,rfl,rfl,by rw [k4,listS_much (by rw [List.length_map];exact HX.out)]⟩⟩
  ·have hm':(((xs.length:Nat):Int)==(most:Int))=false:=by simp;omega
   have HX:=Lib.hid (show (xs.map (Rdr.h rdTm (gL l a))).length≠most by rw [List.length_map];exact hm)
   have Q1:=Lib.hid (Q.out q wr k2 (by have:=hI.out.2.2.2.2.1;have:=HA.out;omega) hI.out.2.2.2.2.2.2.2.2.1)
   clear hm k2
   go_wp2_with fail
   refine Q1.out.mono ?_
   rintro e w2 ⟨u,j,er,he,hk,hp,hs,ho⟩
   have he2:e=.returned (.tuple #[.agg #[.int .i64 u.kind,.int .i64 u.num,.string u.name,.slice u.at_ u.args.length u.cap],.int .i64 er]):=he
   clear he
   subst he2
   have HS:=Lib.hid hs
   have HK:=Lib.hid hk
   have HP:=Lib.hid hp
   have HR2:=Lib.hid (show R < w2.heap.size from hp.lt)
   clear hk hp hs
   rcases ho with ⟨rfl,hf,hqj,hv⟩|⟨her,hf⟩
   ·have HF:=Lib.hid hf
    have HJ:=Lib.hid hqj
    have HV:=Lib.hid hv
    clear hf hqj hv
    obtain ⟨b,hb⟩:∃b,((l.getD j default).2.2==[44])=b:=⟨_,rfl⟩
    have HB:=Lib.hid hb
    have HLo:=Lib.hid (show w.heap.size≤wr.heap.size from hI.out.1.size)
    have hlo2:w.heap.size≤w2.heap.size:=Nat.le_trans HLo.out HK.out.size
    have HRow:=Lib.hid (hI.out.2.2.1.kq HK.out hR)
    have HOr:=Lib.hid (own_lt hI.out.2.2.1.row)
    have HOb:=Lib.hid hI.out.2.2.1.sit.bd
    have QA:=Lib.hid (fun W (hW:Pq W R A c l j)=>accept_at HG.out hW [44] (by decide) HB.out)
    clear hb
    cases b
    ·have HC:=Lib.hid (show isS [44] (leftT l j)=false by rw [isS_left HG.out HP.out.ilt (by decide)];exact HB.out)
     go_wp2_with (first
      | (at_builtin; refine wpList_append_lies _ rfl _ _ 52 rfl w.heap.size 56 i0 _ 4 56 Tryz.underlying52 hi hz0 hz1 hz2 rfl (by decide) (.slice B xs.length zc) xs.length (Elt.cellsL elTm xs) rfl ((HRow.out.row.alloc _).alloc _) ⟨w2.heap.size + 1, 0, none⟩ 1 1 (Elt.cells elTm u) rfl rfl (news2_Tm w2 _ u _) (Elt.one elTm u) (by decide) (by unfold maxLen; omega) (by omega) (by simp; omega) _ rfl ?_; intro g cap w4 hown hg hat hglt
         have hbox := ((Below.refl w2.heap.size w2).alloc (Nat.le_refl _) (.cells #[.int .i64 u.kind, .int .i64 u.num, .string u.name, .slice u.at_ u.args.length u.cap] 56)).alloc (by simp) (.cells #[.int .i64 u.kind, .int .i64 u.num, .string u.name, .slice u.at_ u.args.length u.cap] 56)
         have HRow4 := Lib.hid (HRow.out.next HLo.out (fun k hk => (HOr.out k hk).2) (fun b hb => (HOb.out b hb).2) HS.out hbox hown hg hat)
         have HK4 := Lib.hid (show Kq R w w4 from ((((hI.out.1.trans HK.out).alloc _).alloc _).grown hg (fun k hk => (HOr.out k hk).1)))
         have HP4 := Lib.hid (((HP.out.alloc _).alloc _).grown hg (fun k hk => by have := (HOr.out k hk).1; omega))
         clear hown hg hat hglt hbox)
      | (go_at_call 45;refine (QA.out _ HP4.out).mono ?_;rintro e w5 ⟨rfl,hk5,hp5⟩;have HK5:=Lib.hid hk5;have HP5:=Lib.hid hp5;clear hk5 hp5))
     refine bodyPost_ret (v:=.tuple #[.slice (some ⟨g,0,none⟩) (xs.length+1) cap,.int .i64 0]) (by simp [results,Tryz.results128,go_sem]) rfl ?_
     obtain ⟨k1,k2,k3,k4,k5,k6,k7,k8,k9,k10⟩:=hI.out
     refine ⟨xs++[u],j,0,_,rfl,HK4.out.trans HK5.out,HP5.out,HRow4.out.kq HK5.out hR,.inl ⟨rfl,?_,by have:=HJ.out;omega,?_,by simp,by have:=HJ.out;have:=HP.out.ilt;have:=HG.out.small;simp only [List.length_append,List.length_cons,List.length_nil];omega⟩⟩
     ·rw [k4,listS_stop HX.out HF.out HC.out,List.map_append];rfl
     ·rw [List.flatMap_append,List.flatMap_cons,List.flatMap_nil,List.append_nil]
      exact k7.append HV.out (Nat.le_refl _) k5 (by have:=HJ.out;omega)
    ·have HN:=Lib.hid (show j+1 < l.length from good_next HG.out HP.out.ilt (by rw [beq_iff_eq.1 HB.out];decide))
     have HC:=Lib.hid (show isS [44] (leftT l j)=true by rw [isS_left HG.out HP.out.ilt (by decide)];exact HB.out)
     go_wp2_with (first
      | (at_builtin; refine wpList_append_lies _ rfl _ _ 52 rfl w.heap.size 56 i0 _ 4 56 Tryz.underlying52 hi hz0 hz1 hz2 rfl (by decide) (.slice B xs.length zc) xs.length (Elt.cellsL elTm xs) rfl ((HRow.out.row.alloc _).alloc _) ⟨w2.heap.size + 1, 0, none⟩ 1 1 (Elt.cells elTm u) rfl rfl (news2_Tm w2 _ u _) (Elt.one elTm u) (by decide) (by unfold maxLen; omega) (by omega) (by simp; omega) _ rfl ?_; intro g cap w4 hown hg hat hglt
         have hbox := ((Below.refl w2.heap.size w2).alloc (Nat.le_refl _) (.cells #[.int .i64 u.kind, .int .i64 u.num, .string u.name, .slice u.at_ u.args.length u.cap] 56)).alloc (by simp) (.cells #[.int .i64 u.kind, .int .i64 u.num, .string u.name, .slice u.at_ u.args.length u.cap] 56)
         have HRow4 := Lib.hid (HRow.out.next HLo.out (fun k hk => (HOr.out k hk).2) (fun b hb => (HOb.out b hb).2) HS.out hbox hown hg hat)
         have HK4 := Lib.hid (show Kq R w w4 from ((((hI.out.1.trans HK.out).alloc _).alloc _).grown hg (fun k hk => (HOr.out k hk).1)))
         have HP4 := Lib.hid (((HP.out.alloc _).alloc _).grown hg (fun k hk => by have := (HOr.out k hk).1; omega))
         clear hown hg hat hglt hbox)
      | (go_at_call 45;refine (QA.out _ HP4.out).mono ?_;rintro e w5 ⟨rfl,hk5,hp5⟩;have HK5:=Lib.hid hk5;have HP5:=Lib.hid hp5;clear hk5 hp5))
     have HN2:=Lib.hid (show ListL rdTm 56 ex most R A c l a i n w (gk - 1) (.slice (some ⟨g,0,none⟩) (xs.length+1) cap) w5 (j+1) (xs++[u]) by
      obtain ⟨k1,k2,k3,k4,k5,k6,k7,k8,k9,k10⟩:=hI.out
      have hj:=HJ.out
      have hn:=HN.out
      refine ⟨HK4.out.trans HK5.out,HP5.out,HRow4.out.kq HK5.out hR,?_,by omega,fun _=>by omega,?_,by simp only [List.length_append,List.length_cons,List.length_nil];omega,by rw [left_length] at k9 ⊢;omega,by omega⟩
      ·rw [k4,listS_comma HX.out HF.out HJ.out HN.out HC.out,List.map_append,show nsL l a (j+1)=nsL l a j from nsU_no (by
        have:=HC.out
        rw [left_isS HP.out.ilt] at this
        simp only [isT,Bool.and_eq_true,beq_iff_eq] at this
        simp only [kV,this.1]
        rfl)]
       rfl
      ·rw [List.flatMap_append,List.flatMap_cons,List.flatMap_nil,List.append_nil]
       exact (k7.append HV.out (Nat.le_refl _) k5 (by omega)).wide (Nat.le_refl _) (by omega))
     have HGk:=Lib.hid (show gk - 1 < gk by have:=HJ.out;have:=HN.out;have:=hI.out.2.2.2.2.2.2.2.2.2;omega)
     go_wp2_with fail
     go_roundg (gk - 1)
     case measure=>exact HGk.out
     case rel=>exact ⟨j+1,xs++[u],_,rfl,HN2⟩
   ·have hne:(er != 0)=true:=bne_iff_ne.2 her
    have HF:=Lib.hid hf
    have HE:=Lib.hid her
    clear her hf
    go_wp2_with fail
    refine bodyPost_ret (v:=.tuple #[.slice none 0 0,.int .i64 er]) (by simp [results,Tryz.results128,go_sem]) rfl ?_
    obtain ⟨k1,k2,k3,k4,k5,k6,k7,k8,k9,k10⟩:=hI.out
    exact ⟨[],j,er,.slice none 0 0,rfl,(k1.trans HK.out).alloc _,HP.out.alloc _,RowG.nil _ _ _ _,.inr ⟨HE.out,rfl,rfl,by rw [k4,listS_err HX.out HF.out]⟩⟩
end Go.Proofs.YtaojnljppcnhjaaGreatDoor
namespace Go.Proofs.YtaojnljppcnhjaaGreatDoor
open Go.RowKit
theorem args_list {ex:Rd1 Tm} {M:Nat}:∀(n:Nat) (ts:List Tok),ts.length≤n→ts≠[]→∀acc ns,acc.length+ts.length≤M →
  argsS ex acc ts ns=match listS ex M acc ts.tail ns with
   | .ok l r ns2=>wantS [41] l r ns2
   | .err n e=>.err n e
 | 0,ts,hn,h0,_,_,_=>absurd (List.length_eq_zero_iff.1 (by omega)) h0
 | n+1,ts,hn,h0,acc,ns,hM=>by
  have hp:0 < ts.length:=List.length_pos_iff.2 h0
  rw [argsS,listS,if_neg (by omega)]
  cases hex:ex ts.tail ns with
  | err l e=>rfl
  | ok x r ns2 =>
   simp only
   by_cases hc:isS [44] r=true
   ·rw [if_pos hc,if_pos hc]
    have hr:r≠[]:=by rintro rfl;cases hc
    have hrp:0 < r.length:=List.length_pos_iff.2 hr
    by_cases hlt:r.length < ts.length
    ·rw [dif_pos hlt,dif_pos (by rw [List.length_tail,List.length_tail];omega)]
     exact args_list n r (by omega) hr (acc++[x]) ns2 (by simp only [List.length_append,List.length_cons,List.length_nil];omega)
    ·rw [dif_neg hlt,dif_neg (by rw [List.length_tail,List.length_tail];omega)]
   ·rw [if_neg hc,if_neg hc]
theorem BoxL.get4 {w:World} {T:Nat} {v0 v1 v2 v3:Value} (h:BoxL w T [v0,v1,v2,v3]):w.cell? ⟨T,0,none⟩=some v0∧w.cell? ⟨T,1,none⟩=some v1∧w.cell? ⟨T,2,none⟩=some v2∧w.cell? ⟨T,3,none⟩=some v3 ∧
  w.frozen? ⟨T,0,none⟩=false∧w.frozen? ⟨T,1,none⟩=false∧w.frozen? ⟨T,2,none⟩=false∧w.frozen? ⟨T,3,none⟩=false:=⟨h.cells 0 _ rfl,h.cells 1 _ rfl,h.cells 2 _ rfl,h.cells 3 _ rfl,h.free 0,h.free 1,h.free 2,h.free 3⟩
theorem BoxL.get3 {w:World} {T:Nat} {v0 v1 v2:Value} (h:BoxL w T [v0,v1,v2]):w.cell? ⟨T,0,none⟩=some v0∧w.cell? ⟨T,1,none⟩=some v1∧w.cell? ⟨T,2,none⟩=some v2 ∧
  w.frozen? ⟨T,0,none⟩=false∧w.frozen? ⟨T,1,none⟩=false∧w.frozen? ⟨T,2,none⟩=false:=⟨h.cells 0 _ rfl,h.cells 1 _ rfl,h.cells 2 _ rfl,h.free 0,h.free 1,h.free 2⟩
theorem BoxL.get2 {w:World} {T:Nat} {v0 v1:Value} (h:BoxL w T [v0,v1]):w.cell? ⟨T,0,none⟩=some v0∧w.cell? ⟨T,1,none⟩=some v1 ∧
  w.frozen? ⟨T,0,none⟩=false∧w.frozen? ⟨T,1,none⟩=false:=⟨h.cells 0 _ rfl,h.cells 1 _ rfl,h.free 0,h.free 1⟩
theorem end4 {w W:World} {R:Nat} {A:Option Addr} {c:Nat} {l:List Tk} {j lo:Nat} {α:Type} {E:Elt α} {L:List α} (hR:R < w.heap.size) (hk:Kq R w W) (hp:Pq W R A c l j) (hs:SitG E lo W L) (hlo:w.heap.size < lo) (v0 v1 v2 v3:Value) :
  Kq R w ((((W.setCell ⟨w.heap.size,0,none⟩ v0).setCell ⟨w.heap.size,1,none⟩ v1).setCell ⟨w.heap.size,2,none⟩ v2).setCell ⟨w.heap.size,3,none⟩ v3)∧Pq ((((W.setCell ⟨w.heap.size,0,none⟩ v0).setCell ⟨w.heap.size,1,none⟩ v1).setCell ⟨w.heap.size,2,none⟩ v2).setCell ⟨w.heap.size,3,none⟩ v3) R A c l j∧SitG E w.heap.size ((((W.setCell ⟨w.heap.size,0,none⟩ v0).setCell ⟨w.heap.size,1,none⟩ v1).setCell ⟨w.heap.size,2,none⟩ v2).setCell ⟨w.heap.size,3,none⟩ v3) L:=by
 have hn:w.heap.size∉E.blkL L:=fun h=>by have:=(hs.bd _ h).1;omega
 exact ⟨(((hk.put (p:=⟨w.heap.size,0,none⟩) (Nat.le_refl _) _).put (p:=⟨w.heap.size,1,none⟩) (Nat.le_refl _) _).put (p:=⟨w.heap.size,2,none⟩) (Nat.le_refl _) _).put (p:=⟨w.heap.size,3,none⟩) (Nat.le_refl _) _,
  (((hp.put (p:=⟨w.heap.size,0,none⟩) hR _).put (p:=⟨w.heap.size,1,none⟩) hR _).put (p:=⟨w.heap.size,2,none⟩) hR _).put (p:=⟨w.heap.size,3,none⟩) hR _,
  ((((hs.low (by omega)).put (p:=⟨w.heap.size,0,none⟩) hn _).put (p:=⟨w.heap.size,1,none⟩) hn _).put (p:=⟨w.heap.size,2,none⟩) hn _).put (p:=⟨w.heap.size,3,none⟩) hn _⟩
theorem end2 {w W:World} {R:Nat} {A:Option Addr} {c:Nat} {l:List Tk} {j lo:Nat} {α:Type} {E:Elt α} {L:List α} (hR:R < w.heap.size) (hk:Kq R w W) (hp:Pq W R A c l j) (hs:SitG E lo W L) (hlo:w.heap.size < lo) (v0 v1:Value) :
  Kq R w ((W.setCell ⟨w.heap.size,0,none⟩ v0).setCell ⟨w.heap.size,1,none⟩ v1)∧Pq ((W.setCell ⟨w.heap.size,0,none⟩ v0).setCell ⟨w.heap.size,1,none⟩ v1) R A c l j∧SitG E w.heap.size ((W.setCell ⟨w.heap.size,0,none⟩ v0).setCell ⟨w.heap.size,1,none⟩ v1) L:=by
 have hn:w.heap.size∉E.blkL L:=fun h=>by have:=(hs.bd _ h).1;omega
 exact ⟨(hk.put (p:=⟨w.heap.size,0,none⟩) (Nat.le_refl _) _).put (p:=⟨w.heap.size,1,none⟩) (Nat.le_refl _) _,
  (hp.put (p:=⟨w.heap.size,0,none⟩) hR _).put (p:=⟨w.heap.size,1,none⟩) hR _,
  ((hs.low (by omega)).put (p:=⟨w.heap.size,0,none⟩) hn _).put (p:=⟨w.heap.size,1,none⟩) hn _⟩
theorem end3 {w W:World} {R:Nat} {A:Option Addr} {c:Nat} {l:List Tk} {j lo:Nat} {α:Type} {E:Elt α} {L:List α} (hR:R < w.heap.size) (hk:Kq R w W) (hp:Pq W R A c l j) (hs:SitG E lo W L) (hlo:w.heap.size < lo) (v0 v1 v2:Value) :
  Kq R w (((W.setCell ⟨w.heap.size,0,none⟩ v0).setCell ⟨w.heap.size,1,none⟩ v1).setCell ⟨w.heap.size,2,none⟩ v2)∧Pq (((W.setCell ⟨w.heap.size,0,none⟩ v0).setCell ⟨w.heap.size,1,none⟩ v1).setCell ⟨w.heap.size,2,none⟩ v2) R A c l j∧SitG E w.heap.size (((W.setCell ⟨w.heap.size,0,none⟩ v0).setCell ⟨w.heap.size,1,none⟩ v1).setCell ⟨w.heap.size,2,none⟩ v2) L:=by
 have hn:w.heap.size∉E.blkL L:=fun h=>by have:=(hs.bd _ h).1;omega
 exact ⟨((hk.put (p:=⟨w.heap.size,0,none⟩) (Nat.le_refl _) _).put (p:=⟨w.heap.size,1,none⟩) (Nat.le_refl _) _).put (p:=⟨w.heap.size,2,none⟩) (Nat.le_refl _) _,
  ((hp.put (p:=⟨w.heap.size,0,none⟩) hR _).put (p:=⟨w.heap.size,1,none⟩) hR _).put (p:=⟨w.heap.size,2,none⟩) hR _,
  (((hs.low (by omega)).put (p:=⟨w.heap.size,0,none⟩) hn _).put (p:=⟨w.heap.size,1,none⟩) hn _).put (p:=⟨w.heap.size,2,none⟩) hn _⟩
theorem Kq.from_new {w W:World} {R:Nat} {o:Obj} (hk:Kq R (w.alloc o) W):Kq R w W:=((Kp.refl R Z0 w).alloc o).trans hk
section
variable {R:Nat} {A:Option Addr} {c:Nat} {l:List Tk}
def ExprQ (R:Nat) (A:Option Addr) (c:Nat) (l:List Tk) (a n:Nat) (ex:Rd1 Tm):Prop :=
 ∀(i:Nat) (w:World),Pq w R A c l i→a≤i→(leftT l i).length≤n→Calls Tryz.prog 129 #[.pointer (some ⟨R,0,none⟩)] w (ElR rdTm ex R A c l a i w)
theorem nsL_no {l:List Tk} {a i:Nat} {k:Int} (h:(l.getD i default).1=k) (hk:k≠2):nsL l a (i+1)=nsL l a i:=nsU_no (by rw [kV,h];simpa using hk)
theorem nsL_s {l:List Tk} {a i:Nat} {s:List UInt8} (hi:i < l.length) (h:isS s (leftT l i)=true):nsL l a (i+1)=nsL l a i:=by
 rw [left_isS hi] at h
 simp only [isT,Bool.and_eq_true,beq_iff_eq] at h
 exact nsL_no h.1 (by decide)
set_option maxHeartbeats 4000000 in
set_option maxRecDepth 10000 in
theorem group_at (hg:GoodT l) {a n:Nat} {ex:Rd1 Tm} (hE:ExprQ R A c l a n ex) (i:Nat) (w:World) (h:Pq w R A c l i) (ha:a≤i) (hn:(leftT l i).length≤n) :
  Calls Tryz.prog 132 #[.pointer (some ⟨R,0,none⟩)] w (ElR rdTm (fun ts ns=>match ex ts ns with
   | .ok x r ns2=>wantS [41] x r ns2
   | .err l e=>.err l e) R A c l a i w):=by
 have HG:=Lib.hid hg
 have hR:=h.lt
 have Q:=Lib.hid (hE i _ (h.alloc (.cells #[.int .i64 0,.int .i64 0,.string ⟨#[]⟩,.slice none 0 0] 56)) ha hn)
 have HI:=Lib.hid h.ilt
 clear hg hE h hn
 go_enter Tryz.func132,Tryz.ntmps132
 go_wp2_with fail
 refine Q.out.mono ?_
 rintro e w2 ⟨u,j,er,he,hk,hp,hs,ho⟩
 have he2:e=.returned (.tuple #[.agg #[.int .i64 u.kind,.int .i64 u.num,.string u.name,.slice u.at_ u.args.length u.cap],.int .i64 er]):=he
 clear he
 subst he2
 have hTR:w.heap.size≠R:=by omega
 have HB:=Lib.hid ((BoxL.new w [.int .i64 0,.int .i64 0,.string ⟨#[]⟩,.slice none 0 0] 56).kq hk hTR)
 have HU:=Lib.hid (BoxL.new w2 [.int .i64 u.kind,.int .i64 u.num,.string u.name,.slice u.at_ u.args.length u.cap] 56)
 have HK:=Lib.hid (Kq.from_new hk)
 have hsz:w.heap.size+1≤w2.heap.size:=by have:=hk.size;simpa using this
 have HS:=Lib.hid (hs.low (lo':=w.heap.size+1) (by simp))
 have HP:=Lib.hid hp
 clear hk hs hp
 rcases ho with ⟨rfl,hf,hij,hv⟩|⟨her,hf⟩
 ·obtain ⟨b,hb⟩:∃b,((l.getD j default).2.2==[41])=b:=⟨_,rfl⟩
  have HF:=Lib.hid hf
  have HJ:=Lib.hid hij
  have HV:=Lib.hid hv
  have HX:=Lib.hid (show isS [41] (leftT l j)=b by rw [isS_left HG.out HP.out.ilt (by decide)];exact hb)
  have QX:=Lib.hid (fun W (hW:Pq W R A c l j)=>expect_at HG.out hW [41] (by decide) hb)
  have HN:=Lib.hid (show b=true→j+1 < l.length from fun e=>good_next HG.out HP.out.ilt (by rw [e] at hb;rw [beq_iff_eq.1 hb];decide))
  clear hf hij hv hb
  cases b
  ·go_wp2_with (go_at_call 56;refine (QX.out _ (HP.out.alloc _)).mono ?_;rintro e w3 ⟨rfl,hk3,hp3⟩;have HK3:=Lib.hid ((HK.out.alloc _).trans hk3);have hsz3:w2.heap.size+1≤w3.heap.size:=(by have:=hk3.size;simpa using this);obtain ⟨c0,c1,c2,c3,f0,f1,f2,f3⟩:=((HB.out.alloc (.cells #[.int .i64 u.kind,.int .i64 u.num,.string u.name,.slice u.at_ u.args.length u.cap] 56)).kq hk3 hTR).get4;obtain ⟨d0,d1,d2,d3,_⟩:=(HU.out.kq hk3 (by have:=HB.out.lt;omega)).get4;have HP3:=Lib.hid hp3;have HS3:=Lib.hid ((HS.out.below ((Below.refl _ _).alloc (Nat.le_refl _) _)).kq hk3 (by omega));clear hk3 hp3)
   refine bodyPost_ret (v:=.tuple #[.agg #[.int .i64 u.kind,.int .i64 u.num,.string u.name,.slice u.at_ u.args.length u.cap],.int .i64 16]) (by simp [results,Tryz.results132,go_sem,c0,c1,c2,c3]) rfl ?_
   obtain ⟨e1,e2,e3⟩:=end4 hR HK3.out HP3.out HS3.out (Nat.lt_succ_self _) (.int .i64 u.kind) (.int .i64 u.num) (.string u.name) (.slice u.at_ u.args.length u.cap)
   refine ⟨u,j,16,rfl,e1,e2,e3,.inr ⟨by omega,?_⟩⟩
   simp only [HF.out,wantS,HX.out]
   rfl
  ·go_wp2_with (go_at_call 56;refine (QX.out _ (HP.out.alloc _)).mono ?_;rintro e w3 ⟨rfl,hk3,hp3⟩;have HK3:=Lib.hid ((HK.out.alloc _).trans hk3);have hsz3:w2.heap.size+1≤w3.heap.size:=(by have:=hk3.size;simpa using this);obtain ⟨c0,c1,c2,c3,f0,f1,f2,f3⟩:=((HB.out.alloc (.cells #[.int .i64 u.kind,.int .i64 u.num,.string u.name,.slice u.at_ u.args.length u.cap] 56)).kq hk3 hTR).get4;obtain ⟨d0,d1,d2,d3,_⟩:=(HU.out.kq hk3 (by have:=HB.out.lt;omega)).get4;have HP3:=Lib.hid hp3;have HS3:=Lib.hid ((HS.out.below ((Below.refl _ _).alloc (Nat.le_refl _) _)).kq hk3 (by omega));clear hk3 hp3)
   refine bodyPost_ret (v:=.tuple #[.agg #[.int .i64 u.kind,.int .i64 u.num,.string u.name,.slice u.at_ u.args.length u.cap],.int .i64 0]) (by simp [results,Tryz.results132,go_sem,c0,c1,c2,c3]) rfl ?_
   obtain ⟨e1,e2,e3⟩:=end4 hR HK3.out HP3.out HS3.out (Nat.lt_succ_self _) (.int .i64 u.kind) (.int .i64 u.num) (.string u.name) (.slice u.at_ u.args.length u.cap)
   have hj:=HJ.out
   refine ⟨u,j+1,0,rfl,e1,e2,e3,.inl ⟨rfl,?_,by omega,HV.out.wide (Nat.le_refl _) (by omega)⟩⟩
   simp only [HF.out,wantS,HX.out,left_tail,if_true]
   rw [nsL_s HP.out.ilt HX.out]
 ·have hne:(er==0)=false:=by simpa using her
  have HF:=Lib.hid hf
  have HE:=Lib.hid her
  obtain ⟨c0,c1,c2,c3,f0,f1,f2,f3⟩:=(HB.out.alloc (.cells #[.int .i64 u.kind,.int .i64 u.num,.string u.name,.slice u.at_ u.args.length u.cap] 56)).get4
  clear her hf
  go_wp2_with fail
  refine bodyPost_ret (v:=.tuple #[.agg #[.int .i64 u.kind,.int .i64 u.num,.string u.name,.slice u.at_ u.args.length u.cap],.int .i64 er]) (by simp [results,Tryz.results132,go_sem,c0,c1,c2,c3]) rfl ?_
  obtain ⟨e1,e2,e3⟩:=end4 hR (HK.out.alloc _) (HP.out.alloc _) (HS.out.below ((Below.refl _ _).alloc (Nat.le_refl _) _)) (Nat.lt_succ_self _) (.int .i64 u.kind) (.int .i64 u.num) (.string u.name) (.slice u.at_ u.args.length u.cap)
  refine ⟨u,j,er,rfl,e1,e2,e3,.inr ⟨HE.out,?_⟩⟩
  simp only [HF.out]
end
end Go.Proofs.YtaojnljppcnhjaaGreatDoor
namespace Go.Proofs.YtaojnljppcnhjaaGreatDoor
open Go.RowKit
section
variable {w:World} {R:Nat} {A:Option Addr} {c:Nat} {l:List Tk} {i:Nat} {z:Value} {ns:List (List UInt8)} {at_:Nat} {er:Int}
theorem step_next (hg:GoodT l) (hi:i < l.length) (hne:(l.getD i default).2.2≠[]):stepI l i=i+1:=by
 rw [stepI,if_pos (good_next hg hi hne)]
theorem z_is_at (hg:GoodT l) (h:Pr w R A c l i z ns at_ er) (s:List UInt8) (hs:kindO s=4) {b:Bool} (hb:((l.getD i default).2.2==s)=b) :
  Calls Tryz.prog 47 #[.pointer (some ⟨R,0,none⟩),.string (S s)] w fun en w'=>en=.returned (.bool b)∧Below w.heap.size w w':=by
 have:=r_is_at h s
 rw [←hg.acc h.ilt hs,hb] at this
 exact this
def NameZ (R:Nat) (A:Option Addr) (c:Nat) (l:List Tk) (i:Nat) (z:Value) (ns:List (List UInt8)) (w:World) (en:Ending) (w':World):Prop :=
 ∃(t:List UInt8) (b:Bool),en=.returned (.tuple #[.string (S t),.bool b])∧t.length≤16384∧Kp R z z w w' ∧
  ((b=true∧(l.getD i default).1=1∧(∀ns,nmS (leftT l i) ns=.ok t (leftT l (i+1)) ns)∧∃a,Pr w' R A c l (i+1) z ns a 0) ∨
   (b=false∧∃e,e≠0∧(∀ns,nmS (leftT l i) ns=.err (leftT l i).length e)∧Pr w' R A c l i z ns (offT l (leftT l i).length) e))
theorem z_name_at (hg:GoodT l) (h:Pr w R A c l i z ns at_ 0) :
  Calls Tryz.prog 49 #[.pointer (some ⟨R,0,none⟩)] w (NameZ R A c l i z ns w):=by
 refine (r_name_at h).mono ?_
 rintro en w' (⟨h1,h2,rfl,hk,a,hp⟩|⟨e,he,rfl,hk,hp⟩)
 ·have hne:(l.getD i default).2.2≠[]:=fun e=>by
   have:=hg.kinds i h.ilt
   rw [e,h1] at this
   exact absurd this (by decide)
  rw [step_next hg h.ilt hne] at hp
  refine ⟨_,true,rfl,hg.texts i h.ilt,hk,.inl ⟨rfl,h1,fun ns=>?_,a,hp⟩⟩
  rw [left_cons h.ilt,nmS,if_neg (by rw [h1];simp),h2]
  rfl
 ·refine ⟨[],false,rfl,by simp,hk,.inr ⟨rfl,e,?_,fun ns=>?_,by rw [off_here h.ilt];exact hp⟩⟩
  ·rcases he with ⟨_,rfl⟩|⟨_,_,rfl⟩<;>decide
  ·rcases he with ⟨h1,rfl⟩|⟨h1,h2,rfl⟩
   ·rw [left_cons h.ilt,nmS,if_pos h1]
   ·rw [left_cons h.ilt,nmS,if_neg (by rw [h1];simp),if_pos h2]
def WantZ (b:Bool) (R:Nat) (A:Option Addr) (c:Nat) (l:List Tk) (i:Nat) (z:Value) (ns:List (List UInt8)) (w:World) (en:Ending) (w':World):Prop :=
 en=.returned (.bool b)∧Kp R z z w w'∧((b=true∧∃a,Pr w' R A c l (i+1) z ns a 0)∨(b=false∧Pr w' R A c l i z ns (offT l (leftT l i).length) 16))
theorem z_want_at (hg:GoodT l) (h:Pr w R A c l i z ns at_ 0) (s:List UInt8) (hs:kindO s=4) {b:Bool} (hb:((l.getD i default).2.2==s)=b) :
  Calls Tryz.prog 50 #[.pointer (some ⟨R,0,none⟩),.string (S s)] w (WantZ b R A c l i z ns w):=by
 refine (r_want_at h s).mono ?_
 have hT:=hg.acc h.ilt hs
 rw [hb] at hT
 rintro en w' (⟨h1,rfl,hk,a,hp⟩|⟨h1,rfl,hk,hp⟩)
 ·rw [h1] at hT
  subst hT
  have hne:(l.getD i default).2.2≠[]:=fun e=>by
   rw [e] at hb
   rw [←beq_iff_eq.1 hb] at hs
   exact absurd hs (by decide)
  rw [step_next hg h.ilt hne] at hp
  exact ⟨rfl,hk,.inl ⟨rfl,a,hp⟩⟩
 ·rw [h1] at hT
  subst hT
  exact ⟨rfl,hk,.inr ⟨rfl,by rw [off_here h.ilt];exact hp⟩⟩
theorem z_next_at (hg:GoodT l) (h:Pr w R A c l i z ns at_ er) (hne:(l.getD i default).2.2≠[]) :
  Calls Tryz.prog 48 #[.pointer (some ⟨R,0,none⟩)] w fun en w'=>en=.returned (.tuple #[])∧Kp R z z w w'∧Pr w' R A c l (i+1) z ns at_ er:=by
 have:=r_next_at h
 rw [step_next hg h.ilt hne] at this
 exact this
end
end Go.Proofs.YtaojnljppcnhjaaGreatDoor
namespace Go.Proofs.YtaojnljppcnhjaaGreatDoor
open Go.RowKit
theorem lst_row {lo:Nat} {w:World} {T:TypeId} {r:Value} {xs:List Tm} (h:RowG elTm T lo w r xs) (h0:0 < xs.length):∃g c,r=.slice (some ⟨g,0,none⟩) xs.length c∧Lst w (some ⟨g,0,none⟩) xs c∧lo≤g∧g < w.heap.size∧g∉elTm.blkL xs∧∀j,w.frozen? ⟨g,j,none⟩=false:=by
 obtain ⟨g,c,rfl,hle,hcap,hlo,hlt,hap,hfz,hcell⟩:=h.form h0
 refine ⟨g,c,rfl,⟨hle,hcap,fun _=>⟨g,0,rfl,RowAt.of fun i hi=>⟨fun j u hu=>?_,h.sit.at_ _ (getD_mem hi)⟩⟩⟩,hlo,hlt,hap,hfz⟩
 have hj:j < 4:=by
  have:=(List.getElem?_eq_some_iff.1 hu).1
  simpa [Tm.cells] using this
 have:=Elt.cellsL_get elTm xs hi hj
 rw [show 0+4*i+j=i*elTm.k+j by show 0+4*i+j=i*4+j;omega]
 exact hcell _ _ (this.trans hu)
theorem blk_args {g:Nat} {xs:List Tm} (h0:0 < xs.length):blkA (some ⟨g,0,none⟩) xs.length++blkL xs=g :: elTm.blkL xs:=by
 rw [blkA,if_neg (by omega),blkL_flat];rfl
theorem sit_atom {lo:Nat} {w:World} {T:TypeId} {r:Value} {xs:List Tm} (h:RowG elTm T lo w r xs) (h0:0 < xs.length) (hl:xs.length≤16385) {s:ByteArray} (hs:s.size≤maxLen):∃A c,r=.slice A xs.length c∧SitG elAm lo w [⟨s,A,c,xs⟩]:=by
 obtain ⟨g,c,rfl,hL,hlo,hlt,hap,hfz⟩:=lst_row h h0
 have e:elAm.blkL [⟨s,some ⟨g,0,none⟩,c,xs⟩]=g :: elTm.blkL xs:=by
  rw [Elt.blkL_one];exact blk_args h0
 refine ⟨_,c,rfl,fun x hx=>?_,by rw [e,List.nodup_cons];exact ⟨hap,h.sit.nd⟩,fun b hb=>?_,fun b hb=>?_⟩
 ·rw [List.mem_singleton.1 hx]
  exact ⟨⟨hs,hL⟩,fun e=>(by rw [show xs=[] from e] at h0;simp at h0),hl⟩
 ·rw [e] at hb
  rcases List.mem_cons.1 hb with rfl|hb
  ·exact ⟨hlo,hlt⟩
  ·exact h.sit.bd b hb
 ·rw [e] at hb
  rcases List.mem_cons.1 hb with rfl|hb
  ·exact hfz
  ·exact h.sit.fz b hb
theorem sit_word (lo:Nat) (w:World) {s:ByteArray} (hs:s.size≤maxLen):SitG elAm lo w [⟨s,none,0,[]⟩] :=
 ⟨fun x hx=>by rw [List.mem_singleton.1 hx];exact ⟨⟨hs,Lst.nil w⟩,fun _=>⟨rfl,rfl⟩,Nat.zero_le _⟩,by simp [Elt.blkL,elAm,blkA,blkL],fun b hb=>(by simp [Elt.blkL,elAm,blkA,blkL] at hb),fun b hb=>(by simp [Elt.blkL,elAm,blkA,blkL] at hb)⟩
theorem S_size (x:List UInt8):(S x).size=x.length:=by show x.toArray.size=_;simp
section
variable {R:Nat} {A:Option Addr} {c:Nat} {l:List Tk}
theorem word_ne {l:List Tk} (hg:GoodT l) {i:Nat} (hi:i < l.length) {ns ns2:List (List UInt8)} {t:List UInt8} {r:List Tok} (h:nmS (leftT l i) ns=.ok t r ns2):t.length≤16384∧nsL l 0 (i+1)=nsL l 0 i∧∀a,nsL l a (i+1)=nsL l a i:=by
 rw [left_cons hi,nmS] at h
 split at h
 ·cases h
 ·rename_i hk
  split at h
  ·cases h
  ·injection h with h1
   rw [←h1]
   have hk2:(l.getD i default).1=1:=by simpa using hk
   exact ⟨hg.texts i hi,nsL_no hk2 (by decide),fun a=>nsL_no hk2 (by decide)⟩
set_option maxHeartbeats 4000000 in
set_option maxRecDepth 10000 in
theorem atom_at (hg:GoodT l) {a n:Nat} {ex:Rd1 Tm} (hE:ExprQ R A c l a n ex) (i:Nat) (w:World) (h:Pq w R A c l i) (ha:a≤i) (hn:(leftT l i).length≤n+1) :
  Calls Tryz.prog 104 #[.pointer (some ⟨R,0,none⟩)] w (ElR rdAm (atomS ex) R A c l a i w):=by
 have HG:=Lib.hid hg
 have hR:=h.lt
 have HI:=Lib.hid h.ilt
 have HA:=Lib.hid ha
 have HL:=Lib.hid (show (leftT l (i+2)).length≤n by rw [left_length] at hn ⊢;have:=h.ilt;omega)
 have Q:=Lib.hid (p_name_at hg (h.alloc (.cells #[.string ⟨#[]⟩,.slice none 0 0] 92)))
 obtain ⟨M,hM⟩:∃M:Nat,M=9223372036854775807:=⟨_,rfl⟩
 have HM:=Lib.hid hM
 have QL:=Lib.hid (fun (j:Nat) (W:World) (hp:Pq W R A c l j) (h1:a≤j) (h2:(leftT l j).length≤n)=>show Calls Tryz.prog 128 #[.pointer (some ⟨R,0,none⟩),.int .i64 9223372036854775807,.func (.func 129) #[.pointer (some ⟨R,0,none⟩)] #[]] W (ListR rdTm 56 ex M R A c l a j W) by
  have:=list_Tm_at hg a n M (by omega) ex hE j W hp h1 h2
  rw [hM] at this ⊢
  exact this)
 clear hg hE h hn ha hM
 have hTR:w.heap.size≠R:=by omega
 go_enter Tryz.func104,Tryz.ntmps104
 go_wp2_with fail
 refine Q.out.mono ?_
 rintro e w2 ⟨t,er,j,rfl,hk,hp,ht,ho⟩
 have HB:=Lib.hid ((BoxL.new w [.string ⟨#[]⟩,.slice none 0 0] 92).kq hk hTR)
 have HK:=Lib.hid (Kq.from_new hk)
 have hsz:w.heap.size+1≤w2.heap.size:=by have:=hk.size;simpa using this
 have HP:=Lib.hid hp
 have HT:=Lib.hid (show (S t).size≤maxLen by rw [S_size];unfold maxLen;omega)
 clear hk hp
 rcases ho with ⟨rfl,rfl,hte,hf⟩|⟨her,rfl,rfl,hf⟩
 ·have HF:=Lib.hid hf
  have HN0:=Lib.hid ((word_ne HG.out HI.out (hf [])).2.2 a)
  obtain ⟨b,hb⟩:∃b,((l.getD (i+1) default).2.2==[40])=b:=⟨_,rfl⟩
  have HX:=Lib.hid (show isS [40] (leftT l (i+1))=b by rw [isS_left HG.out HP.out.ilt (by decide)];exact hb)
  have QX:=Lib.hid (fun W (hW:Pq W R A c l (i+1))=>accept_at HG.out hW [40] (by decide) hb)
  clear hf hb hte
  cases b
  ·go_wp2_with (go_at_call 45;refine (QX.out _ HP.out).mono ?_;rintro e w3 ⟨rfl,hk3,hp3⟩;have HK3:=Lib.hid (HK.out.trans hk3);have hsz3:w2.heap.size≤w3.heap.size:=hk3.size;obtain ⟨c0,c1,f0,f1⟩:=(HB.out.kq hk3 hTR).get2;have HP3:=Lib.hid hp3;clear hk3 hp3)
   refine bodyPost_ret (v:=.tuple #[.agg #[.string (S t),.slice none 0 0],.int .i64 0]) (by simp [results,Tryz.results104,go_sem,c0,c1]) rfl ?_
   obtain ⟨e1,e2,e3⟩:=end2 hR HK3.out HP3.out (sit_word (w.heap.size+1) w3 HT.out) (Nat.lt_succ_self _) (.string (S t)) (.slice none 0 0)
   refine ⟨⟨S t,none,0,[]⟩,i+1,0,rfl,e1,e2,e3,.inl ⟨rfl,?_,by omega,OkV.nil _ _ _⟩⟩
   simp only [atomS,HF.out,HX.out,HN0.out]
   rfl
  ·have HN:=Lib.hid (show i+1+1 < l.length from good_next HG.out HP.out.ilt (by have:=HX.out;rw [isS_left HG.out HP.out.ilt (by decide)] at this;rw [beq_iff_eq.1 this];decide))
   go_wp2_with (go_at_call 45;refine (QX.out _ HP.out).mono ?_;rintro e w3 ⟨rfl,hk3,hp3⟩;have HK3:=Lib.hid (HK.out.trans hk3);have hsz3:w2.heap.size≤w3.heap.size:=hk3.size;have HB3:=Lib.hid (HB.out.kq hk3 hTR);have HP3:=Lib.hid (show Pq w3 R A c l (i+2) from hp3);clear hk3 hp3)
   refine (QL.out (i+2) _ HP3.out (by have:=HA.out;omega) HL.out).mono ?_
   rintro e w4 ⟨xs,j,er,r,rfl,hk4,hp4,hrow,ho⟩
   have HK4:=Lib.hid (HK3.out.trans hk4)
   have HB4:=Lib.hid (HB3.out.kq hk4 hTR)
   have HP4:=Lib.hid hp4
   have hsz4:w3.heap.size≤w4.heap.size:=hk4.size
   have HN1:=Lib.hid (show nsL l a (i+2)=nsL l a (i+1) from nsL_s HP.out.ilt HX.out)
   clear hk4 hp4
   rcases ho with ⟨rfl,hf,hij,hv,h0,hl⟩|⟨her,rfl,rfl,hf⟩
   ·obtain ⟨A',c',rfl,hsit⟩:=sit_atom (s:=S t) hrow h0 hl HT.out
    have HAt:=Lib.hid (show atomS ex (leftT l i) (nsL l a i)=match wantS [41] (xs.map (rdTm.h (gL l a))) (leftT l j) (nsL l a j) with
      | .ok v r2 ns2=>.ok (t,v) r2 ns2
      | .err n e=>.err n e by
     simp only [atomS,HF.out,HX.out,if_true]
     rw [args_list (M:=M) (leftT l (i+1)).length _ (Nat.le_refl _) (by rw [left_cons HP.out.ilt];simp) [] _ (by rw [left_length,HM.out,List.length_nil];have:=HG.out.small;omega),left_tail,← HN0.out,← HN1.out,hf]
     dsimp only
     generalize wantS [41] (List.map (rdTm.h (gL l a)) xs) (leftT l j) (nsL l a j)=q
     cases q<;>rfl)
    have HJ:=Lib.hid hij
    have HV:=Lib.hid hv
    have HS:=Lib.hid (hsit.low (show w.heap.size+1≤w3.heap.size by omega))
    have HMp:=Lib.hid (show xs.map (rdTm.h (gL l a))=numL2 (gL l a) xs by rw [num2_map];rfl)
    obtain ⟨b,hb⟩:∃b,((l.getD j default).2.2==[41])=b:=⟨_,rfl⟩
    have HX4:=Lib.hid (show isS [41] (leftT l j)=b by rw [isS_left HG.out HP4.out.ilt (by decide)];exact hb)
    have QX4:=Lib.hid (fun W (hW:Pq W R A c l j)=>expect_at HG.out hW [41] (by decide) hb)
    clear hf hij hv h0 hl hsit hrow hb
    cases b
    ·go_wp2_with (go_at_call 56;refine (QX4.out _ HP4.out).mono ?_;rintro e w5 ⟨rfl,hk5,hp5⟩;have HK5:=Lib.hid (HK4.out.trans hk5);have hsz5:w4.heap.size≤w5.heap.size:=hk5.size;obtain ⟨c0,c1,f0,f1⟩:=(HB4.out.kq hk5 hTR).get2;have HP5:=Lib.hid hp5;have HS5:=Lib.hid (HS.out.kq hk5 (by omega));clear hk5 hp5)
     refine bodyPost_ret (v:=.tuple #[.agg #[.string (S t),.slice A' xs.length c'],.int .i64 16]) (by simp [results,Tryz.results104,go_sem,c0,c1]) rfl ?_
     obtain ⟨e1,e2,e3⟩:=end2 hR HK5.out HP5.out HS5.out (Nat.lt_succ_self _) (.string (S t)) (.slice A' xs.length c')
     refine ⟨⟨S t,A',c',xs⟩,j,16,rfl,e1,e2,e3,.inr ⟨by omega,?_⟩⟩
     rw [HAt.out]
     simp only [wantS,HX4.out]
     rfl
    ·go_wp2_with (go_at_call 56;refine (QX4.out _ HP4.out).mono ?_;rintro e w5 ⟨rfl,hk5,hp5⟩;have HK5:=Lib.hid (HK4.out.trans hk5);have hsz5:w4.heap.size≤w5.heap.size:=hk5.size;obtain ⟨c0,c1,f0,f1⟩:=(HB4.out.kq hk5 hTR).get2;have HP5:=Lib.hid hp5;have HS5:=Lib.hid (HS.out.kq hk5 (by omega));clear hk5 hp5)
     refine bodyPost_ret (v:=.tuple #[.agg #[.string (S t),.slice A' xs.length c'],.int .i64 0]) (by simp [results,Tryz.results104,go_sem,c0,c1]) rfl ?_
     obtain ⟨e1,e2,e3⟩:=end2 hR HK5.out HP5.out HS5.out (Nat.lt_succ_self _) (.string (S t)) (.slice A' xs.length c')
     have hj:=HJ.out
     refine ⟨⟨S t,A',c',xs⟩,j+1,0,rfl,e1,e2,e3,.inl ⟨rfl,?_,by omega,?_⟩⟩
     ·rw [HAt.out]
      simp only [wantS,HX4.out,left_tail,if_true,HMp.out]
      rw [nsL_s HP4.out.ilt HX4.out]
      rfl
     ·have:=HV.out
      rw [show xs.flatMap rdTm.tms=xs by simp [rdTm]] at this
      exact this.wide (by omega) (by omega)
   ·have hne:(er==0)=false:=by simpa using her
    have HE:=Lib.hid her
    have HAt:=Lib.hid (show atomS ex (leftT l i) (nsL l a i)=.err (leftT l j).length er by
     simp only [atomS,HF.out,HX.out,if_true]
     rw [args_list (M:=M) (leftT l (i+1)).length _ (Nat.le_refl _) (by rw [left_cons HP.out.ilt];simp) [] _ (by rw [left_length,HM.out,List.length_nil];have:=HG.out.small;omega),left_tail,← HN0.out,← HN1.out,hf])
    obtain ⟨c0,c1,f0,f1⟩:=HB4.out.get2
    clear her hf hrow
    go_wp2_with fail
    refine bodyPost_ret (v:=.tuple #[.agg #[.string (S t),.slice none 0 0],.int .i64 er]) (by simp [results,Tryz.results104,go_sem,c0,c1]) rfl ?_
    obtain ⟨e1,e2,e3⟩:=end2 hR HK4.out HP4.out (sit_word (w.heap.size+1) w4 HT.out) (Nat.lt_succ_self _) (.string (S t)) (.slice none 0 0)
    exact ⟨⟨S t,none,0,[]⟩,j,er,rfl,e1,e2,e3,.inr ⟨HE.out,HAt.out⟩⟩
 ·have hne:(er != 0)=true:=by rcases her with rfl|rfl<;>rfl
  have HE:=Lib.hid (show er≠0 by omega)
  have HF:=Lib.hid hf
  obtain ⟨c0,c1,f0,f1⟩:=HB.out.get2
  clear her hf
  go_wp2_with fail
  refine bodyPost_ret (v:=.tuple #[.agg #[.string (S []),.slice none 0 0],.int .i64 er]) (by simp [results,Tryz.results104,go_sem,c0,c1]) rfl ?_
  obtain ⟨e1,e2,e3⟩:=end2 hR HK.out HP.out (sit_word (w.heap.size+1) w2 HT.out) (Nat.lt_succ_self _) (.string (S [])) (.slice none 0 0)
  refine ⟨⟨S [],none,0,[]⟩,j,er,rfl,e1,e2,e3,.inr ⟨HE.out,?_⟩⟩
  simp only [atomS,HF.out]
end
end Go.Proofs.YtaojnljppcnhjaaGreatDoor
namespace Go.Proofs.YtaojnljppcnhjaaGreatDoor
open Go.RowKit
theorem atom_info:(Tryz.prog.info? 92).map (fun i=>(i.zero,i.size,i.bytes))=some (some (.agg #[.string ⟨#[]⟩,.slice none 0 0]),2,40):=by kernel_rfl
theorem news2_Am (w:World) (o:Obj) (u:Am) (T:TypeId):∀j v,(elAm.cells u)[j]?=some v→((w.alloc o).alloc (.cells #[.string u.name,.slice u.at_ u.args.length u.cap] T)).cell? ((⟨w.heap.size+1,0,none⟩:Addr).add j)=some v:=by
 intro j v hv
 have e:(w.alloc o).heap.size=w.heap.size+1:=by simp
 rw [add_plain,Nat.zero_add,← e,World.cell?_alloc_at _ _ _ _ rfl,← hv,show (#[.string u.name,.slice u.at_ u.args.length u.cap]:Array Value)=(elAm.cells u).toArray from rfl,List.getElem?_toArray]
set_option maxHeartbeats 4000000 in
set_option maxRecDepth 10000 in
theorem list_Am_at {R:Nat} {A:Option Addr} {c:Nat} {l:List Tk} (hg:GoodT l) (a n most:Nat) (hmost:most≤9223372036854775807) (ex:Rd1 As)
  (hE:∀(i:Nat) (w:World),Pq w R A c l i→a≤i→(leftT l i).length≤n→Calls Tryz.prog 81 #[.pointer (some ⟨R,0,none⟩)] w (ElR rdAm ex R A c l a i w))
  (i:Nat) (w:World) (h:Pq w R A c l i) (ha:a≤i) (hn:(leftT l i).length≤n) :
  Calls Tryz.prog 80 #[.pointer (some ⟨R,0,none⟩),.int .i64 (most:Int),.func (.func 81) #[.pointer (some ⟨R,0,none⟩)] #[]] w (ListR rdAm 92 ex most R A c l a i w):=by
 obtain ⟨i0,hi,hz0,hz1,hz2⟩:=info_parts atom_info
 have HG:=Lib.hid hg
 have Q:=Lib.hid hE
 have hR:=h.lt
 have H0:=Lib.hid (show ListL rdAm 92 ex most R A c l a i n w (l.length - i) (.slice none 0 0) w i [] from
  ⟨Kp.refl _ _ _,h,RowG.nil _ _ _ _,rfl,Nat.le_refl _,fun h=>absurd rfl h,OkV.nil _ _ _,Nat.zero_le _,hn,Nat.le_refl _⟩)
 have HA:=Lib.hid ha
 have HM:=Lib.hid hmost
 clear hg hE h hn ha hmost
 go_enter Tryz.func80,Tryz.ntmps80
 go_wp2_with fail
 go_loopg [8] (l.length - i) (fun gk z wr=>∃(q:Nat) (xs:List Am) (x:Value),z=x∧Hid (ListL rdAm 92 ex most R A c l a i n w gk x wr q xs))
 case atStart=>exact ⟨i,[],_,rfl,H0⟩
 case round =>
  clear H0
  obtain ⟨q,xs,z,hzx,hI⟩:=hrel
  have hzx':=hzx.symm
  clear hzx
  subst hzx'
  obtain ⟨B,zc,rfl⟩:=RowG.zform hI.out.2.2.1
  obtain ⟨k1,k2,k3,k4,k5,k6,k7,k8,k9,k10⟩:=hI.out
  have hqs:xs.length≤16385:=by have:=k2.ilt;have:=HG.out.small;omega
  have hlen:(xs.length:Int)≤16385:=by omega
  have hle2:xs.length≤9223372036854775807:=by omega
  clear k1 k3 k4 k5 k6 k7 k8 k9 k10
  by_cases hm:xs.length=most
  ·have hm':(((xs.length:Nat):Int)==(most:Int))=true:=by simp [hm]
   have HX:=Lib.hid hm
   clear hm k2
   go_wp2_with fail
   refine bodyPost_ret (v:=.tuple #[.slice none 0 0,.int .i64 6]) (by simp [results,Tryz.results80,go_sem]) rfl ?_
   obtain ⟨k1,k2,k3,k4,k5,k6,k7,k8,k9,k10⟩:=hI.out
   exact ⟨[],q,6,.slice none 0 0,rfl,k1,k2,RowG.nil _ _ _ _,.inr ⟨by omega,rfl,rfl,by rw [k4,listS_much (by rw [List.length_map];exact HX.out)]⟩⟩
  ·have hm':(((xs.length:Nat):Int)==(most:Int))=false:=by simp;omega
   have HX:=Lib.hid (show (xs.map (Rdr.h rdAm (gL l a))).length≠most by rw [List.length_map];exact hm)
   have Q1:=Lib.hid (Q.out q wr k2 (by have:=hI.out.2.2.2.2.1;have:=HA.out;omega) hI.out.2.2.2.2.2.2.2.2.1)
   clear hm k2
   go_wp2_with fail
   refine Q1.out.mono ?_
   rintro e w2 ⟨u,j,er,he,hk,hp,hs,ho⟩
   have he2:e=.returned (.tuple #[.agg #[.string u.name,.slice u.at_ u.args.length u.cap],.int .i64 er]):=he
   clear he
   subst he2
   have HS:=Lib.hid hs
   have HK:=Lib.hid hk
   have HP:=Lib.hid hp
   have HR2:=Lib.hid (show R < w2.heap.size from hp.lt)
   clear hk hp hs
   rcases ho with ⟨rfl,hf,hqj,hv⟩|⟨her,hf⟩
   ·have HF:=Lib.hid hf
    have HJ:=Lib.hid hqj
    have HV:=Lib.hid hv
    clear hf hqj hv
    obtain ⟨b,hb⟩:∃b,((l.getD j default).2.2==[44])=b:=⟨_,rfl⟩
    have HB:=Lib.hid hb
    have HLo:=Lib.hid (show w.heap.size≤wr.heap.size from hI.out.1.size)
    have hlo2:w.heap.size≤w2.heap.size:=Nat.le_trans HLo.out HK.out.size
    have HRow:=Lib.hid (hI.out.2.2.1.kq HK.out hR)
    have HOr:=Lib.hid (own_lt hI.out.2.2.1.row)
    have HOb:=Lib.hid hI.out.2.2.1.sit.bd
    have QA:=Lib.hid (fun W (hW:Pq W R A c l j)=>accept_at HG.out hW [44] (by decide) HB.out)
    clear hb
    cases b
    ·have HC:=Lib.hid (show isS [44] (leftT l j)=false by rw [isS_left HG.out HP.out.ilt (by decide)];exact HB.out)
     go_wp2_with (first
      | (at_builtin; refine wpList_append_lies _ rfl _ _ 32 rfl w.heap.size 92 i0 _ 2 40 Tryz.underlying32 hi hz0 hz1 hz2 rfl (by decide) (.slice B xs.length zc) xs.length (Elt.cellsL elAm xs) rfl ((HRow.out.row.alloc _).alloc _) ⟨w2.heap.size + 1, 0, none⟩ 1 1 (Elt.cells elAm u) rfl rfl (news2_Am w2 _ u _) (Elt.one elAm u) (by decide) (by unfold maxLen; omega) (by omega) (by simp; omega) _ rfl ?_; intro g cap w4 hown hg hat hglt
         have hbox := ((Below.refl w2.heap.size w2).alloc (Nat.le_refl _) (.cells #[.string u.name, .slice u.at_ u.args.length u.cap] 92)).alloc (by simp) (.cells #[.string u.name, .slice u.at_ u.args.length u.cap] 92)
         have HRow4 := Lib.hid (HRow.out.next HLo.out (fun k hk => (HOr.out k hk).2) (fun b hb => (HOb.out b hb).2) HS.out hbox hown hg hat)
         have HK4 := Lib.hid (show Kq R w w4 from ((((hI.out.1.trans HK.out).alloc _).alloc _).grown hg (fun k hk => (HOr.out k hk).1)))
         have HP4 := Lib.hid (((HP.out.alloc _).alloc _).grown hg (fun k hk => by have := (HOr.out k hk).1; omega))
         clear hown hg hat hglt hbox)
      | (go_at_call 45;refine (QA.out _ HP4.out).mono ?_;rintro e w5 ⟨rfl,hk5,hp5⟩;have HK5:=Lib.hid hk5;have HP5:=Lib.hid hp5;clear hk5 hp5))
     refine bodyPost_ret (v:=.tuple #[.slice (some ⟨g,0,none⟩) (xs.length+1) cap,.int .i64 0]) (by simp [results,Tryz.results80,go_sem]) rfl ?_
     obtain ⟨k1,k2,k3,k4,k5,k6,k7,k8,k9,k10⟩:=hI.out
     refine ⟨xs++[u],j,0,_,rfl,HK4.out.trans HK5.out,HP5.out,HRow4.out.kq HK5.out hR,.inl ⟨rfl,?_,by have:=HJ.out;omega,?_,by simp,by have:=HJ.out;have:=HP.out.ilt;have:=HG.out.small;simp only [List.length_append,List.length_cons,List.length_nil];omega⟩⟩
     ·rw [k4,listS_stop HX.out HF.out HC.out,List.map_append];rfl
     ·rw [List.flatMap_append,List.flatMap_cons,List.flatMap_nil,List.append_nil]
      exact k7.append HV.out (Nat.le_refl _) k5 (by have:=HJ.out;omega)
    ·have HN:=Lib.hid (show j+1 < l.length from good_next HG.out HP.out.ilt (by rw [beq_iff_eq.1 HB.out];decide))
     have HC:=Lib.hid (show isS [44] (leftT l j)=true by rw [isS_left HG.out HP.out.ilt (by decide)];exact HB.out)
     go_wp2_with (first
      | (at_builtin; refine wpList_append_lies _ rfl _ _ 32 rfl w.heap.size 92 i0 _ 2 40 Tryz.underlying32 hi hz0 hz1 hz2 rfl (by decide) (.slice B xs.length zc) xs.length (Elt.cellsL elAm xs) rfl ((HRow.out.row.alloc _).alloc _) ⟨w2.heap.size + 1, 0, none⟩ 1 1 (Elt.cells elAm u) rfl rfl (news2_Am w2 _ u _) (Elt.one elAm u) (by decide) (by unfold maxLen; omega) (by omega) (by simp; omega) _ rfl ?_; intro g cap w4 hown hg hat hglt
         have hbox := ((Below.refl w2.heap.size w2).alloc (Nat.le_refl _) (.cells #[.string u.name, .slice u.at_ u.args.length u.cap] 92)).alloc (by simp) (.cells #[.string u.name, .slice u.at_ u.args.length u.cap] 92)
         have HRow4 := Lib.hid (HRow.out.next HLo.out (fun k hk => (HOr.out k hk).2) (fun b hb => (HOb.out b hb).2) HS.out hbox hown hg hat)
         have HK4 := Lib.hid (show Kq R w w4 from ((((hI.out.1.trans HK.out).alloc _).alloc _).grown hg (fun k hk => (HOr.out k hk).1)))
         have HP4 := Lib.hid (((HP.out.alloc _).alloc _).grown hg (fun k hk => by have := (HOr.out k hk).1; omega))
         clear hown hg hat hglt hbox)
      | (go_at_call 45;refine (QA.out _ HP4.out).mono ?_;rintro e w5 ⟨rfl,hk5,hp5⟩;have HK5:=Lib.hid hk5;have HP5:=Lib.hid hp5;clear hk5 hp5))
     have HN2:=Lib.hid (show ListL rdAm 92 ex most R A c l a i n w (gk - 1) (.slice (some ⟨g,0,none⟩) (xs.length+1) cap) w5 (j+1) (xs++[u]) by
      obtain ⟨k1,k2,k3,k4,k5,k6,k7,k8,k9,k10⟩:=hI.out
      have hj:=HJ.out
      have hn:=HN.out
      refine ⟨HK4.out.trans HK5.out,HP5.out,HRow4.out.kq HK5.out hR,?_,by omega,fun _=>by omega,?_,by simp only [List.length_append,List.length_cons,List.length_nil];omega,by rw [left_length] at k9 ⊢;omega,by omega⟩
      ·rw [k4,listS_comma HX.out HF.out HJ.out HN.out HC.out,List.map_append,show nsL l a (j+1)=nsL l a j from nsU_no (by
        have:=HC.out
        rw [left_isS HP.out.ilt] at this
        simp only [isT,Bool.and_eq_true,beq_iff_eq] at this
        simp only [kV,this.1]
        rfl)]
       rfl
      ·rw [List.flatMap_append,List.flatMap_cons,List.flatMap_nil,List.append_nil]
       exact (k7.append HV.out (Nat.le_refl _) k5 (by omega)).wide (Nat.le_refl _) (by omega))
     have HGk:=Lib.hid (show gk - 1 < gk by have:=HJ.out;have:=HN.out;have:=hI.out.2.2.2.2.2.2.2.2.2;omega)
     go_wp2_with fail
     go_roundg (gk - 1)
     case measure=>exact HGk.out
     case rel=>exact ⟨j+1,xs++[u],_,rfl,HN2⟩
   ·have hne:(er != 0)=true:=bne_iff_ne.2 her
    have HF:=Lib.hid hf
    have HE:=Lib.hid her
    clear her hf
    go_wp2_with fail
    refine bodyPost_ret (v:=.tuple #[.slice none 0 0,.int .i64 er]) (by simp [results,Tryz.results80,go_sem]) rfl ?_
    obtain ⟨k1,k2,k3,k4,k5,k6,k7,k8,k9,k10⟩:=hI.out
    exact ⟨[],j,er,.slice none 0 0,rfl,(k1.trans HK.out).alloc _,HP.out.alloc _,RowG.nil _ _ _ _,.inr ⟨HE.out,rfl,rfl,by rw [k4,listS_err HX.out HF.out]⟩⟩
end Go.Proofs.YtaojnljppcnhjaaGreatDoor
