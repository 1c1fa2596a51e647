/-
  PgAtom2.
  PgListAm.
  PgListGl.
 PrValue.
 PaNames.
 PrVar.
 PgNum0.
-/
import Derived.Test.YtnghanpmmbcbbaaGreatDoorMq13
import Derived.Test.YtnghanpmmbcbbaaGreatDoorMq5
import Derived.Test.YtnghanpmmbcbbaaGreatDoorMq2
import Derived.StringKeys
import Derived.Maps.OwnOps
import Derived.Maps.OwnSet
import Derived.Maps.Views
namespace Go.Proofs.YtnghanpmmbcbbaaGreatDoor
open Go.RowKit
theorem lst_row {lo:Nat} {w:World} {T:TypeId} {r:Value} {xs:List Tm} (h:RowG elTm T lo w r xs) (h0:0 < xs.length):∃g c,r=.slice (some ⟨g,0,none⟩) xs.length c∧Lst w (some ⟨g,0,none⟩) xs c∧lo≤g∧g < w.heap.size∧g∉elTm.blkL xs∧∀j,w.frozen? ⟨g,j,none⟩=false:=by
 obtain ⟨g,c,rfl,hle,hcap,hlo,hlt,hap,hfz,hcell⟩:=h.form h0
 refine ⟨g,c,rfl,⟨hle,hcap,fun _=>⟨g,0,rfl,RowAt.of fun i hi=>⟨fun j u hu=>?_,h.sit.at_ _ (getD_mem hi)⟩⟩⟩,hlo,hlt,hap,hfz⟩
 have hj:j < 4:=by
  have:=(List.getElem?_eq_some_iff.1 hu).1
  simpa [Tm.cells] using this
 have:=Elt.cellsL_get elTm xs hi hj
 rw [show 0+4*i+j=i*elTm.k+j by show 0+4*i+j=i*4+j;omega]
 exact hcell _ _ (this.trans hu)
theorem blk_args {g:Nat} {xs:List Tm} (h0:0 < xs.length):blkA (some ⟨g,0,none⟩) xs.length++blkL xs=g :: elTm.blkL xs:=by
 rw [blkA,if_neg (by omega),blkL_flat];rfl
theorem sit_atom {lo:Nat} {w:World} {T:TypeId} {r:Value} {xs:List Tm} (h:RowG elTm T lo w r xs) (h0:0 < xs.length) (hl:xs.length≤16385) {s:ByteArray} (hs:s.size≤maxLen):∃A c,r=.slice A xs.length c∧SitG elAm lo w [⟨s,A,c,xs⟩]:=by
 obtain ⟨g,c,rfl,hL,hlo,hlt,hap,hfz⟩:=lst_row h h0
 have e:elAm.blkL [⟨s,some ⟨g,0,none⟩,c,xs⟩]=g :: elTm.blkL xs:=by
  rw [Elt.blkL_one];exact blk_args h0
 refine ⟨_,c,rfl,fun x hx=>?_,by rw [e,List.nodup_cons];exact ⟨hap,h.sit.nd⟩,fun b hb=>?_,fun b hb=>?_⟩
 ·rw [List.mem_singleton.1 hx]
  exact ⟨⟨hs,hL⟩,fun e=>(by rw [show xs=[] from e] at h0;simp at h0),hl⟩
 ·rw [e] at hb
  rcases List.mem_cons.1 hb with rfl|hb
  ·exact ⟨hlo,hlt⟩
  ·exact h.sit.bd b hb
 ·rw [e] at hb
  rcases List.mem_cons.1 hb with rfl|hb
  ·exact hfz
  ·exact h.sit.fz b hb
theorem sit_word (lo:Nat) (w:World) {s:ByteArray} (hs:s.size≤maxLen):SitG elAm lo w [⟨s,none,0,[]⟩] :=
 ⟨fun x hx=>by rw [List.mem_singleton.1 hx];exact ⟨⟨hs,Lst.nil w⟩,fun _=>⟨rfl,rfl⟩,Nat.zero_le _⟩,by simp [Elt.blkL,elAm,blkA,blkL],fun b hb=>(by simp [Elt.blkL,elAm,blkA,blkL] at hb),fun b hb=>(by simp [Elt.blkL,elAm,blkA,blkL] at hb)⟩
theorem S_size (x:List UInt8):(S x).size=x.length:=by show x.toArray.size=_;simp
section
variable {R:Nat} {A:Option Addr} {c:Nat} {l:List Tk}
theorem word_ne {l:List Tk} (hg:GoodT l) {i:Nat} (hi:i < l.length) {ns ns2:List (List UInt8)} {t:List UInt8} {r:List Tok} (h:nmS (leftT l i) ns=.ok t r ns2):t.length≤16384∧nsL l 0 (i+1)=nsL l 0 i∧∀a,nsL l a (i+1)=nsL l a i:=by
 rw [left_cons hi,nmS] at h
 split at h
 ·cases h
 ·rename_i hk
  split at h
  ·cases h
  ·injection h with h1
   rw [←h1]
   have hk2:(l.getD i default).1=1:=by simpa using hk
   exact ⟨hg.texts i hi,nsL_no hk2 (by decide),fun a=>nsL_no hk2 (by decide)⟩
set_option maxHeartbeats 4000000 in
set_option maxRecDepth 10000 in
theorem atom_at (hg:GoodT l) {a n:Nat} {ex:Rd1 Tm} (hE:ExprQ R A c l a n ex) (i:Nat) (w:World) (h:Pq w R A c l i) (ha:a≤i) (hn:(leftT l i).length≤n+1) :
  Calls Tryz.prog 175 #[.pointer (some ⟨R,0,none⟩)] w (ElR rdAm (atomS ex) R A c l a i w):=by
 have HG:=Lib.hid hg
 have hR:=h.lt
 have HI:=Lib.hid h.ilt
 have HA:=Lib.hid ha
 have HL:=Lib.hid (show (leftT l (i+2)).length≤n by rw [left_length] at hn ⊢;have:=h.ilt;omega)
 have Q:=Lib.hid (p_name_at hg (h.alloc (.cells #[.string ⟨#[]⟩,.slice none 0 0] 66)))
 obtain ⟨M,hM⟩:∃M:Nat,M=9223372036854775807:=⟨_,rfl⟩
 have HM:=Lib.hid hM
 have QL:=Lib.hid (fun (j:Nat) (W:World) (hp:Pq W R A c l j) (h1:a≤j) (h2:(leftT l j).length≤n)=>show Calls Tryz.prog 202 #[.pointer (some ⟨R,0,none⟩),.int .i64 9223372036854775807,.func (.func 203) #[.pointer (some ⟨R,0,none⟩)] #[]] W (ListR rdTm 69 ex M R A c l a j W) by
  have:=list_Tm_at hg a n M (by omega) ex hE j W hp h1 h2
  rw [hM] at this ⊢
  exact this)
 clear hg hE h hn ha hM
 have hTR:w.heap.size≠R:=by omega
 go_enter Tryz.func175,Tryz.ntmps175
 go_wp2_with fail
 refine Q.out.mono ?_
 rintro e w2 ⟨t,er,j,rfl,hk,hp,ht,ho⟩
 have HB:=Lib.hid ((BoxL.new w [.string ⟨#[]⟩,.slice none 0 0] 66).kq hk hTR)
 have HK:=Lib.hid (Kq.from_new hk)
 have hsz:w.heap.size+1≤w2.heap.size:=by have:=hk.size;simpa using this
 have HP:=Lib.hid hp
 have HT:=Lib.hid (show (S t).size≤maxLen by rw [S_size];unfold maxLen;omega)
 clear hk hp
 rcases ho with ⟨rfl,rfl,hte,hf⟩|⟨her,rfl,rfl,hf⟩
 ·have HF:=Lib.hid hf
  have HN0:=Lib.hid ((word_ne HG.out HI.out (hf [])).2.2 a)
  obtain ⟨b,hb⟩:∃b,((l.getD (i+1) default).2.2==[40])=b:=⟨_,rfl⟩
  have HX:=Lib.hid (show isS [40] (leftT l (i+1))=b by rw [isS_left HG.out HP.out.ilt (by decide)];exact hb)
  have QX:=Lib.hid (fun W (hW:Pq W R A c l (i+1))=>accept_at HG.out hW [40] (by decide) hb)
  clear hf hb hte
  cases b
  ·go_wp2_with (go_at_call 100;refine (QX.out _ HP.out).mono ?_;rintro e w3 ⟨rfl,hk3,hp3⟩;have HK3:=Lib.hid (HK.out.trans hk3);have hsz3:w2.heap.size≤w3.heap.size:=hk3.size;obtain ⟨c0,c1,f0,f1⟩:=(HB.out.kq hk3 hTR).get2;have HP3:=Lib.hid hp3;clear hk3 hp3)
   refine bodyPost_ret (v:=.tuple #[.agg #[.string (S t),.slice none 0 0],.int .i64 0]) (by simp [results,Tryz.results175,go_sem,c0,c1]) rfl ?_
   obtain ⟨e1,e2,e3⟩:=end2 hR HK3.out HP3.out (sit_word (w.heap.size+1) w3 HT.out) (Nat.lt_succ_self _) (.string (S t)) (.slice none 0 0)
   refine ⟨⟨S t,none,0,[]⟩,i+1,0,rfl,e1,e2,e3,.inl ⟨rfl,?_,by omega,OkV.nil _ _ _⟩⟩
   simp only [atomS,HF.out,HX.out,HN0.out]
   rfl
  ·have HN:=Lib.hid (show i+1+1 < l.length from good_next HG.out HP.out.ilt (by have:=HX.out;rw [isS_left HG.out HP.out.ilt (by decide)] at this;rw [beq_iff_eq.1 this];decide))
   go_wp2_with (go_at_call 100;refine (QX.out _ HP.out).mono ?_;rintro e w3 ⟨rfl,hk3,hp3⟩;have HK3:=Lib.hid (HK.out.trans hk3);have hsz3:w2.heap.size≤w3.heap.size:=hk3.size;have HB3:=Lib.hid (HB.out.kq hk3 hTR);have HP3:=Lib.hid (show Pq w3 R A c l (i+2) from hp3);clear hk3 hp3)
   refine (QL.out (i+2) _ HP3.out (by have:=HA.out;omega) HL.out).mono ?_
   rintro e w4 ⟨xs,j,er,r,rfl,hk4,hp4,hrow,ho⟩
   have HK4:=Lib.hid (HK3.out.trans hk4)
   have HB4:=Lib.hid (HB3.out.kq hk4 hTR)
   have HP4:=Lib.hid hp4
   have hsz4:w3.heap.size≤w4.heap.size:=hk4.size
   have HN1:=Lib.hid (show nsL l a (i+2)=nsL l a (i+1) from nsL_s HP.out.ilt HX.out)
   clear hk4 hp4
   rcases ho with ⟨rfl,hf,hij,hv,h0,hl⟩|⟨her,rfl,rfl,hf⟩
   ·obtain ⟨A',c',rfl,hsit⟩:=sit_atom (s:=S t) hrow h0 hl HT.out
    have HAt:=Lib.hid (show atomS ex (leftT l i) (nsL l a i)=match wantS [41] (xs.map (rdTm.h (gL l a))) (leftT l j) (nsL l a j) with
      | .ok v r2 ns2=>.ok (t,v) r2 ns2
      | .err n e=>.err n e by
     simp only [atomS,HF.out,HX.out,if_true]
     rw [args_list (M:=M) (leftT l (i+1)).length _ (Nat.le_refl _) (by rw [left_cons HP.out.ilt];simp) [] _ (by rw [left_length,HM.out,List.length_nil];have:=HG.out.small;omega),left_tail,← HN0.out,← HN1.out,hf]
     dsimp only
     generalize wantS [41] (List.map (rdTm.h (gL l a)) xs) (leftT l j) (nsL l a j)=q
     cases q<;>rfl)
    have HJ:=Lib.hid hij
    have HV:=Lib.hid hv
    have HS:=Lib.hid (hsit.low (show w.heap.size+1≤w3.heap.size by omega))
    have HMp:=Lib.hid (show xs.map (rdTm.h (gL l a))=numL2 (gL l a) xs by rw [num2_map];rfl)
    obtain ⟨b,hb⟩:∃b,((l.getD j default).2.2==[41])=b:=⟨_,rfl⟩
    have HX4:=Lib.hid (show isS [41] (leftT l j)=b by rw [isS_left HG.out HP4.out.ilt (by decide)];exact hb)
    have QX4:=Lib.hid (fun W (hW:Pq W R A c l j)=>expect_at HG.out hW [41] (by decide) hb)
    clear hf hij hv h0 hl hsit hrow hb
    cases b
    ·go_wp2_with (go_at_call 98;refine (QX4.out _ HP4.out).mono ?_;rintro e w5 ⟨rfl,hk5,hp5⟩;have HK5:=Lib.hid (HK4.out.trans hk5);have hsz5:w4.heap.size≤w5.heap.size:=hk5.size;obtain ⟨c0,c1,f0,f1⟩:=(HB4.out.kq hk5 hTR).get2;have HP5:=Lib.hid hp5;have HS5:=Lib.hid (HS.out.kq hk5 (by omega));clear hk5 hp5)
     refine bodyPost_ret (v:=.tuple #[.agg #[.string (S t),.slice A' xs.length c'],.int .i64 16]) (by simp [results,Tryz.results175,go_sem,c0,c1]) rfl ?_
     obtain ⟨e1,e2,e3⟩:=end2 hR HK5.out HP5.out HS5.out (Nat.lt_succ_self _) (.string (S t)) (.slice A' xs.length c')
     refine ⟨⟨S t,A',c',xs⟩,j,16,rfl,e1,e2,e3,.inr ⟨by omega,?_⟩⟩
     rw [HAt.out]
     simp only [wantS,HX4.out]
     rfl
    ·go_wp2_with (go_at_call 98;refine (QX4.out _ HP4.out).mono ?_;rintro e w5 ⟨rfl,hk5,hp5⟩;have HK5:=Lib.hid (HK4.out.trans hk5);have hsz5:w4.heap.size≤w5.heap.size:=hk5.size;obtain ⟨c0,c1,f0,f1⟩:=(HB4.out.kq hk5 hTR).get2;have HP5:=Lib.hid hp5;have HS5:=Lib.hid (HS.out.kq hk5 (by omega));clear hk5 hp5)
     refine bodyPost_ret (v:=.tuple #[.agg #[.string (S t),.slice A' xs.length c'],.int .i64 0]) (by simp [results,Tryz.results175,go_sem,c0,c1]) rfl ?_
     obtain ⟨e1,e2,e3⟩:=end2 hR HK5.out HP5.out HS5.out (Nat.lt_succ_self _) (.string (S t)) (.slice A' xs.length c')
     have hj:=HJ.out
     refine ⟨⟨S t,A',c',xs⟩,j+1,0,rfl,e1,e2,e3,.inl ⟨rfl,?_,by omega,?_⟩⟩
     ·rw [HAt.out]
      simp only [wantS,HX4.out,left_tail,if_true,HMp.out]
      rw [nsL_s HP4.out.ilt HX4.out]
      rfl
     ·have:=HV.out
      rw [show xs.flatMap rdTm.tms=xs by simp [rdTm]] at this
      exact this.wide (by omega) (by omega)
   ·have hne:(er==0)=false:=by simpa using her
    have HE:=Lib.hid her
    have HAt:=Lib.hid (show atomS ex (leftT l i) (nsL l a i)=.err (leftT l j).length er by
     simp only [atomS,HF.out,HX.out,if_true]
     rw [args_list (M:=M) (leftT l (i+1)).length _ (Nat.le_refl _) (by rw [left_cons HP.out.ilt];simp) [] _ (by rw [left_length,HM.out,List.length_nil];have:=HG.out.small;omega),left_tail,← HN0.out,← HN1.out,hf])
    obtain ⟨c0,c1,f0,f1⟩:=HB4.out.get2
    clear her hf hrow
    go_wp2_with fail
    refine bodyPost_ret (v:=.tuple #[.agg #[.string (S t),.slice none 0 0],.int .i64 er]) (by simp [results,Tryz.results175,go_sem,c0,c1]) rfl ?_
    obtain ⟨e1,e2,e3⟩:=end2 hR HK4.out HP4.out (sit_word (w.heap.size+1) w4 HT.out) (Nat.lt_succ_self _) (.string (S t)) (.slice none 0 0)
    exact ⟨⟨S t,none,0,[]⟩,j,er,rfl,e1,e2,e3,.inr ⟨HE.out,HAt.out⟩⟩
 ·have hne:(er != 0)=true:=by rcases her with rfl|rfl<;>rfl
  have HE:=Lib.hid (show er≠0 by omega)
  have HF:=Lib.hid hf
  obtain ⟨c0,c1,f0,f1⟩:=HB.out.get2
  clear her hf
  go_wp2_with fail
  refine bodyPost_ret (v:=.tuple #[.agg #[.string (S []),.slice none 0 0],.int .i64 er]) (by simp [results,Tryz.results175,go_sem,c0,c1]) rfl ?_
  obtain ⟨e1,e2,e3⟩:=end2 hR HK.out HP.out (sit_word (w.heap.size+1) w2 HT.out) (Nat.lt_succ_self _) (.string (S [])) (.slice none 0 0)
  refine ⟨⟨S [],none,0,[]⟩,j,er,rfl,e1,e2,e3,.inr ⟨HE.out,?_⟩⟩
  simp only [atomS,HF.out]
end
end Go.Proofs.YtnghanpmmbcbbaaGreatDoor
namespace Go.Proofs.YtnghanpmmbcbbaaGreatDoor
open Go.RowKit
theorem atom_info:(Tryz.prog.info? 66).map (fun i=>(i.zero,i.size,i.bytes))=some (some (.agg #[.string ⟨#[]⟩,.slice none 0 0]),2,40):=by kernel_rfl
theorem news2_Am (w:World) (o:Obj) (u:Am) (T:TypeId):∀j v,(elAm.cells u)[j]?=some v→((w.alloc o).alloc (.cells #[.string u.name,.slice u.at_ u.args.length u.cap] T)).cell? ((⟨w.heap.size+1,0,none⟩:Addr).add j)=some v:=by
 intro j v hv
 have e:(w.alloc o).heap.size=w.heap.size+1:=by simp
 rw [add_plain,Nat.zero_add,← e,World.cell?_alloc_at _ _ _ _ rfl,← hv,show (#[.string u.name,.slice u.at_ u.args.length u.cap]:Array Value)=(elAm.cells u).toArray from rfl,List.getElem?_toArray]
set_option maxHeartbeats 4000000 in
set_option maxRecDepth 10000 in
theorem list_Am_at {R:Nat} {A:Option Addr} {c:Nat} {l:List Tk} (hg:GoodT l) (a n most:Nat) (hmost:most≤9223372036854775807) (ex:Rd1 As)
  (hE:∀(i:Nat) (w:World),Pq w R A c l i→a≤i→(leftT l i).length≤n→Calls Tryz.prog 139 #[.pointer (some ⟨R,0,none⟩)] w (ElR rdAm ex R A c l a i w))
  (i:Nat) (w:World) (h:Pq w R A c l i) (ha:a≤i) (hn:(leftT l i).length≤n) :
  Calls Tryz.prog 138 #[.pointer (some ⟨R,0,none⟩),.int .i64 (most:Int),.func (.func 139) #[.pointer (some ⟨R,0,none⟩)] #[]] w (ListR rdAm 66 ex most R A c l a i w):=by
 obtain ⟨i0,hi,hz0,hz1,hz2⟩:=info_parts atom_info
 have HG:=Lib.hid hg
 have Q:=Lib.hid hE
 have hR:=h.lt
 have H0:=Lib.hid (show ListL rdAm 66 ex most R A c l a i n w (l.length - i) (.slice none 0 0) w i [] from
  ⟨Kp.refl _ _ _,h,RowG.nil _ _ _ _,rfl,Nat.le_refl _,fun h=>absurd rfl h,OkV.nil _ _ _,Nat.zero_le _,hn,Nat.le_refl _⟩)
 have HA:=Lib.hid ha
 have HM:=Lib.hid hmost
 clear hg hE h hn ha hmost
 go_enter Tryz.func138,Tryz.ntmps138
 go_wp2_with fail
 go_loopg [8] (l.length - i) (fun gk z wr=>∃(q:Nat) (xs:List Am) (x:Value),z=x∧Hid (ListL rdAm 66 ex most R A c l a i n w gk x wr q xs))
 case atStart=>exact ⟨i,[],_,rfl,H0⟩
 case round =>
  clear H0
  obtain ⟨q,xs,z,hzx,hI⟩:=hrel
  have hzx':=hzx.symm
  clear hzx
  subst hzx'
  obtain ⟨B,zc,rfl⟩:=RowG.zform hI.out.2.2.1
  obtain ⟨k1,k2,k3,k4,k5,k6,k7,k8,k9,k10⟩:=hI.out
  have hqs:xs.length≤16385:=by have:=k2.ilt;have:=HG.out.small;omega
  have hlen:(xs.length:Int)≤16385:=by omega
  have hle2:xs.length≤9223372036854775807:=by omega
  clear k1 k3 k4 k5 k6 k7 k8 k9 k10
  by_cases hm:xs.length=most
  ·have hm':(((xs.length:Nat):Int)==(most:Int))=true:=by simp [hm]
   have HX:=Lib.hid hm
   clear hm k2
   go_wp2_with fail
   refine bodyPost_ret (v:=.tuple #[.slice none 0 0,.int .i64 6]) (by simp [results,Tryz.results138,go_sem]) rfl ?_
   obtain ⟨k1,k2,k3,k4,k5,k6,k7,k8,k9,k10⟩:=hI.out
   exact ⟨[],q,6,.slice none 0 0,rfl,k1,k2,RowG.nil _ _ _ _,.inr ⟨by omega,rfl,rfl,by rw [k4,listS_much (by rw [List.length_map];exact HX.out)]⟩⟩
  ·have hm':(((xs.length:Nat):Int)==(most:Int))=false:=by simp;omega
   have HX:=Lib.hid (show (xs.map (Rdr.h rdAm (gL l a))).length≠most by rw [List.length_map];exact hm)
   have Q1:=Lib.hid (Q.out q wr k2 (by have:=hI.out.2.2.2.2.1;have:=HA.out;omega) hI.out.2.2.2.2.2.2.2.2.1)
   clear hm k2
   go_wp2_with fail
   refine Q1.out.mono ?_
   rintro e w2 ⟨u,j,er,he,hk,hp,hs,ho⟩
   have he2:e=.returned (.tuple #[.agg #[.string u.name,.slice u.at_ u.args.length u.cap],.int .i64 er]):=he
   clear he
   subst he2
   have HS:=Lib.hid hs
   have HK:=Lib.hid hk
   have HP:=Lib.hid hp
   have HR2:=Lib.hid (show R < w2.heap.size from hp.lt)
   clear hk hp hs
   rcases ho with ⟨rfl,hf,hqj,hv⟩|⟨her,hf⟩
   ·have HF:=Lib.hid hf
    have HJ:=Lib.hid hqj
    have HV:=Lib.hid hv
    clear hf hqj hv
    obtain ⟨b,hb⟩:∃b,((l.getD j default).2.2==[44])=b:=⟨_,rfl⟩
    have HB:=Lib.hid hb
    have HLo:=Lib.hid (show w.heap.size≤wr.heap.size from hI.out.1.size)
    have hlo2:w.heap.size≤w2.heap.size:=Nat.le_trans HLo.out HK.out.size
    have HRow:=Lib.hid (hI.out.2.2.1.kq HK.out hR)
    have HOr:=Lib.hid (own_lt hI.out.2.2.1.row)
    have HOb:=Lib.hid hI.out.2.2.1.sit.bd
    have QA:=Lib.hid (fun W (hW:Pq W R A c l j)=>accept_at HG.out hW [44] (by decide) HB.out)
    clear hb
    cases b
    ·have HC:=Lib.hid (show isS [44] (leftT l j)=false by rw [isS_left HG.out HP.out.ilt (by decide)];exact HB.out)
     go_wp2_with (first
      | (at_builtin; refine wpList_append_lies _ rfl _ _ 22 rfl w.heap.size 66 i0 _ 2 40 Tryz.underlying22 hi hz0 hz1 hz2 rfl (by decide) (.slice B xs.length zc) xs.length (Elt.cellsL elAm xs) rfl ((HRow.out.row.alloc _).alloc _) ⟨w2.heap.size + 1, 0, none⟩ 1 1 (Elt.cells elAm u) rfl rfl (news2_Am w2 _ u _) (Elt.one elAm u) (by decide) (by unfold maxLen; omega) (by omega) (by simp; omega) _ rfl ?_; intro g cap w4 hown hg hat hglt
         have hbox := ((Below.refl w2.heap.size w2).alloc (Nat.le_refl _) (.cells #[.string u.name, .slice u.at_ u.args.length u.cap] 66)).alloc (by simp) (.cells #[.string u.name, .slice u.at_ u.args.length u.cap] 66)
         have HRow4 := Lib.hid (HRow.out.next HLo.out (fun k hk => (HOr.out k hk).2) (fun b hb => (HOb.out b hb).2) HS.out hbox hown hg hat)
         have HK4 := Lib.hid (show Kq R w w4 from ((((hI.out.1.trans HK.out).alloc _).alloc _).grown hg (fun k hk => (HOr.out k hk).1)))
         have HP4 := Lib.hid (((HP.out.alloc _).alloc _).grown hg (fun k hk => by have := (HOr.out k hk).1; omega))
         clear hown hg hat hglt hbox)
      | (go_at_call 100;refine (QA.out _ HP4.out).mono ?_;rintro e w5 ⟨rfl,hk5,hp5⟩;have HK5:=Lib.hid hk5;have HP5:=Lib.hid hp5;clear hk5 hp5))
     refine bodyPost_ret (v:=.tuple #[.slice (some ⟨g,0,none⟩) (xs.length+1) cap,.int .i64 0]) (by simp [results,Tryz.results138,go_sem]) rfl ?_
     obtain ⟨k1,k2,k3,k4,k5,k6,k7,k8,k9,k10⟩:=hI.out
     refine ⟨xs++[u],j,0,_,rfl,HK4.out.trans HK5.out,HP5.out,HRow4.out.kq HK5.out hR,.inl ⟨rfl,?_,by have:=HJ.out;omega,?_,by simp,by have:=HJ.out;have:=HP.out.ilt;have:=HG.out.small;simp only [List.length_append,List.length_cons,List.length_nil];omega⟩⟩
     ·rw [k4,listS_stop HX.out HF.out HC.out,List.map_append];rfl
     ·rw [List.flatMap_append,List.flatMap_cons,List.flatMap_nil,List.append_nil]
      exact k7.append HV.out (Nat.le_refl _) k5 (by have:=HJ.out;omega)
    ·have HN:=Lib.hid (show j+1 < l.length from good_next HG.out HP.out.ilt (by rw [beq_iff_eq.1 HB.out];decide))
     have HC:=Lib.hid (show isS [44] (leftT l j)=true by rw [isS_left HG.out HP.out.ilt (by decide)];exact HB.out)
     go_wp2_with (first
      | (at_builtin; refine wpList_append_lies _ rfl _ _ 22 rfl w.heap.size 66 i0 _ 2 40 Tryz.underlying22 hi hz0 hz1 hz2 rfl (by decide) (.slice B xs.length zc) xs.length (Elt.cellsL elAm xs) rfl ((HRow.out.row.alloc _).alloc _) ⟨w2.heap.size + 1, 0, none⟩ 1 1 (Elt.cells elAm u) rfl rfl (news2_Am w2 _ u _) (Elt.one elAm u) (by decide) (by unfold maxLen; omega) (by omega) (by simp; omega) _ rfl ?_; intro g cap w4 hown hg hat hglt
         have hbox := ((Below.refl w2.heap.size w2).alloc (Nat.le_refl _) (.cells #[.string u.name, .slice u.at_ u.args.length u.cap] 66)).alloc (by simp) (.cells #[.string u.name, .slice u.at_ u.args.length u.cap] 66)
         have HRow4 := Lib.hid (HRow.out.next HLo.out (fun k hk => (HOr.out k hk).2) (fun b hb => (HOb.out b hb).2) HS.out hbox hown hg hat)
         have HK4 := Lib.hid (show Kq R w w4 from ((((hI.out.1.trans HK.out).alloc _).alloc _).grown hg (fun k hk => (HOr.out k hk).1)))
         have HP4 := Lib.hid (((HP.out.alloc _).alloc _).grown hg (fun k hk => by have := (HOr.out k hk).1; omega))
         clear hown hg hat hglt hbox)
      | (go_at_call 100;refine (QA.out _ HP4.out).mono ?_;rintro e w5 ⟨rfl,hk5,hp5⟩;have HK5:=Lib.hid hk5;have HP5:=Lib.hid hp5;clear hk5 hp5))
     have HN2:=Lib.hid (show ListL rdAm 66 ex most R A c l a i n w (gk - 1) (.slice (some ⟨g,0,none⟩) (xs.length+1) cap) w5 (j+1) (xs++[u]) by
      obtain ⟨k1,k2,k3,k4,k5,k6,k7,k8,k9,k10⟩:=hI.out
      have hj:=HJ.out
      have hn:=HN.out
      refine ⟨HK4.out.trans HK5.out,HP5.out,HRow4.out.kq HK5.out hR,?_,by omega,fun _=>by omega,?_,by simp only [List.length_append,List.length_cons,List.length_nil];omega,by rw [left_length] at k9 ⊢;omega,by omega⟩
      ·rw [k4,listS_comma HX.out HF.out HJ.out HN.out HC.out,List.map_append,show nsL l a (j+1)=nsL l a j from nsU_no (by
        have:=HC.out
        rw [left_isS HP.out.ilt] at this
        simp only [isT,Bool.and_eq_true,beq_iff_eq] at this
        simp only [kV,this.1]
        rfl)]
       rfl
      ·rw [List.flatMap_append,List.flatMap_cons,List.flatMap_nil,List.append_nil]
       exact (k7.append HV.out (Nat.le_refl _) k5 (by omega)).wide (Nat.le_refl _) (by omega))
     have HGk:=Lib.hid (show gk - 1 < gk by have:=HJ.out;have:=HN.out;have:=hI.out.2.2.2.2.2.2.2.2.2;omega)
     go_wp2_with fail
     go_roundg (gk - 1)
     case measure=>exact HGk.out
     case rel=>exact ⟨j+1,xs++[u],_,rfl,HN2⟩
   ·have hne:(er != 0)=true:=bne_iff_ne.2 her
    have HF:=Lib.hid hf
    have HE:=Lib.hid her
    clear her hf
    go_wp2_with fail
    refine bodyPost_ret (v:=.tuple #[.slice none 0 0,.int .i64 er]) (by simp [results,Tryz.results138,go_sem]) rfl ?_
    obtain ⟨k1,k2,k3,k4,k5,k6,k7,k8,k9,k10⟩:=hI.out
    exact ⟨[],j,er,.slice none 0 0,rfl,(k1.trans HK.out).alloc _,HP.out.alloc _,RowG.nil _ _ _ _,.inr ⟨HE.out,rfl,rfl,by rw [k4,listS_err HX.out HF.out]⟩⟩
end Go.Proofs.YtnghanpmmbcbbaaGreatDoor
namespace Go.Proofs.YtnghanpmmbcbbaaGreatDoor
open Go.RowKit
theorem goal_info:(Tryz.prog.info? 59).map (fun i=>(i.zero,i.size,i.bytes))=some (some (.agg #[.int .i64 0,.string ⟨#[]⟩,.slice none 0 0]),3,48):=by kernel_rfl
theorem news2_Gl (w:World) (o:Obj) (u:Gl) (T:TypeId):∀j v,(elGl.cells u)[j]?=some v→((w.alloc o).alloc (.cells #[.int .i64 u.op,.string u.name,.slice u.at_ u.args.length u.cap] T)).cell? ((⟨w.heap.size+1,0,none⟩:Addr).add j)=some v:=by
 intro j v hv
 have e:(w.alloc o).heap.size=w.heap.size+1:=by simp
 rw [add_plain,Nat.zero_add,← e,World.cell?_alloc_at _ _ _ _ rfl,← hv,show (#[.int .i64 u.op,.string u.name,.slice u.at_ u.args.length u.cap]:Array Value)=(elGl.cells u).toArray from rfl,List.getElem?_toArray]
set_option maxHeartbeats 4000000 in
set_option maxRecDepth 10000 in
theorem list_Gl_at {R:Nat} {A:Option Addr} {c:Nat} {l:List Tk} (hg:GoodT l) (a n most:Nat) (hmost:most≤9223372036854775807) (ex:Rd1 Gs)
  (hE:∀(i:Nat) (w:World),Pq w R A c l i→a≤i→(leftT l i).length≤n→Calls Tryz.prog 106 #[.pointer (some ⟨R,0,none⟩)] w (ElR rdGl ex R A c l a i w))
  (i:Nat) (w:World) (h:Pq w R A c l i) (ha:a≤i) (hn:(leftT l i).length≤n) :
  Calls Tryz.prog 105 #[.pointer (some ⟨R,0,none⟩),.int .i64 (most:Int),.func (.func 106) #[.pointer (some ⟨R,0,none⟩)] #[]] w (ListR rdGl 59 ex most R A c l a i w):=by
 obtain ⟨i0,hi,hz0,hz1,hz2⟩:=info_parts goal_info
 have HG:=Lib.hid hg
 have Q:=Lib.hid hE
 have hR:=h.lt
 have H0:=Lib.hid (show ListL rdGl 59 ex most R A c l a i n w (l.length - i) (.slice none 0 0) w i [] from
  ⟨Kp.refl _ _ _,h,RowG.nil _ _ _ _,rfl,Nat.le_refl _,fun h=>absurd rfl h,OkV.nil _ _ _,Nat.zero_le _,hn,Nat.le_refl _⟩)
 have HA:=Lib.hid ha
 have HM:=Lib.hid hmost
 clear hg hE h hn ha hmost
 go_enter Tryz.func105,Tryz.ntmps105
 go_wp2_with fail
 go_loopg [8] (l.length - i) (fun gk z wr=>∃(q:Nat) (xs:List Gl) (x:Value),z=x∧Hid (ListL rdGl 59 ex most R A c l a i n w gk x wr q xs))
 case atStart=>exact ⟨i,[],_,rfl,H0⟩
 case round =>
  clear H0
  obtain ⟨q,xs,z,hzx,hI⟩:=hrel
  have hzx':=hzx.symm
  clear hzx
  subst hzx'
  obtain ⟨B,zc,rfl⟩:=RowG.zform hI.out.2.2.1
  obtain ⟨k1,k2,k3,k4,k5,k6,k7,k8,k9,k10⟩:=hI.out
  have hqs:xs.length≤16385:=by have:=k2.ilt;have:=HG.out.small;omega
  have hlen:(xs.length:Int)≤16385:=by omega
  have hle2:xs.length≤9223372036854775807:=by omega
  clear k1 k3 k4 k5 k6 k7 k8 k9 k10
  by_cases hm:xs.length=most
  ·have hm':(((xs.length:Nat):Int)==(most:Int))=true:=by simp [hm]
   have HX:=Lib.hid hm
   clear hm k2
   go_wp2_with fail
   refine bodyPost_ret (v:=.tuple #[.slice none 0 0,.int .i64 6]) (by simp [results,Tryz.results105,go_sem]) rfl ?_
   obtain ⟨k1,k2,k3,k4,k5,k6,k7,k8,k9,k10⟩:=hI.out
   exact ⟨[],q,6,.slice none 0 0,rfl,k1,k2,RowG.nil _ _ _ _,.inr ⟨by omega,rfl,rfl,by rw [k4,listS_much (by rw [List.length_map];exact HX.out)]⟩⟩
  ·have hm':(((xs.length:Nat):Int)==(most:Int))=false:=by simp;omega
   have HX:=Lib.hid (show (xs.map (Rdr.h rdGl (gL l a))).length≠most by rw [List.length_map];exact hm)
   have Q1:=Lib.hid (Q.out q wr k2 (by have:=hI.out.2.2.2.2.1;have:=HA.out;omega) hI.out.2.2.2.2.2.2.2.2.1)
   clear hm k2
   go_wp2_with fail
   refine Q1.out.mono ?_
   rintro e w2 ⟨u,j,er,he,hk,hp,hs,ho⟩
   have he2:e=.returned (.tuple #[.agg #[.int .i64 u.op,.string u.name,.slice u.at_ u.args.length u.cap],.int .i64 er]):=he
   clear he
   subst he2
   have HS:=Lib.hid hs
   have HK:=Lib.hid hk
   have HP:=Lib.hid hp
   have HR2:=Lib.hid (show R < w2.heap.size from hp.lt)
   clear hk hp hs
   rcases ho with ⟨rfl,hf,hqj,hv⟩|⟨her,hf⟩
   ·have HF:=Lib.hid hf
    have HJ:=Lib.hid hqj
    have HV:=Lib.hid hv
    clear hf hqj hv
    obtain ⟨b,hb⟩:∃b,((l.getD j default).2.2==[44])=b:=⟨_,rfl⟩
    have HB:=Lib.hid hb
    have HLo:=Lib.hid (show w.heap.size≤wr.heap.size from hI.out.1.size)
    have hlo2:w.heap.size≤w2.heap.size:=Nat.le_trans HLo.out HK.out.size
    have HRow:=Lib.hid (hI.out.2.2.1.kq HK.out hR)
    have HOr:=Lib.hid (own_lt hI.out.2.2.1.row)
    have HOb:=Lib.hid hI.out.2.2.1.sit.bd
    have QA:=Lib.hid (fun W (hW:Pq W R A c l j)=>accept_at HG.out hW [44] (by decide) HB.out)
    clear hb
    cases b
    ·have HC:=Lib.hid (show isS [44] (leftT l j)=false by rw [isS_left HG.out HP.out.ilt (by decide)];exact HB.out)
     go_wp2_with (first
      | (at_builtin; refine wpList_append_lies _ rfl _ _ 23 rfl w.heap.size 59 i0 _ 3 48 Tryz.underlying23 hi hz0 hz1 hz2 rfl (by decide) (.slice B xs.length zc) xs.length (Elt.cellsL elGl xs) rfl ((HRow.out.row.alloc _).alloc _) ⟨w2.heap.size + 1, 0, none⟩ 1 1 (Elt.cells elGl u) rfl rfl (news2_Gl w2 _ u _) (Elt.one elGl u) (by decide) (by unfold maxLen; omega) (by omega) (by simp; omega) _ rfl ?_; intro g cap w4 hown hg hat hglt
         have hbox := ((Below.refl w2.heap.size w2).alloc (Nat.le_refl _) (.cells #[.int .i64 u.op, .string u.name, .slice u.at_ u.args.length u.cap] 59)).alloc (by simp) (.cells #[.int .i64 u.op, .string u.name, .slice u.at_ u.args.length u.cap] 59)
         have HRow4 := Lib.hid (HRow.out.next HLo.out (fun k hk => (HOr.out k hk).2) (fun b hb => (HOb.out b hb).2) HS.out hbox hown hg hat)
         have HK4 := Lib.hid (show Kq R w w4 from ((((hI.out.1.trans HK.out).alloc _).alloc _).grown hg (fun k hk => (HOr.out k hk).1)))
         have HP4 := Lib.hid (((HP.out.alloc _).alloc _).grown hg (fun k hk => by have := (HOr.out k hk).1; omega))
         clear hown hg hat hglt hbox)
      | (go_at_call 100;refine (QA.out _ HP4.out).mono ?_;rintro e w5 ⟨rfl,hk5,hp5⟩;have HK5:=Lib.hid hk5;have HP5:=Lib.hid hp5;clear hk5 hp5))
     refine bodyPost_ret (v:=.tuple #[.slice (some ⟨g,0,none⟩) (xs.length+1) cap,.int .i64 0]) (by simp [results,Tryz.results105,go_sem]) rfl ?_
     obtain ⟨k1,k2,k3,k4,k5,k6,k7,k8,k9,k10⟩:=hI.out
     refine ⟨xs++[u],j,0,_,rfl,HK4.out.trans HK5.out,HP5.out,HRow4.out.kq HK5.out hR,.inl ⟨rfl,?_,by have:=HJ.out;omega,?_,by simp,by have:=HJ.out;have:=HP.out.ilt;have:=HG.out.small;simp only [List.length_append,List.length_cons,List.length_nil];omega⟩⟩
     ·rw [k4,listS_stop HX.out HF.out HC.out,List.map_append];rfl
     ·rw [List.flatMap_append,List.flatMap_cons,List.flatMap_nil,List.append_nil]
      exact k7.append HV.out (Nat.le_refl _) k5 (by have:=HJ.out;omega)
    ·have HN:=Lib.hid (show j+1 < l.length from good_next HG.out HP.out.ilt (by rw [beq_iff_eq.1 HB.out];decide))
     have HC:=Lib.hid (show isS [44] (leftT l j)=true by rw [isS_left HG.out HP.out.ilt (by decide)];exact HB.out)
     go_wp2_with (first
      | (at_builtin; refine wpList_append_lies _ rfl _ _ 23 rfl w.heap.size 59 i0 _ 3 48 Tryz.underlying23 hi hz0 hz1 hz2 rfl (by decide) (.slice B xs.length zc) xs.length (Elt.cellsL elGl xs) rfl ((HRow.out.row.alloc _).alloc _) ⟨w2.heap.size + 1, 0, none⟩ 1 1 (Elt.cells elGl u) rfl rfl (news2_Gl w2 _ u _) (Elt.one elGl u) (by decide) (by unfold maxLen; omega) (by omega) (by simp; omega) _ rfl ?_; intro g cap w4 hown hg hat hglt
         have hbox := ((Below.refl w2.heap.size w2).alloc (Nat.le_refl _) (.cells #[.int .i64 u.op, .string u.name, .slice u.at_ u.args.length u.cap] 59)).alloc (by simp) (.cells #[.int .i64 u.op, .string u.name, .slice u.at_ u.args.length u.cap] 59)
         have HRow4 := Lib.hid (HRow.out.next HLo.out (fun k hk => (HOr.out k hk).2) (fun b hb => (HOb.out b hb).2) HS.out hbox hown hg hat)
         have HK4 := Lib.hid (show Kq R w w4 from ((((hI.out.1.trans HK.out).alloc _).alloc _).grown hg (fun k hk => (HOr.out k hk).1)))
         have HP4 := Lib.hid (((HP.out.alloc _).alloc _).grown hg (fun k hk => by have := (HOr.out k hk).1; omega))
         clear hown hg hat hglt hbox)
      | (go_at_call 100;refine (QA.out _ HP4.out).mono ?_;rintro e w5 ⟨rfl,hk5,hp5⟩;have HK5:=Lib.hid hk5;have HP5:=Lib.hid hp5;clear hk5 hp5))
     have HN2:=Lib.hid (show ListL rdGl 59 ex most R A c l a i n w (gk - 1) (.slice (some ⟨g,0,none⟩) (xs.length+1) cap) w5 (j+1) (xs++[u]) by
      obtain ⟨k1,k2,k3,k4,k5,k6,k7,k8,k9,k10⟩:=hI.out
      have hj:=HJ.out
      have hn:=HN.out
      refine ⟨HK4.out.trans HK5.out,HP5.out,HRow4.out.kq HK5.out hR,?_,by omega,fun _=>by omega,?_,by simp only [List.length_append,List.length_cons,List.length_nil];omega,by rw [left_length] at k9 ⊢;omega,by omega⟩
      ·rw [k4,listS_comma HX.out HF.out HJ.out HN.out HC.out,List.map_append,show nsL l a (j+1)=nsL l a j from nsU_no (by
        have:=HC.out
        rw [left_isS HP.out.ilt] at this
        simp only [isT,Bool.and_eq_true,beq_iff_eq] at this
        simp only [kV,this.1]
        rfl)]
       rfl
      ·rw [List.flatMap_append,List.flatMap_cons,List.flatMap_nil,List.append_nil]
       exact (k7.append HV.out (Nat.le_refl _) k5 (by omega)).wide (Nat.le_refl _) (by omega))
     have HGk:=Lib.hid (show gk - 1 < gk by have:=HJ.out;have:=HN.out;have:=hI.out.2.2.2.2.2.2.2.2.2;omega)
     go_wp2_with fail
     go_roundg (gk - 1)
     case measure=>exact HGk.out
     case rel=>exact ⟨j+1,xs++[u],_,rfl,HN2⟩
   ·have hne:(er != 0)=true:=bne_iff_ne.2 her
    have HF:=Lib.hid hf
    have HE:=Lib.hid her
    clear her hf
    go_wp2_with fail
    refine bodyPost_ret (v:=.tuple #[.slice none 0 0,.int .i64 er]) (by simp [results,Tryz.results105,go_sem]) rfl ?_
    obtain ⟨k1,k2,k3,k4,k5,k6,k7,k8,k9,k10⟩:=hI.out
    exact ⟨[],j,er,.slice none 0 0,rfl,(k1.trans HK.out).alloc _,HP.out.alloc _,RowG.nil _ _ _ _,.inr ⟨HE.out,rfl,rfl,by rw [k4,listS_err HX.out HF.out]⟩⟩
end Go.Proofs.YtnghanpmmbcbbaaGreatDoor
namespace Go.Proofs.YtnghanpmmbcbbaaGreatDoor
open Go.RowKit
end Go.Proofs.YtnghanpmmbcbbaaGreatDoor
namespace Go.Proofs.YtnghanpmmbcbbaaGreatDoor
open Go.RowKit
theorem string_info:(Tryz.prog.info? 9).map (fun i=>(i.zero,i.size,i.bytes))=some (some (.string ⟨#[]⟩),1,16):=by kernel_rfl
section
variable {w w4:World} {R:Nat} {A:Option Addr} {c:Nat} {l:List Tk} {i:Nat} {z:Value} {ns:List (List UInt8)} {at_:Nat} {er:Int}
theorem nmC_append (ns:List (List UInt8)) (s:List UInt8):nmC (ns++[s])=nmC ns++[.string (S s)]:=by simp [nmC]
theorem Pr.zform (h:Pr w R A c l i z ns at_ er):∃B cap,z=.slice B ns.length cap:=by
 rcases h.own.2 with ⟨e,h1⟩|⟨g,cap,cur,e,_⟩
 ·exact ⟨none,0,by rw [e,h1]⟩
 ·exact ⟨_,cap,e⟩
end
end Go.Proofs.YtnghanpmmbcbbaaGreatDoor
namespace Go.Proofs.YtnghanpmmbcbbaaGreatDoor
open Go.RowKit
section
variable {w:World} {R:Nat} {A:Option Addr} {c:Nat} {l:List Tk} {i:Nat} {z:Value} {ns:List (List UInt8)} {at_:Nat} {er:Int}
def VarR (R:Nat) (A:Option Addr) (c:Nat) (l:List Tk) (i:Nat) (z:Value) (ns:List (List UInt8)) (at_:Nat) (er:Int) (s:List UInt8) (w:World) (en:Ending) (w':World):Prop :=
 en=.returned (.agg #[.int .i64 1,.int .i64 ((nameS s ns).1:Int),.string ⟨#[]⟩,.slice none 0 0])∧∃z',Kp R z z' w w'∧Pr w' R A c l i z' (nameS s ns).2 at_ er
theorem pnews1 (X:World) (s:List UInt8) (T:TypeId):∀j v,([.string (S s)]:List Value)[j]?=some v→(X.alloc (.cells #[.string (S s)] T)).cell? ((⟨X.heap.size,0,none⟩:Addr).add j)=some v:=by
 intro j v hv
 rw [add_plain,Nat.zero_add,World.cell?_alloc_at _ _ _ _ rfl,← hv,show (#[Value.string (S s)]:Array Value)=([Value.string (S s)]:List Value).toArray from rfl,List.getElem?_toArray]
theorem pone_one (s:List UInt8):∀u∈([.string (S s)]:List Value),u.oneCell'=true:=by
 intro u hu
 rw [List.mem_singleton.1 hu];rfl
end
end Go.Proofs.YtnghanpmmbcbbaaGreatDoor
namespace Go.Proofs.YtnghanpmmbcbbaaGreatDoor
open Go.RowKit Go.Maps
theorem skeyed:Keyed Tryz.prog 9:=string_keyed Tryz.underlying9
theorem zero_int (w:World):(zeroValue 3).run Tryz.prog w=.ok (.int .i64 0) w:=by kernel_rfl
def NmMap (D:DataW Unit) (ns:List (List UInt8)):Prop :=
 IsMap D∧(∀s:List UInt8,Maps.has D (.string s)=decide (s∈ns))∧∀s:List UInt8,s≠[95]→s∈ns→D.atKey (.string s) (.lit (.int .i64 0))=.lit (.int .i64 (ns.idxOf s:Int))
theorem NmMap.nil:NmMap (.map []) []:=⟨isMap_empty,fun s=>by simp [has_eq],fun s _ h=>by cases h⟩
theorem NmMap.put {D:DataW Unit} {ns:List (List UInt8)} (h:NmMap D ns) {x:List UInt8} (hx:x=[95]∨x∉ns):NmMap (D.put (.string x) (.lit (.int .i64 (ns.length:Int)))) (ns++[x]):=by
 refine ⟨h.1.put _ _,fun s=>?_,fun s hs hm=>?_⟩
 ·by_cases e:s=x
  ·subst e
   rw [has_put_same h.1 (by simp [WideAt.IsKeyLit])]
   simp
  ·rw [has_put_other (fun e2=>e (by injection e2)),h.2.1 s]
   simp [e]
 ·by_cases e:s=x
  ·subst e
   have hn:s∉ns:=hx.elim (fun h=>absurd h hs) id
   rw [atKey_put_same h.1 (by simp [WideAt.IsKeyLit]),List.idxOf_append,if_neg hn]
   simp
  ·have hm2:s∈ns:=by simpa [e] using hm
   rw [atKey_put_other (fun e2=>e (by injection e2)),h.2.2 s hs hm2,List.idxOf_append,if_pos hm2]
structure FrM (M:Nat) (bs:List Nat) (w w':World):Prop where
 os:w'.os=w.os
 tape:w'.tape=w.tape
 output:w'.output=w.output
 size:w.heap.size≤w'.heap.size
 block:∀k,k < M→k∉bs→w'.heap[k]?=w.heap[k]?
 fz:∀k,k < M→∀j,w'.frozen? ⟨k,j,none⟩=w.frozen? ⟨k,j,none⟩
theorem fz_of {w w':World} {k:Nat} (h:w'.heap[k]?=w.heap[k]?) (j:Nat):w'.frozen? ⟨k,j,none⟩=w.frozen? ⟨k,j,none⟩:=World.frozen?_of_block (a:=⟨k,j,none⟩) h
theorem FrM.refl (M:Nat) (bs:List Nat) (w:World):FrM M bs w w:=⟨rfl,rfl,rfl,Nat.le_refl _,fun _ _ _=>rfl,fun _ _ _=>rfl⟩
theorem FrM.trans {M:Nat} {bs:List Nat} {a b c:World} (h:FrM M bs a b) (k:FrM M bs b c):FrM M bs a c:=⟨k.os.trans h.os,k.tape.trans h.tape,k.output.trans h.output,Nat.le_trans h.size k.size,fun i hi ho=>(k.block i hi ho).trans (h.block i hi ho),fun i hi j=>(k.fz i hi j).trans (h.fz i hi j)⟩
theorem FrM.more {M:Nat} {bs cs:List Nat} {a b:World} (h:FrM M bs a b) (hs:∀k∈bs,k∈cs):FrM M cs a b:=⟨h.os,h.tape,h.output,h.size,fun i hi ho=>h.block i hi fun hb=>ho (hs i hb),h.fz⟩
theorem FrM.below {M:Nat} {bs:List Nat} {a w w':World} (h:FrM M bs a w) (hM:M≤w.heap.size) (hb:Below w.heap.size w w'):FrM M bs a w':=h.trans ⟨hb.os,hb.tape,hb.output,hb.size,fun k hk _=>hb.block k (Nat.lt_of_lt_of_le hk hM),fun k hk=>fz_of (hb.block k (Nat.lt_of_lt_of_le hk hM))⟩
theorem FrM.drewN {M:Nat} {bs:List Nat} {a w:World} (h:FrM M bs a w) (n:Nat):FrM M bs a (w.drewN n):=⟨h.os,h.tape,h.output,h.size,h.block,h.fz⟩
theorem FrM.drew {M:Nat} {bs:List Nat} {a w:World} (h:FrM M bs a w):FrM M bs a w.drew:=⟨h.os,h.tape,h.output,h.size,h.block,h.fz⟩
theorem FrM.set {M:Nat} {bs:List Nat} {a w:World} (h:FrM M bs a w) {p:Addr} (hp:M≤p.block∨p.block∈bs) (v:Value):FrM M bs a (w.setCell p v):=h.trans ⟨rfl,rfl,rfl,by simp [World.setCell],fun k hk ho=>Below.heap_setCell _ _ _ _ (fun e=>hp.elim (fun h=>by omega) (fun h=>ho (by rw [e];exact h))),fun k _ j=>World.frozen?_setCell _ _ _ _⟩
theorem FrM.grown {M:Nat} {bs:List Nat} {row:Option Nat} {a w w':World} (h:FrM M bs a w) (hg:w.grownBy w' row) (hM:M≤w.heap.size) (hr:∀k,row=some k→M≤k):FrM M bs a w':=h.trans ⟨hg.os,hg.tape,hg.output,hg.size,fun k hk _=>hg.block k (Nat.lt_of_lt_of_le hk hM) fun e=>by have:=hr k e.symm;omega,fun k hk=>fz_of (hg.block k (Nat.lt_of_lt_of_le hk hM) fun e=>by have:=hr k e.symm;omega)⟩
structure NumS (w:World) (N M:Nat) (A:Option Addr) (c:Nat) (l:List Tk) (z:Value) (ns:List (List UInt8)):Prop where
 box:BoxL w N [.slice A l.length c,.map (some M),z]
 mn:M < N
 map:∃D,NmMap D ns∧w.ownsMap Tryz.prog 9 (plainElem Tryz.prog 3) M ns.length D
 own:w.ownsRow (N+1) 9 1 z ns.length (nmC ns)
 toks:TLst w A l c
 low:∀g,A=some ⟨g,0,none⟩→g < M
section
variable {w w':World} {N M:Nat} {A:Option Addr} {c:Nat} {l:List Tk} {z:Value} {ns:List (List UInt8)}
theorem tlst_of {g0:Nat} (h:TLst w A l c) (hl:∀g,A=some ⟨g,0,none⟩→g < g0) (hb:∀k,k < g0→w'.heap[k]?=w.heap[k]?):TLst w' A l c:=by
 refine ⟨h.1,h.2.1,fun hn=>?_⟩
 obtain ⟨g,e,hr⟩:=h.2.2 hn
 exact ⟨g,e,fun i hi j u hu=>by rw [World.cell?_of_block (a:=⟨g,i*3+j,none⟩) (hb g (hl g e))];exact hr i hi j u hu⟩
theorem NumS.of (h:NumS w N M A c l z ns) (hs:w.heap.size≤w'.heap.size) (hb:∀k,k < w.heap.size→(M≤k∨A=some ⟨k,0,none⟩)→w'.heap[k]?=w.heap[k]?):NumS w' N M A c l z ns:=by
 have hN:=h.box.lt
 have hmn:=h.mn
 refine ⟨h.box.of hs (hb N hN (.inl (by omega))),h.mn,?_,own_of h.own fun k hk=>hb k (own_lt h.own k hk).2 (.inl (by have:=(own_lt h.own k hk).1;omega)),?_,h.low⟩
 ·obtain ⟨D,hD,es,clock,e1,e2⟩:=h.map
  exact ⟨D,hD,es,clock,by rw [hb M (by omega) (.inl (Nat.le_refl _))];exact e1,e2⟩
 ·refine ⟨h.toks.1,h.toks.2.1,fun hn=>?_⟩
  obtain ⟨g,e,hr⟩:=h.toks.2.2 hn
  have hg:=h.low g e
  exact ⟨g,e,fun i hi j u hu=>by rw [World.cell?_of_block (a:=⟨g,i*3+j,none⟩) (hb g (by omega) (.inr e))];exact hr i hi j u hu⟩
theorem NumS.below (h:NumS w N M A c l z ns) (hb:Below w.heap.size w w'):NumS w' N M A c l z ns:=h.of hb.size fun k hk _=>hb.block k hk
theorem NumS.set (h:NumS w N M A c l z ns) {p:Addr} (hp:p.block < M) (hA:A≠some ⟨p.block,0,none⟩) (v:Value):NumS (w.setCell p v) N M A c l z ns :=
 h.of (by simp [World.setCell]) fun k _ hk=>Below.heap_setCell _ _ _ _ (fun e=>hk.elim (fun h=>by omega) (fun h=>hA (by rw [←e];exact h)))
theorem NumS.zform (h:NumS w N M A c l z ns):∃B cap,z=.slice B ns.length cap:=by
 rcases h.own.2 with ⟨e,h1⟩|⟨g,cap,cur,e,_⟩
 ·exact ⟨none,0,by rw [e,h1]⟩
 ·exact ⟨_,cap,e⟩
theorem NumS.put {B:Option Addr} {zc:Nat} {w1:World} (h:NumS w N M A c l (.slice B ns.length zc) ns) (hg1:w.grownBy w1 (some M)) :
  BoxL w1 N [.slice A l.length c,.map (some M),.slice B ns.length zc]∧w1.ownsRow (N+1) 9 1 (.slice B ns.length zc) ns.length (nmC ns)∧N+1≤w1.heap.size ∧
  w1.cell? ⟨N,0,none⟩=some (.slice A l.length c)∧w1.cell? ⟨N,1,none⟩=some (.map (some M))∧w1.cell? ⟨N,2,none⟩=some (.slice B ns.length zc)∧w1.frozen? ⟨N,0,none⟩=false∧w1.frozen? ⟨N,1,none⟩=false∧w1.frozen? ⟨N,2,none⟩=false:=by
 have hmn:=h.mn
 have hb:BoxL w1 N [.slice A l.length c,.map (some M),.slice B ns.length zc]:=h.box.grown hg1 (by intro e;injection e with e;omega)
 refine ⟨hb,own_of h.own fun k hk=>hg1.block k (own_lt h.own k hk).2 (by intro e;injection e with e;have:=(own_lt h.own k hk).1;omega),hb.lt,hb.cells 0 _ rfl,hb.cells 1 _ rfl,hb.cells 2 _ rfl,hb.free 0,hb.free 1,hb.free 2⟩
theorem put_append {B:Option Addr} {zc:Nat} {w1 w4:World} {o:Obj} (hb:BoxL w1 N [.slice A l.length c,.map (some M),.slice B ns.length zc]) (hr:w1.ownsRow (N+1) 9 1 (.slice B ns.length zc) ns.length (nmC ns)) (hg:(w1.alloc o).grownBy w4 (Value.ownBlock (.slice B ns.length zc))) :
  BoxL w4 N [.slice A l.length c,.map (some M),.slice B ns.length zc] ∧
  w4.cell? ⟨N,0,none⟩=some (.slice A l.length c)∧w4.cell? ⟨N,1,none⟩=some (.map (some M))∧w4.cell? ⟨N,2,none⟩=some (.slice B ns.length zc)∧w4.frozen? ⟨N,0,none⟩=false∧w4.frozen? ⟨N,1,none⟩=false∧w4.frozen? ⟨N,2,none⟩=false:=by
 have hb:BoxL w4 N [.slice A l.length c,.map (some M),.slice B ns.length zc]:=(hb.alloc o).grown hg (fun e=>by have:=(own_lt hr N e).1;omega)
 exact ⟨hb,hb.cells 0 _ rfl,hb.cells 1 _ rfl,hb.cells 2 _ rfl,hb.free 0,hb.free 1,hb.free 2⟩
def NumberR (N M:Nat) (A:Option Addr) (c:Nat) (l:List Tk) (ns:List (List UInt8)) (s:List UInt8) (w:World) (en:Ending) (w':World):Prop :=
 en=.returned (.int .i64 ((nameS s ns).1:Int))∧FrM M [] w w'∧∃z',NumS w' N M A c l z' (nameS s ns).2
set_option maxHeartbeats 4000000 in
set_option maxRecDepth 10000 in
theorem number_at (h:NumS w N M A c l z ns) (hns:ns.length≤100000) (s:List UInt8) (hs:s.length≤16384) :
  Calls Tryz.prog 204 #[.pointer (some ⟨N,0,none⟩),.string (S s)] w (NumberR N M A c l ns s w):=by
 obtain ⟨i0,hi,hz0,hz1,hz2⟩:=info_parts string_info
 obtain ⟨B,zc,rfl⟩:=h.zform
 obtain ⟨b0,b1,b2,f0,f1,f2⟩:w.cell? ⟨N,0,none⟩=some (.slice A l.length c)∧w.cell? ⟨N,1,none⟩=some (.map (some M))∧w.cell? ⟨N,2,none⟩=some (.slice B ns.length zc)∧w.frozen? ⟨N,0,none⟩=false∧w.frozen? ⟨N,1,none⟩=false∧w.frozen? ⟨N,2,none⟩=false :=
  ⟨h.box.cells 0 _ rfl,h.box.cells 1 _ rfl,h.box.cells 2 _ rfl,h.box.free 0,h.box.free 1,h.box.free 2⟩
 obtain ⟨D,hD,hM⟩:=h.map
 have HM:=Lib.hid hM
 have HD:=Lib.hid hD
 have H:=Lib.hid h
 have hsz:(S s).size≤maxLen:=by show s.toArray.size≤_;simp;unfold maxLen;omega
 have hkey:keyOf Tryz.prog 9 (.string (S s))=some (.string s):=by
  have:=Go.WideMaps.keyOf_string_mk (P:=Tryz.prog) (k:=9) Tryz.underlying9 hsz
  exact this
 obtain ⟨kn,hkn⟩:∃b,Maps.has D (.string s)=b:=⟨_,rfl⟩
 obtain ⟨us,hus⟩:∃b,(s != [95])=b:=⟨_,rfl⟩
 have HKn:=Lib.hid hkn
 have HUs:=Lib.hid hus
 have HX:=Lib.hid (show kn=decide (s∈ns) by rw [←hkn];exact hD.2.1 s)
 have HNot:=Lib.hid (show us=decide (s≠[95]) by rw [←hus];by_cases e:s=[95]<;>simp [e])
 have HQ:=Lib.hid (show ∀cL:Int,D.atKey (.string s) (.lit (.int .i64 0))=.lit (.int .i64 cL)→s≠[95]→s∈ns→cL=(ns.idxOf s:Int) from fun cL h1 h2 h3=>by
  have:=hD.2.2 s h2 h3
  rw [h1] at this
  injection this with this
  injection this)
 have hNw:=h.box.lt
 have hMN:=h.mn
 have HPut:=Lib.hid (fun (hx:s=[95]∨s∉ns)=>hD.put hx)
 have hus2:(s==[95]) = !us:=by rw [←hus];simp [bne]
 clear hD hM
 by_cases hold:kn=true∧us=true
 ·obtain ⟨rfl,rfl⟩:=hold
  have hm:s∈ns:=of_decide_eq_true HX.out.symm
  have hne:s≠[95]:=of_decide_eq_true HNot.out.symm
  have hnm:nameS s ns=(ns.idxOf s,ns):=by unfold nameS;rw [if_pos ⟨hne,hm⟩]
  have HE:=Lib.hid (show ∀cL:Int,D.atKey (.string s) (.lit (.int .i64 0))=.lit (.int .i64 cL)→NumberR N M A c l ns s w (.returned (.int .i64 cL)) w from fun cL hc=>by
   rw [HQ.out cL hc hne hm,NumberR,hnm]
   exact ⟨rfl,FrM.refl _ _ _,_,H.out⟩)
  clear hm hne hnm h
  go_enter Tryz.func204,Tryz.ntmps204
  go_wp2_with (at_lookup;refine wpList_lookup_own_ok_int _ rfl _ _ 180 rfl 9 3 .i64 skeyed Tryz.underlying180 Tryz.underlying3 (zero_int _) M ns.length D rfl HM.out _ _ rfl hkey ?_;intro cL hat hwc;rw [hkn];have HA:=Lib.hid hat;clear hat)
  go_ret
  exact HE.out cL HA.out
 ·have hx:s=[95]∨s∉ns:=by
   by_cases e:s=[95]
   ·exact .inl e
   ·refine .inr fun hm=>hold ⟨by rw [HX.out];simpa using hm,by rw [HNot.out];simpa using e⟩
  have hnm:nameS s ns=(ns.length,ns++[s]):=by
   unfold nameS
   rw [if_neg]
   rintro ⟨h1,h2⟩
   exact hx.elim h1 (fun h=>h h2)
  have HNm:=Lib.hid hnm
  have HHx:=Lib.hid hx
  have hpick:(kn&&us)=false:=by cases kn<;>cases us<;>simp at hold ⊢
  have hlen:ns.length≤9223372036854775807:=by omega
  have hi64:plainElem (H:=Unit) Tryz.prog 3 (.int .i64 (ns.length:Int))=some (.lit (.int .i64 (ns.length:Int)),[]):=plainElem_int Tryz.underlying3 (by
   have h1:IntKind.i64.min = -9223372036854775808:=rfl
   have h2:IntKind.i64.max=9223372036854775807:=rfl
   simp only [Lit.wf,Bool.and_eq_true,decide_eq_true_eq]
   omega)
  have HI:=Lib.hid hi64
  have HHold:=Lib.hid hold
  clear hx hnm hi64 h hold
  cases kn<;>cases us
  case true.true=>exact absurd ⟨rfl,rfl⟩ HHold.out
  all_goals
   go_enter Tryz.func204,Tryz.ntmps204
   go_wp2_with (first
    | (at_lookup;refine wpList_lookup_own_ok_int _ rfl _ _ 180 rfl 9 3 .i64 skeyed Tryz.underlying180 Tryz.underlying3 (zero_int _) M ns.length D rfl HM.out _ _ rfl hkey ?_;intro cL hat hwc;rw [hkn];clear hat hwc)
    | (at_mapUpdate;refine wpList_mapUpdate_own _ rfl _ _ _ 180 rfl 9 3 skeyed Tryz.underlying180 _ M ns.length D rfl HM.out (by unfold maxLen;omega) _ _ (.string s) rfl rfl hkey (.lit (.int .i64 (ns.length:Int))) [] HI.out ?_;intro w1 hown1 hg1;have HO1:=Lib.hid hown1;have HG1:=Lib.hid hg1;clear b0 b1 b2 f0 f1 f2;obtain ⟨hb1,hr1,hs1,b0,b1,b2,f0,f1,f2⟩:=H.out.put hg1;have HB1:=Lib.hid hb1;have HR1:=Lib.hid hr1;clear hown1 hg1 hb1 hr1)
    | (at_builtin;refine wpList_append_lies _ rfl _ _ 55 rfl (N+1) 9 i0 _ 1 16 Tryz.underlying55 hi hz0 hz1 hz2 rfl (by decide) (.slice B ns.length zc) ns.length (nmC ns) rfl (HR1.out.alloc _) ⟨w1.heap.size,0,none⟩ 1 1 [.string (S s)] rfl rfl (pnews1 w1 s _) (pone_one s) (by decide) (by unfold maxLen;omega) (by omega) (by simp;omega) _ rfl ?_;intro g cap w4 hown hg hat hglt;have HG4:=Lib.hid hg;have HOw:=Lib.hid hown;clear b0 b1 b2 f0 f1 f2;obtain ⟨hb4,b0,b1,b2,f0,f1,f2⟩:=put_append HB1.out HR1.out hg;have HB4:=Lib.hid hb4;clear hown hg hat hglt hb4))
   go_ret
   have hgl:N+1≤g:=(own_lt HOw.out g rfl).1
   have hfr1:FrM M [] w w1:=⟨HG1.out.os,HG1.out.tape,HG1.out.output,HG1.out.size,fun k hk _=>HG1.out.block k (by omega) (fun e=>by injection e with e;omega),fun k hk=>fz_of (HG1.out.block k (by omega) (fun e=>by injection e with e;omega))⟩
   have hfr4:FrM M [] w w4:=(hfr1.below (by omega) ((Below.refl w1.heap.size w1).alloc (Nat.le_refl _) (.cells #[.string (S s)] 9))).grown HG4.out (by simp;omega) (fun k hk=>by have:=(own_lt HR1.out k hk).1;omega)
   rw [NumberR,HNm.out]
   refine ⟨rfl,hfr4.set (p:=⟨N,2,none⟩) (.inl (by show M≤N;omega)) _,.slice (some ⟨g,0,none⟩) (ns.length+1) cap,HB4.out.set (j:=2) (by simp) _,hMN,⟨_,HPut.out HHx.out,?_⟩,?_,?_,H.out.low⟩
   ·obtain ⟨es,clock,e1,e2⟩:=HO1.out
    refine ⟨es,clock,?_,by simpa using e2⟩
    rw [Below.heap_setCell _ _ _ _ (show M≠N by omega),HG4.out.block M (by simp;omega) (fun e=>by have:=(own_lt HR1.out M e.symm).1;omega),Below.heap_alloc _ _ _ (by omega)]
    exact e1
   ·rw [List.length_append,nmC_append]
    refine own_of (show w4.ownsRow (N+1) 9 1 (.slice (some ⟨g,0,none⟩) (ns.length+1) cap) (ns.length+1) (nmC ns++[.string (S s)]) from HOw.out) fun k hk=>Below.heap_setCell _ _ _ _ ?_
    have e:g=k:=by simpa [Value.ownBlock] using hk
    show k≠N
    omega
   ·refine tlst_of (g0:=M) H.out.toks H.out.low fun k hk=>?_
    rw [Below.heap_setCell _ _ _ _ (show k≠N by omega)]
    exact hfr4.block k hk (by simp)
end
end Go.Proofs.YtnghanpmmbcbbaaGreatDoor
