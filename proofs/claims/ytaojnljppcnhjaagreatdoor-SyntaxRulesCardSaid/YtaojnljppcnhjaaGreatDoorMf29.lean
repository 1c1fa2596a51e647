/-
  PgDecl.
  RzDecls.
  PgDeclar.
 PgProgM.
-/
import Derived.Test.YtaojnljppcnhjaaGreatDoorMf19
import Derived.Test.YtaojnljppcnhjaaGreatDoorMf10
import Derived.Test.YtaojnljppcnhjaaGreatDoorMf14
import Derived.Test.YtaojnljppcnhjaaGreatDoorMf28
import Derived.Test.YtaojnljppcnhjaaGreatDoorMf2
namespace Go.Proofs.YtaojnljppcnhjaaGreatDoor
open Go.RowKit
def declS:Rd1 Dl:=fun ts ns =>
 match nmS ts ns with
 | .err l e=>.err l e
 | .ok t r n1=>match wantS [47] t r n1 with
  | .err l e=>.err l e
  | .ok _ r2 n2=>match r2 with
   | []=>.err 0 0
   | (k,d,_) :: r3=>if k≠3 then .err r2.length 16 else if 6 < valD d then .err r2.length 6 else .ok (t,valD d) r3 n2
section
variable {R:Nat} {A:Option Addr} {c:Nat} {l:List Tk}
theorem sit_dl (lo:Nat) (w:World) (x:Dl):SitG elDl lo w [x] :=
 ⟨fun _ _=>trivial,by simp [Elt.blkL,elDl],fun b hb=>by simp [Elt.blkL,elDl] at hb,fun b hb=>by simp [Elt.blkL,elDl] at hb⟩
set_option maxHeartbeats 8000000 in
set_option maxRecDepth 100000 in
theorem declared_at (hg:GoodT l) (a i:Nat) (w:World) (h:Pq w R A c l i) :
  Calls Tryz.prog 76 #[.pointer (some ⟨R,0,none⟩)] w (ElR rdDl declS R A c l a i w):=by
 have HG:=Lib.hid hg
 have hR:=h.lt
 have hTR:¬w.heap.size=R:=by omega
 have HI:=Lib.hid h.ilt
 have HB1:=Lib.hid (BoxL.new w [.string ⟨#[]⟩,.int .i64 0] 72)
 have Q:=Lib.hid (p_name_at hg (h.alloc (.cells #[.string ⟨#[]⟩,.int .i64 0] 72)))
 clear hg h
 go_enter Tryz.func76,Tryz.ntmps76
 go_wp2_with fail
 refine Q.out.mono ?_
 rintro e w2 ⟨t,er,j,rfl,hk,hp,ht,ho⟩
 have HB2:=Lib.hid (HB1.out.kq hk hTR)
 have HK2:=Lib.hid (Kq.from_new hk)
 have HP2:=Lib.hid hp
 have HT:=Lib.hid ht
 clear hk hp ht
 rcases ho with ⟨rfl,rfl,hte,hf⟩|⟨her,rfl,rfl,hf⟩
 ·have HF:=Lib.hid hf
  have hk1:(l.getD i default).1=1:=by
   have:=hf []
   rw [left_cons HI.out,nmS] at this
   split at this
   ·cases this
   ·rename_i h1;simpa using h1
  have HNs:=Lib.hid (nsL_no (a:=a) hk1 (by decide))
  obtain ⟨b,hb⟩:∃b,((l.getD (i+1) default).2.2==[47])=b:=⟨_,rfl⟩
  have X1:=Lib.hid (isS_text HG.out HP2.out.ilt [47] (by decide) hb)
  have QE:=Lib.hid (fun W (hW:Pq W R A c l (i+1))=>expect_at HG.out hW [47] (by decide) hb)
  clear hf hte hk1 hb
  cases b
  ·go_wp2_with (go_at_call 56;(with_reducible refine (QE.out _ HP2.out).mono ?_);rintro en w3 ⟨rfl,hk3,hp3⟩;have HK3:=Lib.hid (HK2.out.trans hk3);have HP3:=Lib.hid (show Pq w3 R A c l (i+1) from hp3);have HB3:=Lib.hid (HB2.out.kq hk3 hTR);obtain ⟨c0,c1,f0,f1⟩:=HB3.out.get2;clear hk3 hp3)
   refine bodyPost_ret (v:=.tuple #[.agg #[.string ⟨#[]⟩,.int .i64 0],.int .i64 16]) (by simp [results,Tryz.results76,go_sem,c0,c1]) rfl ?_
   obtain ⟨e1,e2⟩:=end22 hR HK3.out HP3.out (.string ⟨#[]⟩) (.int .i64 0)
   refine ⟨([],0),i+1,16,rfl,e1,e2,sit_dl _ _ _,.inr ⟨by omega,?_⟩⟩
   simp only [declS,HF.out (nsL l a i),wantS,X1.out]
   rfl
  ·have HN2:=Lib.hid (show nsL l a (i+2)=nsL l a i from (nsL_s HP2.out.ilt X1.out).trans HNs.out)
   obtain ⟨tk,htk⟩:∃tk,l.getD (i+2) default=tk:=⟨_,rfl⟩
   obtain ⟨k,p,x⟩:=tk
   have fk:=tok_kind k (p:Int) (S x)
   have QN:=Lib.hid (fun W (hW:Pq W R A c l (i+2))=>p_next_of hW htk)
   have HD:=Lib.hid (show i+2 < l.length→declS (leftT l i) (nsL l a i)=if k≠3 then .err (leftT l (i+2)).length 16 else if 6 < valD x then .err (leftT l (i+2)).length 6 else .ok (t,valD x) (leftT l (i+3)) (nsL l a i) from fun hlt=>by
    simp only [declS,HF.out (nsL l a i),wantS,X1.out,if_true,left_tail]
    rw [left_cons hlt,htk])
   by_cases hk3:k=3
   ·subst hk3
    have HNum:=Lib.hid (show i+2 < l.length→x≠[]∧(∀c∈x,digB c=true)∧valD x≤2147483648 from fun hlt=>by have:=num_facts HG.out hlt (by rw [htk]);rw [htk] at this;exact this)
    have HX:=Lib.hid (show i+2 < l.length→x.length≤16384 from fun hlt=>by have:=HG.out.texts (i+2) hlt;rw [htk] at this;exact this)
    have HNx:=Lib.hid (show i+2 < l.length→x≠[]→i+3 < l.length from fun hlt hx=>good_next HG.out hlt (by rw [htk];exact hx))
    have HN3:=Lib.hid (show nsL l a (i+3)=nsL l a (i+2) from nsL_no (k:=3) (by rw [htk]) (by decide))
    clear htk
    go_wp2_with (first
     | (go_at_call 56;(with_reducible refine (QE.out _ HP2.out).mono ?_);rintro en w3 ⟨rfl,hk3,hp3⟩;have HK3:=Lib.hid (HK2.out.trans hk3);have HP3:=Lib.hid (show Pq w3 R A c l (i+2) from hp3);have HB3:=Lib.hid (HB2.out.kq hk3 hTR);clear hk3 hp3;obtain ⟨hne,hd,hv⟩:=HNum.out HP3.out.ilt;have hx:=HX.out HP3.out.ilt;have HNe:=Lib.hid (HNx.out HP3.out.ilt hne);have QV:=Lib.hid (fun W=>value_at 3 (p:Int) x hne hd hv hx W);clear hne hd hv hx;have HW:=Lib.hid (show wrap64 ((i:Int)+2+1)=((i+3:Nat):Int) from (IntWalk.wrap64_in _ (by have:=HNe.out;have:=HG.out.small;omega)).trans (by omega)))
     | (go_at_call 44;(with_reducible refine (QN.out _ HP3.out).mono ?_);rintro en w4 ⟨rfl,hb4⟩;have HK4:=Lib.hid (HK3.out.trans (Below.kp hb4 R Z0));have HP4:=Lib.hid (HP3.out.below hb4);have HB4:=Lib.hid (HB3.out.below hb4);clear hb4 HK3 HP3 HB3)
     | (go_at_call 44;(with_reducible refine (QN.out _ HP4.out).mono ?_);rintro en w5 ⟨rfl,hb5⟩;have HK5:=Lib.hid (HK4.out.trans (Below.kp hb5 R Z0));have HP5:=Lib.hid (HP4.out.below hb5);have HB5:=Lib.hid (HB4.out.below hb5);clear hb5 HK4 HP4 HB4)
     | (go_at_call 100;(with_reducible refine (QV.out _).mono ?_);rintro en w6 ⟨rfl,hb6⟩;have HK6:=Lib.hid (HK5.out.trans (Below.kp hb6 R Z0));have HP6:=Lib.hid (HP5.out.below hb6);have HB6:=Lib.hid (HB5.out.below hb6);clear hb6 HK5 HP5 HB5;obtain ⟨c0,c1,f0,f1⟩:=HB6.out.get2;have l1:=HP6.out.l1;have lf:=HP6.out.fr 1))
    ·rename_i hgt
     refine bodyPost_ret (v:=.tuple #[.agg #[.string ⟨#[]⟩,.int .i64 0],.int .i64 6]) (by simp [results,Tryz.results76,go_sem,c0,c1]) rfl ?_
     obtain ⟨e1,e2⟩:=end22 hR HK6.out HP6.out (.string ⟨#[]⟩) (.int .i64 0)
     refine ⟨([],0),i+2,6,rfl,e1,e2,sit_dl _ _ _,.inr ⟨by omega,?_⟩⟩
     rw [HD.out HP6.out.ilt,if_neg (by simp),if_pos hgt]
    ·rename_i hle
     rw [HW.out]
     have hc0:∀v,(w6.setCell ⟨R,1,none⟩ v).cell? ⟨w.heap.size,0,none⟩=some (.string ⟨#[]⟩):=fun v=>by rw [World.cell?_setCell_other _ _ _ _ (by simp only [ne_eq,Addr.mk.injEq];omega)];exact c0
     have hc1:∀v,(w6.setCell ⟨R,1,none⟩ v).cell? ⟨w.heap.size,1,none⟩=some (.int .i64 0):=fun v=>by rw [World.cell?_setCell_other _ _ _ _ (by simp only [ne_eq,Addr.mk.injEq];omega)];exact c1
     refine bodyPost_ret (v:=.tuple #[.agg #[.string (S t),.int .i64 (valD x)],.int .i64 0]) (by simp [results,Tryz.results76,go_sem,hc0,hc1]) rfl ?_
     have HK7:Kq R w (w6.setCell ⟨R,1,none⟩ (.int .i64 ((i+3:Nat):Int))):=HK6.out.set 1 none _
     have HP7:=HP6.out.set (q:=i+3) HNe.out
     obtain ⟨e1,e2⟩:=end22 hR HK7 HP7 (.string (S t)) (.int .i64 (valD x))
     refine ⟨(t,valD x),i+3,0,rfl,e1,e2,sit_dl _ _ _,.inl ⟨rfl,?_,by omega,OkV.nil _ _ _⟩⟩
     rw [HD.out HP6.out.ilt,if_neg (by simp),if_neg (by omega),HN3.out,HN2.out]
     rfl
   ·have hkb:(k != 3)=true:=bne_iff_ne.2 hk3
    have HK3n:=Lib.hid hk3
    clear htk hk3
    go_wp2_with (first
     | (go_at_call 56;(with_reducible refine (QE.out _ HP2.out).mono ?_);rintro en w3 ⟨rfl,hk3,hp3⟩;have HK3:=Lib.hid (HK2.out.trans hk3);have HP3:=Lib.hid (show Pq w3 R A c l (i+2) from hp3);have HB3:=Lib.hid (HB2.out.kq hk3 hTR);clear hk3 hp3)
     | (go_at_call 44;(with_reducible refine (QN.out _ HP3.out).mono ?_);rintro en w4 ⟨rfl,hb4⟩;have HK4:=Lib.hid (HK3.out.trans (Below.kp hb4 R Z0));have HP4:=Lib.hid (HP3.out.below hb4);have HB4:=Lib.hid (HB3.out.below hb4);clear hb4;obtain ⟨c0,c1,f0,f1⟩:=HB4.out.get2))
    refine bodyPost_ret (v:=.tuple #[.agg #[.string ⟨#[]⟩,.int .i64 0],.int .i64 16]) (by simp [results,Tryz.results76,go_sem,c0,c1]) rfl ?_
    obtain ⟨e1,e2⟩:=end22 hR HK4.out HP4.out (.string ⟨#[]⟩) (.int .i64 0)
    refine ⟨([],0),i+2,16,rfl,e1,e2,sit_dl _ _ _,.inr ⟨by omega,?_⟩⟩
    rw [HD.out HP4.out.ilt,if_pos HK3n.out]
 ·have hne:(er==0)=false:=by rcases her with rfl|rfl<;>rfl
  have hne2:(er != 0)=true:=by rcases her with rfl|rfl<;>rfl
  have HF:=Lib.hid hf
  have HE:=Lib.hid (show er≠0 by omega)
  clear her hf
  obtain ⟨c0,c1,f0,f1⟩:=HB2.out.get2
  go_wp2_with fail
  refine bodyPost_ret (v:=.tuple #[.agg #[.string ⟨#[]⟩,.int .i64 0],.int .i64 er]) (by simp [results,Tryz.results76,go_sem,c0,c1]) rfl ?_
  obtain ⟨e1,e2⟩:=end22 hR HK2.out HP2.out (.string ⟨#[]⟩) (.int .i64 0)
  refine ⟨([],0),j,er,rfl,e1,e2,sit_dl _ _ _,.inr ⟨HE.out,?_⟩⟩
  simp only [declS,HF.out (nsL l a j)]
end
end Go.Proofs.YtaojnljppcnhjaaGreatDoor
namespace Go.Proofs.YtaojnljppcnhjaaGreatDoor
open Go.RowKit
structure Kd (R lo:Nat) (w w':World):Prop where
 os:w'.os=w.os
 tape:w'.tape=w.tape
 output:w'.output=w.output
 size:w.heap.size≤w'.heap.size
 block:∀k,k < lo→k≠R→w'.heap[k]?=w.heap[k]?
section
variable {R lo:Nat} {a b c w:World} {z:Value}
theorem Kd.refl (R lo:Nat) (w:World):Kd R lo w w:=⟨rfl,rfl,rfl,Nat.le_refl _,fun _ _ _=>rfl⟩
theorem Kd.trans (h:Kd R lo a b) (k:Kd R lo b c):Kd R lo a c:=⟨k.os.trans h.os,k.tape.trans h.tape,k.output.trans h.output,Nat.le_trans h.size k.size,fun i hi hr=>(k.block i hi hr).trans (h.block i hi hr)⟩
theorem Kp.kd (h:Kp R Z0 z a b) (hl:lo≤a.heap.size):Kd R lo a b:=⟨h.os,h.tape,h.output,h.size,fun k hk hr=>h.block k (by omega) hr (Z0_own k)⟩
theorem Below.kd (h:Below a.heap.size a b) (R:Nat) (hl:lo≤a.heap.size):Kd R lo a b:=⟨h.os,h.tape,h.output,h.size,fun k hk _=>h.block k (by omega)⟩
theorem Kd.grown {row:Option Nat} (h:Kd R lo a b) (hg:b.grownBy c row) (hl:lo≤b.heap.size) (hr:∀k,row=some k→lo≤k):Kd R lo a c :=
 ⟨hg.os.trans h.os,hg.tape.trans h.tape,hg.output.trans h.output,Nat.le_trans h.size hg.size,fun k hk hR=>(hg.block k (by omega) (fun e=>by have:=hr k e.symm;omega)).trans (h.block k hk hR)⟩
theorem Kd.put (h:Kd R lo a b) {p:Addr} (hp:lo≤p.block) (v:Value):Kd R lo a (b.setCell p v) :=
 ⟨h.os,h.tape,h.output,by simpa [World.setCell] using h.size,fun k hk hr=>(Below.heap_setCell _ _ _ _ (by omega)).trans (h.block k hk hr)⟩
end
theorem sitz_dl (lo:Nat) (z:Value) (w:World) (x:Dl):SitZ elDl lo z w [x] :=
 ⟨fun _ _=>trivial,fun b hb=>by simp [Elt.blkL,elDl] at hb,fun b hb=>by simp [Elt.blkL,elDl] at hb⟩
def DeclsZ (ds:List Dl) (lo R:Nat) (A:Option Addr) (c:Nat) (l:List Tk) (i:Nat) (w:World) (en:Ending) (w':World):Prop :=
 ∃(xs:List Dl) (b:Bool) (rv:Value),en=.returned (.tuple #[rv,.bool b])∧SlV rv∧Kd R lo w w' ∧
  ((b=true∧∃j a,Pr w' R A c l j Z0 [] a 0∧declsS ds (leftT l i)=.ok xs (leftT l j) []∧i < j∧RowZ elDl 72 lo Z0 w' rv xs) ∨
   (b=false∧∃j n e,Pr w' R A c l j Z0 [] (offT l n) e∧e≠0∧declsS ds (leftT l i)=.err n e))
structure LdZ (ds0:List Dl) (lo R:Nat) (A:Option Addr) (c:Nat) (l:List Tk) (i:Nat) (w:World) (gk:Nat) (more:Bool) (wr:World) (q:Nat) (ds:List Dl) (B:Option Addr) (zc a:Nat):Prop where
 k:Kd R lo w wr
 p:Pr wr R A c l q Z0 [] a 0
 row:RowZ elDl 72 lo Z0 wr (.slice B ds.length zc) ds
 top:lo≤wr.heap.size
 all:declsS ds0 (leftT l i)=if more then declsS ds (leftT l q) else wantS [46] ds (leftT l q) []
 sym:more=true→(l.getD q default).2.2≠[]
 iq:i≤q
 gk_:l.length - q+(if more then 1 else 0)≤gk
 small:ds.length≤30
set_option maxHeartbeats 8000000 in
set_option maxRecDepth 100000 in
theorem decls_z {R:Nat} {A:Option Addr} {c:Nat} {l:List Tk} (hg:GoodT l) (lo:Nat) (hRl:R < lo) (B:Option Addr) (zc:Nat) (ds:List Dl) (i at_:Nat) (w:World) (h:Pr w R A c l i Z0 [] at_ 0) (hlo:lo≤w.heap.size) (hrow:RowZ elDl 72 lo Z0 w (.slice B ds.length zc) ds) (hne:(l.getD i default).2.2≠[]) (hsm:ds.length≤30) :
  Calls Tryz.prog 26 #[.pointer (some ⟨R,0,none⟩),.slice B ds.length zc] w (DeclsZ ds lo R A c l i w):=by
 obtain ⟨i0,hi,hz0,hz1,hz2⟩:=info_parts decl_info
 have HG:=Lib.hid hg
 have H0:=Lib.hid (show LdZ ds lo R A c l i w (l.length - i+1) true w i ds B zc at_ from ⟨Kd.refl _ _ _,h,hrow,hlo,rfl,fun _=>hne,Nat.le_refl _,Nat.le_refl _,hsm⟩)
 clear hg h hlo hrow hne hsm
 go_enter Tryz.func26,Tryz.ntmps26
 go_wp2_with fail
 go_loopg [1,6] (l.length - i+1) (fun gk v m wr=>∃(more:Bool) (q:Nat) (ds1:List Dl) (B1:Option Addr) (zc1 a:Nat),v=.slice B1 ds1.length zc1∧m=.bool more∧Hid (LdZ ds lo R A c l i w gk more wr q ds1 B1 zc1 a))
 case atStart=>exact ⟨true,i,ds,B,zc,at_,rfl,rfl,H0⟩
 case round =>
  clear H0
  obtain ⟨more,q,xs,B1,zc1,a,rfl,rfl,hJ⟩:=hrel
  have hxl:xs.length≤9223372036854775807:=by have:=hJ.out.small;omega
  have hR:=hJ.out.p.lt
  cases more
  ·obtain ⟨b3,hb3⟩:∃b3,((l.getD q default).2.2==[46])=b3:=⟨_,rfl⟩
   have X3:=Lib.hid (isS_text HG.out hJ.out.p.ilt [46] (by decide) hb3)
   have QW:=Lib.hid (z_want_at HG.out hJ.out.p [46] (by decide) hb3)
   clear hb3
   go_wp2_with fail
   refine QW.out.mono ?_
   rintro en w5 ⟨rfl,hk5,ho5⟩
   have HK5:=Lib.hid (hJ.out.k.trans (hk5.kd hJ.out.top))
   have HR5:=Lib.hid (hJ.out.row.kp hk5 hRl)
   have HO5:=Lib.hid ho5
   clear hk5 ho5
   go_wp2_with fail
   refine bodyPost_ret (v:=.tuple #[.slice B1 xs.length zc1,.bool b3]) (by simp [results,Tryz.results26,go_sem]) rfl ?_
   refine ⟨xs,b3,_,rfl,⟨_,_,_,rfl⟩,HK5.out,?_⟩
   rcases HO5.out with ⟨rfl,a5,hp5⟩|⟨rfl,hp5⟩
   ·refine .inl ⟨rfl,q+1,a5,hp5,?_,by have:=hJ.out.iq;omega,HR5.out⟩
    rw [hJ.out.all]
    simp only [wantS,X3.out,if_true,left_tail]
    rfl
   ·refine .inr ⟨rfl,q,(leftT l q).length,16,hp5,by decide,?_⟩
    rw [hJ.out.all]
    simp only [wantS,X3.out]
    rfl
  ·have QX:=Lib.hid (z_next_at HG.out hJ.out.p (hJ.out.sym rfl))
   have hn1:q+1 < l.length:=good_next HG.out hJ.out.p.ilt (hJ.out.sym rfl)
   have HN1:=Lib.hid hn1
   clear hn1
   by_cases h30:30≤xs.length
   ·have h30':(30:Int)≤(xs.length:Int):=by omega
    obtain ⟨t,ht⟩:∃t,l.getD (q+1) default=t:=⟨_,rfl⟩
    obtain ⟨k,p,x⟩:=t
    have HT:=Lib.hid ht
    have fa:=tok_at k (p:Int) (S x)
    have QT:=Lib.hid (fun W (hW:Pr W R A c l (q+1) Z0 [] a 0)=>r_tok_of hW ht)
    have QF:=Lib.hid (fun W (hW:Pr W R A c l (q+1) Z0 [] a 0)=>r_fail_at hW p 6)
    have H30:=Lib.hid h30
    clear ht h30
    go_wp2_with (first
     | (go_at_call 48;(with_reducible refine QX.out.mono ?_);rintro en w5 ⟨rfl,hk5,hp5⟩;have HK5:=Lib.hid (hJ.out.k.trans (hk5.kd hJ.out.top));have HL5:=Lib.hid (Nat.le_trans hJ.out.top hk5.size);have HP5:=Lib.hid hp5;clear hk5 hp5)
     | (go_at_call 27;(with_reducible refine (QT.out _ HP5.out).mono ?_);rintro en w6 ⟨rfl,hb6⟩;have HK6:=Lib.hid (HK5.out.trans (Below.kd hb6 R HL5.out));have HL6:=Lib.hid (Nat.le_trans HL5.out hb6.size);have HP6:=Lib.hid (HP5.out.below hb6);clear hb6)
     | (go_at_call 31;(with_reducible refine (QF.out _ HP6.out).mono ?_);rintro en w7 ⟨rfl,hk7,hp7⟩;have HK7:=Lib.hid (HK6.out.trans (hk7.kd HL6.out));have HP7:=Lib.hid hp7;clear hk7 hp7))
    refine bodyPost_ret (v:=.tuple #[.slice none 0 0,.bool false]) (by simp [results,Tryz.results26,go_sem]) rfl ?_
    refine ⟨[],false,_,rfl,⟨_,_,_,rfl⟩,HK7.out,.inr ⟨rfl,q+1,(leftT l (q+1)).length,6,by rw [off_here HN1.out,HT.out];exact HP7.out,by decide,?_⟩⟩
    rw [hJ.out.all,if_pos rfl,declsS,if_pos H30.out,left_tail]
   ·have h30':¬(30:Int)≤(xs.length:Int):=by omega
    have h30'':(xs.length:Int) < 30:=by omega
    have H30:=Lib.hid h30
    have QN:=Lib.hid (fun W (hW:Pr W R A c l (q+1) Z0 [] a 0)=>z_name_at HG.out hW)
    clear h30
    go_wp2_with (go_at_call 48;(with_reducible refine QX.out.mono ?_);rintro en w5 ⟨rfl,hk5,hp5⟩;have HK5:=Lib.hid (hJ.out.k.trans (hk5.kd hJ.out.top));have HL5:=Lib.hid (Nat.le_trans hJ.out.top hk5.size);have HP5:=Lib.hid hp5;have HR5:=Lib.hid (hJ.out.row.kp hk5 hRl);clear hk5 hp5)
    refine (QN.out _ HP5.out).mono ?_
    rintro en w6 ⟨nm,b6,rfl,hnl,hk6,ho6⟩
    have HK6:=Lib.hid (HK5.out.trans (hk6.kd HL5.out))
    have HL6:=Lib.hid (Nat.le_trans HL5.out hk6.size)
    have HR6:=Lib.hid (HR5.out.kp hk6 hRl)
    have HNl:=Lib.hid hnl
    clear hk6 hnl
    rcases ho6 with ⟨rfl,hk1,hf6,a6,hp6⟩|⟨rfl,e6,he6,hf6,hp6⟩
    ·have HP6:=Lib.hid hp6
     have HF6:=Lib.hid (hf6 [])
     obtain ⟨b7,hb7⟩:∃b,((l.getD (q+1+1) default).2.2==[47])=b:=⟨_,rfl⟩
     have X7:=Lib.hid (isS_text HG.out hp6.ilt [47] (by decide) hb7)
     have QW:=Lib.hid (z_want_at HG.out hp6 [47] (by decide) hb7)
     have HB7:=Lib.hid hb7
     clear hp6 hf6 hk1 hb7
     go_wp2_with fail
     refine QW.out.mono ?_
     rintro en w7 ⟨rfl,hk7,ho7⟩
     have HK7:=Lib.hid (HK6.out.trans (hk7.kd HL6.out))
     have HL7:=Lib.hid (Nat.le_trans HL6.out hk7.size)
     have HR7:=Lib.hid (HR6.out.kp hk7 hRl)
     clear hk7
     rcases ho7 with ⟨rfl,a7,hp7⟩|⟨rfl,hp7⟩
     ·have HP7:=Lib.hid hp7
      have hi7:=hp7.ilt
      have HI7:=Lib.hid hi7
      obtain ⟨t,ht⟩:∃t,l.getD (q+1+1+1) default=t:=⟨_,rfl⟩
      obtain ⟨k,p,x⟩:=t
      have HT:=Lib.hid ht
      have QT:=Lib.hid (r_tok_of hp7 ht)
      have HPl:=Lib.hid (show declsS xs (leftT l q)=(if k≠3 then .err (leftT l (q+1+1+1)).length 16 else if 6 < valD x then .err (leftT l (q+1+1+1)).length 6
        else if isS [44] (leftT l (q+1+1+1+1)) then (if _h:(leftT l (q+1+1+1+1)).length < (leftT l q).length then declsS (xs++[(nm,valD x)]) (leftT l (q+1+1+1+1)) else .err 0 0) else wantS [46] (xs++[(nm,valD x)]) (leftT l (q+1+1+1+1)) []) by
       rw [declsS,if_neg H30.out,left_tail,HF6.out]
       simp only [wantS,X7.out,if_true,left_tail]
       rw [left_cons hi7,ht]
       simp only [List.length_cons,left_tail])
      clear ht hp7 hi7
      have HNf:=Lib.hid (show k=3→x≠[]∧(∀c∈x,digB c=true)∧valD x≤2147483648 from fun hk=>by have:=num_facts HG.out HI7.out (by rw [HT.out];exact hk);rw [HT.out] at this;exact this)
      have HXl:=Lib.hid (show x.length≤16384 by have:=HG.out.texts _ HI7.out;rw [HT.out] at this;exact this)
      by_cases hk:k=3
      ·subst hk
       obtain ⟨hxn,hd,hv⟩:=HNf.out rfl
       have hv0:=val_ge hxn hd hv
       have HHv:=Lib.hid (And.intro hv0 hv)
       have QV:=Lib.hid (fun W=>r_value_at (S x) W (by have:=HXl.out;show x.toArray.size≤_;simp;omega) (digs_of hd) (r:=valD x) rfl hv)
       have HXn:=Lib.hid hxn
       clear hxn hd hv hv0
       generalize hvx:valD x=vx at *
       by_cases h6:6 < vx
       ·have h6':6 < vx:=h6
        have QF:=Lib.hid (fun W (hW:Pr W R A c l (q+1+1+1) Z0 [] a7 0)=>r_fail_at hW p 6)
        have H6:=Lib.hid h6
        go_wp2_with (first
         | (go_at_call 27;(with_reducible refine QT.out.mono ?_);rintro en w8 ⟨rfl,hb8⟩;have hb9:=hb8.alloc hb8.size (.cells #[.int .i64 3,.int .i64 (p:Int),.string (S x)] 67);have HK8:=Lib.hid (HK7.out.trans (Below.kd hb9 R HL7.out));have HL8:=Lib.hid (Nat.le_trans HL7.out hb9.size);have HP8:=Lib.hid (HP7.out.below hb9);clear hb8 hb9)
         | (go_at_call 51;(with_reducible refine (QV.out _).mono ?_);rintro en w9 ⟨rfl,rfl⟩)
         | (go_at_call 31;(with_reducible refine (QF.out _ HP8.out).mono ?_);rintro en w10 ⟨rfl,hk10,hp10⟩;have HK10:=Lib.hid (HK8.out.trans (hk10.kd HL8.out));have HP10:=Lib.hid hp10;clear hk10 hp10))
        refine bodyPost_ret (v:=.tuple #[.slice none 0 0,.bool false]) (by simp [results,Tryz.results26,go_sem]) rfl ?_
        refine ⟨[],false,_,rfl,⟨_,_,_,rfl⟩,HK10.out,.inr ⟨rfl,q+1+1+1,(leftT l (q+1+1+1)).length,6,by rw [off_here HI7.out,HT.out];exact HP10.out,by decide,?_⟩⟩
        rw [hJ.out.all,if_pos rfl,HPl.out,if_neg (by simp),if_pos H6.out]
       ·have h6':¬6 < vx:=h6
        have h6'':vx≤6:=by omega
        have H6:=Lib.hid h6
        have hn8:q+1+1+1+1 < l.length:=good_next HG.out HI7.out (by rw [HT.out];exact HXn.out)
        have HN8:=Lib.hid hn8
        have QX8:=Lib.hid (fun W (hW:Pr W R A c l (q+1+1+1) Z0 [] a7 0)=>z_next_at HG.out hW (by rw [HT.out];exact HXn.out))
        obtain ⟨bc,hbc⟩:∃b,((l.getD (q+1+1+1+1) default).2.2==[44])=b:=⟨_,rfl⟩
        have XC:=Lib.hid (isS_text HG.out hn8 [44] (by decide) hbc)
        have QC:=Lib.hid (fun W (hW:Pr W R A c l (q+1+1+1+1) Z0 [] a7 0)=>z_is_at HG.out hW [44] (by decide) hbc)
        have HSy:=Lib.hid (show bc=true→(l.getD (q+1+1+1+1) default).2.2≠[] from fun e h0=>by rw [h0] at hbc;rw [e] at hbc;exact absurd hbc (by decide))
        have HOr:=Lib.hid (own_lt HR7.out.row)
        clear hn8 hbc h6
        go_wp2_with (first
         | (go_at_call 27;(with_reducible refine QT.out.mono ?_);rintro en w8 ⟨rfl,hb8⟩;have hb9:=hb8.alloc hb8.size (.cells #[.int .i64 3,.int .i64 (p:Int),.string (S x)] 67);have HB8:=Lib.hid hb9;have HK8:=Lib.hid (HK7.out.trans (Below.kd hb9 R HL7.out));have HL8:=Lib.hid (Nat.le_trans HL7.out hb9.size);have HP8:=Lib.hid (HP7.out.below hb9);have HR8:=Lib.hid (HR7.out.below hb9);have HT8:=Lib.hid (BoxL.new w8 [.int .i64 3,.int .i64 (p:Int),.string (S x)] 67);have hne8:¬w8.heap.size=R:=(by have:=hb8.size;have:=HL7.out;omega);clear hb8 hb9)
         | (go_at_call 51;(with_reducible refine (QV.out _).mono ?_);rintro en w9 ⟨rfl,rfl⟩)
         | (go_at_call 48;(with_reducible refine (QX8.out _ HP8.out).mono ?_);rintro en w10 ⟨rfl,hk10,hp10⟩;have HK10:=Lib.hid (HK8.out.trans (hk10.kd HL8.out));have HL10:=Lib.hid (Nat.le_trans HL8.out hk10.size);have HP10:=Lib.hid hp10;have HR10:=Lib.hid (HR8.out.kp hk10 hRl);obtain ⟨y0,y1,y2,_⟩:=(HT8.out.kz hk10 hne8 (Z0_own _)).get3;have hs10:=hk10.size;clear hk10 hp10)
         | (at_builtin; refine wpList_append_lies _ rfl _ _ 23 rfl lo 72 i0 _ 2 24 Tryz.underlying23 hi hz0 hz1 hz2 rfl (by decide) (.slice B1 xs.length zc1) xs.length (Elt.cellsL elDl xs) rfl (HR10.out.row.alloc _) ⟨w10.heap.size, 0, none⟩ 1 1 (Elt.cells elDl (nm, vx)) rfl rfl (news1_of elDl w10 (nm, vx) _) (Elt.one elDl (nm, vx)) (by decide) (by unfold maxLen; omega) (by omega) (by have := HL10.out; simp; omega) _ rfl ?_; intro g cap w11 hown hg hat hglt
            have hbx := (Below.refl w10.heap.size w10).alloc (Nat.le_refl _) (.cells #[.string (S nm), .int .i64 vx] 72)
            have HR11 := Lib.hid (HR10.out.next (m := w10.heap.size) (fun k hk => absurd hk (Z0_own k)) HL10.out (fun k hk => (own_lt HR10.out.row k hk).2) (sitz_dl _ _ _ _) hbx hown hg hat)
            have HK11 := Lib.hid ((HK10.out.trans (Below.kd hbx R HL10.out)).grown hg (by have := HL10.out; simp; omega) (fun k hk => (own_lt HR10.out.row k hk).1))
            have HL11 := Lib.hid (show lo ≤ w11.heap.size by have h1 := hg.size; have h2 := HL10.out; simp at h1; omega)
            have HP11 := Lib.hid ((HP10.out.below hbx).of hg.size (fun k hk hx => hg.block k hk (fun e => by rcases hx with h1 | h1; (have := (own_lt HR10.out.row k e.symm).1; omega); exact Z0_own k h1)))
            clear hown hg hat hglt hbx)
         | (go_at_call 47;(with_reducible refine (QC.out _ HP11.out).mono ?_);rintro en w12 ⟨rfl,hb12⟩;have HB12:=Lib.hid hb12;clear hb12))
        have HNx:=Lib.hid (show LdZ ds lo R A c l i w (gk - 1) bc w12 (q+1+1+1+1) (xs++[(nm,vx)]) (some ⟨g,0,none⟩) cap a7 by
         have h1:=hJ.out.gk_
         have h2:=hJ.out.iq
         have h3:=HN8.out
         have h4:=H30.out
         refine ⟨HK11.out.trans (Below.kd HB12.out R HL11.out),HP11.out.below HB12.out,by rw [List.length_append];exact HR11.out.below HB12.out,Nat.le_trans HL11.out HB12.out.size,?_,HSy.out,by omega,by cases bc<;>simp at h1 ⊢<;>omega,by simp only [List.length_append,List.length_cons,List.length_nil];omega⟩
         rw [hJ.out.all,if_pos rfl,HPl.out,if_neg (by simp),if_neg (show ¬6 < vx by have:=H6.out;omega),XC.out]
         cases bc
         ·rfl
         ·rw [if_pos rfl,if_pos rfl,dif_pos (by simp only [left_length];omega)])
        have HGk:=Lib.hid (show gk - 1 < gk by have h1:=hJ.out.gk_;simp at h1;omega)
        go_wp2_with fail
        go_roundg (gk - 1)
        case measure=>exact HGk.out
        case rel=>exact ⟨bc,q+1+1+1+1,xs++[(nm,vx)],some ⟨g,0,none⟩,cap,a7,by rw [List.length_append];rfl,rfl,HNx⟩
      ·have hk3:(k != 3)=true:=by simpa using hk
       have QF:=Lib.hid (fun W (hW:Pr W R A c l (q+1+1+1) Z0 [] a7 0)=>r_fail_at hW p 16)
       have HKn:=Lib.hid hk
       clear hk
       go_wp2_with (first
        | (go_at_call 27;(with_reducible refine QT.out.mono ?_);rintro en w8 ⟨rfl,hb8⟩;have hb9:=hb8.alloc hb8.size (.cells #[.int .i64 k,.int .i64 (p:Int),.string (S x)] 67);have HK8:=Lib.hid (HK7.out.trans (Below.kd hb9 R HL7.out));have HL8:=Lib.hid (Nat.le_trans HL7.out hb9.size);have HP8:=Lib.hid (HP7.out.below hb9);clear hb8 hb9)
        | (go_at_call 31;(with_reducible refine (QF.out _ HP8.out).mono ?_);rintro en w10 ⟨rfl,hk10,hp10⟩;have HK10:=Lib.hid (HK8.out.trans (hk10.kd HL8.out));have HP10:=Lib.hid hp10;clear hk10 hp10))
       refine bodyPost_ret (v:=.tuple #[.slice none 0 0,.bool false]) (by simp [results,Tryz.results26,go_sem]) rfl ?_
       refine ⟨[],false,_,rfl,⟨_,_,_,rfl⟩,HK10.out,.inr ⟨rfl,q+1+1+1,(leftT l (q+1+1+1)).length,16,by rw [off_here HI7.out,HT.out];exact HP10.out,by decide,?_⟩⟩
       rw [hJ.out.all,if_pos rfl,HPl.out,if_pos HKn.out]
     ·have HP7:=Lib.hid hp7
      clear hp7
      go_wp2_with fail
      refine bodyPost_ret (v:=.tuple #[.slice none 0 0,.bool false]) (by simp [results,Tryz.results26,go_sem]) rfl ?_
      refine ⟨[],false,_,rfl,⟨_,_,_,rfl⟩,HK7.out,.inr ⟨rfl,q+1+1,(leftT l (q+1+1)).length,16,HP7.out,by decide,?_⟩⟩
      rw [hJ.out.all,if_pos rfl,declsS,if_neg H30.out,left_tail,HF6.out]
      simp only [wantS,X7.out]
      rfl
    ·have HP6:=Lib.hid hp6
     have HF6:=Lib.hid (And.intro (hf6 []) he6)
     clear hp6 hf6 he6
     go_wp2_with fail
     refine bodyPost_ret (v:=.tuple #[.slice none 0 0,.bool false]) (by simp [results,Tryz.results26,go_sem]) rfl ?_
     refine ⟨[],false,_,rfl,⟨_,_,_,rfl⟩,HK6.out,.inr ⟨rfl,q+1,(leftT l (q+1)).length,e6,HP6.out,HF6.out.2,?_⟩⟩
     rw [hJ.out.all,if_pos rfl,declsS,if_neg H30.out,left_tail,HF6.out.1]
end Go.Proofs.YtaojnljppcnhjaaGreatDoor
namespace Go.Proofs.YtaojnljppcnhjaaGreatDoor
open Go.RowKit
def declarS (most:Nat) (ts:List Tok):PS (List Dl) :=
 match listS declS most [] ts [] with
 | .err l e=>.err l e
 | .ok v r _=>wantS [46] v r []
section
variable {R:Nat} {A:Option Addr} {c:Nat} {l:List Tk}
def DeclQ (most:Nat) (R:Nat) (A:Option Addr) (c:Nat) (l:List Tk) (i:Nat) (w:World) (en:Ending) (w':World):Prop :=
 ∃(ds:List Dl) (dA:Option Addr) (dc:Nat) (j:Nat) (er:Int),
  en=.returned (.tuple #[.slice dA ds.length dc,.int .i64 er])∧Kq R w w'∧Pq w' R A c l j∧RowG elDl 72 w.heap.size w' (.slice dA ds.length dc) ds ∧
  ((er=0∧declarS most (leftT l i)=.ok ds (leftT l j) []∧i < j∧0 < ds.length)∨(er≠0∧declarS most (leftT l i)=.err (leftT l j).length er))
theorem map_rdDl (g:Int→Int) (ds:List Dl):ds.map (rdDl.h g)=ds:=by
 have e:rdDl.h g=id:=rfl
 rw [e,List.map_id]
set_option maxHeartbeats 4000000 in
set_option maxRecDepth 100000 in
theorem declaration_at (hg:GoodT l) (m:Nat) (hm:m≤30) (i:Nat) (w:World) (h:Pq w R A c l i) :
  Calls Tryz.prog 46 #[.pointer (some ⟨R,0,none⟩),.int .i64 (m:Int)] w (DeclQ m R A c l i w):=by
 have HG:=Lib.hid hg
 have hR:=h.lt
 have Q:=Lib.hid (list_Dl_at hg i (leftT l i).length m (by omega) declS (fun k w hP _ _=>declared_at hg i k w hP) i w h (Nat.le_refl _) (Nat.le_refl _))
 have HN0:=Lib.hid (show nsL l i i=[] from nsU_start (Nat.le_refl _))
 clear hg h
 go_enter Tryz.func46,Tryz.ntmps46
 go_wp2_with fail
 refine Q.out.mono ?_
 rintro e w2 ⟨ds,j,er,dv,rfl,hk,hp,hr,ho⟩
 obtain ⟨dA,dc,rfl⟩:=hr.zform
 have HK2:=Lib.hid hk
 have HP2:=Lib.hid hp
 have HR2:=Lib.hid hr
 clear hk hp hr
 rcases ho with ⟨rfl,hf,hij,hv,hl1,hl2⟩|⟨her,rfl,hz,hf⟩
 ·have HF:=Lib.hid (show listS declS m [] (leftT l i) []=.ok ds (leftT l j) (nsL l i j) by
   rw [HN0.out,map_rdDl] at hf
   exact hf)
  have HJ:=Lib.hid (And.intro hij hl1)
  clear hf hij hv hl1 hl2
  obtain ⟨b,hb⟩:∃b,((l.getD j default).2.2==[46])=b:=⟨_,rfl⟩
  have X1:=Lib.hid (isS_text HG.out HP2.out.ilt [46] (by decide) hb)
  have QE:=Lib.hid (fun W (hW:Pq W R A c l j)=>expect_at HG.out hW [46] (by decide) hb)
  have HD:=Lib.hid (show declarS m (leftT l i)=if b=true then .ok ds (leftT l (j+1)) [] else .err (leftT l j).length 16 by
   simp only [declarS,HF.out,wantS,X1.out,left_tail])
  clear hb
  cases b
  ·go_wp2_with (go_at_call 56;(with_reducible refine (QE.out _ HP2.out).mono ?_);rintro en w3 ⟨rfl,hk3,hp3⟩;have HK3:=Lib.hid hk3;have HP3:=Lib.hid (show Pq w3 R A c l j from hp3);clear hk3 hp3)
   refine bodyPost_ret (v:=.tuple #[.slice dA ds.length dc,.int .i64 16]) (by simp [results,Tryz.results46,go_sem]) rfl ?_
   refine ⟨ds,dA,dc,j,16,rfl,HK2.out.trans HK3.out,HP3.out,HR2.out.kq HK3.out hR,.inr ⟨by omega,?_⟩⟩
   rw [HD.out]
   rfl
  ·go_wp2_with (go_at_call 56;(with_reducible refine (QE.out _ HP2.out).mono ?_);rintro en w3 ⟨rfl,hk3,hp3⟩;have HK3:=Lib.hid hk3;have HP3:=Lib.hid (show Pq w3 R A c l (j+1) from hp3);clear hk3 hp3)
   refine bodyPost_ret (v:=.tuple #[.slice dA ds.length dc,.int .i64 0]) (by simp [results,Tryz.results46,go_sem]) rfl ?_
   refine ⟨ds,dA,dc,j+1,0,rfl,HK2.out.trans HK3.out,HP3.out,HR2.out.kq HK3.out hR,.inl ⟨rfl,?_,by have:=HJ.out.1;omega,HJ.out.2⟩⟩
   rw [HD.out]
   rfl
 ·have hne:(er==0)=false:=by simpa using her
  have HE:=Lib.hid her
  have HF:=Lib.hid (show declarS m (leftT l i)=.err (leftT l j).length er by
   rw [HN0.out] at hf
   simp only [declarS,hf])
  injection hz with hz1 hz2 hz3
  subst hz1 hz3
  clear her hf hz2
  go_wp2_with fail
  refine bodyPost_ret (v:=.tuple #[.slice none 0 0,.int .i64 er]) (by simp [results,Tryz.results46,go_sem]) rfl ?_
  exact ⟨[],none,0,j,er,rfl,HK2.out,HP2.out,HR2.out,.inr ⟨HE.out,HF.out⟩⟩
end
theorem decls_list:∀(n:Nat) (ts:List Tok),ts.length≤n→∀(acc d:List Dl) (ns:List (List UInt8)),acc.length+d.length≤30 →
  declsS (acc++d) ts=match listS declS (30 - acc.length) d ts.tail ns with
   | .err l e=>.err l e
   | .ok v r _=>wantS [46] (acc++v) r []
 | n,ts,hn,acc,d,ns,hl=>by
  rw [declsS,listS]
  by_cases h30:30≤(acc++d).length
  ·rw [if_pos h30,if_pos (by rw [List.length_append] at h30;omega)]
  rw [if_neg h30,if_neg (by rw [List.length_append] at h30;omega)]
  cases hu:ts.tail with
  | nil=>rfl
  | cons x r =>
   have hlen:ts.length=r.length+2:=by
    cases ts with
    | nil=>cases hu
    | cons y z=>simp only [List.tail_cons] at hu;subst hu;simp
   obtain ⟨k1,t1,g1⟩:=x
   by_cases hk1:k1≠1
   ·simp only [nmS,declS,if_pos hk1]
   by_cases hr1:resB t1=true
   ·simp only [nmS,declS,if_neg hk1,if_pos hr1]
   simp only [nmS,declS,if_neg hk1,if_neg hr1,wantS]
   by_cases hs:isS [47] r=true
   ·simp only [if_pos hs]
    cases r with
    | nil=>cases hs
    | cons y r2 =>
     simp only [List.tail_cons]
     cases r2 with
     | nil=>rfl
     | cons z r3 =>
      obtain ⟨k,dd,g⟩:=z
      simp only
      by_cases hk:k≠3
      ·simp only [if_pos hk]
      by_cases h6:6 < valD dd
      ·simp only [if_neg hk,if_pos h6]
      simp only [if_neg hk,if_neg h6]
      simp only [List.length_cons] at hlen
      by_cases hc:isS [44] r3=true
      ·cases r3 with
       | nil=>cases hc
       | cons u r4 =>
        simp only [List.length_cons] at hlen
        simp only [if_pos hc]
        rw [dif_pos (by simp only [List.length_cons];omega),dif_pos (by simp only [List.tail_cons,List.length_cons];omega)]
        match n,hn with
        | 0,hn=>omega
        | n+1,hn =>
         have:=decls_list n (u :: r4) (by simp only [List.length_cons];omega) acc (d++[(t1,valD dd)]) ns (by rw [List.length_append] at h30 ⊢;simp only [List.length_singleton];omega)
         rw [←List.append_assoc] at this
         exact this
      ·simp only [if_neg hc]
       rw [List.append_assoc]
   ·simp only [if_neg hs]
theorem decls_next (acc:List Dl) (ts:List Tok) (h:acc.length≤30):declsS acc ts=match declarS (30 - acc.length) ts.tail with
  | .err l e=>.err l e
  | .ok v r ns=>.ok (acc++v) r ns:=by
 have:=decls_list _ ts (Nat.le_refl _) acc [] [] (by simpa using h)
 rw [List.append_nil] at this
 rw [this]
 unfold declarS
 cases listS declS (30 - acc.length) [] ts.tail [] with
 | err l e=>rfl
 | ok v r ns =>
  simp only [wantS]
  by_cases hs:isS [46] r=true
  ·simp only [if_pos hs]
  ·simp only [if_neg hs]
end Go.Proofs.YtaojnljppcnhjaaGreatDoor
namespace Go.Proofs.YtaojnljppcnhjaaGreatDoor
open Go.RowKit
structure Ru where
 t:List UInt8
 ks:List Am
 rs:List Am
 gs:List Gl
 bs:List Gl
 kA:Option Addr
 kc:Nat
 rA:Option Addr
 rc:Nat
 gA:Option Addr
 gc:Nat
 bA:Option Addr
 bc:Nat
 n:Nat
def Ru.kv (x:Ru):Value:=.slice x.kA x.ks.length x.kc
def Ru.rv (x:Ru):Value:=.slice x.rA x.rs.length x.rc
def Ru.gv (x:Ru):Value:=.slice x.gA x.gs.length x.gc
def Ru.bv (x:Ru):Value:=.slice x.bA x.bs.length x.bc
def Ru.cells (x:Ru):List Value:=[.string (S x.t),.slice x.kA x.ks.length x.kc,.slice x.rA x.rs.length x.rc,.slice x.gA x.gs.length x.gc,.slice x.bA x.bs.length x.bc,.int .i64 (x.n:Int)]
def Ru.p (x:Ru):Rs:=ruP x.t x.ks x.rs x.gs x.bs x.n
structure Ru.Own (x:Ru) (b:Nat):Prop where
 h:x.kv.ownBlock=some b∨x.rv.ownBlock=some b∨x.gv.ownBlock=some b∨x.bv.ownBlock=some b∨b∈elAm.blkL x.ks∨b∈elAm.blkL x.rs∨b∈elGl.blkL x.gs∨b∈elGl.blkL x.bs
structure Ru.At (lo:Nat) (w:World) (x:Ru):Prop where
 name:x.t.length≤16384
 k:RowG elAm 92 lo w x.kv x.ks
 r:RowG elAm 92 lo w x.rv x.rs
 g:RowG elGl 54 lo w x.gv x.gs
 b:RowG elGl 54 lo w x.bv x.bs
section
variable {lo:Nat} {w w':World} {x:Ru} {r:Value} {l:List Ru}
theorem Ru.At.own (h:x.At lo w) {b:Nat} (hb:x.Own b):lo≤b∧b < w.heap.size:=by
 rcases hb.h with e|e|e|e|e|e|e|e
 ·exact own_lt h.k.row b e
 ·exact own_lt h.r.row b e
 ·exact own_lt h.g.row b e
 ·exact own_lt h.b.row b e
 ·exact h.k.sit.bd b e
 ·exact h.r.sit.bd b e
 ·exact h.g.sit.bd b e
 ·exact h.b.sit.bd b e
theorem Ru.At.frame (h:x.At lo w) (hs:w.heap.size≤w'.heap.size) (hb:∀b,x.Own b→w'.heap[b]?=w.heap[b]?):x.At lo w' :=
 ⟨h.name,h.k.only hs (fun k e=>hb k ⟨.inl e⟩) (fun k e=>hb k ⟨.inr (.inr (.inr (.inr (.inl e))))⟩),
  h.r.only hs (fun k e=>hb k ⟨.inr (.inl e)⟩) (fun k e=>hb k ⟨.inr (.inr (.inr (.inr (.inr (.inl e)))))⟩),
  h.g.only hs (fun k e=>hb k ⟨.inr (.inr (.inl e))⟩) (fun k e=>hb k ⟨.inr (.inr (.inr (.inr (.inr (.inr (.inl e))))))⟩),
  h.b.only hs (fun k e=>hb k ⟨.inr (.inr (.inr (.inl e)))⟩) (fun k e=>hb k ⟨.inr (.inr (.inr (.inr (.inr (.inr (.inr e))))))⟩)⟩
theorem Ru.At.low {lo':Nat} (h:x.At lo w) (hl:lo'≤lo):x.At lo' w:=⟨h.name,h.k.low hl,h.r.low hl,h.g.low hl,h.b.low hl⟩
def rcells (l:List Ru):List Value:=l.flatMap Ru.cells
theorem rcells_append (l m:List Ru):rcells (l++m)=rcells l++rcells m:=by simp [rcells]
theorem rcells_one (x:Ru):rcells [x]=x.cells:=by simp [rcells]
theorem ru_one (x:Ru):∀v∈x.cells,v.oneCell'=true:=fun v hv=>by
 simp only [Ru.cells,List.mem_cons,List.not_mem_nil,or_false] at hv
 rcases hv with rfl|rfl|rfl|rfl|rfl|rfl<;>rfl
structure RowR (lo:Nat) (w:World) (r:Value) (l:List Ru):Prop where
 row:w.ownsRow lo 35 6 r l.length (rcells l)
 at_:∀x∈l,x.At lo w
 apart:∀k,r.ownBlock=some k→∀x∈l,¬x.Own k
theorem RowR.nil (lo:Nat) (w:World):RowR lo w (.slice none 0 0) []:=⟨⟨by simp [rcells],.inl ⟨rfl,rfl⟩⟩,fun _ h=>(by cases h),fun k hk=>(by cases hk)⟩
theorem RowR.frame (h:RowR lo w r l) (hs:w.heap.size≤w'.heap.size) (hb:∀b,lo≤b→b < w.heap.size→w'.heap[b]?=w.heap[b]?):RowR lo w' r l :=
 ⟨own_of h.row fun k hk=>hb k (own_lt h.row k hk).1 (own_lt h.row k hk).2,fun x hx=>(h.at_ x hx).frame hs fun b hbx=>hb b ((h.at_ x hx).own hbx).1 ((h.at_ x hx).own hbx).2,h.apart⟩
theorem RowR.below (h:RowR lo w r l) (hb:Below w.heap.size w w'):RowR lo w' r l:=h.frame hb.size fun b _ h2=>hb.block b h2
theorem RowR.kq {R:Nat} (h:RowR lo w r l) (k:Kp R Z0 Z0 w w') (hR:R < lo):RowR lo w' r l:=h.frame k.size fun b h1 h2=>k.block b h2 (by omega) (Z0_own b)
theorem RowR.zform (h:RowR lo w r l):∃B cap,r=.slice B l.length cap:=by
 rcases h.row.2 with ⟨e,h1⟩|⟨g,cap,cur,e,_⟩
 ·exact ⟨none,0,by rw [e,h1]⟩
 ·exact ⟨_,cap,e⟩
theorem RowR.low {lo':Nat} (h:RowR lo w r l) (hl:lo'≤lo):RowR lo' w r l:=⟨own_low h.row hl,fun x hx=>(h.at_ x hx).low hl,h.apart⟩
theorem RowR.next {m g cap:Nat} {w2 w3 w4:World} {u:Ru} (h:RowR lo w2 r l) (hm:lo≤m) (hrm:∀k,r.ownBlock=some k→k < m) (hu:u.At m w2) (hb:Below w2.heap.size w2 w3)
  (hown:w4.ownsRow lo 35 6 (.slice (some ⟨g,0,none⟩) (l.length+1) cap) (l.length+1) (rcells l++u.cells)) (hg:w3.grownBy w4 r.ownBlock) (hat:r.ownBlock=some g∨g=w3.heap.size) :
  RowR lo w4 (.slice (some ⟨g,0,none⟩) (l.length+1) cap) (l++[u]):=by
 have hall:∀x∈l++[u],x.At lo w2:=fun x hx=>by
  rcases List.mem_append.1 hx with hx|hx
  ·exact h.at_ x hx
  ·rw [List.mem_singleton.1 hx];exact hu.low hm
 have hap:∀k,r.ownBlock=some k→∀x∈l++[u],¬x.Own k:=fun k hk x hx=>by
  rcases List.mem_append.1 hx with hx|hx
  ·exact h.apart k hk x hx
  ·rw [List.mem_singleton.1 hx]
   intro ho
   have:=hrm k hk
   have:=(hu.own ho).1
   omega
 refine ⟨by rw [List.length_append,rcells_append,rcells_one];simpa using hown,fun x hx=>?_,fun k hk x hx ho=>?_⟩
 ·have h2:=hall x hx
  refine h2.frame (Nat.le_trans hb.size hg.size) fun b hbx=>?_
  have hlt:=(h2.own hbx).2
  exact (hg.block b (Nat.lt_of_lt_of_le hlt hb.size) fun e=>hap b e.symm x hx hbx).trans (hb.block b hlt)
 ·have e':g=k:=by simpa [Value.ownBlock] using hk
  subst e'
  rcases hat with h1|h1
  ·exact hap g h1 x hx ho
  ·have:=((hall x hx).own ho).2
   have:=hb.size
   omega
end
theorem ru_of {lo:Nat} {w:World} {t:List UInt8} {ks rs:List Am} {gs bs:List Gl} {kA rA gA bA:Option Addr} {kn kc rn rc gn gc bn bc n:Nat} (h:RuAt lo w t ks rs gs bs (.slice kA kn kc) (.slice rA rn rc) (.slice gA gn gc) (.slice bA bn bc)) :
  kn=ks.length∧rn=rs.length∧gn=gs.length∧bn=bs.length∧Ru.At lo w ⟨t,ks,rs,gs,bs,kA,kc,rA,rc,gA,gc,bA,bc,n⟩:=by
 obtain ⟨ht,M,m1,m2,m3,_,h⟩:=h
 obtain ⟨_,_,e1⟩:=h.k.zform
 obtain ⟨_,_,e2⟩:=h.r.zform
 obtain ⟨_,_,e3⟩:=h.g.zform
 obtain ⟨_,_,e4⟩:=h.b.zform
 injection e1 with _ e1 _
 injection e2 with _ e2 _
 injection e3 with _ e3 _
 injection e4 with _ e4 _
 have o1:=h.o1
 have o2:=h.o2
 have o3:=h.o3
 subst e1 e2 e3 e4
 exact ⟨rfl,rfl,rfl,rfl,ht,h.k,h.r.low o1,h.g.low (by omega),h.b.low (by omega)⟩
theorem rowDl {lo:Nat} {w:World} {r:Value} {ds:List Dl} (h:w.ownsRow lo 72 2 r ds.length (elDl.cellsL ds)):RowG elDl 72 lo w r ds :=
 have e:elDl.blkL ds=[]:=by
  rw [Elt.blkL,List.flatMap_eq_nil_iff]
  exact fun _ _=>rfl
 ⟨h,⟨fun _ _=>trivial,by rw [e];simp,fun b hb=>(by rw [e] at hb;cases hb),fun b hb=>(by rw [e] at hb;cases hb)⟩,fun k _ hk=>(by rw [e] at hk;cases hk)⟩
theorem isW_left {l:List Tk} (hg:GoodT l) {i:Nat} (hi:i < l.length) {s:List UInt8} (hs:kindO s=1):isW s (leftT l i)=((l.getD i default).2.2==s):=by
 rw [left_cons hi,hg.acc hi hs]
 rfl
theorem all_word {acc v:List Dl} {ts r:List Tok} {ns:List (List UInt8)} (hw:isW constraintW ts=true) (ha:acc.length≤30) (h:declarS (30 - acc.length) ts.tail=.ok v r ns) (hl:r.length < ts.length):allDecls acc ts=allDecls (acc++v) r:=by
 rw [allDecls,hw,if_pos rfl,decls_next acc ts ha,h]
 simp only
 rw [dif_pos hl]
theorem all_err {acc:List Dl} {ts:List Tok} {n:Nat} {e:Int} (hw:isW constraintW ts=true) (ha:acc.length≤30) (h:declarS (30 - acc.length) ts.tail=.err n e):allDecls acc ts=.err n e:=by
 rw [allDecls,hw,if_pos rfl,decls_next acc ts ha,h]
theorem all_end {acc:List Dl} {ts:List Tok} (hw:isW constraintW ts=false):allDecls acc ts=.ok acc ts []:=by
 rw [allDecls,hw,if_neg (by decide)]
section
variable {ex:Rd1 Tm} {acc:List Rs} {l:List Tk} {i:Nat}
theorem rules_end (hi:i < l.length) (h:(l.getD i default).1=0):rulesS ex acc (leftT l i)=.ok acc (leftT l i) []:=by
 rw [left_cons hi,rulesS,if_pos h]
theorem rules_much (hi:i < l.length) (h:(l.getD i default).1≠0) (h4:40≤acc.length):rulesS ex acc (leftT l i)=.err (leftT l i).length 6:=by
 rw [left_cons hi,rulesS,if_neg h,if_pos h4]
theorem rules_next {q:Rs} {r:List Tok} {ns:List (List UInt8)} (hi:i < l.length) (h:(l.getD i default).1≠0) (h4:¬40≤acc.length) (hq:ruleS ex (leftT l i)=.ok q r ns) (hl:r.length < (leftT l i).length):rulesS ex acc (leftT l i)=rulesS ex (acc++[q]) r:=by
 rw [left_cons hi] at hq hl ⊢
 rw [rulesS,if_neg h,if_neg h4,hq]
 simp only
 rw [dif_pos hl]
theorem rules_err {n:Nat} {e:Int} (hi:i < l.length) (h:(l.getD i default).1≠0) (h4:¬40≤acc.length) (hq:ruleS ex (leftT l i)=.err n e):rulesS ex acc (leftT l i)=.err n e:=by
 rw [left_cons hi] at hq ⊢
 rw [rulesS,if_neg h,if_neg h4,hq]
end
end Go.Proofs.YtaojnljppcnhjaaGreatDoor
