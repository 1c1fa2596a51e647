/-
  PgDecl.
  RzDecls.
  PgDeclar.
 PgProgM.
 PgProg.
 PgWhole0.
-/
import Derived.Test.YtaojnljppcnhjaaGreatDoorMh21
import Derived.Test.YtaojnljppcnhjaaGreatDoorMh12
import Derived.Test.YtaojnljppcnhjaaGreatDoorMh16
import Derived.Test.YtaojnljppcnhjaaGreatDoorMh27
import Derived.Test.YtaojnljppcnhjaaGreatDoorMh4
import Derived.Test.YtaojnljppcnhjaaGreatDoorMh14
namespace Go.Proofs.YtaojnljppcnhjaaGreatDoor
open Go.RowKit
def declS:Rd1 Dl:=fun ts ns =>
 match nmS ts ns with
 | .err l e=>.err l e
 | .ok t r n1=>match wantS [47] t r n1 with
  | .err l e=>.err l e
  | .ok _ r2 n2=>match r2 with
   | []=>.err 0 0
   | (k,d,_) :: r3=>if k≠3 then .err r2.length 16 else if 6 < valD d then .err r2.length 6 else .ok (t,valD d) r3 n2
section
variable {R:Nat} {A:Option Addr} {c:Nat} {l:List Tk}
theorem sit_dl (lo:Nat) (w:World) (x:Dl):SitG elDl lo w [x] :=
 ⟨fun _ _=>trivial,by simp [Elt.blkL,elDl],fun b hb=>by simp [Elt.blkL,elDl] at hb,fun b hb=>by simp [Elt.blkL,elDl] at hb⟩
set_option maxHeartbeats 8000000 in
set_option maxRecDepth 100000 in
theorem declared_at (hg:GoodT l) (a i:Nat) (w:World) (h:Pq w R A c l i) :
  Calls Tryz.prog 76 #[.pointer (some ⟨R,0,none⟩)] w (ElR rdDl declS R A c l a i w):=by
 have HG:=Lib.hid hg
 have hR:=h.lt
 have hTR:¬w.heap.size=R:=by omega
 have HI:=Lib.hid h.ilt
 have HB1:=Lib.hid (BoxL.new w [.string ⟨#[]⟩,.int .i64 0] 72)
 have Q:=Lib.hid (p_name_at hg (h.alloc (.cells #[.string ⟨#[]⟩,.int .i64 0] 72)))
 clear hg h
 go_enter Tryz.func76,Tryz.ntmps76
 go_wp2_with fail
 refine Q.out.mono ?_
 rintro e w2 ⟨t,er,j,rfl,hk,hp,ht,ho⟩
 have HB2:=Lib.hid (HB1.out.kq hk hTR)
 have HK2:=Lib.hid (Kq.from_new hk)
 have HP2:=Lib.hid hp
 have HT:=Lib.hid ht
 clear hk hp ht
 rcases ho with ⟨rfl,rfl,hte,hf⟩|⟨her,rfl,rfl,hf⟩
 ·have HF:=Lib.hid hf
  have hk1:(l.getD i default).1=1:=by
   have:=hf []
   rw [left_cons HI.out,nmS] at this
   split at this
   ·cases this
   ·rename_i h1;simpa using h1
  have HNs:=Lib.hid (nsL_no (a:=a) hk1 (by decide))
  obtain ⟨b,hb⟩:∃b,((l.getD (i+1) default).2.2==[47])=b:=⟨_,rfl⟩
  have X1:=Lib.hid (isS_text HG.out HP2.out.ilt [47] (by decide) hb)
  have QE:=Lib.hid (fun W (hW:Pq W R A c l (i+1))=>expect_at HG.out hW [47] (by decide) hb)
  clear hf hte hk1 hb
  cases b
  ·go_wp2_with (go_at_call 56;(with_reducible refine (QE.out _ HP2.out).mono ?_);rintro en w3 ⟨rfl,hk3,hp3⟩;have HK3:=Lib.hid (HK2.out.trans hk3);have HP3:=Lib.hid (show Pq w3 R A c l (i+1) from hp3);have HB3:=Lib.hid (HB2.out.kq hk3 hTR);obtain ⟨c0,c1,f0,f1⟩:=HB3.out.get2;clear hk3 hp3)
   refine bodyPost_ret (v:=.tuple #[.agg #[.string ⟨#[]⟩,.int .i64 0],.int .i64 16]) (by simp [results,Tryz.results76,go_sem,c0,c1]) rfl ?_
   obtain ⟨e1,e2⟩:=end22 hR HK3.out HP3.out (.string ⟨#[]⟩) (.int .i64 0)
   refine ⟨([],0),i+1,16,rfl,e1,e2,sit_dl _ _ _,.inr ⟨by omega,?_⟩⟩
   simp only [declS,HF.out (nsL l a i),wantS,X1.out]
   rfl
  ·have HN2:=Lib.hid (show nsL l a (i+2)=nsL l a i from (nsL_s HP2.out.ilt X1.out).trans HNs.out)
   obtain ⟨tk,htk⟩:∃tk,l.getD (i+2) default=tk:=⟨_,rfl⟩
   obtain ⟨k,p,x⟩:=tk
   have fk:=tok_kind k (p:Int) (S x)
   have QN:=Lib.hid (fun W (hW:Pq W R A c l (i+2))=>p_next_of hW htk)
   have HD:=Lib.hid (show i+2 < l.length→declS (leftT l i) (nsL l a i)=if k≠3 then .err (leftT l (i+2)).length 16 else if 6 < valD x then .err (leftT l (i+2)).length 6 else .ok (t,valD x) (leftT l (i+3)) (nsL l a i) from fun hlt=>by
    simp only [declS,HF.out (nsL l a i),wantS,X1.out,if_true,left_tail]
    rw [left_cons hlt,htk])
   by_cases hk3:k=3
   ·subst hk3
    have HNum:=Lib.hid (show i+2 < l.length→x≠[]∧(∀c∈x,digB c=true)∧valD x≤2147483648 from fun hlt=>by have:=num_facts HG.out hlt (by rw [htk]);rw [htk] at this;exact this)
    have HX:=Lib.hid (show i+2 < l.length→x.length≤16384 from fun hlt=>by have:=HG.out.texts (i+2) hlt;rw [htk] at this;exact this)
    have HNx:=Lib.hid (show i+2 < l.length→x≠[]→i+3 < l.length from fun hlt hx=>good_next HG.out hlt (by rw [htk];exact hx))
    have HN3:=Lib.hid (show nsL l a (i+3)=nsL l a (i+2) from nsL_no (k:=3) (by rw [htk]) (by decide))
    clear htk
    go_wp2_with (first
     | (go_at_call 56;(with_reducible refine (QE.out _ HP2.out).mono ?_);rintro en w3 ⟨rfl,hk3,hp3⟩;have HK3:=Lib.hid (HK2.out.trans hk3);have HP3:=Lib.hid (show Pq w3 R A c l (i+2) from hp3);have HB3:=Lib.hid (HB2.out.kq hk3 hTR);clear hk3 hp3;obtain ⟨hne,hd,hv⟩:=HNum.out HP3.out.ilt;have hx:=HX.out HP3.out.ilt;have HNe:=Lib.hid (HNx.out HP3.out.ilt hne);have QV:=Lib.hid (fun W=>value_at 3 (p:Int) x hne hd hv hx W);clear hne hd hv hx;have HW:=Lib.hid (show wrap64 ((i:Int)+2+1)=((i+3:Nat):Int) from (IntWalk.wrap64_in _ (by have:=HNe.out;have:=HG.out.small;omega)).trans (by omega)))
     | (go_at_call 44;(with_reducible refine (QN.out _ HP3.out).mono ?_);rintro en w4 ⟨rfl,hb4⟩;have HK4:=Lib.hid (HK3.out.trans (Below.kp hb4 R Z0));have HP4:=Lib.hid (HP3.out.below hb4);have HB4:=Lib.hid (HB3.out.below hb4);clear hb4 HK3 HP3 HB3)
     | (go_at_call 44;(with_reducible refine (QN.out _ HP4.out).mono ?_);rintro en w5 ⟨rfl,hb5⟩;have HK5:=Lib.hid (HK4.out.trans (Below.kp hb5 R Z0));have HP5:=Lib.hid (HP4.out.below hb5);have HB5:=Lib.hid (HB4.out.below hb5);clear hb5 HK4 HP4 HB4)
     | (go_at_call 100;(with_reducible refine (QV.out _).mono ?_);rintro en w6 ⟨rfl,hb6⟩;have HK6:=Lib.hid (HK5.out.trans (Below.kp hb6 R Z0));have HP6:=Lib.hid (HP5.out.below hb6);have HB6:=Lib.hid (HB5.out.below hb6);clear hb6 HK5 HP5 HB5;obtain ⟨c0,c1,f0,f1⟩:=HB6.out.get2;have l1:=HP6.out.l1;have lf:=HP6.out.fr 1))
    ·rename_i hgt
     refine bodyPost_ret (v:=.tuple #[.agg #[.string ⟨#[]⟩,.int .i64 0],.int .i64 6]) (by simp [results,Tryz.results76,go_sem,c0,c1]) rfl ?_
     obtain ⟨e1,e2⟩:=end22 hR HK6.out HP6.out (.string ⟨#[]⟩) (.int .i64 0)
     refine ⟨([],0),i+2,6,rfl,e1,e2,sit_dl _ _ _,.inr ⟨by omega,?_⟩⟩
     rw [HD.out HP6.out.ilt,if_neg (by simp),if_pos hgt]
    ·rename_i hle
     rw [HW.out]
     have hc0:∀v,(w6.setCell ⟨R,1,none⟩ v).cell? ⟨w.heap.size,0,none⟩=some (.string ⟨#[]⟩):=fun v=>by rw [World.cell?_setCell_other _ _ _ _ (by simp only [ne_eq,Addr.mk.injEq];omega)];exact c0
     have hc1:∀v,(w6.setCell ⟨R,1,none⟩ v).cell? ⟨w.heap.size,1,none⟩=some (.int .i64 0):=fun v=>by rw [World.cell?_setCell_other _ _ _ _ (by simp only [ne_eq,Addr.mk.injEq];omega)];exact c1
     refine bodyPost_ret (v:=.tuple #[.agg #[.string (S t),.int .i64 (valD x)],.int .i64 0]) (by simp [results,Tryz.results76,go_sem,hc0,hc1]) rfl ?_
     have HK7:Kq R w (w6.setCell ⟨R,1,none⟩ (.int .i64 ((i+3:Nat):Int))):=HK6.out.set 1 none _
     have HP7:=HP6.out.set (q:=i+3) HNe.out
     obtain ⟨e1,e2⟩:=end22 hR HK7 HP7 (.string (S t)) (.int .i64 (valD x))
     refine ⟨(t,valD x),i+3,0,rfl,e1,e2,sit_dl _ _ _,.inl ⟨rfl,?_,by omega,OkV.nil _ _ _⟩⟩
     rw [HD.out HP6.out.ilt,if_neg (by simp),if_neg (by omega),HN3.out,HN2.out]
     rfl
   ·have hkb:(k != 3)=true:=bne_iff_ne.2 hk3
    have HK3n:=Lib.hid hk3
    clear htk hk3
    go_wp2_with (first
     | (go_at_call 56;(with_reducible refine (QE.out _ HP2.out).mono ?_);rintro en w3 ⟨rfl,hk3,hp3⟩;have HK3:=Lib.hid (HK2.out.trans hk3);have HP3:=Lib.hid (show Pq w3 R A c l (i+2) from hp3);have HB3:=Lib.hid (HB2.out.kq hk3 hTR);clear hk3 hp3)
     | (go_at_call 44;(with_reducible refine (QN.out _ HP3.out).mono ?_);rintro en w4 ⟨rfl,hb4⟩;have HK4:=Lib.hid (HK3.out.trans (Below.kp hb4 R Z0));have HP4:=Lib.hid (HP3.out.below hb4);have HB4:=Lib.hid (HB3.out.below hb4);clear hb4;obtain ⟨c0,c1,f0,f1⟩:=HB4.out.get2))
    refine bodyPost_ret (v:=.tuple #[.agg #[.string ⟨#[]⟩,.int .i64 0],.int .i64 16]) (by simp [results,Tryz.results76,go_sem,c0,c1]) rfl ?_
    obtain ⟨e1,e2⟩:=end22 hR HK4.out HP4.out (.string ⟨#[]⟩) (.int .i64 0)
    refine ⟨([],0),i+2,16,rfl,e1,e2,sit_dl _ _ _,.inr ⟨by omega,?_⟩⟩
    rw [HD.out HP4.out.ilt,if_pos HK3n.out]
 ·have hne:(er==0)=false:=by rcases her with rfl|rfl<;>rfl
  have hne2:(er != 0)=true:=by rcases her with rfl|rfl<;>rfl
  have HF:=Lib.hid hf
  have HE:=Lib.hid (show er≠0 by omega)
  clear her hf
  obtain ⟨c0,c1,f0,f1⟩:=HB2.out.get2
  go_wp2_with fail
  refine bodyPost_ret (v:=.tuple #[.agg #[.string ⟨#[]⟩,.int .i64 0],.int .i64 er]) (by simp [results,Tryz.results76,go_sem,c0,c1]) rfl ?_
  obtain ⟨e1,e2⟩:=end22 hR HK2.out HP2.out (.string ⟨#[]⟩) (.int .i64 0)
  refine ⟨([],0),j,er,rfl,e1,e2,sit_dl _ _ _,.inr ⟨HE.out,?_⟩⟩
  simp only [declS,HF.out (nsL l a j)]
end
end Go.Proofs.YtaojnljppcnhjaaGreatDoor
namespace Go.Proofs.YtaojnljppcnhjaaGreatDoor
open Go.RowKit
structure Kd (R lo:Nat) (w w':World):Prop where
 os:w'.os=w.os
 tape:w'.tape=w.tape
 output:w'.output=w.output
 size:w.heap.size≤w'.heap.size
 block:∀k,k < lo→k≠R→w'.heap[k]?=w.heap[k]?
section
variable {R lo:Nat} {a b c w:World} {z:Value}
theorem Kd.refl (R lo:Nat) (w:World):Kd R lo w w:=⟨rfl,rfl,rfl,Nat.le_refl _,fun _ _ _=>rfl⟩
theorem Kd.trans (h:Kd R lo a b) (k:Kd R lo b c):Kd R lo a c:=⟨k.os.trans h.os,k.tape.trans h.tape,k.output.trans h.output,Nat.le_trans h.size k.size,fun i hi hr=>(k.block i hi hr).trans (h.block i hi hr)⟩
theorem Kp.kd (h:Kp R Z0 z a b) (hl:lo≤a.heap.size):Kd R lo a b:=⟨h.os,h.tape,h.output,h.size,fun k hk hr=>h.block k (by omega) hr (Z0_own k)⟩
theorem Below.kd (h:Below a.heap.size a b) (R:Nat) (hl:lo≤a.heap.size):Kd R lo a b:=⟨h.os,h.tape,h.output,h.size,fun k hk _=>h.block k (by omega)⟩
theorem Kd.grown {row:Option Nat} (h:Kd R lo a b) (hg:b.grownBy c row) (hl:lo≤b.heap.size) (hr:∀k,row=some k→lo≤k):Kd R lo a c :=
 ⟨hg.os.trans h.os,hg.tape.trans h.tape,hg.output.trans h.output,Nat.le_trans h.size hg.size,fun k hk hR=>(hg.block k (by omega) (fun e=>by have:=hr k e.symm;omega)).trans (h.block k hk hR)⟩
theorem Kd.put (h:Kd R lo a b) {p:Addr} (hp:lo≤p.block) (v:Value):Kd R lo a (b.setCell p v) :=
 ⟨h.os,h.tape,h.output,by simpa [World.setCell] using h.size,fun k hk hr=>(Below.heap_setCell _ _ _ _ (by omega)).trans (h.block k hk hr)⟩
end
def DeclsZ (ds:List Dl) (lo R:Nat) (A:Option Addr) (c:Nat) (l:List Tk) (i:Nat) (w:World) (en:Ending) (w':World):Prop :=
 ∃(xs:List Dl) (b:Bool) (rv:Value),en=.returned (.tuple #[rv,.bool b])∧SlV rv∧Kd R lo w w' ∧
  ((b=true∧∃j a,Pr w' R A c l j Z0 [] a 0∧declsS ds (leftT l i)=.ok xs (leftT l j) []∧i < j∧RowZ elDl 72 lo Z0 w' rv xs) ∨
   (b=false∧∃j n e,Pr w' R A c l j Z0 [] (offT l n) e∧e≠0∧declsS ds (leftT l i)=.err n e))
structure LdZ (ds0:List Dl) (lo R:Nat) (A:Option Addr) (c:Nat) (l:List Tk) (i:Nat) (w:World) (gk:Nat) (more:Bool) (wr:World) (q:Nat) (ds:List Dl) (B:Option Addr) (zc a:Nat):Prop where
 k:Kd R lo w wr
 p:Pr wr R A c l q Z0 [] a 0
 row:RowZ elDl 72 lo Z0 wr (.slice B ds.length zc) ds
 top:lo≤wr.heap.size
 all:declsS ds0 (leftT l i)=if more then declsS ds (leftT l q) else wantS [46] ds (leftT l q) []
 sym:more=true→(l.getD q default).2.2≠[]
 iq:i≤q
 gk_:l.length - q+(if more then 1 else 0)≤gk
 small:ds.length≤30
end Go.Proofs.YtaojnljppcnhjaaGreatDoor
namespace Go.Proofs.YtaojnljppcnhjaaGreatDoor
open Go.RowKit
def declarS (most:Nat) (ts:List Tok):PS (List Dl) :=
 match listS declS most [] ts [] with
 | .err l e=>.err l e
 | .ok v r _=>wantS [46] v r []
section
variable {R:Nat} {A:Option Addr} {c:Nat} {l:List Tk}
def DeclQ (most:Nat) (R:Nat) (A:Option Addr) (c:Nat) (l:List Tk) (i:Nat) (w:World) (en:Ending) (w':World):Prop :=
 ∃(ds:List Dl) (dA:Option Addr) (dc:Nat) (j:Nat) (er:Int),
  en=.returned (.tuple #[.slice dA ds.length dc,.int .i64 er])∧Kq R w w'∧Pq w' R A c l j∧RowG elDl 72 w.heap.size w' (.slice dA ds.length dc) ds ∧
  ((er=0∧declarS most (leftT l i)=.ok ds (leftT l j) []∧i < j∧0 < ds.length)∨(er≠0∧declarS most (leftT l i)=.err (leftT l j).length er))
theorem map_rdDl (g:Int→Int) (ds:List Dl):ds.map (rdDl.h g)=ds:=by
 have e:rdDl.h g=id:=rfl
 rw [e,List.map_id]
set_option maxHeartbeats 4000000 in
set_option maxRecDepth 100000 in
theorem declaration_at (hg:GoodT l) (m:Nat) (hm:m≤30) (i:Nat) (w:World) (h:Pq w R A c l i) :
  Calls Tryz.prog 46 #[.pointer (some ⟨R,0,none⟩),.int .i64 (m:Int)] w (DeclQ m R A c l i w):=by
 have HG:=Lib.hid hg
 have hR:=h.lt
 have Q:=Lib.hid (list_Dl_at hg i (leftT l i).length m (by omega) declS (fun k w hP _ _=>declared_at hg i k w hP) i w h (Nat.le_refl _) (Nat.le_refl _))
 have HN0:=Lib.hid (show nsL l i i=[] from nsU_start (Nat.le_refl _))
 clear hg h
 go_enter Tryz.func46,Tryz.ntmps46
 go_wp2_with fail
 refine Q.out.mono ?_
 rintro e w2 ⟨ds,j,er,dv,rfl,hk,hp,hr,ho⟩
 obtain ⟨dA,dc,rfl⟩:=hr.zform
 have HK2:=Lib.hid hk
 have HP2:=Lib.hid hp
 have HR2:=Lib.hid hr
 clear hk hp hr
 rcases ho with ⟨rfl,hf,hij,hv,hl1,hl2⟩|⟨her,rfl,hz,hf⟩
 ·have HF:=Lib.hid (show listS declS m [] (leftT l i) []=.ok ds (leftT l j) (nsL l i j) by
   rw [HN0.out,map_rdDl] at hf
   exact hf)
  have HJ:=Lib.hid (And.intro hij hl1)
  clear hf hij hv hl1 hl2
  obtain ⟨b,hb⟩:∃b,((l.getD j default).2.2==[46])=b:=⟨_,rfl⟩
  have X1:=Lib.hid (isS_text HG.out HP2.out.ilt [46] (by decide) hb)
  have QE:=Lib.hid (fun W (hW:Pq W R A c l j)=>expect_at HG.out hW [46] (by decide) hb)
  have HD:=Lib.hid (show declarS m (leftT l i)=if b=true then .ok ds (leftT l (j+1)) [] else .err (leftT l j).length 16 by
   simp only [declarS,HF.out,wantS,X1.out,left_tail])
  clear hb
  cases b
  ·go_wp2_with (go_at_call 56;(with_reducible refine (QE.out _ HP2.out).mono ?_);rintro en w3 ⟨rfl,hk3,hp3⟩;have HK3:=Lib.hid hk3;have HP3:=Lib.hid (show Pq w3 R A c l j from hp3);clear hk3 hp3)
   refine bodyPost_ret (v:=.tuple #[.slice dA ds.length dc,.int .i64 16]) (by simp [results,Tryz.results46,go_sem]) rfl ?_
   refine ⟨ds,dA,dc,j,16,rfl,HK2.out.trans HK3.out,HP3.out,HR2.out.kq HK3.out hR,.inr ⟨by omega,?_⟩⟩
   rw [HD.out]
   rfl
  ·go_wp2_with (go_at_call 56;(with_reducible refine (QE.out _ HP2.out).mono ?_);rintro en w3 ⟨rfl,hk3,hp3⟩;have HK3:=Lib.hid hk3;have HP3:=Lib.hid (show Pq w3 R A c l (j+1) from hp3);clear hk3 hp3)
   refine bodyPost_ret (v:=.tuple #[.slice dA ds.length dc,.int .i64 0]) (by simp [results,Tryz.results46,go_sem]) rfl ?_
   refine ⟨ds,dA,dc,j+1,0,rfl,HK2.out.trans HK3.out,HP3.out,HR2.out.kq HK3.out hR,.inl ⟨rfl,?_,by have:=HJ.out.1;omega,HJ.out.2⟩⟩
   rw [HD.out]
   rfl
 ·have hne:(er==0)=false:=by simpa using her
  have HE:=Lib.hid her
  have HF:=Lib.hid (show declarS m (leftT l i)=.err (leftT l j).length er by
   rw [HN0.out] at hf
   simp only [declarS,hf])
  injection hz with hz1 hz2 hz3
  subst hz1 hz3
  clear her hf hz2
  go_wp2_with fail
  refine bodyPost_ret (v:=.tuple #[.slice none 0 0,.int .i64 er]) (by simp [results,Tryz.results46,go_sem]) rfl ?_
  exact ⟨[],none,0,j,er,rfl,HK2.out,HP2.out,HR2.out,.inr ⟨HE.out,HF.out⟩⟩
end
theorem decls_list:∀(n:Nat) (ts:List Tok),ts.length≤n→∀(acc d:List Dl) (ns:List (List UInt8)),acc.length+d.length≤30 →
  declsS (acc++d) ts=match listS declS (30 - acc.length) d ts.tail ns with
   | .err l e=>.err l e
   | .ok v r _=>wantS [46] (acc++v) r []
 | n,ts,hn,acc,d,ns,hl=>by
  rw [declsS,listS]
  by_cases h30:30≤(acc++d).length
  ·rw [if_pos h30,if_pos (by rw [List.length_append] at h30;omega)]
  rw [if_neg h30,if_neg (by rw [List.length_append] at h30;omega)]
  cases hu:ts.tail with
  | nil=>rfl
  | cons x r =>
   have hlen:ts.length=r.length+2:=by
    cases ts with
    | nil=>cases hu
    | cons y z=>simp only [List.tail_cons] at hu;subst hu;simp
   obtain ⟨k1,t1,g1⟩:=x
   by_cases hk1:k1≠1
   ·simp only [nmS,declS,if_pos hk1]
   by_cases hr1:resB t1=true
   ·simp only [nmS,declS,if_neg hk1,if_pos hr1]
   simp only [nmS,declS,if_neg hk1,if_neg hr1,wantS]
   by_cases hs:isS [47] r=true
   ·simp only [if_pos hs]
    cases r with
    | nil=>cases hs
    | cons y r2 =>
     simp only [List.tail_cons]
     cases r2 with
     | nil=>rfl
     | cons z r3 =>
      obtain ⟨k,dd,g⟩:=z
      simp only
      by_cases hk:k≠3
      ·simp only [if_pos hk]
      by_cases h6:6 < valD dd
      ·simp only [if_neg hk,if_pos h6]
      simp only [if_neg hk,if_neg h6]
      simp only [List.length_cons] at hlen
      by_cases hc:isS [44] r3=true
      ·cases r3 with
       | nil=>cases hc
       | cons u r4 =>
        simp only [List.length_cons] at hlen
        simp only [if_pos hc]
        rw [dif_pos (by simp only [List.length_cons];omega),dif_pos (by simp only [List.tail_cons,List.length_cons];omega)]
        match n,hn with
        | 0,hn=>omega
        | n+1,hn =>
         have:=decls_list n (u :: r4) (by simp only [List.length_cons];omega) acc (d++[(t1,valD dd)]) ns (by rw [List.length_append] at h30 ⊢;simp only [List.length_singleton];omega)
         rw [←List.append_assoc] at this
         exact this
      ·simp only [if_neg hc]
       rw [List.append_assoc]
   ·simp only [if_neg hs]
theorem decls_next (acc:List Dl) (ts:List Tok) (h:acc.length≤30):declsS acc ts=match declarS (30 - acc.length) ts.tail with
  | .err l e=>.err l e
  | .ok v r ns=>.ok (acc++v) r ns:=by
 have:=decls_list _ ts (Nat.le_refl _) acc [] [] (by simpa using h)
 rw [List.append_nil] at this
 rw [this]
 unfold declarS
 cases listS declS (30 - acc.length) [] ts.tail [] with
 | err l e=>rfl
 | ok v r ns =>
  simp only [wantS]
  by_cases hs:isS [46] r=true
  ·simp only [if_pos hs]
  ·simp only [if_neg hs]
end Go.Proofs.YtaojnljppcnhjaaGreatDoor
namespace Go.Proofs.YtaojnljppcnhjaaGreatDoor
open Go.RowKit
structure Ru where
 t:List UInt8
 ks:List Am
 rs:List Am
 gs:List Gl
 bs:List Gl
 kA:Option Addr
 kc:Nat
 rA:Option Addr
 rc:Nat
 gA:Option Addr
 gc:Nat
 bA:Option Addr
 bc:Nat
 n:Nat
def Ru.kv (x:Ru):Value:=.slice x.kA x.ks.length x.kc
def Ru.rv (x:Ru):Value:=.slice x.rA x.rs.length x.rc
def Ru.gv (x:Ru):Value:=.slice x.gA x.gs.length x.gc
def Ru.bv (x:Ru):Value:=.slice x.bA x.bs.length x.bc
def Ru.cells (x:Ru):List Value:=[.string (S x.t),.slice x.kA x.ks.length x.kc,.slice x.rA x.rs.length x.rc,.slice x.gA x.gs.length x.gc,.slice x.bA x.bs.length x.bc,.int .i64 (x.n:Int)]
def Ru.p (x:Ru):Rs:=ruP x.t x.ks x.rs x.gs x.bs x.n
structure Ru.Own (x:Ru) (b:Nat):Prop where
 h:x.kv.ownBlock=some b∨x.rv.ownBlock=some b∨x.gv.ownBlock=some b∨x.bv.ownBlock=some b∨b∈elAm.blkL x.ks∨b∈elAm.blkL x.rs∨b∈elGl.blkL x.gs∨b∈elGl.blkL x.bs
structure Ru.At (lo:Nat) (w:World) (x:Ru):Prop where
 name:x.t.length≤16384
 k:RowG elAm 92 lo w x.kv x.ks
 r:RowG elAm 92 lo w x.rv x.rs
 g:RowG elGl 54 lo w x.gv x.gs
 b:RowG elGl 54 lo w x.bv x.bs
section
variable {lo:Nat} {w w':World} {x:Ru} {r:Value} {l:List Ru}
theorem Ru.At.own (h:x.At lo w) {b:Nat} (hb:x.Own b):lo≤b∧b < w.heap.size:=by
 rcases hb.h with e|e|e|e|e|e|e|e
 ·exact own_lt h.k.row b e
 ·exact own_lt h.r.row b e
 ·exact own_lt h.g.row b e
 ·exact own_lt h.b.row b e
 ·exact h.k.sit.bd b e
 ·exact h.r.sit.bd b e
 ·exact h.g.sit.bd b e
 ·exact h.b.sit.bd b e
theorem Ru.At.frame (h:x.At lo w) (hs:w.heap.size≤w'.heap.size) (hb:∀b,x.Own b→w'.heap[b]?=w.heap[b]?):x.At lo w' :=
 ⟨h.name,h.k.only hs (fun k e=>hb k ⟨.inl e⟩) (fun k e=>hb k ⟨.inr (.inr (.inr (.inr (.inl e))))⟩),
  h.r.only hs (fun k e=>hb k ⟨.inr (.inl e)⟩) (fun k e=>hb k ⟨.inr (.inr (.inr (.inr (.inr (.inl e)))))⟩),
  h.g.only hs (fun k e=>hb k ⟨.inr (.inr (.inl e))⟩) (fun k e=>hb k ⟨.inr (.inr (.inr (.inr (.inr (.inr (.inl e))))))⟩),
  h.b.only hs (fun k e=>hb k ⟨.inr (.inr (.inr (.inl e)))⟩) (fun k e=>hb k ⟨.inr (.inr (.inr (.inr (.inr (.inr (.inr e))))))⟩)⟩
theorem Ru.At.low {lo':Nat} (h:x.At lo w) (hl:lo'≤lo):x.At lo' w:=⟨h.name,h.k.low hl,h.r.low hl,h.g.low hl,h.b.low hl⟩
def rcells (l:List Ru):List Value:=l.flatMap Ru.cells
theorem rcells_append (l m:List Ru):rcells (l++m)=rcells l++rcells m:=by simp [rcells]
theorem rcells_one (x:Ru):rcells [x]=x.cells:=by simp [rcells]
theorem ru_one (x:Ru):∀v∈x.cells,v.oneCell'=true:=fun v hv=>by
 simp only [Ru.cells,List.mem_cons,List.not_mem_nil,or_false] at hv
 rcases hv with rfl|rfl|rfl|rfl|rfl|rfl<;>rfl
structure RowR (lo:Nat) (w:World) (r:Value) (l:List Ru):Prop where
 row:w.ownsRow lo 35 6 r l.length (rcells l)
 at_:∀x∈l,x.At lo w
 apart:∀k,r.ownBlock=some k→∀x∈l,¬x.Own k
theorem RowR.nil (lo:Nat) (w:World):RowR lo w (.slice none 0 0) []:=⟨⟨by simp [rcells],.inl ⟨rfl,rfl⟩⟩,fun _ h=>(by cases h),fun k hk=>(by cases hk)⟩
theorem RowR.frame (h:RowR lo w r l) (hs:w.heap.size≤w'.heap.size) (hb:∀b,lo≤b→b < w.heap.size→w'.heap[b]?=w.heap[b]?):RowR lo w' r l :=
 ⟨own_of h.row fun k hk=>hb k (own_lt h.row k hk).1 (own_lt h.row k hk).2,fun x hx=>(h.at_ x hx).frame hs fun b hbx=>hb b ((h.at_ x hx).own hbx).1 ((h.at_ x hx).own hbx).2,h.apart⟩
theorem RowR.below (h:RowR lo w r l) (hb:Below w.heap.size w w'):RowR lo w' r l:=h.frame hb.size fun b _ h2=>hb.block b h2
theorem RowR.kq {R:Nat} (h:RowR lo w r l) (k:Kp R Z0 Z0 w w') (hR:R < lo):RowR lo w' r l:=h.frame k.size fun b h1 h2=>k.block b h2 (by omega) (Z0_own b)
theorem RowR.zform (h:RowR lo w r l):∃B cap,r=.slice B l.length cap:=by
 rcases h.row.2 with ⟨e,h1⟩|⟨g,cap,cur,e,_⟩
 ·exact ⟨none,0,by rw [e,h1]⟩
 ·exact ⟨_,cap,e⟩
theorem RowR.low {lo':Nat} (h:RowR lo w r l) (hl:lo'≤lo):RowR lo' w r l:=⟨own_low h.row hl,fun x hx=>(h.at_ x hx).low hl,h.apart⟩
theorem RowR.next {m g cap:Nat} {w2 w3 w4:World} {u:Ru} (h:RowR lo w2 r l) (hm:lo≤m) (hrm:∀k,r.ownBlock=some k→k < m) (hu:u.At m w2) (hb:Below w2.heap.size w2 w3)
  (hown:w4.ownsRow lo 35 6 (.slice (some ⟨g,0,none⟩) (l.length+1) cap) (l.length+1) (rcells l++u.cells)) (hg:w3.grownBy w4 r.ownBlock) (hat:r.ownBlock=some g∨g=w3.heap.size) :
  RowR lo w4 (.slice (some ⟨g,0,none⟩) (l.length+1) cap) (l++[u]):=by
 have hall:∀x∈l++[u],x.At lo w2:=fun x hx=>by
  rcases List.mem_append.1 hx with hx|hx
  ·exact h.at_ x hx
  ·rw [List.mem_singleton.1 hx];exact hu.low hm
 have hap:∀k,r.ownBlock=some k→∀x∈l++[u],¬x.Own k:=fun k hk x hx=>by
  rcases List.mem_append.1 hx with hx|hx
  ·exact h.apart k hk x hx
  ·rw [List.mem_singleton.1 hx]
   intro ho
   have:=hrm k hk
   have:=(hu.own ho).1
   omega
 refine ⟨by rw [List.length_append,rcells_append,rcells_one];simpa using hown,fun x hx=>?_,fun k hk x hx ho=>?_⟩
 ·have h2:=hall x hx
  refine h2.frame (Nat.le_trans hb.size hg.size) fun b hbx=>?_
  have hlt:=(h2.own hbx).2
  exact (hg.block b (Nat.lt_of_lt_of_le hlt hb.size) fun e=>hap b e.symm x hx hbx).trans (hb.block b hlt)
 ·have e':g=k:=by simpa [Value.ownBlock] using hk
  subst e'
  rcases hat with h1|h1
  ·exact hap g h1 x hx ho
  ·have:=((hall x hx).own ho).2
   have:=hb.size
   omega
end
theorem ru_of {lo:Nat} {w:World} {t:List UInt8} {ks rs:List Am} {gs bs:List Gl} {kA rA gA bA:Option Addr} {kn kc rn rc gn gc bn bc n:Nat} (h:RuAt lo w t ks rs gs bs (.slice kA kn kc) (.slice rA rn rc) (.slice gA gn gc) (.slice bA bn bc)) :
  kn=ks.length∧rn=rs.length∧gn=gs.length∧bn=bs.length∧Ru.At lo w ⟨t,ks,rs,gs,bs,kA,kc,rA,rc,gA,gc,bA,bc,n⟩:=by
 obtain ⟨ht,M,m1,m2,m3,_,h⟩:=h
 obtain ⟨_,_,e1⟩:=h.k.zform
 obtain ⟨_,_,e2⟩:=h.r.zform
 obtain ⟨_,_,e3⟩:=h.g.zform
 obtain ⟨_,_,e4⟩:=h.b.zform
 injection e1 with _ e1 _
 injection e2 with _ e2 _
 injection e3 with _ e3 _
 injection e4 with _ e4 _
 have o1:=h.o1
 have o2:=h.o2
 have o3:=h.o3
 subst e1 e2 e3 e4
 exact ⟨rfl,rfl,rfl,rfl,ht,h.k,h.r.low o1,h.g.low (by omega),h.b.low (by omega)⟩
theorem rowDl {lo:Nat} {w:World} {r:Value} {ds:List Dl} (h:w.ownsRow lo 72 2 r ds.length (elDl.cellsL ds)):RowG elDl 72 lo w r ds :=
 have e:elDl.blkL ds=[]:=by
  rw [Elt.blkL,List.flatMap_eq_nil_iff]
  exact fun _ _=>rfl
 ⟨h,⟨fun _ _=>trivial,by rw [e];simp,fun b hb=>(by rw [e] at hb;cases hb),fun b hb=>(by rw [e] at hb;cases hb)⟩,fun k _ hk=>(by rw [e] at hk;cases hk)⟩
theorem isW_left {l:List Tk} (hg:GoodT l) {i:Nat} (hi:i < l.length) {s:List UInt8} (hs:kindO s=1):isW s (leftT l i)=((l.getD i default).2.2==s):=by
 rw [left_cons hi,hg.acc hi hs]
 rfl
theorem all_word {acc v:List Dl} {ts r:List Tok} {ns:List (List UInt8)} (hw:isW constraintW ts=true) (ha:acc.length≤30) (h:declarS (30 - acc.length) ts.tail=.ok v r ns) (hl:r.length < ts.length):allDecls acc ts=allDecls (acc++v) r:=by
 rw [allDecls,hw,if_pos rfl,decls_next acc ts ha,h]
 simp only
 rw [dif_pos hl]
theorem all_err {acc:List Dl} {ts:List Tok} {n:Nat} {e:Int} (hw:isW constraintW ts=true) (ha:acc.length≤30) (h:declarS (30 - acc.length) ts.tail=.err n e):allDecls acc ts=.err n e:=by
 rw [allDecls,hw,if_pos rfl,decls_next acc ts ha,h]
theorem all_end {acc:List Dl} {ts:List Tok} (hw:isW constraintW ts=false):allDecls acc ts=.ok acc ts []:=by
 rw [allDecls,hw,if_neg (by decide)]
section
variable {ex:Rd1 Tm} {acc:List Rs} {l:List Tk} {i:Nat}
theorem rules_end (hi:i < l.length) (h:(l.getD i default).1=0):rulesS ex acc (leftT l i)=.ok acc (leftT l i) []:=by
 rw [left_cons hi,rulesS,if_pos h]
theorem rules_much (hi:i < l.length) (h:(l.getD i default).1≠0) (h4:40≤acc.length):rulesS ex acc (leftT l i)=.err (leftT l i).length 6:=by
 rw [left_cons hi,rulesS,if_neg h,if_pos h4]
theorem rules_next {q:Rs} {r:List Tok} {ns:List (List UInt8)} (hi:i < l.length) (h:(l.getD i default).1≠0) (h4:¬40≤acc.length) (hq:ruleS ex (leftT l i)=.ok q r ns) (hl:r.length < (leftT l i).length):rulesS ex acc (leftT l i)=rulesS ex (acc++[q]) r:=by
 rw [left_cons hi] at hq hl ⊢
 rw [rulesS,if_neg h,if_neg h4,hq]
 simp only
 rw [dif_pos hl]
theorem rules_err {n:Nat} {e:Int} (hi:i < l.length) (h:(l.getD i default).1≠0) (h4:¬40≤acc.length) (hq:ruleS ex (leftT l i)=.err n e):rulesS ex acc (leftT l i)=.err n e:=by
 rw [left_cons hi] at hq ⊢
 rw [rulesS,if_neg h,if_neg h4,hq]
end
end Go.Proofs.YtaojnljppcnhjaaGreatDoor
namespace Go.Proofs.YtaojnljppcnhjaaGreatDoor
open Go.RowKit
theorem rule_info:(Tryz.prog.info? 35).map (fun i=>(i.zero,i.size,i.bytes))=some (some (.agg #[.string ⟨#[]⟩,.slice none 0 0,.slice none 0 0,.slice none 0 0,.slice none 0 0,.int .i64 0]),6,120):=by kernel_rfl
abbrev rbox (u:Ru):Array Value:=#[.string (S u.t),.slice u.kA u.ks.length u.kc,.slice u.rA u.rs.length u.rc,.slice u.gA u.gs.length u.gc,.slice u.bA u.bs.length u.bc,.int .i64 (u.n:Int)]
theorem news2_R (w:World) (o:Obj) (u:Ru) (T:TypeId):∀j v,(u.cells)[j]?=some v→((w.alloc o).alloc (.cells (rbox u) T)).cell? ((⟨w.heap.size+1,0,none⟩:Addr).add j)=some v:=by
 intro j v hv
 have e:(w.alloc o).heap.size=w.heap.size+1:=by simp
 rw [add_plain,Nat.zero_add,← e,World.cell?_alloc_at _ _ _ _ rfl,← hv,show (rbox u)=(u.cells).toArray from rfl,List.getElem?_toArray]
theorem cellsL_one {α:Type} (E:Elt α) (l:List α):∀v∈E.cellsL l,v.oneCell'=true:=fun v hv=>by
 obtain ⟨x,_,hx⟩:=List.mem_flatMap.1 hv
 exact E.one x v hx
theorem declar_len {m:Nat} {ts r:List Tok} {v:List Dl} {ns:List (List UInt8)} (h:declarS m ts=.ok v r ns):v.length≤m:=by
 unfold declarS at h
 cases he:listS declS m [] ts [] with
 | err l e=>rw [he] at h;cases h
 | ok u r2 ns2 =>
  rw [he] at h
  simp only [wantS] at h
  split at h
  ·injection h with h1 _ _
   subst h1
   exact listS_len _ _ (Nat.le_refl _) _ _ _ _ _ he (by simp)
  ·cases h
section
variable {R:Nat} {A:Option Addr} {c:Nat} {l:List Tk}
def ProgQ (ex:Rd1 Tm) (R:Nat) (A:Option Addr) (c:Nat) (l:List Tk) (i:Nat) (w:World) (en:Ending) (w':World):Prop :=
 ∃(ds:List Dl) (rz:List Ru) (dA rA:Option Addr) (dn dc rn rc:Nat) (j:Nat) (er:Int),
  en=.returned (.tuple #[.agg #[.slice dA dn dc,.slice rA rn rc],.int .i64 er])∧Kq R w w'∧Pq w' R A c l j ∧
  ((er=0∧(∃m,programS ex (leftT l i)=.ok (ds,rz.map Ru.p) (leftT l j) m)∧RowG elDl 72 w.heap.size w' (.slice dA dn dc) ds∧RowR w.heap.size w' (.slice rA rn rc) rz)∨(er≠0∧programS ex (leftT l i)=.err (leftT l j).length er))
structure Lp1 (R:Nat) (A:Option Addr) (c:Nat) (l:List Tk) (i:Nat) (w:World) (gk:Nat) (wr:World) (q:Nat) (ds:List Dl) (B:Option Addr) (zc:Nat):Prop where
 k:Kq R w wr
 p:Pq wr R A c l q
 row:RowG elDl 72 (w.heap.size+2) wr (.slice B ds.length zc) ds
 b2:BoxL wr w.heap.size [.slice none 0 0,.slice none 0 0]
 b4:BoxL wr (w.heap.size+1) [.slice B ds.length zc,.slice none 0 0]
 all:allDecls [] (leftT l i)=allDecls ds (leftT l q)
 le:ds.length≤30
 iq:i≤q
 gk:l.length - q≤gk
 sz:w.heap.size+2≤wr.heap.size
structure Lp2 (ex:Rd1 Tm) (R:Nat) (A:Option Addr) (c:Nat) (l:List Tk) (i i2:Nat) (w:World) (m:Nat) (ds:List Dl) (dA:Option Addr) (dc:Nat) (gk:Nat) (wr:World) (q:Nat) (rz:List Ru) (B:Option Addr) (zc:Nat):Prop where
 k:Kq R w wr
 p:Pq wr R A c l q
 drow:RowG elDl 72 (w.heap.size+2) wr (.slice dA ds.length dc) ds
 dless:∀k,(Value.slice dA ds.length dc).ownBlock=some k→k < m
 row:RowR m wr (.slice B rz.length zc) rz
 b2:BoxL wr w.heap.size [.slice none 0 0,.slice none 0 0]
 b4:BoxL wr (w.heap.size+1) [.slice dA ds.length dc,.slice B rz.length zc]
 all:rulesS ex [] (leftT l i2)=rulesS ex (rz.map Ru.p) (leftT l q)
 le:rz.length≤40
 iq:i≤q
 gk:l.length - q≤gk
 sz:m≤wr.heap.size
 mlo:w.heap.size+2≤m
set_option maxHeartbeats 16000000 in
set_option maxRecDepth 100000 in
theorem program_at (hg:GoodT l) {n:Nat} {ex:Rd1 Tm} (i:Nat)
  (hRu:∀(k:Nat) (w:World),Pq w R A c l k→i≤k→(leftT l k).length≤n→Calls Tryz.prog 30 #[.pointer (some ⟨R,0,none⟩)] w (RuleQ ex R A c l k w))
  (w:World) (h:Pq w R A c l i) (hn:(leftT l i).length≤n) :
  Calls Tryz.prog 24 #[.pointer (some ⟨R,0,none⟩)] w (ProgQ ex R A c l i w):=by
 obtain ⟨i0,hi,hz0,hz1,hz2⟩:=info_parts decl_info
 obtain ⟨i1,hi1,hy0,hy1,hy2⟩:=info_parts rule_info
 have HG:=Lib.hid hg
 have hR:=h.lt
 have hTR:¬w.heap.size=R:=by omega
 have hBR:¬w.heap.size+1=R:=by omega
 have hTB:¬w.heap.size=w.heap.size+1:=by omega
 have hb2:=((Below.refl w.heap.size w).alloc (Nat.le_refl _) (.cells #[.slice none 0 0,.slice none 0 0] 26)).alloc (by simp) (.cells #[.slice none 0 0,.slice none 0 0] 26)
 have HN:=Lib.hid hn
 have Q:=Lib.hid hRu
 have H0:=Lib.hid (show Lp1 R A c l i w (l.length - i) ((w.alloc (.cells #[.slice none 0 0,.slice none 0 0] 26)).alloc (.cells #[.slice none 0 0,.slice none 0 0] 26)) i [] none 0 from
  ⟨Below.kp hb2 R Z0,h.below hb2,RowG.nil _ _ _ _,(BoxL.new w [.slice none 0 0,.slice none 0 0] 26).alloc _,by
   have:=BoxL.new (w.alloc (.cells #[.slice none 0 0,.slice none 0 0] 26)) [.slice none 0 0,.slice none 0 0] 26
   rw [show (w.alloc (.cells #[.slice none 0 0,.slice none 0 0] 26)).heap.size=w.heap.size+1 by simp] at this
   exact this,rfl,by simp,Nat.le_refl _,Nat.le_refl _,by simp⟩)
 clear hg hRu h hn hb2
 go_enter Tryz.func24,Tryz.ntmps24
 go_wp2_with fail
 go_loopg [] (l.length - i) (fun gk wr=>∃(q:Nat) (ds:List Dl) (B:Option Addr) (zc:Nat),Hid (Lp1 R A c l i w gk wr q ds B zc))
 case atStart=>exact ⟨i,[],none,0,H0⟩
 case round =>
  clear H0
  obtain ⟨q,ds,B,zc,hI⟩:=hrel
  have hP:=hI.out.p
  have hsz:=hI.out.sz
  have hlen30:=hI.out.le
  have hl30:(ds.length:Int)≤30:=by omega
  obtain ⟨b,hb⟩:∃b,((l.getD q default).2.2==constraintW)=b:=⟨_,rfl⟩
  have QX:=Lib.hid (accept_at HG.out hP constraintW (by decide) hb)
  have XW:=Lib.hid (show isW constraintW (leftT l q)=b by rw [isW_left HG.out hP.ilt (by decide)];exact hb)
  clear hb hP
  cases b
  ·go_wp2_with (go_at_call 45;(with_reducible refine QX.out.mono ?_);rintro en w2 ⟨rfl,hk2,hp2⟩;have HK2:=Lib.hid hk2;have HP2:=Lib.hid (show Pq w2 R A c l q from hp2);clear hk2 hp2)
   have HAll:=Lib.hid (show allDecls [] (leftT l i)=.ok ds (leftT l q) [] by rw [hI.out.all,all_end XW.out])
   have H2:=Lib.hid (show Lp2 ex R A c l i q w w2.heap.size ds B zc (l.length - q) w2 q [] none 0 from
    ⟨hI.out.k.trans HK2.out,HP2.out,hI.out.row.kq HK2.out (by omega),fun k hk=>Nat.lt_of_lt_of_le (own_lt hI.out.row.row k hk).2 HK2.out.size,RowR.nil _ _,hI.out.b2.kq HK2.out hTR,hI.out.b4.kq HK2.out hBR,rfl,by simp,hI.out.iq,Nat.le_refl _,Nat.le_refl _,Nat.le_trans hsz HK2.out.size⟩)
   clear hI XW QX HK2 HP2 hsz hlen30 hl30
   go_loopg [] (l.length - q) (fun gk wr=>∃(q2:Nat) (rz:List Ru) (B2:Option Addr) (zc2:Nat),Hid (Lp2 ex R A c l i q w w2.heap.size ds B zc gk wr q2 rz B2 zc2))
   case atStart=>exact ⟨q,[],none,0,H2⟩
   case round =>
    clear H2
    obtain ⟨q2,rz,B2,zc2,hJ⟩:=hrel
    have hPJ:=hJ.out.p
    have hszJ:=Nat.le_trans hJ.out.mlo hJ.out.sz
    have hl40:=hJ.out.le
    have hl40':(rz.length:Int)≤40:=by omega
    have h40':rz.length≤9223372036854775807:=by omega
    have HI2:=Lib.hid hPJ.ilt
    obtain ⟨tk,htk⟩:∃tk,l.getD q2 default=tk:=⟨_,rfl⟩
    obtain ⟨k,p,x⟩:=tk
    have fk:=tok_kind k (p:Int) (S x)
    have HTk:=Lib.hid (show (l.getD q2 default).1=k by rw [htk])
    have QN:=Lib.hid (p_next_of hPJ htk)
    clear htk hPJ
    by_cases hk:k=0
    ·subst hk
     go_wp2_with (go_at_call 44;(with_reducible refine QN.out.mono ?_);rintro en w3 ⟨rfl,hb3⟩;have HK3:=Lib.hid (hJ.out.k.trans (Below.kp hb3 R Z0));have HP3:=Lib.hid (hJ.out.p.below hb3);have HB3:=Lib.hid hb3;obtain ⟨c0,c1,f0,f1⟩:=(hJ.out.b2.below hb3).get2;obtain ⟨d0,d1,g0,g1⟩:=(hJ.out.b4.below hb3).get2;clear hb3)
     refine bodyPost_ret (v:=.tuple #[.agg #[.slice B ds.length zc,.slice B2 rz.length zc2],.int .i64 0]) (by simp [results,Tryz.results24,go_sem,c0,c1]) rfl ?_
     obtain ⟨e1,e2⟩:=end22 hR HK3.out HP3.out (.slice B ds.length zc) (.slice B2 rz.length zc2)
     have hm:=hJ.out.mlo
     refine ⟨ds,rz,B,B2,ds.length,zc,rz.length,zc2,q2,0,rfl,e1,e2,.inl ⟨rfl,⟨[],?_⟩,?_,?_⟩⟩
     ·simp only [programS,HAll.out,hJ.out.all,rules_end HI2.out HTk.out]
     ·exact ((hJ.out.drow.below HB3.out).frame (Nat.le_of_eq (sets2_size _ _ _ _).symm) fun b h1 _=>sets2_block _ _ _ _ (by omega)).low (by omega)
     ·exact ((hJ.out.row.below HB3.out).frame (Nat.le_of_eq (sets2_size _ _ _ _).symm) fun b h1 _=>sets2_block _ _ _ _ (by omega)).low (by omega)
    ·have hkb:(k != 0)=true:=bne_iff_ne.2 hk
     have HKn:=Lib.hid (show (l.getD q2 default).1≠0 by rw [HTk.out];exact hk)
     clear hk
     by_cases hm:rz.length=40
     ·have hm':(((rz.length:Nat):Int)==40)=true:=by simp [hm]
      have HM:=Lib.hid hm
      clear hm
      go_wp2_with (go_at_call 44;(with_reducible refine QN.out.mono ?_);rintro en w3 ⟨rfl,hb3⟩;have HK3:=Lib.hid (hJ.out.k.trans (Below.kp hb3 R Z0));have HP3:=Lib.hid (hJ.out.p.below hb3);obtain ⟨c0,c1,f0,f1⟩:=(hJ.out.b2.below hb3).get2;obtain ⟨d0,d1,g0,g1⟩:=(hJ.out.b4.below hb3).get2;clear hb3)
      refine bodyPost_ret (v:=.tuple #[.agg #[.slice B ds.length zc,.slice B2 rz.length zc2],.int .i64 6]) (by simp [results,Tryz.results24,go_sem,c0,c1]) rfl ?_
      obtain ⟨e1,e2⟩:=end22 hR HK3.out HP3.out (.slice B ds.length zc) (.slice B2 rz.length zc2)
      refine ⟨ds,rz,B,B2,ds.length,zc,rz.length,zc2,q2,6,rfl,e1,e2,.inr ⟨by omega,?_⟩⟩
      simp only [programS,HAll.out,hJ.out.all,rules_much HI2.out HKn.out (show 40≤(rz.map Ru.p).length by rw [List.length_map,HM.out];omega)]
     ·have hm':(((rz.length:Nat):Int)==40)=false:=by simp;omega
      have HM:=Lib.hid (show ¬40≤(rz.map Ru.p).length by rw [List.length_map];omega)
      have HM2:=Lib.hid (show rz.length < 40 by omega)
      clear hm
      have QR:=Lib.hid (fun W (hW:Pq W R A c l q2)=>Q.out q2 W hW hJ.out.iq (by have:=HN.out;have:=hJ.out.iq;rw [left_length] at *;omega))
      go_wp2_with (first
       | (go_at_call 44;(with_reducible refine QN.out.mono ?_);rintro en w3 ⟨rfl,hb3⟩;have HK3:=Lib.hid (hJ.out.k.trans (Below.kp hb3 R Z0));have HP3:=Lib.hid (hJ.out.p.below hb3);have HB3:=Lib.hid hb3;obtain ⟨d0,d1,g0,g1⟩:=(hJ.out.b4.below hb3).get2;clear hb3))
      refine (QR.out _ HP3.out).mono ?_
      rintro en w4 ⟨t,ks,rs,gs,bs,kA,rA,gA,bA,kn,kc,rn,rc,gn,gc,bn,bc,nv,j,er,rfl,hk4,hp4,ho4⟩
      have hm0:=hJ.out.mlo
      have hm1:=hJ.out.sz
      have HK4:=Lib.hid (HK3.out.trans hk4)
      have HP4:=Lib.hid hp4
      have hs34:w3.heap.size≤w4.heap.size:=hk4.size
      have HK34:=Lib.hid hk4
      have HBox2:=Lib.hid ((hJ.out.b2.below HB3.out).kq hk4 hTR)
      have HBox4:=Lib.hid ((hJ.out.b4.below HB3.out).kq hk4 hBR)
      have HDr4:=Lib.hid ((hJ.out.drow.below HB3.out).kq hk4 (by omega))
      have HRr4:=Lib.hid ((hJ.out.row.below HB3.out).kq hk4 (by omega))
      clear d0 d1 g0 g1 hk4 hp4
      rcases ho4 with ⟨rfl,hf,hqj,hat⟩|⟨her,hf⟩
      ·obtain ⟨rfl,rfl,rfl,rfl,hu⟩:=ru_of (n:=nv) hat
       have HF:=Lib.hid hf
       have HJ:=Lib.hid hqj
       have HU:=Lib.hid hu
       clear hf hqj hat hu
       have hs23:w3.heap.size ≥ wr.heap.size:=HB3.out.size
       have d1:=fun o=>(HBox4.out.alloc o).get2.2.1
       have hown4:=Lib.hid (fun k hk=>own_lt HRr4.out.row k hk)
       have hlo2:=Lib.hid (show w2.heap.size≤w3.heap.size by omega)
       go_wp2_with (at_builtin;refine wpList_append_lies _ rfl _ _ 24 rfl w2.heap.size 35 i1 _ 6 120 Tryz.underlying24 hi1 hy0 hy1 hy2 rfl (by decide) (.slice B2 rz.length zc2) rz.length (rcells rz) rfl ((HRr4.out.row.alloc _).alloc _) ⟨w4.heap.size+1,0,none⟩ 1 1 (Ru.cells ⟨t,ks,rs,gs,bs,kA,kc,rA,rc,gA,gc,bA,bc,nv⟩) rfl rfl (news2_R w4 _ ⟨t,ks,rs,gs,bs,kA,kc,rA,rc,gA,gc,bA,bc,nv⟩ _) (ru_one ⟨t,ks,rs,gs,bs,kA,kc,rA,rc,gA,gc,bA,bc,nv⟩) (by decide) (by unfold maxLen;omega) (by omega) (by simp;omega) _ rfl ?_;intro g cap w5 hown hg hat hglt;have hbox:=(((Below.refl w4.heap.size w4).alloc (Nat.le_refl _) (.cells (rbox ⟨t,ks,rs,gs,bs,kA,kc,rA,rc,gA,gc,bA,bc,nv⟩) 35)).alloc (by simp) (.cells (rbox ⟨t,ks,rs,gs,bs,kA,kc,rA,rc,gA,gc,bA,bc,nv⟩) 35));have HRow5:=Lib.hid (HRr4.out.next hlo2.out (fun k hk=>Nat.lt_of_lt_of_le (own_lt (hJ.out.row.below HB3.out).row k hk).2 (Nat.le_refl _)) HU.out hbox hown hg hat);have HK5:=Lib.hid (((HK4.out.alloc _).alloc _).grown hg (fun k hk=>by have:=(hown4.out k hk).1;omega));have HP5:=Lib.hid (((HP4.out.alloc _).alloc _).grown hg (fun k hk=>by have:=(hown4.out k hk).1;omega));have HBox25:=Lib.hid (((HBox2.out.alloc _).alloc _).grown hg (fun e=>by have:=(hown4.out _ e).1;omega));have HBox45:=Lib.hid (((HBox4.out.alloc _).alloc _).grown hg (fun e=>by have:=(hown4.out _ e).1;omega));have HDr5:=Lib.hid ((HDr4.out.below hbox).only hg.size (fun k hk=>hg.block k (own_lt (HDr4.out.below hbox).row k hk).2 (fun e=>by have:=(hown4.out k e.symm).1;have:=hJ.out.dless k hk;omega)) (fun b hb=>by simp [Elt.blkL,elDl] at hb));have HSz5:=Lib.hid (Nat.le_trans hbox.size hg.size);obtain ⟨d0,d1,g0,g1⟩:=HBox45.out.get2;clear hown hg hat hglt hbox)
       have HNx:=Lib.hid (show Lp2 ex R A c l i q w w2.heap.size ds B zc (gk - 1) (w5.setCell ⟨w.heap.size+1,1,none⟩ (.slice (some ⟨g,0,none⟩) (rz.length+1) cap)) j (rz++[⟨t,ks,rs,gs,bs,kA,kc,rA,rc,gA,gc,bA,bc,nv⟩]) (some ⟨g,0,none⟩) cap by
        have el:(rz++[(⟨t,ks,rs,gs,bs,kA,kc,rA,rc,gA,gc,bA,bc,nv⟩:Ru)]).length=rz.length+1:=by simp
        have hj:=HJ.out
        have h2:=hJ.out.gk
        have h3:=HP4.out.ilt
        have hp:∀(p:Addr) (v:Value),(w5.setCell p v).heap.size=w5.heap.size:=fun p v=>by simp [World.setCell]
        refine ⟨HK5.out.put (p:=⟨w.heap.size+1,1,none⟩) (show w.heap.size≤w.heap.size+1 by omega) _,HP5.out.put (p:=⟨w.heap.size+1,1,none⟩) (show R < w.heap.size+1 by omega) _,HDr5.out.put (p:=⟨w.heap.size+1,1,none⟩) (show w.heap.size+1 < w.heap.size+2 by omega) _,hJ.out.dless,?_,HBox25.out.put (p:=⟨w.heap.size+1,1,none⟩) (show w.heap.size+1≠w.heap.size by omega) _,?_,?_,by rw [el];have:=HM2.out;omega,by have:=hJ.out.iq;omega,by omega,by rw [hp];have:=HSz5.out;omega,hJ.out.mlo⟩
        ·rw [el]
         exact HRow5.out.frame (Nat.le_of_eq (hp _ _).symm) fun b h1 _=>Below.heap_setCell _ _ _ _ (show b≠w.heap.size+1 by omega)
        ·rw [el]
         exact HBox45.out.set (j:=1) (by simp) _
        ·rw [hJ.out.all,rules_next HI2.out HKn.out HM.out HF.out.choose_spec (by rw [left_length,left_length];have:=HI2.out;omega),List.map_append]
         rfl)
       have HGk:=Lib.hid (show gk - 1 < gk by have:=HJ.out;have:=HP4.out.ilt;have:=hJ.out.gk;omega)
       go_wp2_with fail
       go_roundg (gk - 1)
       case measure=>exact HGk.out
       case rel=>exact ⟨j,_,_,_,HNx⟩
      ·have hne:(er != 0)=true:=bne_iff_ne.2 her
       have HE:=Lib.hid her
       have HF:=Lib.hid hf
       have c0:=fun o=>(HBox2.out.alloc o).get2.1
       have c1:=fun o=>(HBox2.out.alloc o).get2.2.1
       have f0:=fun o=>(HBox2.out.alloc o).get2.2.2.1
       have f1:=fun o=>(HBox2.out.alloc o).get2.2.2.2
       have d0:=fun o=>(HBox4.out.alloc o).get2.1
       have d1:=fun o=>(HBox4.out.alloc o).get2.2.1
       clear her hf
       go_wp2_with fail
       refine bodyPost_ret (v:=.tuple #[.agg #[.slice B ds.length zc,.slice B2 rz.length zc2],.int .i64 er]) (by simp [results,Tryz.results24,go_sem,c0,c1]) rfl ?_
       obtain ⟨e1,e2⟩:=end22 hR (HK4.out.alloc (.cells #[.string (S t),.slice kA kn kc,.slice rA rn rc,.slice gA gn gc,.slice bA bn bc,.int .i64 (nv:Int)] 35)) (HP4.out.alloc (.cells #[.string (S t),.slice kA kn kc,.slice rA rn rc,.slice gA gn gc,.slice bA bn bc,.int .i64 (nv:Int)] 35)) (.slice B ds.length zc) (.slice B2 rz.length zc2)
       refine ⟨ds,rz,B,B2,ds.length,zc,rz.length,zc2,j,er,rfl,e1,e2,.inr ⟨HE.out,?_⟩⟩
       simp only [programS,HAll.out,hJ.out.all,rules_err HI2.out HKn.out HM.out HF.out]
  ·have QD:=Lib.hid (fun W (hW:Pq W R A c l (q+1))=>by
    have:=declaration_at HG.out (30 - ds.length) (by omega) (q+1) W hW
    rw [show ((30 - ds.length:Nat):Int)=30 - (ds.length:Int) by omega] at this
    exact this)
   go_wp2_with (go_at_call 45;(with_reducible refine QX.out.mono ?_);rintro en w2 ⟨rfl,hk2,hp2⟩;have HK2:=Lib.hid hk2;have HP2:=Lib.hid (show Pq w2 R A c l (q+1) from hp2);obtain ⟨d0,d1,g0,g1⟩:=(hI.out.b4.kq hk2 hBR).get2;clear hk2 hp2)
   refine (QD.out _ HP2.out).mono ?_
   rintro en w3 ⟨d2,dA,dc,j,er,rfl,hk3,hp3,hr3,ho3⟩
   have hs12:=HK2.out.size
   have hs23:=hk3.size
   have HK3:=Lib.hid ((hI.out.k.trans HK2.out).trans hk3)
   have HP3:=Lib.hid hp3
   have HR3:=Lib.hid hr3
   have HBox2:=Lib.hid ((hI.out.b2.kq HK2.out hTR).kq hk3 hTR)
   have HBox4:=Lib.hid ((hI.out.b4.kq HK2.out hBR).kq hk3 hBR)
   have HRow3:=Lib.hid ((hI.out.row.kq HK2.out (by omega)).kq hk3 (by omega))
   clear d0 d1 g0 g1 hk3 hp3 hr3
   have d0:=HBox4.out.get2.1
   have d1:=HBox4.out.get2.2.1
   rcases ho3 with ⟨rfl,hf,hqj,hl0⟩|⟨her,hf⟩
   ·obtain ⟨gg,cc,he,_,_,_,_,_,_,hcell⟩:=HR3.out.form hl0
    injection he with he1 he2 he3
    subst he1 he3
    have HF:=Lib.hid hf
    have HJ:=Lib.hid hqj
    have hl2:d2.length≤30 - ds.length:=declar_len hf
    have hcell2:∀j u,(elDl.cellsL d2)[j]?=some u→w3.cell? ((⟨gg,0,none⟩:Addr).add j)=some u:=fun j u hu=>by rw [add_plain,Nat.zero_add];exact hcell j u hu
    have HCell:=Lib.hid hcell2
    have hown3:=Lib.hid (fun k hk=>own_lt HRow3.out.row k hk)
    have g0:=HBox4.out.get2.2.2.1
    have HL:=Lib.hid (And.intro hl0 hl2)
    clear hf hqj hcell he2 hcell2 hl0 hl2
    go_wp2_with (at_builtin;refine wpList_append_lies _ rfl _ _ 23 rfl (w.heap.size+2) 72 i0 _ 2 24 Tryz.underlying23 hi hz0 hz1 hz2 rfl (by decide) (.slice B ds.length zc) ds.length (elDl.cellsL ds) rfl HRow3.out.row ⟨gg,0,none⟩ d2.length dc (elDl.cellsL d2) rfl (Elt.cellsL_len elDl d2) HCell.out (cellsL_one elDl d2) HL.out.1 (by have:=HL.out.2;unfold maxLen;omega) (by have:=HL.out.2;omega) (by omega) _ rfl ?_;intro g cap w4 hown hg hat hglt;have HK4:=Lib.hid (HK3.out.grown hg (fun k hk=>by have:=(hown3.out k hk).1;omega));have HP4:=Lib.hid (HP3.out.grown hg (fun k hk=>by have:=(hown3.out k hk).1;omega));have HBox24:=Lib.hid (HBox2.out.grown hg (fun e=>by have:=(hown3.out _ e).1;omega));have HBox44:=Lib.hid (HBox4.out.grown hg (fun e=>by have:=(hown3.out _ e).1;omega));have HOwn:=Lib.hid hown;have HSz4:=Lib.hid hg.size;clear d0 d1 g0;obtain ⟨d0,d1,g0,g1⟩:=HBox44.out.get2;clear hown hg hat hglt)
    have el:(ds++d2).length=ds.length+d2.length:=by simp
    have HNx:=Lib.hid (show Lp1 R A c l i w (gk - 1) (w4.setCell ⟨w.heap.size+1,0,none⟩ (.slice (some ⟨g,0,none⟩) (ds.length+d2.length) cap)) j (ds++d2) (some ⟨g,0,none⟩) cap by
     have hj:=HJ.out
     have h2:=hI.out.gk
     have h3:=HP3.out.ilt
     have hp:∀(p:Addr) (v:Value),(w4.setCell p v).heap.size=w4.heap.size:=fun p v=>by simp [World.setCell]
     refine ⟨HK4.out.put (p:=⟨w.heap.size+1,0,none⟩) (show w.heap.size≤w.heap.size+1 by omega) _,HP4.out.put (p:=⟨w.heap.size+1,0,none⟩) (show R < w.heap.size+1 by omega) _,?_,HBox24.out.put (p:=⟨w.heap.size+1,0,none⟩) (show w.heap.size+1≠w.heap.size by omega) _,?_,?_,by rw [el];have:=HL.out.2;omega,by have:=hI.out.iq;omega,by omega,by rw [hp];have:=HSz4.out;omega⟩
     ·refine RowG.put (rowDl ?_) (p:=⟨w.heap.size+1,0,none⟩) (show w.heap.size+1 < w.heap.size+2 by omega) _
      rw [el,Elt.cellsL_append]
      exact HOwn.out
     ·rw [el]
      exact HBox44.out.set (j:=0) (by simp) _
     ·rw [hI.out.all]
      exact all_word XW.out hI.out.le (by rw [left_tail];exact HF.out) (by rw [left_length,left_length];omega))
    have HGk:=Lib.hid (show gk - 1 < gk by have:=HJ.out;have:=HP3.out.ilt;have:=hI.out.gk;omega)
    clear el
    go_wp2_with fail
    go_roundg (gk - 1)
    case measure=>exact HGk.out
    case rel=>exact ⟨j,_,_,_,HNx⟩
   ·have hne:(er != 0)=true:=bne_iff_ne.2 her
    have HE:=Lib.hid her
    have HF:=Lib.hid hf
    obtain ⟨c0,c1,f0,f1⟩:=HBox2.out.get2
    clear her hf
    go_wp2_with fail
    refine bodyPost_ret (v:=.tuple #[.agg #[.slice B ds.length zc,.slice none 0 0],.int .i64 er]) (by simp [results,Tryz.results24,go_sem,c0,c1]) rfl ?_
    obtain ⟨e1,e2⟩:=end22 hR HK3.out HP3.out (.slice B ds.length zc) (.slice none 0 0)
    refine ⟨ds,[],B,none,ds.length,zc,0,0,j,er,rfl,e1,e2,.inr ⟨HE.out,?_⟩⟩
    simp only [programS,hI.out.all,all_err XW.out hI.out.le (show declarS (30 - ds.length) (leftT l q).tail=_ by rw [left_tail];exact HF.out)]
end
end Go.Proofs.YtaojnljppcnhjaaGreatDoor
namespace Go.Proofs.YtaojnljppcnhjaaGreatDoor
open Go.RowKit
theorem ruat_frame {lo lo':Nat} {w w':World} {t:List UInt8} {ks rs:List Am} {gs bs:List Gl} {kv rv gv bv:Value} (h:RuAt lo w t ks rs gs bs kv rv gv bv) (hlo:lo'≤lo) (hs:w.heap.size≤w'.heap.size) (hb:∀b,lo≤b→b < w.heap.size→w'.heap[b]?=w.heap[b]?):RuAt lo' w' t ks rs gs bs kv rv gv bv:=by
 obtain ⟨ht,M,m1,m2,m3,hM,h⟩:=h
 exact ⟨ht,M,m1,m2,m3,Nat.le_trans hM hs,(h.of hs fun b h1 h2=>hb b h1 (Nat.lt_of_lt_of_le h2 hM)).low hlo⟩
def wholeS {α:Type} (f:List Tok→PS α) (s:ByteArray):Except (Nat×Int) α :=
 if (scanP s).2.2≠0 then .error ((scanP s).2.1,(scanP s).2.2)
 else match onlyS (f (leftT (scanP s).1 0)) with
  | .ok v _ _=>.ok v
  | .err n e=>.error (offT (scanP s).1 n,e)
theorem whole_ok {α:Type} {f:List Tok→PS α} {s:ByteArray} {l:List Tk} {p:Nat} (h:scanP s=(l,p,0)):wholeS f s=match onlyS (f (leftT l 0)) with
  | .ok v _ _=>.ok v
  | .err n e=>.error (offT l n,e):=by
 unfold wholeS
 rw [h,if_neg (by simp)]
theorem whole_err {α:Type} {f:List Tok→PS α} {s:ByteArray} {l:List Tk} {p:Nat} {e:Int} (h:scanP s=(l,p,e)) (he:e≠0):wholeS f s=.error (p,e):=by
 unfold wholeS
 rw [h,if_pos he]
def WholeQ {α:Type} (f:List Tok→PS α) (Z:Array Value) (M:Nat→World→Array Value→α→Prop) (s:ByteArray) (w:World) (en:Ending) (w':World):Prop :=
 ∃(V:Array Value) (p:Nat) (er:Int),en=.returned (.tuple #[.agg V,.int .i64 (p:Int),.int .i64 er])∧Below w.heap.size w w' ∧
  ((er=0∧p=0∧∃x,wholeS f s=.ok x∧M w.heap.size w' V x)∨(er≠0∧V=Z∧wholeS f s=.error (p,er)))
theorem cell_in {w:World} {p:Addr} {v:Value} (h:w.cell? p=some v):p.block < w.heap.size:=by
 rcases Nat.lt_or_ge p.block w.heap.size with h1|h1
 ·exact h1
 ·simp [World.cell?,Array.getElem?_eq_none h1] at h
theorem Below.after {m n:Nat} {a b c:World} (h:Below m a b) (h2:Below n b c) (hmn:m≤n):Below m a c :=
 ⟨h2.os.trans h.os,h2.tape.trans h.tape,h2.output.trans h.output,Nat.le_trans h.size h2.size,fun k hk=>(h2.block k (Nat.lt_of_lt_of_le hk hmn)).trans (h.block k hk)⟩
theorem new_parser {w:World} {A:Option Addr} {c:Nat} {l:List Tk} (h:TLst w A l c) (hn:0 < l.length) (t:TypeId):Pq (w.alloc (.cells #[.slice A l.length c,.int .i64 0] t)) w.heap.size A c l 0:=by
 have hb:=BoxL.new w [.slice A l.length c,.int .i64 0] t
 refine ⟨hb.lt,hb.cells 0 _ rfl,hb.cells 1 _ rfl,hb.free,h.below ((Below.refl _ _).alloc (Nat.le_refl _) _),fun g e=>?_,hn⟩
 obtain ⟨g2,e2,hr⟩:=h.2.2 hn
 rw [e] at e2
 injection e2 with e2
 injection e2 with e2
 subst e2
 exact cell_in (hr 0 hn 0 _ rfl)
end Go.Proofs.YtaojnljppcnhjaaGreatDoor
