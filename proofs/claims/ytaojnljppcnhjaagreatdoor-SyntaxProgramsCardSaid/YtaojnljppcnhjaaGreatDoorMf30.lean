/-
  PgProg.
  PgWhole0.
  RzWholeP.
 PgWholeR.
-/
import Derived.Test.YtaojnljppcnhjaaGreatDoorMf29
import Derived.Test.YtaojnljppcnhjaaGreatDoorMf10
import Derived.Test.YtaojnljppcnhjaaGreatDoorMf12
import Derived.Test.YtaojnljppcnhjaaGreatDoorMf9
namespace Go.Proofs.YtaojnljppcnhjaaGreatDoor
open Go.RowKit
theorem rule_info:(Tryz.prog.info? 35).map (fun i=>(i.zero,i.size,i.bytes))=some (some (.agg #[.string ⟨#[]⟩,.slice none 0 0,.slice none 0 0,.slice none 0 0,.slice none 0 0,.int .i64 0]),6,120):=by kernel_rfl
abbrev rbox (u:Ru):Array Value:=#[.string (S u.t),.slice u.kA u.ks.length u.kc,.slice u.rA u.rs.length u.rc,.slice u.gA u.gs.length u.gc,.slice u.bA u.bs.length u.bc,.int .i64 (u.n:Int)]
theorem news2_R (w:World) (o:Obj) (u:Ru) (T:TypeId):∀j v,(u.cells)[j]?=some v→((w.alloc o).alloc (.cells (rbox u) T)).cell? ((⟨w.heap.size+1,0,none⟩:Addr).add j)=some v:=by
 intro j v hv
 have e:(w.alloc o).heap.size=w.heap.size+1:=by simp
 rw [add_plain,Nat.zero_add,← e,World.cell?_alloc_at _ _ _ _ rfl,← hv,show (rbox u)=(u.cells).toArray from rfl,List.getElem?_toArray]
theorem cellsL_one {α:Type} (E:Elt α) (l:List α):∀v∈E.cellsL l,v.oneCell'=true:=fun v hv=>by
 obtain ⟨x,_,hx⟩:=List.mem_flatMap.1 hv
 exact E.one x v hx
theorem declar_len {m:Nat} {ts r:List Tok} {v:List Dl} {ns:List (List UInt8)} (h:declarS m ts=.ok v r ns):v.length≤m:=by
 unfold declarS at h
 cases he:listS declS m [] ts [] with
 | err l e=>rw [he] at h;cases h
 | ok u r2 ns2 =>
  rw [he] at h
  simp only [wantS] at h
  split at h
  ·injection h with h1 _ _
   subst h1
   exact listS_len _ _ (Nat.le_refl _) _ _ _ _ _ he (by simp)
  ·cases h
section
variable {R:Nat} {A:Option Addr} {c:Nat} {l:List Tk}
def ProgQ (ex:Rd1 Tm) (R:Nat) (A:Option Addr) (c:Nat) (l:List Tk) (i:Nat) (w:World) (en:Ending) (w':World):Prop :=
 ∃(ds:List Dl) (rz:List Ru) (dA rA:Option Addr) (dn dc rn rc:Nat) (j:Nat) (er:Int),
  en=.returned (.tuple #[.agg #[.slice dA dn dc,.slice rA rn rc],.int .i64 er])∧Kq R w w'∧Pq w' R A c l j ∧
  ((er=0∧(∃m,programS ex (leftT l i)=.ok (ds,rz.map Ru.p) (leftT l j) m)∧RowG elDl 72 w.heap.size w' (.slice dA dn dc) ds∧RowR w.heap.size w' (.slice rA rn rc) rz)∨(er≠0∧programS ex (leftT l i)=.err (leftT l j).length er))
structure Lp1 (R:Nat) (A:Option Addr) (c:Nat) (l:List Tk) (i:Nat) (w:World) (gk:Nat) (wr:World) (q:Nat) (ds:List Dl) (B:Option Addr) (zc:Nat):Prop where
 k:Kq R w wr
 p:Pq wr R A c l q
 row:RowG elDl 72 (w.heap.size+2) wr (.slice B ds.length zc) ds
 b2:BoxL wr w.heap.size [.slice none 0 0,.slice none 0 0]
 b4:BoxL wr (w.heap.size+1) [.slice B ds.length zc,.slice none 0 0]
 all:allDecls [] (leftT l i)=allDecls ds (leftT l q)
 le:ds.length≤30
 iq:i≤q
 gk:l.length - q≤gk
 sz:w.heap.size+2≤wr.heap.size
structure Lp2 (ex:Rd1 Tm) (R:Nat) (A:Option Addr) (c:Nat) (l:List Tk) (i i2:Nat) (w:World) (m:Nat) (ds:List Dl) (dA:Option Addr) (dc:Nat) (gk:Nat) (wr:World) (q:Nat) (rz:List Ru) (B:Option Addr) (zc:Nat):Prop where
 k:Kq R w wr
 p:Pq wr R A c l q
 drow:RowG elDl 72 (w.heap.size+2) wr (.slice dA ds.length dc) ds
 dless:∀k,(Value.slice dA ds.length dc).ownBlock=some k→k < m
 row:RowR m wr (.slice B rz.length zc) rz
 b2:BoxL wr w.heap.size [.slice none 0 0,.slice none 0 0]
 b4:BoxL wr (w.heap.size+1) [.slice dA ds.length dc,.slice B rz.length zc]
 all:rulesS ex [] (leftT l i2)=rulesS ex (rz.map Ru.p) (leftT l q)
 le:rz.length≤40
 iq:i≤q
 gk:l.length - q≤gk
 sz:m≤wr.heap.size
 mlo:w.heap.size+2≤m
set_option maxHeartbeats 16000000 in
set_option maxRecDepth 100000 in
theorem program_at (hg:GoodT l) {n:Nat} {ex:Rd1 Tm} (i:Nat)
  (hRu:∀(k:Nat) (w:World),Pq w R A c l k→i≤k→(leftT l k).length≤n→Calls Tryz.prog 30 #[.pointer (some ⟨R,0,none⟩)] w (RuleQ ex R A c l k w))
  (w:World) (h:Pq w R A c l i) (hn:(leftT l i).length≤n) :
  Calls Tryz.prog 24 #[.pointer (some ⟨R,0,none⟩)] w (ProgQ ex R A c l i w):=by
 obtain ⟨i0,hi,hz0,hz1,hz2⟩:=info_parts decl_info
 obtain ⟨i1,hi1,hy0,hy1,hy2⟩:=info_parts rule_info
 have HG:=Lib.hid hg
 have hR:=h.lt
 have hTR:¬w.heap.size=R:=by omega
 have hBR:¬w.heap.size+1=R:=by omega
 have hTB:¬w.heap.size=w.heap.size+1:=by omega
 have hb2:=((Below.refl w.heap.size w).alloc (Nat.le_refl _) (.cells #[.slice none 0 0,.slice none 0 0] 26)).alloc (by simp) (.cells #[.slice none 0 0,.slice none 0 0] 26)
 have HN:=Lib.hid hn
 have Q:=Lib.hid hRu
 have H0:=Lib.hid (show Lp1 R A c l i w (l.length - i) ((w.alloc (.cells #[.slice none 0 0,.slice none 0 0] 26)).alloc (.cells #[.slice none 0 0,.slice none 0 0] 26)) i [] none 0 from
  ⟨Below.kp hb2 R Z0,h.below hb2,RowG.nil _ _ _ _,(BoxL.new w [.slice none 0 0,.slice none 0 0] 26).alloc _,by
   have:=BoxL.new (w.alloc (.cells #[.slice none 0 0,.slice none 0 0] 26)) [.slice none 0 0,.slice none 0 0] 26
   rw [show (w.alloc (.cells #[.slice none 0 0,.slice none 0 0] 26)).heap.size=w.heap.size+1 by simp] at this
   exact this,rfl,by simp,Nat.le_refl _,Nat.le_refl _,by simp⟩)
 clear hg hRu h hn hb2
 go_enter Tryz.func24,Tryz.ntmps24
 go_wp2_with fail
 go_loopg [] (l.length - i) (fun gk wr=>∃(q:Nat) (ds:List Dl) (B:Option Addr) (zc:Nat),Hid (Lp1 R A c l i w gk wr q ds B zc))
 case atStart=>exact ⟨i,[],none,0,H0⟩
 case round =>
  clear H0
  obtain ⟨q,ds,B,zc,hI⟩:=hrel
  have hP:=hI.out.p
  have hsz:=hI.out.sz
  have hlen30:=hI.out.le
  have hl30:(ds.length:Int)≤30:=by omega
  obtain ⟨b,hb⟩:∃b,((l.getD q default).2.2==constraintW)=b:=⟨_,rfl⟩
  have QX:=Lib.hid (accept_at HG.out hP constraintW (by decide) hb)
  have XW:=Lib.hid (show isW constraintW (leftT l q)=b by rw [isW_left HG.out hP.ilt (by decide)];exact hb)
  clear hb hP
  cases b
  ·go_wp2_with (go_at_call 45;(with_reducible refine QX.out.mono ?_);rintro en w2 ⟨rfl,hk2,hp2⟩;have HK2:=Lib.hid hk2;have HP2:=Lib.hid (show Pq w2 R A c l q from hp2);clear hk2 hp2)
   have HAll:=Lib.hid (show allDecls [] (leftT l i)=.ok ds (leftT l q) [] by rw [hI.out.all,all_end XW.out])
   have H2:=Lib.hid (show Lp2 ex R A c l i q w w2.heap.size ds B zc (l.length - q) w2 q [] none 0 from
    ⟨hI.out.k.trans HK2.out,HP2.out,hI.out.row.kq HK2.out (by omega),fun k hk=>Nat.lt_of_lt_of_le (own_lt hI.out.row.row k hk).2 HK2.out.size,RowR.nil _ _,hI.out.b2.kq HK2.out hTR,hI.out.b4.kq HK2.out hBR,rfl,by simp,hI.out.iq,Nat.le_refl _,Nat.le_refl _,Nat.le_trans hsz HK2.out.size⟩)
   clear hI XW QX HK2 HP2 hsz hlen30 hl30
   go_loopg [] (l.length - q) (fun gk wr=>∃(q2:Nat) (rz:List Ru) (B2:Option Addr) (zc2:Nat),Hid (Lp2 ex R A c l i q w w2.heap.size ds B zc gk wr q2 rz B2 zc2))
   case atStart=>exact ⟨q,[],none,0,H2⟩
   case round =>
    clear H2
    obtain ⟨q2,rz,B2,zc2,hJ⟩:=hrel
    have hPJ:=hJ.out.p
    have hszJ:=Nat.le_trans hJ.out.mlo hJ.out.sz
    have hl40:=hJ.out.le
    have hl40':(rz.length:Int)≤40:=by omega
    have h40':rz.length≤9223372036854775807:=by omega
    have HI2:=Lib.hid hPJ.ilt
    obtain ⟨tk,htk⟩:∃tk,l.getD q2 default=tk:=⟨_,rfl⟩
    obtain ⟨k,p,x⟩:=tk
    have fk:=tok_kind k (p:Int) (S x)
    have HTk:=Lib.hid (show (l.getD q2 default).1=k by rw [htk])
    have QN:=Lib.hid (p_next_of hPJ htk)
    clear htk hPJ
    by_cases hk:k=0
    ·subst hk
     go_wp2_with (go_at_call 44;(with_reducible refine QN.out.mono ?_);rintro en w3 ⟨rfl,hb3⟩;have HK3:=Lib.hid (hJ.out.k.trans (Below.kp hb3 R Z0));have HP3:=Lib.hid (hJ.out.p.below hb3);have HB3:=Lib.hid hb3;obtain ⟨c0,c1,f0,f1⟩:=(hJ.out.b2.below hb3).get2;obtain ⟨d0,d1,g0,g1⟩:=(hJ.out.b4.below hb3).get2;clear hb3)
     refine bodyPost_ret (v:=.tuple #[.agg #[.slice B ds.length zc,.slice B2 rz.length zc2],.int .i64 0]) (by simp [results,Tryz.results24,go_sem,c0,c1]) rfl ?_
     obtain ⟨e1,e2⟩:=end22 hR HK3.out HP3.out (.slice B ds.length zc) (.slice B2 rz.length zc2)
     have hm:=hJ.out.mlo
     refine ⟨ds,rz,B,B2,ds.length,zc,rz.length,zc2,q2,0,rfl,e1,e2,.inl ⟨rfl,⟨[],?_⟩,?_,?_⟩⟩
     ·simp only [programS,HAll.out,hJ.out.all,rules_end HI2.out HTk.out]
     ·exact ((hJ.out.drow.below HB3.out).frame (Nat.le_of_eq (sets2_size _ _ _ _).symm) fun b h1 _=>sets2_block _ _ _ _ (by omega)).low (by omega)
     ·exact ((hJ.out.row.below HB3.out).frame (Nat.le_of_eq (sets2_size _ _ _ _).symm) fun b h1 _=>sets2_block _ _ _ _ (by omega)).low (by omega)
    ·have hkb:(k != 0)=true:=bne_iff_ne.2 hk
     have HKn:=Lib.hid (show (l.getD q2 default).1≠0 by rw [HTk.out];exact hk)
     clear hk
     by_cases hm:rz.length=40
     ·have hm':(((rz.length:Nat):Int)==40)=true:=by simp [hm]
      have HM:=Lib.hid hm
      clear hm
      go_wp2_with (go_at_call 44;(with_reducible refine QN.out.mono ?_);rintro en w3 ⟨rfl,hb3⟩;have HK3:=Lib.hid (hJ.out.k.trans (Below.kp hb3 R Z0));have HP3:=Lib.hid (hJ.out.p.below hb3);obtain ⟨c0,c1,f0,f1⟩:=(hJ.out.b2.below hb3).get2;obtain ⟨d0,d1,g0,g1⟩:=(hJ.out.b4.below hb3).get2;clear hb3)
      refine bodyPost_ret (v:=.tuple #[.agg #[.slice B ds.length zc,.slice B2 rz.length zc2],.int .i64 6]) (by simp [results,Tryz.results24,go_sem,c0,c1]) rfl ?_
      obtain ⟨e1,e2⟩:=end22 hR HK3.out HP3.out (.slice B ds.length zc) (.slice B2 rz.length zc2)
      refine ⟨ds,rz,B,B2,ds.length,zc,rz.length,zc2,q2,6,rfl,e1,e2,.inr ⟨by omega,?_⟩⟩
      simp only [programS,HAll.out,hJ.out.all,rules_much HI2.out HKn.out (show 40≤(rz.map Ru.p).length by rw [List.length_map,HM.out];omega)]
     ·have hm':(((rz.length:Nat):Int)==40)=false:=by simp;omega
      have HM:=Lib.hid (show ¬40≤(rz.map Ru.p).length by rw [List.length_map];omega)
      have HM2:=Lib.hid (show rz.length < 40 by omega)
      clear hm
      have QR:=Lib.hid (fun W (hW:Pq W R A c l q2)=>Q.out q2 W hW hJ.out.iq (by have:=HN.out;have:=hJ.out.iq;rw [left_length] at *;omega))
      go_wp2_with (first
       | (go_at_call 44;(with_reducible refine QN.out.mono ?_);rintro en w3 ⟨rfl,hb3⟩;have HK3:=Lib.hid (hJ.out.k.trans (Below.kp hb3 R Z0));have HP3:=Lib.hid (hJ.out.p.below hb3);have HB3:=Lib.hid hb3;obtain ⟨d0,d1,g0,g1⟩:=(hJ.out.b4.below hb3).get2;clear hb3))
      refine (QR.out _ HP3.out).mono ?_
      rintro en w4 ⟨t,ks,rs,gs,bs,kA,rA,gA,bA,kn,kc,rn,rc,gn,gc,bn,bc,nv,j,er,rfl,hk4,hp4,ho4⟩
      have hm0:=hJ.out.mlo
      have hm1:=hJ.out.sz
      have HK4:=Lib.hid (HK3.out.trans hk4)
      have HP4:=Lib.hid hp4
      have hs34:w3.heap.size≤w4.heap.size:=hk4.size
      have HK34:=Lib.hid hk4
      have HBox2:=Lib.hid ((hJ.out.b2.below HB3.out).kq hk4 hTR)
      have HBox4:=Lib.hid ((hJ.out.b4.below HB3.out).kq hk4 hBR)
      have HDr4:=Lib.hid ((hJ.out.drow.below HB3.out).kq hk4 (by omega))
      have HRr4:=Lib.hid ((hJ.out.row.below HB3.out).kq hk4 (by omega))
      clear d0 d1 g0 g1 hk4 hp4
      rcases ho4 with ⟨rfl,hf,hqj,hat⟩|⟨her,hf⟩
      ·obtain ⟨rfl,rfl,rfl,rfl,hu⟩:=ru_of (n:=nv) hat
       have HF:=Lib.hid hf
       have HJ:=Lib.hid hqj
       have HU:=Lib.hid hu
       clear hf hqj hat hu
       have hs23:w3.heap.size ≥ wr.heap.size:=HB3.out.size
       have d1:=fun o=>(HBox4.out.alloc o).get2.2.1
       have hown4:=Lib.hid (fun k hk=>own_lt HRr4.out.row k hk)
       have hlo2:=Lib.hid (show w2.heap.size≤w3.heap.size by omega)
       go_wp2_with (at_builtin;refine wpList_append_lies _ rfl _ _ 24 rfl w2.heap.size 35 i1 _ 6 120 Tryz.underlying24 hi1 hy0 hy1 hy2 rfl (by decide) (.slice B2 rz.length zc2) rz.length (rcells rz) rfl ((HRr4.out.row.alloc _).alloc _) ⟨w4.heap.size+1,0,none⟩ 1 1 (Ru.cells ⟨t,ks,rs,gs,bs,kA,kc,rA,rc,gA,gc,bA,bc,nv⟩) rfl rfl (news2_R w4 _ ⟨t,ks,rs,gs,bs,kA,kc,rA,rc,gA,gc,bA,bc,nv⟩ _) (ru_one ⟨t,ks,rs,gs,bs,kA,kc,rA,rc,gA,gc,bA,bc,nv⟩) (by decide) (by unfold maxLen;omega) (by omega) (by simp;omega) _ rfl ?_;intro g cap w5 hown hg hat hglt;have hbox:=(((Below.refl w4.heap.size w4).alloc (Nat.le_refl _) (.cells (rbox ⟨t,ks,rs,gs,bs,kA,kc,rA,rc,gA,gc,bA,bc,nv⟩) 35)).alloc (by simp) (.cells (rbox ⟨t,ks,rs,gs,bs,kA,kc,rA,rc,gA,gc,bA,bc,nv⟩) 35));have HRow5:=Lib.hid (HRr4.out.next hlo2.out (fun k hk=>Nat.lt_of_lt_of_le (own_lt (hJ.out.row.below HB3.out).row k hk).2 (Nat.le_refl _)) HU.out hbox hown hg hat);have HK5:=Lib.hid (((HK4.out.alloc _).alloc _).grown hg (fun k hk=>by have:=(hown4.out k hk).1;omega));have HP5:=Lib.hid (((HP4.out.alloc _).alloc _).grown hg (fun k hk=>by have:=(hown4.out k hk).1;omega));have HBox25:=Lib.hid (((HBox2.out.alloc _).alloc _).grown hg (fun e=>by have:=(hown4.out _ e).1;omega));have HBox45:=Lib.hid (((HBox4.out.alloc _).alloc _).grown hg (fun e=>by have:=(hown4.out _ e).1;omega));have HDr5:=Lib.hid ((HDr4.out.below hbox).only hg.size (fun k hk=>hg.block k (own_lt (HDr4.out.below hbox).row k hk).2 (fun e=>by have:=(hown4.out k e.symm).1;have:=hJ.out.dless k hk;omega)) (fun b hb=>by simp [Elt.blkL,elDl] at hb));have HSz5:=Lib.hid (Nat.le_trans hbox.size hg.size);obtain ⟨d0,d1,g0,g1⟩:=HBox45.out.get2;clear hown hg hat hglt hbox)
       have HNx:=Lib.hid (show Lp2 ex R A c l i q w w2.heap.size ds B zc (gk - 1) (w5.setCell ⟨w.heap.size+1,1,none⟩ (.slice (some ⟨g,0,none⟩) (rz.length+1) cap)) j (rz++[⟨t,ks,rs,gs,bs,kA,kc,rA,rc,gA,gc,bA,bc,nv⟩]) (some ⟨g,0,none⟩) cap by
        have el:(rz++[(⟨t,ks,rs,gs,bs,kA,kc,rA,rc,gA,gc,bA,bc,nv⟩:Ru)]).length=rz.length+1:=by simp
        have hj:=HJ.out
        have h2:=hJ.out.gk
        have h3:=HP4.out.ilt
        have hp:∀(p:Addr) (v:Value),(w5.setCell p v).heap.size=w5.heap.size:=fun p v=>by simp [World.setCell]
        refine ⟨HK5.out.put (p:=⟨w.heap.size+1,1,none⟩) (show w.heap.size≤w.heap.size+1 by omega) _,HP5.out.put (p:=⟨w.heap.size+1,1,none⟩) (show R < w.heap.size+1 by omega) _,HDr5.out.put (p:=⟨w.heap.size+1,1,none⟩) (show w.heap.size+1 < w.heap.size+2 by omega) _,hJ.out.dless,?_,HBox25.out.put (p:=⟨w.heap.size+1,1,none⟩) (show w.heap.size+1≠w.heap.size by omega) _,?_,?_,by rw [el];have:=HM2.out;omega,by have:=hJ.out.iq;omega,by omega,by rw [hp];have:=HSz5.out;omega,hJ.out.mlo⟩
        ·rw [el]
         exact HRow5.out.frame (Nat.le_of_eq (hp _ _).symm) fun b h1 _=>Below.heap_setCell _ _ _ _ (show b≠w.heap.size+1 by omega)
        ·rw [el]
         exact HBox45.out.set (j:=1) (by simp) _
        ·rw [hJ.out.all,rules_next HI2.out HKn.out HM.out HF.out.choose_spec (by rw [left_length,left_length];have:=HI2.out;omega),List.map_append]
         rfl)
       have HGk:=Lib.hid (show gk - 1 < gk by have:=HJ.out;have:=HP4.out.ilt;have:=hJ.out.gk;omega)
       go_wp2_with fail
       go_roundg (gk - 1)
       case measure=>exact HGk.out
       case rel=>exact ⟨j,_,_,_,HNx⟩
      ·have hne:(er != 0)=true:=bne_iff_ne.2 her
       have HE:=Lib.hid her
       have HF:=Lib.hid hf
       have c0:=fun o=>(HBox2.out.alloc o).get2.1
       have c1:=fun o=>(HBox2.out.alloc o).get2.2.1
       have f0:=fun o=>(HBox2.out.alloc o).get2.2.2.1
       have f1:=fun o=>(HBox2.out.alloc o).get2.2.2.2
       have d0:=fun o=>(HBox4.out.alloc o).get2.1
       have d1:=fun o=>(HBox4.out.alloc o).get2.2.1
       clear her hf
       go_wp2_with fail
       refine bodyPost_ret (v:=.tuple #[.agg #[.slice B ds.length zc,.slice B2 rz.length zc2],.int .i64 er]) (by simp [results,Tryz.results24,go_sem,c0,c1]) rfl ?_
       obtain ⟨e1,e2⟩:=end22 hR (HK4.out.alloc (.cells #[.string (S t),.slice kA kn kc,.slice rA rn rc,.slice gA gn gc,.slice bA bn bc,.int .i64 (nv:Int)] 35)) (HP4.out.alloc (.cells #[.string (S t),.slice kA kn kc,.slice rA rn rc,.slice gA gn gc,.slice bA bn bc,.int .i64 (nv:Int)] 35)) (.slice B ds.length zc) (.slice B2 rz.length zc2)
       refine ⟨ds,rz,B,B2,ds.length,zc,rz.length,zc2,j,er,rfl,e1,e2,.inr ⟨HE.out,?_⟩⟩
       simp only [programS,HAll.out,hJ.out.all,rules_err HI2.out HKn.out HM.out HF.out]
  ·have QD:=Lib.hid (fun W (hW:Pq W R A c l (q+1))=>by
    have:=declaration_at HG.out (30 - ds.length) (by omega) (q+1) W hW
    rw [show ((30 - ds.length:Nat):Int)=30 - (ds.length:Int) by omega] at this
    exact this)
   go_wp2_with (go_at_call 45;(with_reducible refine QX.out.mono ?_);rintro en w2 ⟨rfl,hk2,hp2⟩;have HK2:=Lib.hid hk2;have HP2:=Lib.hid (show Pq w2 R A c l (q+1) from hp2);obtain ⟨d0,d1,g0,g1⟩:=(hI.out.b4.kq hk2 hBR).get2;clear hk2 hp2)
   refine (QD.out _ HP2.out).mono ?_
   rintro en w3 ⟨d2,dA,dc,j,er,rfl,hk3,hp3,hr3,ho3⟩
   have hs12:=HK2.out.size
   have hs23:=hk3.size
   have HK3:=Lib.hid ((hI.out.k.trans HK2.out).trans hk3)
   have HP3:=Lib.hid hp3
   have HR3:=Lib.hid hr3
   have HBox2:=Lib.hid ((hI.out.b2.kq HK2.out hTR).kq hk3 hTR)
   have HBox4:=Lib.hid ((hI.out.b4.kq HK2.out hBR).kq hk3 hBR)
   have HRow3:=Lib.hid ((hI.out.row.kq HK2.out (by omega)).kq hk3 (by omega))
   clear d0 d1 g0 g1 hk3 hp3 hr3
   have d0:=HBox4.out.get2.1
   have d1:=HBox4.out.get2.2.1
   rcases ho3 with ⟨rfl,hf,hqj,hl0⟩|⟨her,hf⟩
   ·obtain ⟨gg,cc,he,_,_,_,_,_,_,hcell⟩:=HR3.out.form hl0
    injection he with he1 he2 he3
    subst he1 he3
    have HF:=Lib.hid hf
    have HJ:=Lib.hid hqj
    have hl2:d2.length≤30 - ds.length:=declar_len hf
    have hcell2:∀j u,(elDl.cellsL d2)[j]?=some u→w3.cell? ((⟨gg,0,none⟩:Addr).add j)=some u:=fun j u hu=>by rw [add_plain,Nat.zero_add];exact hcell j u hu
    have HCell:=Lib.hid hcell2
    have hown3:=Lib.hid (fun k hk=>own_lt HRow3.out.row k hk)
    have g0:=HBox4.out.get2.2.2.1
    have HL:=Lib.hid (And.intro hl0 hl2)
    clear hf hqj hcell he2 hcell2 hl0 hl2
    go_wp2_with (at_builtin;refine wpList_append_lies _ rfl _ _ 23 rfl (w.heap.size+2) 72 i0 _ 2 24 Tryz.underlying23 hi hz0 hz1 hz2 rfl (by decide) (.slice B ds.length zc) ds.length (elDl.cellsL ds) rfl HRow3.out.row ⟨gg,0,none⟩ d2.length dc (elDl.cellsL d2) rfl (Elt.cellsL_len elDl d2) HCell.out (cellsL_one elDl d2) HL.out.1 (by have:=HL.out.2;unfold maxLen;omega) (by have:=HL.out.2;omega) (by omega) _ rfl ?_;intro g cap w4 hown hg hat hglt;have HK4:=Lib.hid (HK3.out.grown hg (fun k hk=>by have:=(hown3.out k hk).1;omega));have HP4:=Lib.hid (HP3.out.grown hg (fun k hk=>by have:=(hown3.out k hk).1;omega));have HBox24:=Lib.hid (HBox2.out.grown hg (fun e=>by have:=(hown3.out _ e).1;omega));have HBox44:=Lib.hid (HBox4.out.grown hg (fun e=>by have:=(hown3.out _ e).1;omega));have HOwn:=Lib.hid hown;have HSz4:=Lib.hid hg.size;clear d0 d1 g0;obtain ⟨d0,d1,g0,g1⟩:=HBox44.out.get2;clear hown hg hat hglt)
    have el:(ds++d2).length=ds.length+d2.length:=by simp
    have HNx:=Lib.hid (show Lp1 R A c l i w (gk - 1) (w4.setCell ⟨w.heap.size+1,0,none⟩ (.slice (some ⟨g,0,none⟩) (ds.length+d2.length) cap)) j (ds++d2) (some ⟨g,0,none⟩) cap by
     have hj:=HJ.out
     have h2:=hI.out.gk
     have h3:=HP3.out.ilt
     have hp:∀(p:Addr) (v:Value),(w4.setCell p v).heap.size=w4.heap.size:=fun p v=>by simp [World.setCell]
     refine ⟨HK4.out.put (p:=⟨w.heap.size+1,0,none⟩) (show w.heap.size≤w.heap.size+1 by omega) _,HP4.out.put (p:=⟨w.heap.size+1,0,none⟩) (show R < w.heap.size+1 by omega) _,?_,HBox24.out.put (p:=⟨w.heap.size+1,0,none⟩) (show w.heap.size+1≠w.heap.size by omega) _,?_,?_,by rw [el];have:=HL.out.2;omega,by have:=hI.out.iq;omega,by omega,by rw [hp];have:=HSz4.out;omega⟩
     ·refine RowG.put (rowDl ?_) (p:=⟨w.heap.size+1,0,none⟩) (show w.heap.size+1 < w.heap.size+2 by omega) _
      rw [el,Elt.cellsL_append]
      exact HOwn.out
     ·rw [el]
      exact HBox44.out.set (j:=0) (by simp) _
     ·rw [hI.out.all]
      exact all_word XW.out hI.out.le (by rw [left_tail];exact HF.out) (by rw [left_length,left_length];omega))
    have HGk:=Lib.hid (show gk - 1 < gk by have:=HJ.out;have:=HP3.out.ilt;have:=hI.out.gk;omega)
    clear el
    go_wp2_with fail
    go_roundg (gk - 1)
    case measure=>exact HGk.out
    case rel=>exact ⟨j,_,_,_,HNx⟩
   ·have hne:(er != 0)=true:=bne_iff_ne.2 her
    have HE:=Lib.hid her
    have HF:=Lib.hid hf
    obtain ⟨c0,c1,f0,f1⟩:=HBox2.out.get2
    clear her hf
    go_wp2_with fail
    refine bodyPost_ret (v:=.tuple #[.agg #[.slice B ds.length zc,.slice none 0 0],.int .i64 er]) (by simp [results,Tryz.results24,go_sem,c0,c1]) rfl ?_
    obtain ⟨e1,e2⟩:=end22 hR HK3.out HP3.out (.slice B ds.length zc) (.slice none 0 0)
    refine ⟨ds,[],B,none,ds.length,zc,0,0,j,er,rfl,e1,e2,.inr ⟨HE.out,?_⟩⟩
    simp only [programS,hI.out.all,all_err XW.out hI.out.le (show declarS (30 - ds.length) (leftT l q).tail=_ by rw [left_tail];exact HF.out)]
end
end Go.Proofs.YtaojnljppcnhjaaGreatDoor
namespace Go.Proofs.YtaojnljppcnhjaaGreatDoor
open Go.RowKit
theorem ruat_frame {lo lo':Nat} {w w':World} {t:List UInt8} {ks rs:List Am} {gs bs:List Gl} {kv rv gv bv:Value} (h:RuAt lo w t ks rs gs bs kv rv gv bv) (hlo:lo'≤lo) (hs:w.heap.size≤w'.heap.size) (hb:∀b,lo≤b→b < w.heap.size→w'.heap[b]?=w.heap[b]?):RuAt lo' w' t ks rs gs bs kv rv gv bv:=by
 obtain ⟨ht,M,m1,m2,m3,hM,h⟩:=h
 exact ⟨ht,M,m1,m2,m3,Nat.le_trans hM hs,(h.of hs fun b h1 h2=>hb b h1 (Nat.lt_of_lt_of_le h2 hM)).low hlo⟩
def wholeS {α:Type} (f:List Tok→PS α) (s:ByteArray):Except (Nat×Int) α :=
 if (scanP s).2.2≠0 then .error ((scanP s).2.1,(scanP s).2.2)
 else match onlyS (f (leftT (scanP s).1 0)) with
  | .ok v _ _=>.ok v
  | .err n e=>.error (offT (scanP s).1 n,e)
theorem whole_ok {α:Type} {f:List Tok→PS α} {s:ByteArray} {l:List Tk} {p:Nat} (h:scanP s=(l,p,0)):wholeS f s=match onlyS (f (leftT l 0)) with
  | .ok v _ _=>.ok v
  | .err n e=>.error (offT l n,e):=by
 unfold wholeS
 rw [h,if_neg (by simp)]
theorem whole_err {α:Type} {f:List Tok→PS α} {s:ByteArray} {l:List Tk} {p:Nat} {e:Int} (h:scanP s=(l,p,e)) (he:e≠0):wholeS f s=.error (p,e):=by
 unfold wholeS
 rw [h,if_pos he]
def WholeQ {α:Type} (f:List Tok→PS α) (Z:Array Value) (M:Nat→World→Array Value→α→Prop) (s:ByteArray) (w:World) (en:Ending) (w':World):Prop :=
 ∃(V:Array Value) (p:Nat) (er:Int),en=.returned (.tuple #[.agg V,.int .i64 (p:Int),.int .i64 er])∧Below w.heap.size w w' ∧
  ((er=0∧p=0∧∃x,wholeS f s=.ok x∧M w.heap.size w' V x)∨(er≠0∧V=Z∧wholeS f s=.error (p,er)))
theorem cell_in {w:World} {p:Addr} {v:Value} (h:w.cell? p=some v):p.block < w.heap.size:=by
 rcases Nat.lt_or_ge p.block w.heap.size with h1|h1
 ·exact h1
 ·simp [World.cell?,Array.getElem?_eq_none h1] at h
theorem Below.after {m n:Nat} {a b c:World} (h:Below m a b) (h2:Below n b c) (hmn:m≤n):Below m a c :=
 ⟨h2.os.trans h.os,h2.tape.trans h.tape,h2.output.trans h.output,Nat.le_trans h.size h2.size,fun k hk=>(h2.block k (Nat.lt_of_lt_of_le hk hmn)).trans (h.block k hk)⟩
theorem new_parser {w:World} {A:Option Addr} {c:Nat} {l:List Tk} (h:TLst w A l c) (hn:0 < l.length) (t:TypeId):Pq (w.alloc (.cells #[.slice A l.length c,.int .i64 0] t)) w.heap.size A c l 0:=by
 have hb:=BoxL.new w [.slice A l.length c,.int .i64 0] t
 refine ⟨hb.lt,hb.cells 0 _ rfl,hb.cells 1 _ rfl,hb.free,h.below ((Below.refl _ _).alloc (Nat.le_refl _) _),fun g e=>?_,hn⟩
 obtain ⟨g2,e2,hr⟩:=h.2.2 hn
 rw [e] at e2
 injection e2 with e2
 injection e2 with e2
 subst e2
 exact cell_in (hr 0 hn 0 _ rfl)
end Go.Proofs.YtaojnljppcnhjaaGreatDoor
namespace Go.Proofs.YtaojnljppcnhjaaGreatDoor
open Go.RowKit
section
variable {α:Type} {E:Elt α} {B:Option Addr} {xs:List α} {w w':World}
structure RdL (E:Elt α) (w:World) (B:Option Addr) (xs:List α):Prop where
 at_:∀x∈xs,E.At w x
 row:0 < xs.length→∃g,B=some ⟨g,0,none⟩∧∀j u,(E.cellsL xs)[j]?=some u→w.cell? ⟨g,j,none⟩=some u
def blkR (E:Elt α) (B:Option Addr) (xs:List α):List Nat:=blkA B xs.length++E.blkL xs
theorem RdL.frame (h:RdL E w B xs) (hb:∀b∈blkR E B xs,w'.heap[b]?=w.heap[b]?):RdL E w' B xs:=by
 refine ⟨fun x hx=>E.frame (h.at_ x hx) fun b hbx=>hb b (List.mem_append.2 (.inr (List.mem_flatMap.2 ⟨x,hx,hbx⟩))),fun h0=>?_⟩
 obtain ⟨g,e,hr⟩:=h.row h0
 subst e
 refine ⟨g,rfl,fun j u hu=>?_⟩
 rw [World.cell?_of_block (a:=⟨g,j,none⟩) (hb g (List.mem_append.2 (.inl (by simp [blkA,blkO,show ¬xs.length=0 by omega]))))]
 exact hr j u hu
theorem RowZ.rd [Inhabited α] {T:TypeId} {lo cap:Nat} {z:Value} (h:RowZ E T lo z w (.slice B xs.length cap) xs):RdL E w B xs:=⟨h.sit.at_,fun h0=>h.first h0⟩
theorem RowZ.blkR {T:TypeId} {lo cap:Nat} {z:Value} (h:RowZ E T lo z w (.slice B xs.length cap) xs):∀b∈blkR E B xs,lo≤b∧b < w.heap.size∧z.ownBlock≠some b:=fun b hb=>by
 rcases List.mem_append.1 hb with hb|hb
 ·by_cases h0:xs.length=0
  ·simp [blkA,h0] at hb
  ·rcases h.row.2 with ⟨e,h1⟩|⟨g,cap',cur,e,_⟩
   ·exact absurd h1 h0
   ·injection e with e1 e2 e3
    subst e1
    have hbg:b=g:=by simpa [blkA,blkO,h0] using hb
    subst hbg
    exact ⟨(own_lt h.row b rfl).1,(own_lt h.row b rfl).2,h.zap b rfl⟩
 ·exact ⟨(h.sit.bd b hb).1,(h.sit.bd b hb).2,h.sit.out b hb⟩
end
def elRu:Elt Ru:=⟨6,Ru.cells,fun _=>rfl,ru_one,fun x=>(blkR elAm x.kA x.ks++blkR elAm x.rA x.rs)++(blkR elGl x.gA x.gs++blkR elGl x.bA x.bs),fun w x=>x.t.length≤16384∧(RdL elAm w x.kA x.ks∧RdL elAm w x.rA x.rs)∧(RdL elGl w x.gA x.gs∧RdL elGl w x.bA x.bs),fun h hb=>⟨h.1,
 ⟨h.2.1.1.frame fun b h=>hb b (List.mem_append.2 (.inl (List.mem_append.2 (.inl h)))),h.2.1.2.frame fun b h=>hb b (List.mem_append.2 (.inl (List.mem_append.2 (.inr h))))⟩,
 ⟨h.2.2.1.frame fun b h=>hb b (List.mem_append.2 (.inr (List.mem_append.2 (.inl h)))),h.2.2.2.frame fun b h=>hb b (List.mem_append.2 (.inr (List.mem_append.2 (.inr h))))⟩⟩⟩
theorem rows_ru {lo m1 m2 m3 n:Nat} {z:Value} {w:World} {t:List UInt8} {kv rv gv bv:Value} {ks rs:List Am} {gs bs:List Gl} (h:RowsZ lo m1 m2 m3 z w kv rv gv bv ks rs gs bs) (ht:t.length≤16384) :
  ∃u:Ru,u.cells=[.string (S t),kv,rv,gv,bv,.int .i64 (n:Int)]∧u.p=ruP t ks rs gs bs n∧SitZ elRu lo z w [u]:=by
 have hk:=h.k
 have hr:=h.r
 have hgg:=h.g
 have hbb:=h.b
 have hl:=h.l1
 obtain ⟨kA,kc,rfl⟩:=hk.zform
 obtain ⟨rA,rc,rfl⟩:=hr.zform
 obtain ⟨gA,gc,rfl⟩:=hgg.zform
 obtain ⟨bA,bc,rfl⟩:=hbb.zform
 refine ⟨⟨t,ks,rs,gs,bs,kA,kc,rA,rc,gA,gc,bA,bc,n⟩,rfl,rfl,?_⟩
 have hall:∀b∈elRu.blkL [⟨t,ks,rs,gs,bs,kA,kc,rA,rc,gA,gc,bA,bc,n⟩],lo≤b∧b < w.heap.size∧z.ownBlock≠some b:=fun b hb=>by
  rw [Elt.blkL_one] at hb
  rcases List.mem_append.1 hb with hb|hb<;>rcases List.mem_append.1 hb with hb|hb
  ·exact hk.blkR b hb
  ·obtain ⟨a1,a2⟩:=hr.blkR b hb
   exact ⟨by omega,a2⟩
  ·obtain ⟨a1,a2⟩:=hgg.blkR b hb
   exact ⟨by omega,a2⟩
  ·obtain ⟨a1,a2⟩:=hbb.blkR b hb
   exact ⟨by omega,a2⟩
 refine ⟨fun x hx=>?_,fun b hb=>⟨(hall b hb).1,(hall b hb).2.1⟩,fun b hb=>(hall b hb).2.2⟩
 rw [List.mem_singleton.1 hx]
 exact ⟨ht,⟨hk.rd,hr.rd⟩,⟨hgg.rd,hbb.rd⟩⟩
def MemRz (lo:Nat) (w:World) (V:Array Value) (x:Rs):Prop:=∃u:Ru,V=u.cells.toArray∧x=u.p∧SitZ elRu lo Z0 w [u]
theorem pr_new {w:World} {A:Option Addr} {c:Nat} {l:List Tk} (h:TLst w A l c) (hn:0 < l.length) (t:TypeId):Pr (w.alloc (.cells #[.slice A l.length c,.int .i64 0,.slice none 0 0,.int .i64 0,.int .i64 0] t)) w.heap.size A c l 0 Z0 [] 0 0:=by
 have hb:=BoxL.new w [.slice A l.length c,.int .i64 0,.slice none 0 0,.int .i64 0,.int .i64 0] t
 refine ⟨hb.lt,hb.cells 0 _ rfl,hb.cells 1 _ rfl,hb.cells 2 _ rfl,hb.cells 3 _ rfl,hb.cells 4 _ rfl,hb.free,h.below ((Below.refl _ _).alloc (Nat.le_refl _) _),fun g e=>?_,hn,World.ownsRow_nil _ _ _ _⟩
 obtain ⟨g2,e2,hr⟩:=h.2.2 hn
 rw [e] at e2
 injection e2 with e2
 injection e2 with e2
 subst e2
 exact cell_in (hr 0 hn 0 _ rfl)
section
variable {F:Nat} {R:Nat} {A:Option Addr} {c:Nat} {l:List Tk}
theorem rule_zF (hF:16384≤F) (hg:GoodT l) (i:Nat) (z:Value) (ns:List (List UInt8)) (at_:Nat) (w:World) (h:Pr w R A c l i z ns at_ 0) :
  Calls Tryz.prog 28 #[.pointer (some ⟨R,0,none⟩)] w (RuleZ (exprS (F+1)) R A c l i w) :=
 rule_z hg (exprs_z hg (F+1)) (expr_sized (F+1)) i z ns at_ w h (by rw [left_length];have:=hg.small;omega)
end
end Go.Proofs.YtaojnljppcnhjaaGreatDoor
namespace Go.Proofs.YtaojnljppcnhjaaGreatDoor
open Go.RowKit
def MemR (lo:Nat) (w':World) (V:Array Value) (x:Rs):Prop:=∃(t:List UInt8) (ks rs:List Am) (gs bs:List Gl) (kA rA gA bA:Option Addr) (kn kc rn rc gn gc bn bc n:Nat),V=#[.string (S t),.slice kA kn kc,.slice rA rn rc,.slice gA gn gc,.slice bA bn bc,.int .i64 (n:Int)]∧x=(ruP t ks rs gs bs n)∧RuAt lo w' t ks rs gs bs (.slice kA kn kc) (.slice rA rn rc) (.slice gA gn gc) (.slice bA bn bc)
theorem MemR.frame {lo lo':Nat} {w w':World} {V:Array Value} {x:Rs} (h:MemR lo w V x) (hlo:lo'≤lo) (hs:w.heap.size≤w'.heap.size) (hb:∀b,lo≤b→b < w.heap.size→w'.heap[b]?=w.heap[b]?):MemR lo' w' V x:=by
 obtain ⟨t,ks,rs,gs,bs,kA,rA,gA,bA,kn,kc,rn,rc,gn,gc,bn,bc,n,e1,e2,hm⟩:=h
 exact ⟨t,ks,rs,gs,bs,kA,rA,gA,bA,kn,kc,rn,rc,gn,gc,bn,bc,n,e1,e2,ruat_frame hm hlo hs hb⟩
set_option maxHeartbeats 8000000 in
set_option maxRecDepth 100000 in
theorem whole_R {ex:Rd1 Tm} (hR:∀(R:Nat) (A:Option Addr) (c:Nat) (l:List Tk) (w:World),GoodT l→Pq w R A c l 0→Calls Tryz.prog 30 #[.pointer (some ⟨R,0,none⟩)] w (RuleQ ex R A c l 0 w))
  (s:ByteArray) (hs:s.size≤100000) (w:World) :
  Calls Tryz.prog 29 #[.string s,.func (.func 30) #[] #[]] w (WholeQ (ruleS ex) #[.string ⟨#[]⟩,.slice none 0 0,.slice none 0 0,.slice none 0 0,.slice none 0 0,.int .i64 0] MemR s w):=by
 have QS:=Lib.hid (fun W=>scan_at s W hs)
 have HR:=Lib.hid hR
 have HSc:=Lib.hid (fun h0=>good_scan (s:=s) h0)
 obtain ⟨sc,hsc⟩:∃sc,scanP s=sc:=⟨_,rfl⟩
 rw [show ScanR s=fun w e w'=>∃A c,e=.returned (.tuple #[.slice A (scanP s).1.length c,.int .i64 ((scanP s).2.1:Int),.int .i64 (scanP s).2.2])∧TLst w' A (scanP s).1 c∧Below w.heap.size w w' from rfl,hsc] at QS
 rw [hsc] at HSc
 obtain ⟨l,p,e⟩:=sc
 have HW:=Lib.hid hsc
 clear hsc hR hs
 by_cases he:e=0
 ·subst he
  go_enter Tryz.func29,Tryz.ntmps29
  go_wp2_with fail
  refine (QS.out _).mono ?_
  rintro en w3 ⟨A,c,rfl,hT,hb3⟩
  have HT:=Lib.hid (show TLst w3 A l c from hT)
  have HG:=Lib.hid (show GoodT l by first|exact HSc.out rfl|exact HSc.out trivial)
  have HB3:=Lib.hid (show Below w.heap.size w w3 from Below.after (((Below.refl w.heap.size w).alloc (Nat.le_refl _) (.cells #[.string ⟨#[]⟩,.slice none 0 0,.slice none 0 0,.slice none 0 0,.slice none 0 0,.int .i64 0] 35)).alloc (by simp) (.cells #[.string ⟨#[]⟩,.slice none 0 0,.slice none 0 0,.slice none 0 0,.slice none 0 0,.int .i64 0] 35)) hb3 (by simp<;>omega))
  have HZ4:=Lib.hid ((BoxL.new w [.string ⟨#[]⟩,.slice none 0 0,.slice none 0 0,.slice none 0 0,.slice none 0 0,.int .i64 0] 35).alloc (.cells #[.string ⟨#[]⟩,.slice none 0 0,.slice none 0 0,.slice none 0 0,.slice none 0 0,.int .i64 0] 35) |>.below hb3)
  have HZ7:=Lib.hid (show BoxL w3 (w.heap.size+1) [.string ⟨#[]⟩,.slice none 0 0,.slice none 0 0,.slice none 0 0,.slice none 0 0,.int .i64 0] by
   have:=BoxL.new (w.alloc (.cells #[.string ⟨#[]⟩,.slice none 0 0,.slice none 0 0,.slice none 0 0,.slice none 0 0,.int .i64 0] 35)) [.string ⟨#[]⟩,.slice none 0 0,.slice none 0 0,.slice none 0 0,.slice none 0 0,.int .i64 0] 35
   rw [show (w.alloc (.cells #[.string ⟨#[]⟩,.slice none 0 0,.slice none 0 0,.slice none 0 0,.slice none 0 0,.int .i64 0] 35)).heap.size=w.heap.size+1 by simp] at this
   exact this.below hb3)
  have hsz3:w.heap.size+2≤w3.heap.size:=by have:=hb3.size;simpa using this
  have HP:=Lib.hid (new_parser HT.out HG.out.ended.1 98)
  have QR:=Lib.hid (HR.out _ A c l _ HG.out HP.out)
  clear hT hb3 HSc QS
  go_wp2_with fail
  refine QR.out.mono ?_
  rintro en w4 ⟨t,ks,rs,gs,bs,kA,rA,gA,bA,kn,kc,rn,rc,gn,gc,bn,bc,n,j,er,rfl,hk4,hp4,ho4⟩
  have hs34:w3.heap.size+1≤w4.heap.size:=by have:=hk4.size;simpa using this
  have HB4:=Lib.hid (show Below w.heap.size w w4 from ⟨hk4.os.trans HB3.out.os,hk4.tape.trans HB3.out.tape,hk4.output.trans HB3.out.output,by omega,fun k hk=>(hk4.block k (by simp;omega) (by omega) (Z0_own k)).trans ((Below.heap_alloc w3 _ k (by omega)).trans (HB3.out.block k hk))⟩)
  have HZ44:=Lib.hid ((HZ4.out.alloc _).kq hk4 (by omega))
  have HZ74:=Lib.hid ((HZ7.out.alloc _).kq hk4 (by omega))
  have HP4:=Lib.hid hp4
  have HO4:=Lib.hid ho4
  obtain ⟨tk,htk⟩:∃tk,l.getD j default=tk:=⟨_,rfl⟩
  obtain ⟨k,q,x⟩:=tk
  have fk:=tok_kind k (q:Int) (S x)
  have fa:=tok_at k (q:Int) (S x)
  have QN:=Lib.hid (fun W (hW:Pq W w3.heap.size A c l j)=>p_next_of hW htk)
  have HTk:=Lib.hid htk
  clear hk4 hp4 ho4 htk
  by_cases her:er=0
  ·subst her
   by_cases hk:k=0
   ·subst hk
    have c0:=fun o=>(HZ44.out.alloc o).get6.1
    have c1:=fun o=>(HZ44.out.alloc o).get6.2.1
    have c2:=fun o=>(HZ44.out.alloc o).get6.2.2.1
    have c3:=fun o=>(HZ44.out.alloc o).get6.2.2.2.1
    have c4:=fun o=>(HZ44.out.alloc o).get6.2.2.2.2.1
    have c5:=fun o=>(HZ44.out.alloc o).get6.2.2.2.2.2.1
    have f0:=fun o=>(HZ44.out.alloc o).get6.2.2.2.2.2.2.1
    have f1:=fun o=>(HZ44.out.alloc o).get6.2.2.2.2.2.2.2.1
    have f2:=fun o=>(HZ44.out.alloc o).get6.2.2.2.2.2.2.2.2.1
    have f3:=fun o=>(HZ44.out.alloc o).get6.2.2.2.2.2.2.2.2.2.1
    have f4:=fun o=>(HZ44.out.alloc o).get6.2.2.2.2.2.2.2.2.2.2.1
    have f5:=fun o=>(HZ44.out.alloc o).get6.2.2.2.2.2.2.2.2.2.2.2
    have d0:=fun o=>(HZ74.out.alloc o).get6.1
    have d1:=fun o=>(HZ74.out.alloc o).get6.2.1
    have d2:=fun o=>(HZ74.out.alloc o).get6.2.2.1
    have d3:=fun o=>(HZ74.out.alloc o).get6.2.2.2.1
    have d4:=fun o=>(HZ74.out.alloc o).get6.2.2.2.2.1
    have d5:=fun o=>(HZ74.out.alloc o).get6.2.2.2.2.2.1
    go_wp2_with (go_at_call 44;refine (QN.out _ (HP4.out.alloc _)).mono ?_;rintro en w5 ⟨rfl,hb5⟩;have HB5:=Lib.hid (Below.after (HB4.out.alloc (by omega) _) hb5 (by simp<;>omega));have HB45:=Lib.hid hb5;obtain ⟨a0,a1,a2,a3,a4,a5,qa0,qa1,qa2,qa3,qa4,qa5⟩:=((HZ44.out.alloc _).below hb5).get6;obtain ⟨b0,b1,b2,b3,b4,b5,qb0,qb1,qb2,qb3,qb4,qb5⟩:=((BoxL.new w4 [.string (S t),.slice kA kn kc,.slice rA rn rc,.slice gA gn gc,.slice bA bn bc,.int .i64 (n:Int)] 35).below hb5).get6;clear hb5)
    refine bodyPost_ret (v:=.tuple #[.agg #[.string (S t),.slice kA kn kc,.slice rA rn rc,.slice gA gn gc,.slice bA bn bc,.int .i64 (n:Int)],.int .i64 0,.int .i64 0]) (by simp [results,Tryz.results29,go_sem,a0,a1,a2,a3,a4,a5]) rfl ?_
    rcases HO4.out with ⟨_,⟨m,hf⟩,_,hm⟩|⟨h0,_⟩
    ·refine ⟨#[.string (S t),.slice kA kn kc,.slice rA rn rc,.slice gA gn gc,.slice bA bn bc,.int .i64 (n:Int)],0,0,rfl,(((((HB5.out.setCell (Nat.le_refl _) _).setCell (Nat.le_refl _) _).setCell (Nat.le_refl _) _).setCell (Nat.le_refl _) _).setCell (Nat.le_refl _) _).setCell (Nat.le_refl _) _,.inl ⟨rfl,rfl,(ruP t ks rs gs bs n),?_,?_⟩⟩
     ·rw [whole_ok HW.out]
      simp only [hf,onlyS]
      rw [left_cons HP4.out.ilt,HTk.out]
      rfl
     ·have hM:MemR (w3.alloc (.cells #[.slice A l.length c,.int .i64 0] 98)).heap.size w4 #[.string (S t),.slice kA kn kc,.slice rA rn rc,.slice gA gn gc,.slice bA bn bc,.int .i64 (n:Int)] (ruP t ks rs gs bs n):=⟨t,ks,rs,gs,bs,kA,rA,gA,bA,kn,kc,rn,rc,gn,gc,bn,bc,n,rfl,rfl,hm⟩
      have hsz:(w3.alloc (.cells #[.slice A l.length c,.int .i64 0] 98)).heap.size=w3.heap.size+1:=by simp
      refine hM.frame (by rw [hsz];omega) (Nat.le_trans (Nat.le_trans (by simp) HB45.out.size) (Nat.le_of_eq (sets6_size w5 w.heap.size _ _ _ _ _ _).symm)) fun b h1 h2=>?_
      rw [hsz] at h1
      exact (sets6_block w5 w.heap.size _ _ _ _ _ _ (by omega)).trans ((HB45.out.block b (by simp;omega)).trans (Below.heap_alloc w4 _ b h2))
    ·exact absurd rfl h0
   ·have hkb:(k != 0)=true:=bne_iff_ne.2 hk
    have HKn:=Lib.hid hk
    clear hk
    have c0:=fun o=>(HZ44.out.alloc o).get6.1
    have c1:=fun o=>(HZ44.out.alloc o).get6.2.1
    have c2:=fun o=>(HZ44.out.alloc o).get6.2.2.1
    have c3:=fun o=>(HZ44.out.alloc o).get6.2.2.2.1
    have c4:=fun o=>(HZ44.out.alloc o).get6.2.2.2.2.1
    have c5:=fun o=>(HZ44.out.alloc o).get6.2.2.2.2.2.1
    have f0:=fun o=>(HZ44.out.alloc o).get6.2.2.2.2.2.2.1
    have f1:=fun o=>(HZ44.out.alloc o).get6.2.2.2.2.2.2.2.1
    have f2:=fun o=>(HZ44.out.alloc o).get6.2.2.2.2.2.2.2.2.1
    have f3:=fun o=>(HZ44.out.alloc o).get6.2.2.2.2.2.2.2.2.2.1
    have f4:=fun o=>(HZ44.out.alloc o).get6.2.2.2.2.2.2.2.2.2.2.1
    have f5:=fun o=>(HZ44.out.alloc o).get6.2.2.2.2.2.2.2.2.2.2.2
    have d0:=fun o=>(HZ74.out.alloc o).get6.1
    have d1:=fun o=>(HZ74.out.alloc o).get6.2.1
    have d2:=fun o=>(HZ74.out.alloc o).get6.2.2.1
    have d3:=fun o=>(HZ74.out.alloc o).get6.2.2.2.1
    have d4:=fun o=>(HZ74.out.alloc o).get6.2.2.2.2.1
    have d5:=fun o=>(HZ74.out.alloc o).get6.2.2.2.2.2.1
    go_wp2_with (go_at_call 44;refine (QN.out _ (HP4.out.alloc _)).mono ?_;rintro en w6 ⟨rfl,hb6⟩;have HB6:=Lib.hid (Below.after (HB4.out.alloc (by omega) _) hb6 (by simp<;>omega));have HP6:=Lib.hid ((HP4.out.alloc _).below hb6);have HZ46:=Lib.hid ((HZ44.out.alloc _).below hb6);have HZ76:=Lib.hid ((HZ74.out.alloc _).below hb6);have hs6:w.heap.size+2≤w6.heap.size:=(by have:=hb6.size;simp at this;omega);obtain ⟨a0,a1,a2,a3,a4,a5,qa0,qa1,qa2,qa3,qa4,qa5⟩:=((HZ44.out.alloc _).below hb6).get6;obtain ⟨a40,a41,a42,a43,a44,a45,qa40,qa41,qa42,qa43,qa44,qa45⟩:=((HZ74.out.alloc _).below hb6).get6;clear hb6)
    clear a0 a1 a2 a3
    go_region_with (go_at_call 44;refine (QN.out _ (by first|exact HP6.out|exact HP6.out.drewN 1|exact (HP6.out.drewN 1).drewN 1)).mono ?_;rintro en w5 ⟨rfl,hb5⟩;have hb0:Below w6.heap.size w6 w5:=(by first|exact hb5|exact ⟨hb5.os,hb5.tape,hb5.output,hb5.size,hb5.block⟩);have HB5:=Lib.hid (Below.after HB6.out hb0 (by omega));obtain ⟨a0,a1,a2,a3,a4,a5,qa0,qa1,qa2,qa3,qa4,qa5⟩:=(HZ46.out.below hb0).get6;obtain ⟨b40,b41,b42,b43,b44,b45,qb40,qb41,qb42,qb43,qb44,qb45⟩:=(HZ76.out.below hb0).get6;clear hb5 hb0)
    all_goals
     go_wp2_with fail
     refine bodyPost_ret (v:=.tuple #[.agg #[.string ⟨#[]⟩,.slice none 0 0,.slice none 0 0,.slice none 0 0,.slice none 0 0,.int .i64 0],.int .i64 (q:Int),.int .i64 16]) (by simp [results,Tryz.results29,go_sem,a0,a1,a2,a3,a4,a5]) rfl ?_
     refine ⟨#[.string ⟨#[]⟩,.slice none 0 0,.slice none 0 0,.slice none 0 0,.slice none 0 0,.int .i64 0],q,16,rfl,?_,.inr ⟨by omega,rfl,?_⟩⟩
     ·first|exact (((((HB5.out.setCell (Nat.le_refl _) _).setCell (Nat.le_refl _) _).setCell (Nat.le_refl _) _).setCell (Nat.le_refl _) _).setCell (Nat.le_refl _) _).setCell (Nat.le_refl _) _|exact ((((((HB5.out.setCell (Nat.le_refl _) _).setCell (Nat.le_refl _) _).setCell (Nat.le_refl _) _).setCell (Nat.le_refl _) _).setCell (Nat.le_refl _) _).setCell (Nat.le_refl _) _).drew
     ·rw [whole_ok HW.out]
      rcases HO4.out with ⟨_,⟨m,hf⟩,_,hm⟩|⟨h0,_⟩
      ·have hne:¬((leftT l j).headD (0,[],false)).1=0:=by
        rw [left_cons HP4.out.ilt,HTk.out]
        exact HKn.out
       simp only [hf,onlyS,if_neg hne,off_here HP4.out.ilt,HTk.out]
      ·exact absurd rfl h0
  ·have hne:(er != 0)=true:=bne_iff_ne.2 her
   have hne2:(er==0)=false:=by simpa using her
   have HE:=Lib.hid her
   clear her
   have c0:=fun o=>(HZ44.out.alloc o).get6.1
   have c1:=fun o=>(HZ44.out.alloc o).get6.2.1
   have c2:=fun o=>(HZ44.out.alloc o).get6.2.2.1
   have c3:=fun o=>(HZ44.out.alloc o).get6.2.2.2.1
   have c4:=fun o=>(HZ44.out.alloc o).get6.2.2.2.2.1
   have c5:=fun o=>(HZ44.out.alloc o).get6.2.2.2.2.2.1
   have f0:=fun o=>(HZ44.out.alloc o).get6.2.2.2.2.2.2.1
   have f1:=fun o=>(HZ44.out.alloc o).get6.2.2.2.2.2.2.2.1
   have f2:=fun o=>(HZ44.out.alloc o).get6.2.2.2.2.2.2.2.2.1
   have f3:=fun o=>(HZ44.out.alloc o).get6.2.2.2.2.2.2.2.2.2.1
   have f4:=fun o=>(HZ44.out.alloc o).get6.2.2.2.2.2.2.2.2.2.2.1
   have f5:=fun o=>(HZ44.out.alloc o).get6.2.2.2.2.2.2.2.2.2.2.2
   have d0:=fun o=>(HZ74.out.alloc o).get6.1
   have d1:=fun o=>(HZ74.out.alloc o).get6.2.1
   have d2:=fun o=>(HZ74.out.alloc o).get6.2.2.1
   have d3:=fun o=>(HZ74.out.alloc o).get6.2.2.2.1
   have d4:=fun o=>(HZ74.out.alloc o).get6.2.2.2.2.1
   have d5:=fun o=>(HZ74.out.alloc o).get6.2.2.2.2.2.1
   go_wp2_with fail
   go_region_with (go_at_call 44;refine (QN.out _ (by first|exact HP4.out.alloc _|exact (HP4.out.alloc _).drewN 1|exact ((HP4.out.alloc _).drewN 1).drewN 1)).mono ?_;rintro en w5 ⟨rfl,hb5⟩;have hb0:Below (w4.alloc (.cells #[.string (S t),.slice kA kn kc,.slice rA rn rc,.slice gA gn gc,.slice bA bn bc,.int .i64 (n:Int)] 35)).heap.size (w4.alloc (.cells #[.string (S t),.slice kA kn kc,.slice rA rn rc,.slice gA gn gc,.slice bA bn bc,.int .i64 (n:Int)] 35)) w5:=(by first|exact hb5|exact ⟨hb5.os,hb5.tape,hb5.output,hb5.size,hb5.block⟩);have HB5:=Lib.hid (Below.after (HB4.out.alloc (by omega) _) hb0 (by simp<;>omega));obtain ⟨a0,a1,a2,a3,a4,a5,qa0,qa1,qa2,qa3,qa4,qa5⟩:=((HZ44.out.alloc _).below hb0).get6;obtain ⟨a40,a41,a42,a43,a44,a45,qa40,qa41,qa42,qa43,qa44,qa45⟩:=((HZ74.out.alloc _).below hb0).get6;clear hb5 hb0)
   all_goals
    go_wp2_with fail
    refine bodyPost_ret (v:=.tuple #[.agg #[.string ⟨#[]⟩,.slice none 0 0,.slice none 0 0,.slice none 0 0,.slice none 0 0,.int .i64 0],.int .i64 (q:Int),.int .i64 er]) (by simp [results,Tryz.results29,go_sem,a0,a1,a2,a3,a4,a5]) rfl ?_
    refine ⟨#[.string ⟨#[]⟩,.slice none 0 0,.slice none 0 0,.slice none 0 0,.slice none 0 0,.int .i64 0],q,er,rfl,?_,.inr ⟨HE.out,rfl,?_⟩⟩
    ·first|exact (((((HB5.out.setCell (Nat.le_refl _) _).setCell (Nat.le_refl _) _).setCell (Nat.le_refl _) _).setCell (Nat.le_refl _) _).setCell (Nat.le_refl _) _).setCell (Nat.le_refl _) _|exact ((((((HB5.out.setCell (Nat.le_refl _) _).setCell (Nat.le_refl _) _).setCell (Nat.le_refl _) _).setCell (Nat.le_refl _) _).setCell (Nat.le_refl _) _).setCell (Nat.le_refl _) _).drew
    ·rw [whole_ok HW.out]
     rcases HO4.out with ⟨h0,_⟩|⟨_,hf⟩
     ·exact absurd h0 HE.out
     ·simp only [hf,onlyS,off_here HP4.out.ilt,HTk.out]
 ·have HE:=Lib.hid he
  have hne:(e != 0)=true:=bne_iff_ne.2 he
  clear he
  go_enter Tryz.func29,Tryz.ntmps29
  go_wp2_with fail
  refine (QS.out _).mono ?_
  rintro en w3 ⟨A,c,rfl,_,hb3⟩
  have HB3:=Lib.hid (show Below w.heap.size w w3 from Below.after (((Below.refl w.heap.size w).alloc (Nat.le_refl _) (.cells #[.string ⟨#[]⟩,.slice none 0 0,.slice none 0 0,.slice none 0 0,.slice none 0 0,.int .i64 0] 35)).alloc (by simp) (.cells #[.string ⟨#[]⟩,.slice none 0 0,.slice none 0 0,.slice none 0 0,.slice none 0 0,.int .i64 0] 35)) hb3 (by simp<;>omega))
  obtain ⟨c0,c1,c2,c3,c4,c5,qc0,qc1,qc2,qc3,qc4,qc5⟩:=(((BoxL.new w [.string ⟨#[]⟩,.slice none 0 0,.slice none 0 0,.slice none 0 0,.slice none 0 0,.int .i64 0] 35).alloc (.cells #[.string ⟨#[]⟩,.slice none 0 0,.slice none 0 0,.slice none 0 0,.slice none 0 0,.int .i64 0] 35)).below hb3).get6
  obtain ⟨d0,d1,_,_⟩:=(show BoxL w3 (w.heap.size+1) [.string ⟨#[]⟩,.slice none 0 0,.slice none 0 0,.slice none 0 0,.slice none 0 0,.int .i64 0] by
   have:=BoxL.new (w.alloc (.cells #[.string ⟨#[]⟩,.slice none 0 0,.slice none 0 0,.slice none 0 0,.slice none 0 0,.int .i64 0] 35)) [.string ⟨#[]⟩,.slice none 0 0,.slice none 0 0,.slice none 0 0,.slice none 0 0,.int .i64 0] 35
   rw [show (w.alloc (.cells #[.string ⟨#[]⟩,.slice none 0 0,.slice none 0 0,.slice none 0 0,.slice none 0 0,.int .i64 0] 35)).heap.size=w.heap.size+1 by simp] at this
   exact this.below hb3).get6
  clear hb3
  go_wp2_with fail
  refine bodyPost_ret (v:=.tuple #[.agg #[.string ⟨#[]⟩,.slice none 0 0,.slice none 0 0,.slice none 0 0,.slice none 0 0,.int .i64 0],.int .i64 (p:Int),.int .i64 e]) (by simp [results,Tryz.results29,go_sem,c0,c1,c2,c3,c4,c5]) rfl ?_
  exact ⟨#[.string ⟨#[]⟩,.slice none 0 0,.slice none 0 0,.slice none 0 0,.slice none 0 0,.int .i64 0],p,e,rfl,(((((HB3.out.setCell (Nat.le_refl _) _).setCell (Nat.le_refl _) _).setCell (Nat.le_refl _) _).setCell (Nat.le_refl _) _).setCell (Nat.le_refl _) _).setCell (Nat.le_refl _) _,.inr ⟨HE.out,rfl,whole_err HW.out HE.out⟩⟩
end Go.Proofs.YtaojnljppcnhjaaGreatDoor
