/-
  SwEx.
  SwLeq.
  SwExW.
 SwExample.
 SnAll.
-/
import Derived.Test.YtnghanpmmbcbbaaGreatDoorMq21
import Derived.Test.YtnghanpmmbcbbaaGreatDoorMq11
import Derived.Test.YtnghanpmmbcbbaaGreatDoorMq8
import Derived.Test.YtnghanpmmbcbbaaGreatDoorMq20
import Derived.Test.YtnghanpmmbcbbaaGreatDoorMq4
namespace Go.Proofs.YtnghanpmmbcbbaaGreatDoor
open Go.RowKit
def ev (n:Int):Tm:=.mk 1 n ⟨#[]⟩ none 0 []
def eleq (x y:Int):Am:=⟨⟨#[108,101,113]⟩,none,0,[ev x,ev y]⟩
def egoal (x y:Int):Gl:=⟨3,⟨#[]⟩,none,0,[ev x,ev y]⟩
def exR:Rl:=⟨⟨#[]⟩,none,0,[],none,0,[eleq 3 4,eleq 4 3],none,0,[],none,0,[egoal 3 4],0⟩
def exN:Rl:=⟨⟨#[]⟩,none,0,[],none,0,[eleq 0 1,eleq 1 0],none,0,[],none,0,[egoal 0 1],2⟩
theorem ex_num:exR.numR=exN:=by rfl
theorem lab0:label 0=[86,48]:=by unfold label;rw [Lib.decDigits_one (by decide)];rfl
theorem lab1:label 1=[86,49]:=by unfold label;rw [Lib.decDigits_one (by decide)];rfl
theorem lab3:label 3=[86,51]:=by unfold label;rw [Lib.decDigits_one (by decide)];rfl
theorem lab4:label 4=[86,52]:=by unfold label;rw [Lib.decDigits_one (by decide)];rfl
theorem ex_good:exN.Good:=⟨by decide,by decide,by decide,by decide,by decide,by decide,by decide,by decide,.inl rfl,by decide⟩
theorem ev_txt (n:Int):(ev n).txt plain=label n.toNat:=by
 unfold ev
 rw [Tm.txt]
 simp
theorem leq_tx {x y:Int} (h:(eleq x y).ok=true):(eleq x y).tx=[108,101,113,40]++(label x.toNat++([44,32]++(label y.toNat++[41]))):=by
 unfold Am.tx atomT
 rw [if_pos (show atomB (eleq x y).name.data.toList (eleq x y).args=true from h)]
 show callT plain [108,101,113] (txtL plain [ev x,ev y])=_
 simp only [txtL,ev_txt,callT,restT]
 simp [Sty.lp,Sty.rp,Sty.cm,plain,sp]
theorem goal_tx {x y:Int} (h:(egoal x y).ok=true):(egoal x y).tx=label x.toNat++([32,61,32]++label y.toNat):=by
 unfold Gl.tx goalT
 rw [if_pos (show goalB (egoal x y).op (egoal x y).name (egoal x y).args=true from h)]
 unfold goalW
 show topT [61] ((txtL plain [ev x,ev y]).getD 0 []) ((txtL plain [ev x,ev y]).getD 1 [])=_
 simp only [txtL,ev_txt,topT]
 rfl
def exT:List UInt8:=[108,101,113,40,86,48,44,32,86,49,41,44,32,108,101,113,40,86,49,44,32,86,48,41,32,60,61,62,32,86,48,32,61,32,86,49,46]
theorem ex_txt:exN.txt=exT:=by
 unfold Rl.txt Rl.labT Rl.headT Rl.bodT
 show (if (0:Nat)=0 then _ else _)++((if (2:Nat)=0 then _ else if (0:Nat)=0 then _ else _)++((if (0:Nat)=0 then _ else _)++((if (1:Nat)=0 then _ else _)++[46])))=_
 rw [if_pos rfl,if_neg (by decide),if_pos rfl,if_pos rfl,if_neg (by decide)]
 have e1:txtAm exN.remove=(eleq 0 1).tx++[44,32]++(eleq 1 0).tx:=rfl
 have e2:txtAm exN.keep=[]:=rfl
 have e3:txtGl exN.body=(egoal 0 1).tx:=rfl
 rw [e1,e2,e3,leq_tx (by decide),leq_tx (by decide),goal_tx (by decide)]
 show _=exT
 rw [show ((0:Int)).toNat=0 from rfl,show ((1:Int)).toNat=1 from rfl,lab0,lab1]
 rfl
theorem ex_src:exR.numR.src=exT:=by
 rw [ex_num,src_good ex_good,ex_txt]
 rfl
def exT2:List UInt8:=[86,51,32,61,32,86,52]
theorem ex_goals:goalsSrc [egoal 3 4]=exT2:=by
 unfold goalsSrc
 rw [if_pos ⟨by decide,by decide⟩]
 have e:txtGl [egoal 3 4]=(egoal 3 4).tx:=rfl
 rw [e,goal_tx (by decide),show ((3:Int)).toNat=3 from rfl,show ((4:Int)).toNat=4 from rfl,lab3,lab4]
 rfl
def exD:Dc:=⟨⟨#[108,101,113]⟩,2⟩
def exP (dA rA:Option Addr) (dc rc:Nat) (r:Rl):Pm:=⟨dA,dc,[exD],rA,rc,[r]⟩
def exT3:List UInt8:=[99,111,110,115,116,114,97,105,110,116,32,108,101,113,47,50,46,10]++exT++[10]
theorem ex_program {dA rA:Option Addr} {dc rc:Nat} {r:Rl} (h:r.numR.src=exT):(exP dA rA dc rc r).src=exT3:=by
 have hg:(exP dA rA dc rc r).Good:=⟨show 1≤30 by decide,show 1≤40 by decide,show [exD].all Dc.ok=true by decide,fun x hx=>by
  obtain rfl:x=r:=by simpa [exP] using hx
  rw [h];decide⟩
 have e:(exP dA rA dc rc r).src=limT (dlineT [exD]++linesR [r]):=if_pos hg
 have e1:exD.tx=[108,101,113,47,50]:=by
  unfold Dc.tx Lib.itoa
  show [108,101,113]++[47]++(if (2:Int) < 0 then _ else Lib.decDigits ((2:Int)).toNat)=_
  rw [if_neg (by decide),show ((2:Int)).toNat=2 from rfl,Lib.decDigits_one (by decide)]
  rfl
 have e2:dlineT [exD]=[99,111,110,115,116,114,97,105,110,116,32]++exD.tx++[46,10]:=rfl
 have e3:linesR [r]=exT++[10]:=by unfold linesR;simp [h]
 rw [e,e2,e1,e3]
 rfl
def exE:Rl:=⟨⟨#[]⟩,none,0,[],none,0,[],none,0,[],none,0,[],0⟩
theorem ex_empty:exE.numR.src=[]:=src_bad fun g=>g.some rfl
end Go.Proofs.YtnghanpmmbcbbaaGreatDoor
namespace Go.Proofs.YtnghanpmmbcbbaaGreatDoor
open Go.RowKit
theorem rr_strip2 (g:Int→Int):(∀t:Tm,(t.strip.rr g).strip=(t.rr g).strip)∧(∀l,stripL (rrL (stripL l) g)=stripL (rrL l g)):=by
 refine Tm.induct2 (fun k n s A c a ih=>?_) rfl (fun t r h1 h2=>?_)
 ·by_cases k2:k=2
  ·subst k2;simp only [Tm.strip,Tm.rr,if_pos,ih]
  ·simp only [Tm.strip,Tm.rr,if_neg k2,strip_strip.2]
 ·simp only [stripL,rrL,h1,h2]
theorem am_key_rr {x y:Am} (g:Int→Int) (h:x.key=y.key):(x.rr g).key=(y.rr g).key:=by
 obtain ⟨h1,h2⟩:=Prod.ext_iff.1 h
 refine Prod.ext h1 ?_
 show stripL (rrL x.args g)=stripL (rrL y.args g)
 rw [←(rr_strip2 g).2,show stripL x.args=stripL y.args from h2,(rr_strip2 g).2]
theorem gl_key_rr {x y:Gl} (g:Int→Int) (h:x.key=y.key):(x.rr g).key=(y.rr g).key:=by
 obtain ⟨h1,h2⟩:=Prod.ext_iff.1 h
 refine Prod.ext h1 ?_
 show stripL (rrL x.args g)=stripL (rrL y.args g)
 rw [←(rr_strip2 g).2,show stripL x.args=stripL y.args from h2,(rr_strip2 g).2]
theorem Rl.Twin.num {u v:Rl} (h:u.Twin v) (hv:u.vars=v.vars):u.numR.Twin v.numR:=by
 have e:u.vs=v.vs:=(h.can hv).vs
 refine ⟨h.name,?_,?_,?_,?_⟩
 ·show (u.keep.map _).map _=(v.keep.map _).map _
  rw [e,List.map_map,List.map_map];exact keys_map (fun _ _ e=>am_key_rr _ e) h.keep
 ·show (u.remove.map _).map _=(v.remove.map _).map _
  rw [e,List.map_map,List.map_map];exact keys_map (fun _ _ e=>am_key_rr _ e) h.remove
 ·show (u.guard.map _).map _=(v.guard.map _).map _
  rw [e,List.map_map,List.map_map];exact keys_map (fun _ _ e=>gl_key_rr _ e) h.guard
 ·show (u.body.map _).map _=(v.body.map _).map _
  rw [e,List.map_map,List.map_map];exact keys_map (fun _ _ e=>gl_key_rr _ e) h.body
theorem ev_at (n:Int) (hn:Fits n) (W:World):(ev n).At W:=(At_iff _ _).2 ⟨⟨by show Fits 1;unfold Fits;omega,hn,Nat.zero_le _⟩,Lst.nil W⟩
theorem two_row (x y:Int) (hx:Fits x) (hy:Fits y) (w:World):RowAt (w.alloc (.cells #[.int .i64 1,.int .i64 x,.string ⟨#[]⟩,.slice none 0 0,.int .i64 1,.int .i64 y,.string ⟨#[]⟩,.slice none 0 0] 69)) [ev x,ev y] w.heap.size 0:=by
 have hb:=heldL_new w [.int .i64 1,.int .i64 x,.string ⟨#[]⟩,.slice none 0 0,.int .i64 1,.int .i64 y,.string ⟨#[]⟩,.slice none 0 0] 69
 refine RowAt.of fun i hi=>⟨fun j u hu=>?_,?_⟩
 ·have hj:j < 4:=by have:=(List.getElem?_eq_some_iff.1 hu).1;simpa [Tm.cells] using this
  have h2:i=0∨i=1:=by simp at hi;omega
  rcases h2 with rfl|rfl
  ·have:=hb.cell j u (by
    rw [←hu]
    have h4:j=0∨j=1∨j=2∨j=3:=by omega
    rcases h4 with rfl|rfl|rfl|rfl<;>rfl)
   simpa using this
  ·have:=hb.cell (4+j) u (by
    rw [←hu]
    have h4:j=0∨j=1∨j=2∨j=3:=by omega
    rcases h4 with rfl|rfl|rfl|rfl<;>rfl)
   simpa using this
 ·have h2:i=0∨i=1:=by simp at hi;omega
  rcases h2 with rfl|rfl
  ·exact ev_at x hx _
  ·exact ev_at y hy _
set_option maxHeartbeats 2000000 in
theorem leq_at (x y:Int) (hx:Fits x) (hy:Fits y) (w:World) :
  Calls Tryz.prog 31 #[.int .i64 x,.int .i64 y] w fun e w'=>∃g,e=.returned (.agg #[.string ⟨#[108,101,113]⟩,.slice (some ⟨g,0,none⟩) 2 2])∧RowAt w' [ev x,ev y] g 0∧Below w.heap.size w w':=by
 obtain ⟨X,hX⟩:∃X,w.alloc (.cells #[.string ⟨#[]⟩,.slice none 0 0] 66)=X:=⟨_,rfl⟩
 have H0:=Lib.hid (show HeldL w.heap.size X [.string ⟨#[]⟩,.slice none 0 0] from by rw [←hX];exact heldL_new _ _ _)
 have HX:=Lib.hid (show Ext w X from by rw [←hX];exact below1 _ _)
 have VV:=Lib.hid (fun n W=>ref_var_at3 n W)
 go_enter Tryz.func31,Tryz.ntmps31
 go_upto_region 1 with (fail)
 (try rw [hX])
 clear hX
 go_wp2_with fail
 refine (VV.out x X).mono ?_
 rintro e w1 ⟨rfl,h1⟩
 have E1:=Lib.hid (show Ext X w1 from h1)
 clear h1
 go_wp2_with fail
 refine (VV.out y w1).mono ?_
 rintro e w2 ⟨rfl,h2⟩
 have E2:=Lib.hid (show Ext X w2 from Ext.trans E1.out h2)
 clear h2
 have HR:=Lib.hid (two_row x y hx hy w2)
 have HB:=Lib.hid ((H0.out.below E2.out).below (below1 w2 (.cells #[.int .i64 1,.int .i64 x,.string ⟨#[]⟩,.slice none 0 0,.int .i64 1,.int .i64 y,.string ⟨#[]⟩,.slice none 0 0] 69)))
 have HE:=Lib.hid (show Ext w (w2.alloc (.cells #[.int .i64 1,.int .i64 x,.string ⟨#[]⟩,.slice none 0 0,.int .i64 1,.int .i64 y,.string ⟨#[]⟩,.slice none 0 0] 69)) from Ext.trans (Ext.trans HX.out E2.out) (Ext.al _ _))
 have hlt:w.heap.size < w2.heap.size:=(H0.out.below E2.out).lt
 have b0:=(H0.out.below E2.out).cell 0 _ rfl
 have b1:=(H0.out.below E2.out).cell 1 _ rfl
 have f0:=(H0.out.below E2.out).free 0
 have f1:=(H0.out.below E2.out).free 1
 go_wp2_with fail
 obtain ⟨W,hW⟩:∃W,((w2.setCell ⟨w.heap.size,0,none⟩ (.string ⟨#[108,101,113]⟩)).setCell ⟨w.heap.size,1,none⟩ (.slice (some ⟨w2.heap.size,0,none⟩) 2 2)).alloc (.cells #[.int .i64 1,.int .i64 x,.string ⟨#[]⟩,.slice none 0 0,.int .i64 1,.int .i64 y,.string ⟨#[]⟩,.slice none 0 0] 69)=W:=⟨_,rfl⟩
 have HW:=Lib.hid (show HeldL w.heap.size W [.string ⟨#[108,101,113]⟩,.slice (some ⟨w2.heap.size,0,none⟩) 2 2] from by rw [←hW];exact (((H0.out.below E2.out).set (j:=0) (by simp) _).set (j:=1) (by simp) _).below (below1 _ _))
 have hs:((w2.setCell ⟨w.heap.size,0,none⟩ (.string ⟨#[108,101,113]⟩)).setCell ⟨w.heap.size,1,none⟩ (.slice (some ⟨w2.heap.size,0,none⟩) 2 2)).heap.size=w2.heap.size:=by simp [World.setCell]
 have hr:RowAt W [ev x,ev y] w2.heap.size 0:=by
  rw [←hW]
  have h:=two_row x y hx hy ((w2.setCell ⟨w.heap.size,0,none⟩ (.string ⟨#[108,101,113]⟩)).setCell ⟨w.heap.size,1,none⟩ (.slice (some ⟨w2.heap.size,0,none⟩) 2 2))
  rw [hs] at h
  exact h
 have hb:Below w.heap.size w W:=by
  rw [←hW]
  exact (((Ext.trans HX.out E2.out:Below w.heap.size w w2).setCell (p:=⟨w.heap.size,0,none⟩) (Nat.le_refl _) _).setCell (p:=⟨w.heap.size,1,none⟩) (Nat.le_refl _) _).alloc (by simp [World.setCell];omega) _
 rw [hW]
 have q0:=HW.out.cell 0 _ rfl
 have q1:=HW.out.cell 1 _ rfl
 refine bodyPost_ret (v:=.agg #[.string ⟨#[108,101,113]⟩,.slice (some ⟨w2.heap.size,0,none⟩) 2 2]) (by simp [results,Tryz.results31,go_sem,q0,q1]) rfl ?_
 exact ⟨w2.heap.size,rfl,hr,hb⟩
end Go.Proofs.YtnghanpmmbcbbaaGreatDoor
namespace Go.Proofs.YtnghanpmmbcbbaaGreatDoor
open Go.RowKit
theorem goalsSrc_key {l m:List Gl} (h:l.map Gl.key=m.map Gl.key):goalsSrc l=goalsSrc m:=by
 unfold goalsSrc
 rw [allGl_key h,txtGl_key h,map_len h]
def r0 (b1 g1 g2 b2 b3:Nat):Rl:=⟨⟨#[]⟩,none,0,[],some ⟨b1,0,none⟩,2,[⟨⟨#[108,101,113]⟩,some ⟨g1,0,none⟩,2,[ev 3,ev 4]⟩,⟨⟨#[108,101,113]⟩,some ⟨g2,0,none⟩,2,[ev 4,ev 3]⟩],none,0,[],some ⟨b3,0,none⟩,1,[⟨3,⟨#[]⟩,some ⟨b2,0,none⟩,2,[ev 3,ev 4]⟩],0⟩
theorem r0_twin (b1 g1 g2 b2 b3:Nat):(r0 b1 g1 g2 b2 b3).Twin exR:=⟨rfl,rfl,rfl,rfl,rfl⟩
theorem r0_src (b1 g1 g2 b2 b3:Nat):(r0 b1 g1 g2 b2 b3).numR.src=exT:=by rw [((r0_twin b1 g1 g2 b2 b3).num rfl).src,ex_src]
theorem r0_tiny (b1 g1 g2 b2 b3:Nat):(r0 b1 g1 g2 b2 b3).Tiny:=by
 refine ⟨Nat.le_of_ble_eq_true rfl,fun x hx=>?_,Nat.le_of_ble_eq_true rfl,fun x hx=>?_,Nat.le_of_ble_eq_true rfl,fun x hx=>?_,Nat.le_of_ble_eq_true rfl,fun x hx=>?_⟩
 ·cases hx
 ·have h:x∈[(⟨⟨#[108,101,113]⟩,some ⟨g1,0,none⟩,2,[ev 3,ev 4]⟩:Am),⟨⟨#[108,101,113]⟩,some ⟨g2,0,none⟩,2,[ev 4,ev 3]⟩]:=hx
  simp only [List.mem_cons,List.not_mem_nil,or_false] at h
  rcases h with rfl|rfl<;>exact Nat.le_of_ble_eq_true rfl
 ·cases hx
 ·have h:x∈[(⟨3,⟨#[]⟩,some ⟨b2,0,none⟩,2,[ev 3,ev 4]⟩:Gl)]:=hx
  simp only [List.mem_cons,List.not_mem_nil,or_false] at h
  subst h
  exact Nat.le_of_ble_eq_true rfl
theorem exE_tiny:exE.Tiny:=by
 refine ⟨Nat.zero_le _,fun x hx=>?_,Nat.zero_le _,fun x hx=>?_,Nat.zero_le _,fun x hx=>?_,Nat.zero_le _,fun x hx=>?_⟩<;>cases hx
theorem exE_at (w:World):exE.At w:=⟨Nat.zero_le _,AmLst.nil w,AmLst.nil w,GlLst.nil w,GlLst.nil w,by show Fits 0;unfold Fits;omega⟩
theorem two_lst {w:World} {g:Nat} {x y:Int} (h:RowAt w [ev x,ev y] g 0):Lst w (some ⟨g,0,none⟩) [ev x,ev y] 2:=⟨Nat.le_refl _,by unfold maxLen;show 2≤_;omega,fun _=>⟨g,0,rfl,h⟩⟩
theorem r0_at {w:World} {b1 g1 g2 b2 b3:Nat} (h1:RowAt w [ev 3,ev 4] g1 0) (h2:RowAt w [ev 4,ev 3] g2 0) (h3:RowAt w [ev 3,ev 4] b2 0) (hA:∀j u,([.string ⟨#[108,101,113]⟩,.slice (some ⟨g1,0,none⟩) 2 2,.string ⟨#[108,101,113]⟩,.slice (some ⟨g2,0,none⟩) 2 2]:List Value)[j]?=some u→w.cell? ⟨b1,j,none⟩=some u) (hG:∀j u,([.int .i64 3,.string ⟨#[]⟩,.slice (some ⟨b2,0,none⟩) 2 2]:List Value)[j]?=some u→w.cell? ⟨b3,j,none⟩=some u):(r0 b1 g1 g2 b2 b3).At w:=by
 refine ⟨Nat.zero_le _,AmLst.nil w,⟨Nat.le_refl _,by unfold maxLen;show 2≤_;omega,fun _=>⟨b1,0,rfl,fun i hi=>?_⟩⟩,GlLst.nil w,⟨Nat.le_refl _,by unfold maxLen;show 1≤_;omega,fun _=>⟨b3,0,rfl,fun i hi=>?_⟩⟩,by show Fits 0;unfold Fits;omega⟩
 ·have h5:i=0∨i=1:=by have:i < 2:=hi;omega
  rcases h5 with rfl|rfl
  ·refine ⟨fun j u hu=>?_,Nat.le_of_ble_eq_true rfl,two_lst h1⟩
   have hj:=Am.cells_lt hu
   have h6:j=0∨j=1:=by omega
   rcases h6 with rfl|rfl
   ·exact hA 0 u hu
   ·exact hA 1 u hu
  ·refine ⟨fun j u hu=>?_,Nat.le_of_ble_eq_true rfl,two_lst h2⟩
   have hj:=Am.cells_lt hu
   have h6:j=0∨j=1:=by omega
   rcases h6 with rfl|rfl
   ·exact hA 2 u hu
   ·exact hA 3 u hu
 ·obtain rfl:i=0:=by have:i < 1:=hi;omega
  refine ⟨fun j u hu=>?_,by show Fits 3;unfold Fits;omega,Nat.zero_le _,two_lst h3⟩
  have hj:=Gl.cells_lt hu
  have h6:j=0∨j=1∨j=2:=by omega
  rcases h6 with rfl|rfl|rfl
  ·exact hG 0 u hu
  ·exact hG 1 u hu
  ·exact hG 2 u hu
end Go.Proofs.YtnghanpmmbcbbaaGreatDoor
namespace Go.Proofs.YtnghanpmmbcbbaaGreatDoor
open Go.RowKit
set_option maxHeartbeats 16000000 in
set_option maxRecDepth 100000 in
theorem example_at (HR:∀(r:Rl) (W:World),r.At W→r.Tiny→r.name.size≤2500→Laid W→Calls Tryz.prog 10 #[r.val] W fun e w'=>e=.returned (.string (S r.numR.src))∧Below W.heap.size W w') (HN:∀(r:Rl) (w0 W:World),r.At w0→Below w0.heap.size w0 W→r.Tiny→r.name.size≤2500→Calls Tryz.prog 13 #[r.val] W (NumP w0 r W)) (HP:∀(p:Pm) (W:World),p.At W→p.decls.length≤60→p.rules.length≤45→(∀r∈p.rules,r.Tiny∧r.name.size≤2500)→Laid W→Calls Tryz.prog 16 #[p.val] W fun e w'=>e=.returned (.string (S p.src))∧Below W.heap.size W w') (HG:∀(l:List Gl) (A:Option Addr) (c:Nat) (W:World),GlLst W A l c→l.length≤60→(∀x∈l,nodesL x.args≤600)→Laid W→Calls Tryz.prog 18 #[.slice A l.length c] W fun e w'=>e=.returned (.string (S (goalsSrc l)))∧Below W.heap.size W w') (w:World) (hL:Laid w) :
  Calls Tryz.prog 9 #[] w fun e w'=>e=.returned (.bool true)∧Below w.heap.size w w':=by
 have F3:Fits 3:=by unfold Fits;omega
 have F4:Fits 4:=by unfold Fits;omega
 have VV:=Lib.hid (fun n W=>ref_var_at3 n W)
 have LQ:=Lib.hid (fun x y hx hy W=>leq_at x y hx hy W)
 have HLd:=Lib.hid (fun W (h:Ext w W)=>show Laid W from hL.below h)
 clear hL
 go_enter Tryz.func9,Tryz.ntmps9
 go_upto_region 2 with (first
  | (go_at_call 31;(with_reducible refine (LQ.out 3 4 F3 F4 w).mono ?_);rintro e w1 ⟨g1,rfl,h1,hb⟩;have R1:=Lib.hid h1;have E1:=Lib.hid (show Ext w w1 from hb);clear h1 hb)
  | (go_at_call 31;(with_reducible refine (LQ.out 4 3 F4 F3 w1).mono ?_);rintro e w2 ⟨g2,rfl,h1,hb⟩;have R2:=Lib.hid h1;have B2:=Lib.hid (show Ext w1 w2 from hb);have E2:=Lib.hid (show Ext w w2 from Ext.trans E1.out hb);clear h1 hb)
  | (go_at_call 32;(with_reducible refine (VV.out 3 _).mono ?_);rintro e w3 ⟨rfl,hb⟩;have B3:=Lib.hid (show Ext (w2.alloc (.cells #[.string ⟨#[108,101,113]⟩,.slice (some ⟨g1,0,none⟩) 2 2,.string ⟨#[108,101,113]⟩,.slice (some ⟨g2,0,none⟩) 2 2] 66)) w3 from hb);clear hb)
  | (go_at_call 32;(with_reducible refine (VV.out 4 w3).mono ?_);rintro e w4 ⟨rfl,hb⟩;have B4:=Lib.hid (show Ext w3 w4 from hb);clear hb)
  | fail)
 obtain ⟨V,hV⟩:∃V,(((w4.alloc (.cells #[.int .i64 1,.int .i64 3,.string ⟨#[]⟩,.slice none 0 0,.int .i64 1,.int .i64 4,.string ⟨#[]⟩,.slice none 0 0] 69)).alloc (.cells #[.int .i64 3,.string ⟨#[]⟩,.slice (some ⟨w4.heap.size,0,none⟩) 2 2] 59)).alloc (.cells #[.string ⟨#[]⟩,.slice none 0 0,.slice (some ⟨w2.heap.size,0,none⟩) 2 2,.slice none 0 0,.slice (some ⟨w4.heap.size+1,0,none⟩) 1 1,.int .i64 0] 25))=V:=⟨_,rfl⟩
 have C1:=Lib.hid (show HeldL w2.heap.size V [.string ⟨#[108,101,113]⟩,.slice (some ⟨g1,0,none⟩) 2 2,.string ⟨#[108,101,113]⟩,.slice (some ⟨g2,0,none⟩) 2 2] from by rw [←hV];exact ((((heldL_new w2 [.string ⟨#[108,101,113]⟩,.slice (some ⟨g1,0,none⟩) 2 2,.string ⟨#[108,101,113]⟩,.slice (some ⟨g2,0,none⟩) 2 2] 66).below (Ext.trans B3.out B4.out)).below (below1 _ _)).below (below1 _ _)).below (below1 _ _))
 have C2:=Lib.hid (show RowAt V [ev 3,ev 4] w4.heap.size 0 from by rw [←hV];exact (At_keep (below1 _ _)).2 _ _ _ ((At_keep (below1 _ _)).2 _ _ _ (two_row 3 4 F3 F4 w4)))
 have C3:=Lib.hid (show HeldL (w4.heap.size+1) V [.int .i64 3,.string ⟨#[]⟩,.slice (some ⟨w4.heap.size,0,none⟩) 2 2] from by
  rw [←hV]
  have h:=heldL_new (w4.alloc (.cells #[.int .i64 1,.int .i64 3,.string ⟨#[]⟩,.slice none 0 0,.int .i64 1,.int .i64 4,.string ⟨#[]⟩,.slice none 0 0] 69)) [.int .i64 3,.string ⟨#[]⟩,.slice (some ⟨w4.heap.size,0,none⟩) 2 2] 59
  rw [World.size_alloc] at h
  exact h.below (below1 _ _))
 have C4:=Lib.hid (show HeldL (w4.heap.size+2) V [.string ⟨#[]⟩,.slice none 0 0,.slice (some ⟨w2.heap.size,0,none⟩) 2 2,.slice none 0 0,.slice (some ⟨w4.heap.size+1,0,none⟩) 1 1,.int .i64 0] from by
  rw [←hV]
  have h:=heldL_new ((w4.alloc (.cells #[.int .i64 1,.int .i64 3,.string ⟨#[]⟩,.slice none 0 0,.int .i64 1,.int .i64 4,.string ⟨#[]⟩,.slice none 0 0] 69)).alloc (.cells #[.int .i64 3,.string ⟨#[]⟩,.slice (some ⟨w4.heap.size,0,none⟩) 2 2] 59)) [.string ⟨#[]⟩,.slice none 0 0,.slice (some ⟨w2.heap.size,0,none⟩) 2 2,.slice none 0 0,.slice (some ⟨w4.heap.size+1,0,none⟩) 1 1,.int .i64 0] 25
  rw [World.size_alloc,World.size_alloc] at h
  exact h)
 have EV4:=Lib.hid (show Ext w4 V from by rw [←hV];exact Ext.trans (Ext.trans (Ext.al _ _) (Ext.al _ _)) (Ext.al _ _))
 rw [hV]
 clear hV
 have E24:=Lib.hid (show Ext w2 w4 from Ext.trans (Ext.al _ _) (Ext.trans B3.out B4.out))
 have EV:=Lib.hid (show Ext w V from Ext.trans E2.out (Ext.trans E24.out EV4.out))
 have HAt:=Lib.hid (fun W (h:Ext V W)=>show (r0 w2.heap.size g1 g2 w4.heap.size (w4.heap.size+1)).At W from (r0_at ((At_keep (Ext.trans B2.out (Ext.trans E24.out EV4.out))).2 _ _ _ R1.out) ((At_keep (Ext.trans E24.out EV4.out)).2 _ _ _ R2.out) C2.out (fun j u hu=>C1.out.cell j u hu) (fun j u hu=>C3.out.cell j u hu)).below h)
 have QN:=Lib.hid (show Calls Tryz.prog 13 #[.agg #[.string ⟨#[]⟩,.slice none 0 0,.slice (some ⟨w2.heap.size,0,none⟩) 2 2,.slice none 0 0,.slice (some ⟨w4.heap.size+1,0,none⟩) 1 1,.int .i64 0]] V (NumP V (r0 w2.heap.size g1 g2 w4.heap.size (w4.heap.size+1)) V) from HN (r0 w2.heap.size g1 g2 w4.heap.size (w4.heap.size+1)) V V (HAt.out V (Ext.refl V)) (Below.refl _ _) (r0_tiny _ _ _ _ _) (Nat.zero_le _))
 have QRl:=Lib.hid (fun W (h:Ext V W)=>show Calls Tryz.prog 10 #[.agg #[.string ⟨#[]⟩,.slice none 0 0,.slice (some ⟨w2.heap.size,0,none⟩) 2 2,.slice none 0 0,.slice (some ⟨w4.heap.size+1,0,none⟩) 1 1,.int .i64 0]] W (fun e w'=>e=.returned (.string ⟨#[108,101,113,40,86,48,44,32,86,49,41,44,32,108,101,113,40,86,49,44,32,86,48,41,32,60,61,62,32,86,48,32,61,32,86,49,46]⟩)∧Below W.heap.size W w') from by
  have h1:=HR (r0 w2.heap.size g1 g2 w4.heap.size (w4.heap.size+1)) W (HAt.out W h) (r0_tiny _ _ _ _ _) (Nat.zero_le _) (HLd.out W (Ext.trans EV.out h))
  rw [r0_src] at h1
  exact h1)
 have QGo:=Lib.hid (fun W (h:Ext V W)=>show Calls Tryz.prog 18 #[.slice (some ⟨w4.heap.size+1,0,none⟩) 1 1] W (fun e w'=>e=.returned (.string ⟨#[86,51,32,61,32,86,52]⟩)∧Below W.heap.size W w') from by
  have h1:=HG [⟨3,⟨#[]⟩,some ⟨w4.heap.size,0,none⟩,2,[ev 3,ev 4]⟩] (some ⟨w4.heap.size+1,0,none⟩) 1 W (HAt.out W h).body (by show 1≤60;omega) (fun x hx=>by
   simp only [List.mem_cons,List.not_mem_nil,or_false] at hx
   subst hx
   exact Nat.le_of_ble_eq_true rfl) (HLd.out W (Ext.trans EV.out h))
  have e:=goalsSrc_key (l:=[⟨3,⟨#[]⟩,some ⟨w4.heap.size,0,none⟩,2,[ev 3,ev 4]⟩]) (m:=[egoal 3 4]) rfl
  rw [e,ex_goals] at h1
  exact h1)
 have QEm:=Lib.hid (fun W (h:Ext V W)=>show Calls Tryz.prog 10 #[.agg #[.string ⟨#[]⟩,.slice none 0 0,.slice none 0 0,.slice none 0 0,.slice none 0 0,.int .i64 0]] W (fun e w'=>e=.returned (.string ⟨#[]⟩)∧Below W.heap.size W w') from by
  have h1:=HR exE W (exE_at W) exE_tiny (Nat.zero_le _) (HLd.out W (Ext.trans EV.out h))
  rw [ex_empty] at h1
  exact h1)
 have p0:=C4.out.cell 0 _ rfl
 have p1:=C4.out.cell 1 _ rfl
 have p2:=C4.out.cell 2 _ rfl
 have p3:=C4.out.cell 3 _ rfl
 have p4:=C4.out.cell 4 _ rfl
 have p5:=C4.out.cell 5 _ rfl
 go_upto_region 3 with (go_at_call 13;(with_reducible refine QN.out.mono ?_);rintro e y1 ⟨u,rfl,hu,htu,hat,hb⟩;have HU:=Lib.hid hu;have Y1:=Lib.hid (show Ext V y1 from hb);clear hu htu hat hb)
 clear p0 p1 p2 p3 p4 p5 QN
 obtain ⟨Y,hY⟩:∃Y,y1.alloc (.cells #[.string u.name,.slice u.kA u.keep.length u.kc,.slice u.rA u.remove.length u.rc,.slice u.gA u.guard.length u.gc,.slice u.bA u.body.length u.bc,.int .i64 u.vars] 25)=Y:=⟨_,rfl⟩
 have K2:=Lib.hid (show HeldL y1.heap.size Y [.string u.name,.slice u.kA u.keep.length u.kc,.slice u.rA u.remove.length u.rc,.slice u.gA u.guard.length u.gc,.slice u.bA u.body.length u.bc,.int .i64 u.vars] from by rw [←hY];exact heldL_new _ _ _)
 have VY:=Lib.hid (show Ext V Y from by rw [←hY];exact Ext.trans Y1.out (Ext.al _ _))
 rw [hY]
 clear hY
 have p0:=(C4.out.below VY.out).cell 0 _ rfl
 have p1:=(C4.out.below VY.out).cell 1 _ rfl
 have p2:=(C4.out.below VY.out).cell 2 _ rfl
 have p3:=(C4.out.below VY.out).cell 3 _ rfl
 have p4:=(C4.out.below VY.out).cell 4 _ rfl
 have p5:=(C4.out.below VY.out).cell 5 _ rfl
 have hz4:=(C4.out.below VY.out).lt
 go_upto_region 4 with (fail)
 clear p0 p1 p2 p3 p4 p5
 obtain ⟨Z,hZ⟩:∃Z,((Y.alloc (.cells #[.string ⟨#[108,101,113]⟩,.int .i64 2] 38)).alloc (.cells #[.string ⟨#[]⟩,.slice none 0 0,.slice (some ⟨w2.heap.size,0,none⟩) 2 2,.slice none 0 0,.slice (some ⟨w4.heap.size+1,0,none⟩) 1 1,.int .i64 0] 25)).alloc (.cells #[.slice (some ⟨Y.heap.size,0,none⟩) 1 1,.slice (some ⟨Y.heap.size+1,0,none⟩) 1 1] 35)=Z:=⟨_,rfl⟩
 have K3:=Lib.hid (show HeldL Y.heap.size Z [.string ⟨#[108,101,113]⟩,.int .i64 2] from by rw [←hZ];exact ((heldL_new Y [.string ⟨#[108,101,113]⟩,.int .i64 2] 38).below (below1 _ _)).below (below1 _ _))
 have K4:=Lib.hid (show HeldL (Y.heap.size+1) Z [.string ⟨#[]⟩,.slice none 0 0,.slice (some ⟨w2.heap.size,0,none⟩) 2 2,.slice none 0 0,.slice (some ⟨w4.heap.size+1,0,none⟩) 1 1,.int .i64 0] from by
  rw [←hZ]
  have h:=heldL_new (Y.alloc (.cells #[.string ⟨#[108,101,113]⟩,.int .i64 2] 38)) [.string ⟨#[]⟩,.slice none 0 0,.slice (some ⟨w2.heap.size,0,none⟩) 2 2,.slice none 0 0,.slice (some ⟨w4.heap.size+1,0,none⟩) 1 1,.int .i64 0] 25
  rw [World.size_alloc] at h
  exact h.below (below1 _ _))
 have K5:=Lib.hid (show HeldL (Y.heap.size+2) Z [.slice (some ⟨Y.heap.size,0,none⟩) 1 1,.slice (some ⟨Y.heap.size+1,0,none⟩) 1 1] from by
  rw [←hZ]
  have h:=heldL_new ((Y.alloc (.cells #[.string ⟨#[108,101,113]⟩,.int .i64 2] 38)).alloc (.cells #[.string ⟨#[]⟩,.slice none 0 0,.slice (some ⟨w2.heap.size,0,none⟩) 2 2,.slice none 0 0,.slice (some ⟨w4.heap.size+1,0,none⟩) 1 1,.int .i64 0] 25)) [.slice (some ⟨Y.heap.size,0,none⟩) 1 1,.slice (some ⟨Y.heap.size+1,0,none⟩) 1 1] 35
  rw [World.size_alloc,World.size_alloc] at h
  exact h)
 have YZ:=Lib.hid (show Ext Y Z from by rw [←hZ];exact Ext.trans (Ext.trans (Ext.al _ _) (Ext.al _ _)) (Ext.al _ _))
 rw [hZ]
 clear hZ
 have VZ:=Lib.hid (show Ext V Z from Ext.trans VY.out YZ.out)
 have HPt:=Lib.hid (fun W (h:Ext Z W)=>show (exP (some ⟨Y.heap.size,0,none⟩) (some ⟨Y.heap.size+1,0,none⟩) 1 1 (r0 w2.heap.size g1 g2 w4.heap.size (w4.heap.size+1))).At W from by
  refine ⟨⟨Nat.le_refl _,by unfold maxLen;show 1≤_;omega,fun _=>⟨Y.heap.size,0,rfl,fun i hi=>?_⟩⟩,⟨Nat.le_refl _,by unfold maxLen;show 1≤_;omega,fun _=>⟨Y.heap.size+1,0,rfl,fun i hi=>?_⟩⟩⟩
  ·obtain rfl:i=0:=by have:i < 1:=hi;omega
   refine ⟨fun j u hu=>?_,⟨Nat.le_of_ble_eq_true rfl,by show Fits 2;unfold Fits;omega⟩⟩
   rw [Nat.zero_mul,Nat.add_zero,Nat.zero_add]
   exact (K3.out.below h).cell j u hu
  ·obtain rfl:i=0:=by have:i < 1:=hi;omega
   refine ⟨fun j u hu=>?_,HAt.out W (Ext.trans VZ.out h)⟩
   rw [Nat.zero_mul,Nat.add_zero,Nat.zero_add]
   exact (K4.out.below h).cell j u hu)
 have QPr:=Lib.hid (fun W (h:Ext Z W)=>show Calls Tryz.prog 16 #[.agg #[.slice (some ⟨Y.heap.size,0,none⟩) 1 1,.slice (some ⟨Y.heap.size+1,0,none⟩) 1 1]] W (fun e w'=>e=.returned (.string ⟨#[99,111,110,115,116,114,97,105,110,116,32,108,101,113,47,50,46,10,108,101,113,40,86,48,44,32,86,49,41,44,32,108,101,113,40,86,49,44,32,86,48,41,32,60,61,62,32,86,48,32,61,32,86,49,46,10]⟩)∧Below W.heap.size W w') from by
  have h1:=HP (exP (some ⟨Y.heap.size,0,none⟩) (some ⟨Y.heap.size+1,0,none⟩) 1 1 (r0 w2.heap.size g1 g2 w4.heap.size (w4.heap.size+1))) W (HPt.out W h) (by show 1≤60;omega) (by show 1≤45;omega) (fun x hx=>by
   have hx2:x∈[r0 w2.heap.size g1 g2 w4.heap.size (w4.heap.size+1)]:=hx
   simp only [List.mem_cons,List.not_mem_nil,or_false] at hx2
   subst hx2
   exact ⟨r0_tiny _ _ _ _ _,Nat.zero_le _⟩) (HLd.out W (Ext.trans EV.out (Ext.trans VZ.out h)))
  rw [ex_program (r0_src _ _ _ _ _)] at h1
  exact h1)
 have hv5:u.vars=2:=HU.out.vars.trans rfl
 have hv2:u.remove.length=2:=(map_len HU.out.remove).trans rfl
 have F:=Lib.hid (fun W (h:Ext Z W)=>show W.cell? ⟨y1.heap.size,2,none⟩=some (.slice u.rA 2 u.rc)∧W.cell? ⟨y1.heap.size,5,none⟩=some (.int .i64 2)∧W.cell? ⟨w4.heap.size+2,4,none⟩=some (.slice (some ⟨w4.heap.size+1,0,none⟩) 1 1)∧W.cell? ⟨Y.heap.size+2,0,none⟩=some (.slice (some ⟨Y.heap.size,0,none⟩) 1 1)∧W.cell? ⟨Y.heap.size+2,1,none⟩=some (.slice (some ⟨Y.heap.size+1,0,none⟩) 1 1) from by
  refine ⟨?_,?_,((C4.out.below VZ.out).below h).cell 4 _ rfl,(K5.out.below h).cell 0 _ rfl,(K5.out.below h).cell 1 _ rfl⟩
  ·have:=((K2.out.below YZ.out).below h).cell 2 _ rfl
   rw [hv2] at this
   exact this
  ·have:=((K2.out.below YZ.out).below h).cell 5 _ rfl
   rw [hv5] at this
   exact this)
 have p0:=(C4.out.below VZ.out).cell 0 _ rfl
 have p1:=(C4.out.below VZ.out).cell 1 _ rfl
 have p2:=(C4.out.below VZ.out).cell 2 _ rfl
 have p3:=(C4.out.below VZ.out).cell 3 _ rfl
 have p4:=(C4.out.below VZ.out).cell 4 _ rfl
 have p5:=(C4.out.below VZ.out).cell 5 _ rfl
 clear hz4
 go_wp2_with fail
 refine (QRl.out Z VZ.out).mono ?_
 rintro e z1 ⟨rfl,hb⟩
 have Z1:=Lib.hid (show Ext Z z1 from hb)
 clear hb p0 p1 p2 p3 p4 p5
 obtain ⟨f1,f2,f3,f4,f5⟩:=F.out z1 Z1.out
 go_wp2_with fail
 refine (QPr.out z1 Z1.out).mono ?_
 rintro e z2 ⟨rfl,hb⟩
 have Z2:=Lib.hid (show Ext Z z2 from Ext.trans Z1.out hb)
 clear hb f1 f2 f3 f4 f5
 obtain ⟨f1,f2,f3,f4,f5⟩:=F.out z2 Z2.out
 go_wp2_with fail
 refine (QGo.out z2 (Ext.trans VZ.out Z2.out)).mono ?_
 rintro e z3 ⟨rfl,hb⟩
 have Z3:=Lib.hid (show Ext Z z3 from Ext.trans Z2.out hb)
 clear hb f1 f2 f3 f4 f5
 go_wp2_with fail
 refine (QEm.out z3 (Ext.trans VZ.out Z3.out)).mono ?_
 rintro e z4 ⟨rfl,hb⟩
 have Z4:=Lib.hid (show Ext Z z4 from Ext.trans Z3.out hb)
 clear hb
 go_wp2_with fail
 go_ret
 exact ⟨rfl,Ext.trans EV.out (Ext.trans VZ.out Z4.out)⟩
end Go.Proofs.YtnghanpmmbcbbaaGreatDoor
namespace Go.Proofs.YtnghanpmmbcbbaaGreatDoor
open Go.RowKit
def Dc.val (x:Dc):Value:=.agg #[.string x.name,.int .i64 x.arity]
theorem right_decl_at (x:Dc) (w:World) (h:x.At w) {r:Bool} (hr:x.ok=r) :
  Calls Tryz.prog 49 #[x.val] w fun e w'=>e=.returned (.bool r)∧Below w.heap.size w w':=by
 obtain ⟨s,n⟩:=x
 obtain ⟨q1,h1⟩:∃q,rightB s.data.toList=q:=⟨_,rfl⟩
 obtain ⟨q2,h2⟩:∃q,decide ((0:Int)≤n)=q:=⟨_,rfl⟩
 obtain ⟨q3,h3⟩:∃q,decide (n≤(6:Int))=q:=⟨_,rfl⟩
 have HR:=Lib.hid (show (q1&&(q2&&q3))=r by rw [←hr,Dc.ok,h1,h2,h3])
 have Q:=Lib.hid (fun W=>right_at s W (by have:=h.1;unfold maxLen at this;exact this) h1)
 clear hr h h1
 show Calls Tryz.prog 49 #[.agg #[.string s,.int .i64 n]] w _
 cases q1
 ·go_enter Tryz.func49,Tryz.ntmps49
  go_wp2_with fail
  refine (Q.out _).mono ?_
  rintro e w1 ⟨rfl,rfl⟩
  go_wp2_with fail
  go_ret
  exact ⟨by rw [←HR.out];rfl,below1 _ _⟩
 ·cases q2<;>cases q3 <;>
  ·go_enter Tryz.func49,Tryz.ntmps49
   go_wp2_with fail
   refine (Q.out _).mono ?_
   rintro e w1 ⟨rfl,rfl⟩
   go_wp2_with fail
   go_ret
   exact ⟨by rw [←HR.out];rfl,below1 _ _⟩
theorem dc_bad_at (x:Dc) (P:Nat) (w:World) (h:x.At w) (hc:w.cell? ⟨P,0,none⟩=some (.func (.func 49) #[] #[])) {r:Bool} (hr:x.ok=r) :
  Calls Tryz.prog 85 #[.agg #[.string x.name,.int .i64 x.arity],.pointer (some ⟨P,0,none⟩)] w fun e w'=>e=.returned (.bool (!r))∧Below w.heap.size w w':=by
 have hent:=enters_fn Tryz.func49 (by kernel_rfl) rfl
 have Q:=Lib.hid (fun o=>show Calls Tryz.prog 49 #[.agg #[.string x.name,.int .i64 x.arity]] (w.alloc o) _ from right_decl_at x (w.alloc o) (h.below (below1 w o)) hr)
 have hc2:∀o,(w.alloc o).cell? ⟨P,0,none⟩=some (.func (.func 49) #[] #[]):=fun o=>keepv (below1 w o) hc
 clear h hr
 obtain ⟨s',n'⟩:=x
 go_enter Tryz.func85,Tryz.ntmps85
 go_wp2_with fail
 refine (Q.out _).mono ?_
 rintro e w1 ⟨rfl,hb⟩
 have HB:=Lib.hid ((below1 w _).trans (hb.mono (by simp)))
 clear hb
 go_wp2_with fail
 go_ret
 exact ⟨rfl,HB.out⟩
theorem dc_ok_next {l:List Dc} {j:Nat} (h:j < l.length):(l.take (j+1)).all Dc.ok=((l.take j).all Dc.ok&&(l.getD j default).ok):=by
 rw [dc_take_next h,List.all_append,List.all_cons,List.all_nil,Bool.and_true]
theorem dc_ok_stop {l:List Dc} {k:Nat} (h:k < l.length) (hv:(l.getD k default).ok=false):l.all Dc.ok=false:=by
 cases h2:l.all Dc.ok
 ·rfl
 ·rw [List.all_eq_true.1 h2 _ (dc_getD_mem h)] at hv
  cases hv
set_option maxHeartbeats 2000000 in
theorem dc_index_at (l:List Dc) (A:Option Addr) (c P:Nat) (w:World) (hl:DcLst w A l c) (hc:w.cell? ⟨P,0,none⟩=some (.func (.func 49) #[] #[])) {r:Bool} (hr:l.all Dc.ok=r) :
  Calls Tryz.prog 126 #[.slice A l.length c,.func (.func 85) #[] #[.pointer (some ⟨P,0,none⟩)]] w fun e w'=>∃m:Int,decide (0≤m) = !r∧e=.returned (.int .i64 m)∧Below w.heap.size w w':=by
 have hlen:l.length≤9223372036854775807:=hl.len
 have hent:=enters_fn Tryz.func85 (by kernel_rfl) rfl
 have HR:=Lib.hid hr
 have HL:=Lib.hid hl
 have HC:=Lib.hid (fun W (h:Below w.heap.size w W)=>keepv h hc)
 clear hl hr hc
 go_enter Tryz.func126,Tryz.ntmps126
 go_wp2_with fail
 go_loopw [8] (fun i wr=>∃j:Nat,j≤l.length∧i=.int .i64 j∧Hid ((l.take j).all Dc.ok=true)∧Below w.heap.size w wr) (fun i _=>l.length - (intOf i).toNat)
 case atStart=>exact ⟨0,Nat.zero_le _,rfl,Lib.hid rfl,Below.refl _ _⟩
 case round =>
  obtain ⟨j,hj,rfl,HF,hbw⟩:=hrel
  by_cases hlt:j < l.length
  ·obtain ⟨b,o,rfl,hcs,hx⟩:=(HL.out.below hbw).get hlt
   have HN:=Lib.hid (dc_ok_next hlt)
   rw [HF.out,Bool.true_and] at HN
   have HS:=Lib.hid (dc_ok_stop hlt)
   generalize l.getD j default=x at *
   obtain ⟨q,hq⟩:∃q,x.ok=q:=⟨_,rfl⟩
   rw [hq] at HN HS
   have Q:=Lib.hid (dc_bad_at x P wr hx (HC.out wr hbw) hq)
   have c0:=hcs 0 _ rfl
   have c1:=hcs 1 _ rfl
   simp only [Nat.add_zero] at c0
   clear hx hq hcs
   obtain ⟨s',n'⟩:=x
   simp only at c0 c1
   cases q
   ·go_wp2_with fail
    refine (Q.out).mono ?_
    rintro e w2 ⟨rfl,hb3⟩
    go_wp2_with fail
    go_ret
    exact ⟨j,by rw [←HR.out,HS.out (by trivial)];simp,rfl,hbw.trans (hb3.mono hbw.size)⟩
   ·go_wp2_with fail
    refine (Q.out).mono ?_
    rintro e w2 ⟨rfl,hb3⟩
    go_wp2_with fail
    go_roundw
    case rel=>exact ⟨j+1,by omega,by go_num,HN,hbw.trans (hb3.mono hbw.size)⟩
    case measure=>simp [intOf];omega
  ·obtain rfl:j=l.length:=by omega
   have HE:=Lib.hid (show true=r by rw [←HR.out,← HF.out,List.take_length])
   go_wp2_with fail
   go_ret
   exact ⟨-1,by rw [←HE.out];rfl,rfl,hbw⟩
theorem dc_contains_at (l:List Dc) (A:Option Addr) (c P:Nat) (w:World) (hl:DcLst w A l c) (hc:w.cell? ⟨P,0,none⟩=some (.func (.func 49) #[] #[])) {r:Bool} (hr:l.all Dc.ok=r) :
  Calls Tryz.prog 84 #[.slice A l.length c,.func (.func 85) #[] #[.pointer (some ⟨P,0,none⟩)]] w fun e w'=>e=.returned (.bool (!r))∧Below w.heap.size w w':=by
 have Q:=Lib.hid (dc_index_at l A c P w hl hc hr)
 clear hl hr hc
 go_enter Tryz.func84,Tryz.ntmps84
 go_wp2_with fail
 refine (Q.out).mono ?_
 rintro e w2 ⟨m,hm,rfl,hb⟩
 have HM:=Lib.hid hm
 clear hm
 go_wp2_with fail
 go_ret
 exact ⟨by rw [←HM.out];rfl,hb⟩
theorem all_dc_at (l:List Dc) (A:Option Addr) (c:Nat) (w:World) (hl:DcLst w A l c) {r:Bool} (hr:l.all Dc.ok=r) :
  Calls Tryz.prog 48 #[.slice A l.length c,.func (.func 49) #[] #[]] w fun e w'=>e=.returned (.bool r)∧Below w.heap.size w w':=by
 have Q:=Lib.hid (fun T=>dc_contains_at l A c w.heap.size (w.alloc (.cells #[.func (.func 49) #[] #[]] T)) (hl.below (below1 w _)) (by rw [World.cell?_alloc_at _ _ _ _ rfl];rfl) hr)
 clear hl hr
 go_enter Tryz.func48,Tryz.ntmps48
 go_wp2_with fail
 refine (Q.out _).mono ?_
 rintro e w2 ⟨rfl,hb⟩
 have HB:=Lib.hid ((below1 w _).trans (hb.mono (by simp)))
 clear hb
 go_wp2_with fail
 go_ret
 exact ⟨by simp,HB.out⟩
theorem am_bad_at (x:Am) (P:Nat) (w:World) (h:x.At w) (hc:w.cell? ⟨P,0,none⟩=some (.func (.func 114) #[] #[])) {r:Bool} (hr:x.ok=r) :
  Calls Tryz.prog 152 #[.agg #[.string x.name,.slice x.at_ x.args.length x.cap],.pointer (some ⟨P,0,none⟩)] w fun e w'=>e=.returned (.bool (!r))∧Below w.heap.size w w':=by
 have hent:=enters_fn Tryz.func114 (by kernel_rfl) rfl
 have Q:=Lib.hid (fun o=>show Calls Tryz.prog 114 #[.agg #[.string x.name,.slice x.at_ x.args.length x.cap]] (w.alloc o) _ from right_atom_at x (w.alloc o) (h.below (below1 w o)) hr)
 have hc2:∀o,(w.alloc o).cell? ⟨P,0,none⟩=some (.func (.func 114) #[] #[]):=fun o=>keepv (below1 w o) hc
 clear h hr
 obtain ⟨s',A',c',a'⟩:=x
 go_enter Tryz.func152,Tryz.ntmps152
 go_wp2_with fail
 refine (Q.out _).mono ?_
 rintro e w1 ⟨rfl,hb⟩
 have HB:=Lib.hid ((below1 w _).trans (hb.mono (by simp)))
 clear hb
 go_wp2_with fail
 go_ret
 exact ⟨rfl,HB.out⟩
theorem am_ok_next {l:List Am} {j:Nat} (h:j < l.length):(l.take (j+1)).all Am.ok=((l.take j).all Am.ok&&(l.getD j default).ok):=by
 rw [am_take_next h,List.all_append,List.all_cons,List.all_nil,Bool.and_true]
theorem am_ok_stop {l:List Am} {k:Nat} (h:k < l.length) (hv:(l.getD k default).ok=false):l.all Am.ok=false:=by
 cases h2:l.all Am.ok
 ·rfl
 ·rw [List.all_eq_true.1 h2 _ (am_getD_mem h)] at hv
  cases hv
set_option maxHeartbeats 2000000 in
theorem am_index_at (l:List Am) (A:Option Addr) (c P:Nat) (w:World) (hl:AmLst w A l c) (hc:w.cell? ⟨P,0,none⟩=some (.func (.func 114) #[] #[])) {r:Bool} (hr:l.all Am.ok=r) :
  Calls Tryz.prog 182 #[.slice A l.length c,.func (.func 152) #[] #[.pointer (some ⟨P,0,none⟩)]] w fun e w'=>∃m:Int,decide (0≤m) = !r∧e=.returned (.int .i64 m)∧Below w.heap.size w w':=by
 have hlen:l.length≤9223372036854775807:=hl.len
 have hent:=enters_fn Tryz.func152 (by kernel_rfl) rfl
 have HR:=Lib.hid hr
 have HL:=Lib.hid hl
 have HC:=Lib.hid (fun W (h:Below w.heap.size w W)=>keepv h hc)
 clear hl hr hc
 go_enter Tryz.func182,Tryz.ntmps182
 go_wp2_with fail
 go_loopw [8] (fun i wr=>∃j:Nat,j≤l.length∧i=.int .i64 j∧Hid ((l.take j).all Am.ok=true)∧Below w.heap.size w wr) (fun i _=>l.length - (intOf i).toNat)
 case atStart=>exact ⟨0,Nat.zero_le _,rfl,Lib.hid rfl,Below.refl _ _⟩
 case round =>
  obtain ⟨j,hj,rfl,HF,hbw⟩:=hrel
  by_cases hlt:j < l.length
  ·obtain ⟨b,o,rfl,hcs,hx⟩:=(HL.out.below hbw).get hlt
   have HN:=Lib.hid (am_ok_next hlt)
   rw [HF.out,Bool.true_and] at HN
   have HS:=Lib.hid (am_ok_stop hlt)
   generalize l.getD j default=x at *
   obtain ⟨q,hq⟩:∃q,x.ok=q:=⟨_,rfl⟩
   rw [hq] at HN HS
   have Q:=Lib.hid (am_bad_at x P wr hx (HC.out wr hbw) hq)
   have c0:=hcs 0 _ rfl
   have c1:=hcs 1 _ rfl
   simp only [Nat.add_zero] at c0
   clear hx hq hcs
   obtain ⟨s',A',c',a'⟩:=x
   simp only at c0 c1
   cases q
   ·go_wp2_with fail
    refine (Q.out).mono ?_
    rintro e w2 ⟨rfl,hb3⟩
    go_wp2_with fail
    go_ret
    exact ⟨j,by rw [←HR.out,HS.out (by trivial)];simp,rfl,hbw.trans (hb3.mono hbw.size)⟩
   ·go_wp2_with fail
    refine (Q.out).mono ?_
    rintro e w2 ⟨rfl,hb3⟩
    go_wp2_with fail
    go_roundw
    case rel=>exact ⟨j+1,by omega,by go_num,HN,hbw.trans (hb3.mono hbw.size)⟩
    case measure=>simp [intOf];omega
  ·obtain rfl:j=l.length:=by omega
   have HE:=Lib.hid (show true=r by rw [←HR.out,← HF.out,List.take_length])
   go_wp2_with fail
   go_ret
   exact ⟨-1,by rw [←HE.out];rfl,rfl,hbw⟩
theorem am_contains_at (l:List Am) (A:Option Addr) (c P:Nat) (w:World) (hl:AmLst w A l c) (hc:w.cell? ⟨P,0,none⟩=some (.func (.func 114) #[] #[])) {r:Bool} (hr:l.all Am.ok=r) :
  Calls Tryz.prog 151 #[.slice A l.length c,.func (.func 152) #[] #[.pointer (some ⟨P,0,none⟩)]] w fun e w'=>e=.returned (.bool (!r))∧Below w.heap.size w w':=by
 have Q:=Lib.hid (am_index_at l A c P w hl hc hr)
 clear hl hr hc
 go_enter Tryz.func151,Tryz.ntmps151
 go_wp2_with fail
 refine (Q.out).mono ?_
 rintro e w2 ⟨m,hm,rfl,hb⟩
 have HM:=Lib.hid hm
 clear hm
 go_wp2_with fail
 go_ret
 exact ⟨by rw [←HM.out];rfl,hb⟩
theorem all_am_at (l:List Am) (A:Option Addr) (c:Nat) (w:World) (hl:AmLst w A l c) {r:Bool} (hr:l.all Am.ok=r) :
  Calls Tryz.prog 113 #[.slice A l.length c,.func (.func 114) #[] #[]] w fun e w'=>e=.returned (.bool r)∧Below w.heap.size w w':=by
 have Q:=Lib.hid (fun T=>am_contains_at l A c w.heap.size (w.alloc (.cells #[.func (.func 114) #[] #[]] T)) (hl.below (below1 w _)) (by rw [World.cell?_alloc_at _ _ _ _ rfl];rfl) hr)
 clear hl hr
 go_enter Tryz.func113,Tryz.ntmps113
 go_wp2_with fail
 refine (Q.out _).mono ?_
 rintro e w2 ⟨rfl,hb⟩
 have HB:=Lib.hid ((below1 w _).trans (hb.mono (by simp)))
 clear hb
 go_wp2_with fail
 go_ret
 exact ⟨by simp,HB.out⟩
theorem gl_bad_at (x:Gl) (P:Nat) (w:World) (h:x.At w) (hc:w.cell? ⟨P,0,none⟩=some (.func (.func 90) #[] #[])) {r:Bool} (hr:x.ok=r) :
  Calls Tryz.prog 131 #[.agg #[.int .i64 x.op,.string x.name,.slice x.at_ x.args.length x.cap],.pointer (some ⟨P,0,none⟩)] w fun e w'=>e=.returned (.bool (!r))∧Below w.heap.size w w':=by
 have hent:=enters_fn Tryz.func90 (by kernel_rfl) rfl
 have Q:=Lib.hid (fun o=>show Calls Tryz.prog 90 #[.agg #[.int .i64 x.op,.string x.name,.slice x.at_ x.args.length x.cap]] (w.alloc o) _ from right_goal_at x (w.alloc o) (h.below (below1 w o)) hr)
 have hc2:∀o,(w.alloc o).cell? ⟨P,0,none⟩=some (.func (.func 90) #[] #[]):=fun o=>keepv (below1 w o) hc
 clear h hr
 obtain ⟨o',s',A',c',a'⟩:=x
 go_enter Tryz.func131,Tryz.ntmps131
 go_wp2_with fail
 refine (Q.out _).mono ?_
 rintro e w1 ⟨rfl,hb⟩
 have HB:=Lib.hid ((below1 w _).trans (hb.mono (by simp)))
 clear hb
 go_wp2_with fail
 go_ret
 exact ⟨rfl,HB.out⟩
theorem gl_ok_next {l:List Gl} {j:Nat} (h:j < l.length):(l.take (j+1)).all Gl.ok=((l.take j).all Gl.ok&&(l.getD j default).ok):=by
 rw [gl_take_next h,List.all_append,List.all_cons,List.all_nil,Bool.and_true]
theorem gl_ok_stop {l:List Gl} {k:Nat} (h:k < l.length) (hv:(l.getD k default).ok=false):l.all Gl.ok=false:=by
 cases h2:l.all Gl.ok
 ·rfl
 ·rw [List.all_eq_true.1 h2 _ (gl_getD_mem h)] at hv
  cases hv
set_option maxHeartbeats 2000000 in
theorem gl_index_at (l:List Gl) (A:Option Addr) (c P:Nat) (w:World) (hl:GlLst w A l c) (hc:w.cell? ⟨P,0,none⟩=some (.func (.func 90) #[] #[])) {r:Bool} (hr:l.all Gl.ok=r) :
  Calls Tryz.prog 165 #[.slice A l.length c,.func (.func 131) #[] #[.pointer (some ⟨P,0,none⟩)]] w fun e w'=>∃m:Int,decide (0≤m) = !r∧e=.returned (.int .i64 m)∧Below w.heap.size w w':=by
 have hlen:l.length≤9223372036854775807:=hl.len
 have hent:=enters_fn Tryz.func131 (by kernel_rfl) rfl
 have HR:=Lib.hid hr
 have HL:=Lib.hid hl
 have HC:=Lib.hid (fun W (h:Below w.heap.size w W)=>keepv h hc)
 clear hl hr hc
 go_enter Tryz.func165,Tryz.ntmps165
 go_wp2_with fail
 go_loopw [8] (fun i wr=>∃j:Nat,j≤l.length∧i=.int .i64 j∧Hid ((l.take j).all Gl.ok=true)∧Below w.heap.size w wr) (fun i _=>l.length - (intOf i).toNat)
 case atStart=>exact ⟨0,Nat.zero_le _,rfl,Lib.hid rfl,Below.refl _ _⟩
 case round =>
  obtain ⟨j,hj,rfl,HF,hbw⟩:=hrel
  by_cases hlt:j < l.length
  ·obtain ⟨b,o,rfl,hcs,hx⟩:=(HL.out.below hbw).get hlt
   have HN:=Lib.hid (gl_ok_next hlt)
   rw [HF.out,Bool.true_and] at HN
   have HS:=Lib.hid (gl_ok_stop hlt)
   generalize l.getD j default=x at *
   obtain ⟨q,hq⟩:∃q,x.ok=q:=⟨_,rfl⟩
   rw [hq] at HN HS
   have Q:=Lib.hid (gl_bad_at x P wr hx (HC.out wr hbw) hq)
   have c0:=hcs 0 _ rfl
   have c1:=hcs 1 _ rfl
   have c2:=hcs 2 _ rfl
   simp only [Nat.add_zero] at c0
   clear hx hq hcs
   obtain ⟨o',s',A',c',a'⟩:=x
   simp only at c0 c1 c2
   cases q
   ·go_wp2_with fail
    refine (Q.out).mono ?_
    rintro e w2 ⟨rfl,hb3⟩
    go_wp2_with fail
    go_ret
    exact ⟨j,by rw [←HR.out,HS.out (by trivial)];simp,rfl,hbw.trans (hb3.mono hbw.size)⟩
   ·go_wp2_with fail
    refine (Q.out).mono ?_
    rintro e w2 ⟨rfl,hb3⟩
    go_wp2_with fail
    go_roundw
    case rel=>exact ⟨j+1,by omega,by go_num,HN,hbw.trans (hb3.mono hbw.size)⟩
    case measure=>simp [intOf];omega
  ·obtain rfl:j=l.length:=by omega
   have HE:=Lib.hid (show true=r by rw [←HR.out,← HF.out,List.take_length])
   go_wp2_with fail
   go_ret
   exact ⟨-1,by rw [←HE.out];rfl,rfl,hbw⟩
theorem gl_contains_at (l:List Gl) (A:Option Addr) (c P:Nat) (w:World) (hl:GlLst w A l c) (hc:w.cell? ⟨P,0,none⟩=some (.func (.func 90) #[] #[])) {r:Bool} (hr:l.all Gl.ok=r) :
  Calls Tryz.prog 130 #[.slice A l.length c,.func (.func 131) #[] #[.pointer (some ⟨P,0,none⟩)]] w fun e w'=>e=.returned (.bool (!r))∧Below w.heap.size w w':=by
 have Q:=Lib.hid (gl_index_at l A c P w hl hc hr)
 clear hl hr hc
 go_enter Tryz.func130,Tryz.ntmps130
 go_wp2_with fail
 refine (Q.out).mono ?_
 rintro e w2 ⟨m,hm,rfl,hb⟩
 have HM:=Lib.hid hm
 clear hm
 go_wp2_with fail
 go_ret
 exact ⟨by rw [←HM.out];rfl,hb⟩
theorem all_gl_at (l:List Gl) (A:Option Addr) (c:Nat) (w:World) (hl:GlLst w A l c) {r:Bool} (hr:l.all Gl.ok=r) :
  Calls Tryz.prog 89 #[.slice A l.length c,.func (.func 90) #[] #[]] w fun e w'=>e=.returned (.bool r)∧Below w.heap.size w w':=by
 have Q:=Lib.hid (fun T=>gl_contains_at l A c w.heap.size (w.alloc (.cells #[.func (.func 90) #[] #[]] T)) (hl.below (below1 w _)) (by rw [World.cell?_alloc_at _ _ _ _ rfl];rfl) hr)
 clear hl hr
 go_enter Tryz.func89,Tryz.ntmps89
 go_wp2_with fail
 refine (Q.out _).mono ?_
 rintro e w2 ⟨rfl,hb⟩
 have HB:=Lib.hid ((below1 w _).trans (hb.mono (by simp)))
 clear hb
 go_wp2_with fail
 go_ret
 exact ⟨by simp,HB.out⟩
end Go.Proofs.YtnghanpmmbcbbaaGreatDoor
