/-
  RzRule.
-/
import Derived.Test.YtaojnljppcnhjaaGreatDoorMf27
import Derived.Test.YtaojnljppcnhjaaGreatDoorMf10
import Derived.Deep.CutRange
import Derived.Deep.CutBlock
namespace Go.Proofs.YtaojnljppcnhjaaGreatDoor
open Go.RowKit
def usA (us:List Int) (ks:List Am):List Int:=(occL (ks.flatMap Am.args)).foldl putS us
def usG (us:List Int) (ks:List Gl):List Int:=(occL (ks.flatMap Gl.args)).foldl putS us
theorem usA_next (us:List Int) {ks:List Am} {j:Nat} (hj:j < ks.length):usA us (ks.take (j+1))=(occL (ks.getD j default).args).foldl putS (usA us (ks.take j)):=by
 have e:ks.take (j+1)=ks.take j++[ks.getD j default]:=by
  rw [List.take_add_one]
  simp [List.getD,hj]
 unfold usA
 rw [e,List.flatMap_append,occL_app,List.foldl_append]
 simp
theorem usG_next (us:List Int) {ks:List Gl} {j:Nat} (hj:j < ks.length):usG us (ks.take (j+1))=(occL (ks.getD j default).args).foldl putS (usG us (ks.take j)):=by
 have e:ks.take (j+1)=ks.take j++[ks.getD j default]:=by
  rw [List.take_add_one]
  simp [List.getD,hj]
 unfold usG
 rw [e,List.flatMap_append,occL_app,List.foldl_append]
 simp
theorem occ_len2 (l:List Tm) (h:nodesL l≤200):(occL l).length≤200∧sizeL l≤200:=by
 have h1:=occ_length.2 l
 have h2:(∀t:Tm,t.size≤t.nodes)∧(∀l,sizeL l≤nodesL l):=by
  refine Tm.induct2 (fun k n s A c a ih=>?_) (Nat.le_refl _) (fun t r h1 h2=>?_)
  ·simp only [Tm.size,Tm.nodes]
   split<;>omega
  ·simp only [sizeL,nodesL];omega
 have:=h2.2 l
 omega
theorem usA_len (us:List Int):∀(ks:List Am),(∀x∈ks,nodesL x.args≤200)→(usA us ks).length≤us.length+ks.length*200:=fun ks h=>by
 unfold usA
 have h1:=fold_len (occL (ks.flatMap Am.args)) us
 have h2:(occL (ks.flatMap Am.args)).length≤ks.length*200:=by
  clear h1
  induction ks with
  | nil=>simp [occL]
  | cons x r ih =>
   rw [List.flatMap_cons,occL_app,List.length_append,List.length_cons]
   have:=(occ_len2 x.args (h x List.mem_cons_self)).1
   have:=ih (fun y hy=>h y (List.mem_cons_of_mem _ hy))
   omega
 omega
theorem usG_len (us:List Int):∀(ks:List Gl),(∀x∈ks,nodesL x.args≤200)→(usG us ks).length≤us.length+ks.length*200:=fun ks h=>by
 unfold usG
 have h1:=fold_len (occL (ks.flatMap Gl.args)) us
 have h2:(occL (ks.flatMap Gl.args)).length≤ks.length*200:=by
  clear h1
  induction ks with
  | nil=>simp [occL]
  | cons x r ih =>
   rw [List.flatMap_cons,occL_app,List.length_append,List.length_cons]
   have:=(occ_len2 x.args (h x List.mem_cons_self)).1
   have:=ih (fun y hy=>h y (List.mem_cons_of_mem _ hy))
   omega
 omega
theorem flat_sA (ks:List Am):(ks.map sA).flatMap (·.2)=stripL (ks.flatMap Am.args):=by
 induction ks with
 | nil=>rfl
 | cons x r ih=>rw [List.map_cons,List.flatMap_cons,List.flatMap_cons,stripL_append,ih];rfl
theorem flat_sG (ks:List Gl):(ks.map sG).flatMap (·.2.2)=stripL (ks.flatMap Gl.args):=by
 induction ks with
 | nil=>rfl
 | cons x r ih=>rw [List.map_cons,List.flatMap_cons,List.flatMap_cons,stripL_append,ih];rfl
theorem order_all (t:List UInt8) (ks rs:List Am) (gs bs:List Gl):orderS (Rs.terms ⟨t,ks.map sA,rs.map sA,gs.map sG,bs.map sG,0⟩)=usG (usG (usA (usA [] ks) rs) gs) bs:=by
 unfold orderS Rs.terms usA usG
 simp only [flat_sA,flat_sG,← stripL_append,occ_strip2.2,occL_app,List.foldl_append]
structure NumA (f:Int→Int) (base:Nat) (ks done:List Am) (j:Nat):Prop where
 len:done.length=j
 p:done.map sA=(ks.take j).map (fun x=>As.num2 f (sA x))
 new:∀b∈elAm.blkL done,base≤b
structure NumG (f:Int→Int) (base:Nat) (ks done:List Gl) (j:Nat):Prop where
 len:done.length=j
 p:done.map sG=(ks.take j).map (fun x=>Gs.num2 f (sG x))
 new:∀b∈elGl.blkL done,base≤b
theorem NumA.next {f:Int→Int} {base m:Nat} {ks done:List Am} {j:Nat} (h:NumA f base ks done j) (hj:j < ks.length) {A2:Option Addr} {c2:Nat} {k2:List Tm} (hp:stripL k2=numL2 f (ks.getD j default).args) (hm:base≤m) (hbl:∀b∈blkA A2 k2.length++blkL k2,m≤b):NumA f base ks (done++[⟨(ks.getD j default).name,A2,c2,k2⟩]) (j+1):=by
 refine ⟨by rw [List.length_append,h.len];rfl,?_,fun b hb=>?_⟩
 ·have e:ks.take (j+1)=ks.take j++[ks.getD j default]:=by
   rw [List.take_add_one]
   simp [List.getD,hj]
  rw [e,List.map_append,List.map_append,h.p]
  simp only [List.map_cons,List.map_nil,sA,As.num2,(num2_strip2 f).2,hp]
 ·rw [Elt.blkL_append] at hb
  rcases List.mem_append.1 hb with hb|hb
  ·exact h.new b hb
  ·rw [am_blk] at hb
   have:=hbl b hb
   omega
theorem NumG.next {f:Int→Int} {base m:Nat} {ks done:List Gl} {j:Nat} (h:NumG f base ks done j) (hj:j < ks.length) {A2:Option Addr} {c2:Nat} {k2:List Tm} (hp:stripL k2=numL2 f (ks.getD j default).args) (hm:base≤m) (hbl:∀b∈blkA A2 k2.length++blkL k2,m≤b):NumG f base ks (done++[⟨(ks.getD j default).op,(ks.getD j default).name,A2,c2,k2⟩]) (j+1):=by
 refine ⟨by rw [List.length_append,h.len];rfl,?_,fun b hb=>?_⟩
 ·have e:ks.take (j+1)=ks.take j++[ks.getD j default]:=by
   rw [List.take_add_one]
   simp [List.getD,hj]
  rw [e,List.map_append,List.map_append,h.p]
  simp only [List.map_cons,List.map_nil,sG,Gs.num2,(num2_strip2 f).2,hp]
 ·rw [Elt.blkL_append] at hb
  rcases List.mem_append.1 hb with hb|hb
  ·exact h.new b hb
  ·rw [gl_blk2] at hb
   have:=hbl b hb
   omega
structure RestZ (R:Nat) (A:Option Addr) (c:Nat) (l:List Tk) (w:World) (T base:Nat) (q:Nat) (z:Value) (ns:List (List UInt8)) (a:Nat) (V:Option Addr) (vc:Nat) (vs:List Int) (vals:List Value) (wr:World):Prop where
 k:Kp R Z0 z w wr
 p:Pr wr R A c l q z ns a 0
 zero:BoxL wr w.heap.size Zr
 box:BoxL wr T vals
 own:OwnI wr base (.slice V vs.length vc) vs
 top:base≤wr.heap.size
 zT:∀k,z.ownBlock=some k→k < T
section
variable {R:Nat} {A:Option Addr} {c:Nat} {l:List Tk} {w wr w':World} {T base q a vc:Nat} {z:Value} {ns:List (List UInt8)} {V:Option Addr} {vs:List Int} {vals:List Value}
theorem RestZ.drew (h:RestZ R A c l w T base q z ns a V vc vs vals wr):RestZ R A c l w T base q z ns a V vc vs vals wr.drew :=
 ⟨h.k.drew,h.p.drew,⟨h.zero.lt,h.zero.cells,h.zero.free⟩,⟨h.box.lt,h.box.cells,h.box.free⟩,h.own,h.top,h.zT⟩
theorem RowZ.drew {α:Type} {E:Elt α} {T0:TypeId} {lo:Nat} {r:Value} {L:List α} (h:RowZ E T0 lo z wr r L):RowZ E T0 lo z wr.drew r L:=h.frame (Nat.le_refl _) (fun _ _ _ _=>rfl) (fun _ h=>.inl h)
theorem RestZ.below (h:RestZ R A c l w T base q z ns a V vc vs vals wr) (hb:Below wr.heap.size wr w'):RestZ R A c l w T base q z ns a V vc vs vals w' :=
 ⟨h.k.trans (Below.kp hb R z),h.p.below hb,h.zero.below hb,h.box.below hb,h.own.below hb,Nat.le_trans h.top hb.size,h.zT⟩
theorem RestZ.put (h:RestZ R A c l w T base q z ns a V vc vs vals wr) {G:Nat} (h1:w.heap.size < G) (h2:G < base) (h3:G≠T) (hR:R < w.heap.size) (hz:z.ownBlock≠some G) (j:Nat) (v:Value):RestZ R A c l w T base q z ns a V vc vs vals (wr.setCell ⟨G,j,none⟩ v) :=
 ⟨h.k.put (p:=⟨G,j,none⟩) (Nat.le_of_lt h1) v,h.p.store (p:=⟨G,j,none⟩) (by show R < G;omega) hz v,h.zero.put (p:=⟨G,j,none⟩) (by show G≠w.heap.size;omega) v,h.box.put (p:=⟨G,j,none⟩) h3 v,ownsRow_setCell_below h.own h2 v,by simpa [World.setCell] using h.top,h.zT⟩
end
section
variable {R:Nat} {A:Option Addr} {c:Nat} {l:List Tk}
set_option maxHeartbeats 16000000 in
set_option maxRecDepth 100000 in
theorem rule_z (hg:GoodT l) {n:Nat} {ex:Rd1 Tm} (hE:ExprZ R A c l n ex) (hSz:Sized ex) (i:Nat) (z:Value) (ns:List (List UInt8)) (at_:Nat) (w:World) (h:Pr w R A c l i z ns at_ 0) (hn:(leftT l i).length≤n) :
  Calls Tryz.prog 28 #[.pointer (some ⟨R,0,none⟩)] w (RuleZ ex R A c l i w):=by
 have HG:=Lib.hid hg
 have hR:=h.lt
 have hTR:¬w.heap.size=R:=by omega
 have h1:=(h.alloc (.cells #[.string ⟨#[]⟩,.slice none 0 0,.slice none 0 0,.slice none 0 0,.slice none 0 0,.int .i64 0] 35))
 have l2:=h1.l2
 have f2:=h1.fr 2
 have HP1:=Lib.hid (h.reset.alloc (.cells #[.string ⟨#[]⟩,.slice none 0 0,.slice none 0 0,.slice none 0 0,.slice none 0 0,.int .i64 0] 35))
 have HK1:=Lib.hid (show Kp R Z0 Z0 w ((w.setCell ⟨R,2,none⟩ (.slice none 0 0)).alloc (.cells #[.string ⟨#[]⟩,.slice none 0 0,.slice none 0 0,.slice none 0 0,.slice none 0 0,.int .i64 0] 35)) from ((Kp.refl R Z0 w).set 2 none _).alloc _)
 have e0:(w.setCell ⟨R,2,none⟩ (.slice none 0 0)).heap.size=w.heap.size:=by simp [World.setCell]
 have HB1:=Lib.hid (e0 ▸ BoxL.new (w.setCell ⟨R,2,none⟩ (.slice none 0 0)) Zr 35:BoxL ((w.setCell ⟨R,2,none⟩ (.slice none 0 0)).alloc (.cells #[.string ⟨#[]⟩,.slice none 0 0,.slice none 0 0,.slice none 0 0,.slice none 0 0,.int .i64 0] 35)) w.heap.size Zr)
 have hs1:((w.setCell ⟨R,2,none⟩ (.slice none 0 0)).alloc (.cells #[.string ⟨#[]⟩,.slice none 0 0,.slice none 0 0,.slice none 0 0,.slice none 0 0,.int .i64 0] 35)).heap.size=w.heap.size+1:=by simp [World.setCell]
 have HS1:=Lib.hid hs1
 have QPt:=Lib.hid (parts_z hg hE hSz i Z0 [] at_ _ (h.reset.alloc (.cells #[.string ⟨#[]⟩,.slice none 0 0,.slice none 0 0,.slice none 0 0,.slice none 0 0,.int .i64 0] 35)) hn (by have:=hg.small;simp only [left_length,List.length_nil];omega))
 clear hg hE hSz h h1 hs1 hn e0
 go_enter Tryz.func28,Tryz.ntmps28
 go_wp2_with fail
 refine QPt.out.mono ?_
 rintro en w2 ⟨t,kv,rv,gv,bv,b,rfl,hsl,ho⟩
 rcases ho with ⟨rfl,z2,ns2,q,a2,m1,m2,m3,ks,rs,gs,bs,hk2,hp2,hf,hiq,hl2,htl,hrows⟩|⟨rfl,z2,ns2,q,n2,er2,hk2,hp2,he2,hf⟩
 ·clear hsl
  obtain ⟨kA,kc,rfl⟩:=hrows.k.zform
  obtain ⟨rA,rc,rfl⟩:=hrows.r.zform
  obtain ⟨gA,gc,rfl⟩:=hrows.g.zform
  obtain ⟨bA,bc,rfl⟩:=hrows.b.zform
  have hsz2:=hk2.size
  rw [HS1.out] at hsz2
  have HS2:=Lib.hid hsz2
  have hbx:=(Below.refl w2.heap.size w2).alloc (Nat.le_refl _) (.cells #[.string (S t),.slice kA ks.length kc,.slice rA rs.length rc,.slice gA gs.length gc,.slice bA bs.length bc,.int .i64 0] 35)
  have HF:=Lib.hid (And.intro hf (And.intro hiq htl))
  have HFa:=Lib.hid (parts_facts hf)
  have HRows:=Lib.hid (hrows.below hbx)
  have hrl:=hrows.l1
  rw [HS1.out] at hrl
  have HRl:=Lib.hid hrl
  have HR0:=Lib.hid (show RestZ R A c l w w2.heap.size (w2.heap.size+1) q z2 ns2 a2 none 0 [] [.string (S t),.slice kA ks.length kc,.slice rA rs.length rc,.slice gA gs.length gc,.slice bA bs.length bc,.int .i64 0] (w2.alloc (.cells #[.string (S t),.slice kA ks.length kc,.slice rA rs.length rc,.slice gA gs.length gc,.slice bA bs.length bc,.int .i64 0] 35)) from
   ⟨(HK1.out.trans hk2).trans (Below.kp hbx R z2),hp2.below hbx,(HB1.out.kz hk2 hTR (Z0_own _)).below hbx,BoxL.new w2 [.string (S t),.slice kA ks.length kc,.slice rA rs.length rc,.slice gA gs.length gc,.slice bA bs.length bc,.int .i64 0] 35,OwnI.nil _ _,by simp,fun k hk=>(hp2.zlt k hk).2⟩)
  have HNa:=Lib.hid (show (∀x∈ks,nodesL x.args≤200)∧(∀x∈rs,nodesL x.args≤200)∧(∀x∈gs,nodesL x.args≤200)∧(∀x∈bs,nodesL x.args≤200)∧ks.length≤4∧rs.length≤4∧gs.length≤12∧bs.length≤12 from by
   obtain ⟨a1,a2,a3,a4,a5,a6,a7⟩:=HFa.out
   simp only [List.length_map] at a5 a6 a7
   exact ⟨fun x hx=>nodes_rightA (a1 _ (List.mem_map_of_mem hx)),fun x hx=>nodes_rightA (a2 _ (List.mem_map_of_mem hx)),fun x hx=>nodes_rightG (a3 _ (List.mem_map_of_mem hx)),fun x hx=>nodes_rightG (a4 _ (List.mem_map_of_mem hx)),by omega,by omega,a6,a7⟩)
  have hk4:ks.length≤9223372036854775807:=by have:=HNa.out.2.2.2.2.1;omega
  have hr4:rs.length≤9223372036854775807:=by have:=HNa.out.2.2.2.2.2.1;omega
  have hg12:gs.length≤9223372036854775807:=by have:=HNa.out.2.2.2.2.2.2.1;omega
  have hb12:bs.length≤9223372036854775807:=by have:=HNa.out.2.2.2.2.2.2.2;omega
  have HTw:=Lib.hid (show w.heap.size < w2.heap.size by omega)
  have HZ2:=Lib.hid (hk2.off HB1.out.lt (Z0_own _))
  generalize hW1:w2.alloc (.cells #[.string (S t),.slice kA ks.length kc,.slice rA rs.length rc,.slice gA gs.length gc,.slice bA bs.length bc,.int .i64 0] 35)=W1 at *
  obtain ⟨TT,hTT⟩:∃TT,TT=w2.heap.size:=⟨_,rfl⟩
  rw [←hTT] at HR0 HTw
  have HSW:=Lib.hid (show W1.heap.size=TT+1 by rw [←hW1,hTT];simp)
  have HMx:=Lib.hid (show (∀k,(Value.slice kA ks.length kc).ownBlock=some k→k < TT)∧(∀k,(Value.slice rA rs.length rc).ownBlock=some k→k < TT)∧(∀k,(Value.slice gA gs.length gc).ownBlock=some k→k < TT)∧(∀k,(Value.slice bA bs.length bc).ownBlock=some k→k < TT) by
   rw [hTT]
   exact ⟨fun k hk=>(hrows.k.lt k hk).2,fun k hk=>(hrows.r.lt k hk).2,fun k hk=>(hrows.g.lt k hk).2,fun k hk=>(hrows.b.lt k hk).2⟩)
  have H0:=Lib.hid (show OrdL (TT+1) W1 [] none 0 W1 from ⟨OwnI.nil _ _,Below.refl _ _⟩)
  have HTT:=Lib.hid hTT
  have HW1:=Lib.hid hW1
  clear hk2 hp2 hf hiq hl2 htl hrows hsz2 hbx hrl hTT hW1 QPt l2 f2
  obtain ⟨U1,hU1⟩:∃U,usA [] ks=U:=⟨_,rfl⟩
  obtain ⟨U2,hU2⟩:∃U,usA U1 rs=U:=⟨_,rfl⟩
  obtain ⟨U3,hU3⟩:∃U,usG U2 gs=U:=⟨_,rfl⟩
  obtain ⟨U4,hU4⟩:∃U,usG U3 bs=U:=⟨_,rfl⟩
  have HUl:=Lib.hid (show U1.length≤800∧U2.length≤1600∧U3.length≤4000∧U4.length≤6400 from by
   have h1:=usA_len [] ks HNa.out.1
   have h2:=usA_len U1 rs HNa.out.2.1
   have h3:=usG_len U2 gs HNa.out.2.2.1
   have h4:=usG_len U3 bs HNa.out.2.2.2.1
   have h5:=HNa.out.2.2.2.2
   rw [hU1] at h1
   rw [hU2] at h2
   rw [hU3] at h3
   rw [hU4] at h4
   simp only [List.length_nil,Nat.zero_add] at h1
   omega)
  have HU1:=Lib.hid hU1
  have HU2:=Lib.hid hU2
  have HU3:=Lib.hid hU3
  have HU4:=Lib.hid hU4
  clear hU1 hU2 hU3 hU4
  go_wp2_with fail
  rw [HW1.out,← HTT.out]
  have HV0:Hid (OrdL (TT+1) W1 [] none 0 W1):=H0
  have HE0:Hid (([]:List Int)=[]):=Lib.hid rfl
  go_loopg [6,7] ks.length (fun gk v i wr=>∃(j:Nat) (V:Option Addr) (vc:Nat),j≤ks.length∧i=.int .i64 (j:Int)∧v=.slice V (usA [] (ks.take j)).length vc∧Hid (OrdL (TT+1) W1 (usA [] (ks.take j)) V vc wr∧ks.length - j≤gk))
  case atStart=>exact ⟨0,none,0,Nat.zero_le _,rfl,by first|rfl|(rw [HE0.out];rfl),Lib.hid ⟨HV0.out,Nat.le_refl _⟩⟩
  case round =>
   obtain ⟨j,V1,vc1,hj,rfl,rfl,hI⟩:=hrel
   obtain ⟨wo1,hwo⟩:∃wo,wo=wr:=⟨_,rfl⟩
   subst hwo
   obtain ⟨ko1,hko⟩:∃ko,ko=gk:=⟨_,rfl⟩
   subst hko
   have HO:=Lib.hid hI.out.1
   have HGk:=Lib.hid hI.out.2
   clear hI HV0 HE0
   have HBx:=Lib.hid (HR0.out.box.of HO.out.b.size (HO.out.b.block TT (Nat.lt_succ_self _)))
   obtain ⟨t0,t1,t2,t3,t4,t5,_,_,_,_,_,_⟩:=HBx.out.get6
   by_cases hlt:j < ks.length
   ·obtain ⟨g,hBA,hg1,hg2,hnn,hcell⟩:=HRows.out.k.elt hlt
    have hat:=HRows.out.k.sit.at_ _ (getD_in hlt)
    have HBl:=Lib.hid (fun b (hb:b∈blkA (ks.getD j default).at_ (ks.getD j default).args.length++blkL (ks.getD j default).args)=>(HRows.out.k.sit.bd b (List.mem_flatMap.2 ⟨_,getD_in hlt,hb⟩)).2)
    have HNx:=Lib.hid (usA_next [] hlt)
    have HNl:=Lib.hid (occ_len2 _ (HNa.out.1 _ (getD_in hlt)))
    have HUj:=Lib.hid (show (usA [] (ks.take j)).length≤6400 from by
     have h1:=usA_len [] (ks.take j) (fun x hx=>HNa.out.1 x (List.mem_of_mem_take hx))
     have h2:=HUl.out
     have h3:=HNa.out.2.2.2.2.1
     simp only [List.length_take,List.length_nil,Nat.zero_add] at h1
     omega)
    have hgT:g < TT+1:=by have:=HSW.out;omega
    have c1:wo1.cell? ⟨g,j*2+1,none⟩=some (.slice (ks.getD j default).at_ (ks.getD j default).args.length (ks.getD j default).cap):=(HO.out.b.cell (p:=⟨g,j*2+1,none⟩) hgT).trans (hcell 1 _ rfl)
    subst hBA
    have QO:=Lib.hid (order_z (TT+1) (ks.getD j default).at_ (ks.getD j default).args (ks.getD j default).cap wo1 (fun W hW=>lst_blk hat.1.2 fun b hb=>(hW b (by have:=HBl.out b hb;have:=HSW.out;omega)).trans (HO.out.b.block b (by have:=HBl.out b hb;have:=HSW.out;omega))) (by have:=HO.out.b.size;have:=HSW.out;omega) V1 (usA [] (ks.take j)) vc1 HO.out.own (by have:=HNl.out.2;have:=HUj.out;omega))
    clear hcell hat hnn
    generalize ks.getD j default=x at *
    obtain ⟨xn,xA,xc,xa⟩:=x
    simp only at c1
    go_wp2_with (go_at_call 36;(with_reducible refine QO.out.mono ?_);rintro e w4 ⟨A4,c4,rfl,how,hb4⟩;have HOw:=Lib.hid how;have HB4:=Lib.hid hb4;clear how hb4)
    have HNo:=Lib.hid (show OrdL (TT+1) W1 (usA [] (ks.take (j+1))) A4 c4 w4 by rw [HNx.out];exact ⟨HOw.out,HO.out.b.trans HB4.out⟩)
    go_roundg (ko1 - 1)
    case measure=>have:=HGk.out;omega
    case rel=>exact ⟨j+1,A4,c4,by omega,by go_num,by rw [HNx.out],Lib.hid ⟨HNo.out,by have:=HGk.out;omega⟩⟩
   ·obtain rfl:j=ks.length:=by omega
    have HE1:=Lib.hid (show usA [] (ks.take ks.length)=U1 by rw [List.take_length];exact HU1.out)
    have HV1:=Lib.hid (show OrdL (TT+1) W1 U1 V1 vc1 wo1 by rw [←HE1.out];exact HO.out)
    clear HO HGk hlt hj HBx
    go_wp2_with fail
    clear t0 t1 t2 t3 t4 t5
    go_loopg [6,8] rs.length (fun gk v i wr=>∃(j:Nat) (V:Option Addr) (vc:Nat),j≤rs.length∧i=.int .i64 (j:Int)∧v=.slice V (usA U1 (rs.take j)).length vc∧Hid (OrdL (TT+1) W1 (usA U1 (rs.take j)) V vc wr∧rs.length - j≤gk))
    case atStart=>exact ⟨0,V1,vc1,Nat.zero_le _,rfl,by first|rfl|(rw [HE1.out];rfl),Lib.hid ⟨HV1.out,Nat.le_refl _⟩⟩
    case round =>
     obtain ⟨j,V2,vc2,hj,rfl,rfl,hI⟩:=hrel
     obtain ⟨wo2,hwo⟩:∃wo,wo=wr:=⟨_,rfl⟩
     subst hwo
     obtain ⟨ko2,hko⟩:∃ko,ko=gk:=⟨_,rfl⟩
     subst hko
     have HO:=Lib.hid hI.out.1
     have HGk:=Lib.hid hI.out.2
     clear hI HV1 HE1
     have HBx:=Lib.hid (HR0.out.box.of HO.out.b.size (HO.out.b.block TT (Nat.lt_succ_self _)))
     obtain ⟨t0,t1,t2,t3,t4,t5,_,_,_,_,_,_⟩:=HBx.out.get6
     by_cases hlt:j < rs.length
     ·obtain ⟨g,hBA,hg1,hg2,hnn,hcell⟩:=HRows.out.r.elt hlt
      have hat:=HRows.out.r.sit.at_ _ (getD_in hlt)
      have HBl:=Lib.hid (fun b (hb:b∈blkA (rs.getD j default).at_ (rs.getD j default).args.length++blkL (rs.getD j default).args)=>(HRows.out.r.sit.bd b (List.mem_flatMap.2 ⟨_,getD_in hlt,hb⟩)).2)
      have HNx:=Lib.hid (usA_next U1 hlt)
      have HNl:=Lib.hid (occ_len2 _ (HNa.out.2.1 _ (getD_in hlt)))
      have HUj:=Lib.hid (show (usA U1 (rs.take j)).length≤6400 from by
       have h1:=usA_len U1 (rs.take j) (fun x hx=>HNa.out.2.1 x (List.mem_of_mem_take hx))
       have h2:=HUl.out
       have h3:=HNa.out.2.2.2.2.2.1
       simp only [List.length_take] at h1
       omega)
      have hgT:g < TT+1:=by have:=HSW.out;omega
      have c1:wo2.cell? ⟨g,j*2+1,none⟩=some (.slice (rs.getD j default).at_ (rs.getD j default).args.length (rs.getD j default).cap):=(HO.out.b.cell (p:=⟨g,j*2+1,none⟩) hgT).trans (hcell 1 _ rfl)
      subst hBA
      have QO:=Lib.hid (order_z (TT+1) (rs.getD j default).at_ (rs.getD j default).args (rs.getD j default).cap wo2 (fun W hW=>lst_blk hat.1.2 fun b hb=>(hW b (by have:=HBl.out b hb;have:=HSW.out;omega)).trans (HO.out.b.block b (by have:=HBl.out b hb;have:=HSW.out;omega))) (by have:=HO.out.b.size;have:=HSW.out;omega) V2 (usA U1 (rs.take j)) vc2 HO.out.own (by have:=HNl.out.2;have:=HUj.out;omega))
      clear hcell hat hnn
      generalize rs.getD j default=x at *
      obtain ⟨xn,xA,xc,xa⟩:=x
      simp only at c1
      go_wp2_with (go_at_call 36;(with_reducible refine QO.out.mono ?_);rintro e w4 ⟨A4,c4,rfl,how,hb4⟩;have HOw:=Lib.hid how;have HB4:=Lib.hid hb4;clear how hb4)
      have HNo:=Lib.hid (show OrdL (TT+1) W1 (usA U1 (rs.take (j+1))) A4 c4 w4 by rw [HNx.out];exact ⟨HOw.out,HO.out.b.trans HB4.out⟩)
      go_roundg (ko2 - 1)
      case measure=>have:=HGk.out;omega
      case rel=>exact ⟨j+1,A4,c4,by omega,by go_num,by rw [HNx.out],Lib.hid ⟨HNo.out,by have:=HGk.out;omega⟩⟩
     ·obtain rfl:j=rs.length:=by omega
      have HE2:=Lib.hid (show usA U1 (rs.take rs.length)=U2 by rw [List.take_length];exact HU2.out)
      have HV2:=Lib.hid (show OrdL (TT+1) W1 U2 V2 vc2 wo2 by rw [←HE2.out];exact HO.out)
      clear HO HGk hlt hj HBx
      go_wp2_with fail
      clear t0 t1 t2 t3 t4 t5
      go_loopg [6,9] gs.length (fun gk v i wr=>∃(j:Nat) (V:Option Addr) (vc:Nat),j≤gs.length∧i=.int .i64 (j:Int)∧v=.slice V (usG U2 (gs.take j)).length vc∧Hid (OrdL (TT+1) W1 (usG U2 (gs.take j)) V vc wr∧gs.length - j≤gk))
      case atStart=>exact ⟨0,V2,vc2,Nat.zero_le _,rfl,by first|rfl|(rw [HE2.out];rfl),Lib.hid ⟨HV2.out,Nat.le_refl _⟩⟩
      case round =>
       obtain ⟨j,V3,vc3,hj,rfl,rfl,hI⟩:=hrel
       obtain ⟨wo3,hwo⟩:∃wo,wo=wr:=⟨_,rfl⟩
       subst hwo
       obtain ⟨ko3,hko⟩:∃ko,ko=gk:=⟨_,rfl⟩
       subst hko
       have HO:=Lib.hid hI.out.1
       have HGk:=Lib.hid hI.out.2
       clear hI HV2 HE2
       have HBx:=Lib.hid (HR0.out.box.of HO.out.b.size (HO.out.b.block TT (Nat.lt_succ_self _)))
       obtain ⟨t0,t1,t2,t3,t4,t5,_,_,_,_,_,_⟩:=HBx.out.get6
       by_cases hlt:j < gs.length
       ·obtain ⟨g,hBA,hg1,hg2,hnn,hcell⟩:=HRows.out.g.elt hlt
        have hat:=HRows.out.g.sit.at_ _ (getD_in hlt)
        have HBl:=Lib.hid (fun b (hb:b∈blkA (gs.getD j default).at_ (gs.getD j default).args.length++blkL (gs.getD j default).args)=>(HRows.out.g.sit.bd b (List.mem_flatMap.2 ⟨_,getD_in hlt,hb⟩)).2)
        have HNx:=Lib.hid (usG_next U2 hlt)
        have HNl:=Lib.hid (occ_len2 _ (HNa.out.2.2.1 _ (getD_in hlt)))
        have HUj:=Lib.hid (show (usG U2 (gs.take j)).length≤6400 from by
         have h1:=usG_len U2 (gs.take j) (fun x hx=>HNa.out.2.2.1 x (List.mem_of_mem_take hx))
         have h2:=HUl.out
         have h3:=HNa.out.2.2.2.2.2.2.1
         simp only [List.length_take] at h1
         omega)
        have hgT:g < TT+1:=by have:=HSW.out;omega
        have c1:wo3.cell? ⟨g,j*3+2,none⟩=some (.slice (gs.getD j default).at_ (gs.getD j default).args.length (gs.getD j default).cap):=(HO.out.b.cell (p:=⟨g,j*3+2,none⟩) hgT).trans (hcell 2 _ rfl)
        subst hBA
        have QO:=Lib.hid (order_z (TT+1) (gs.getD j default).at_ (gs.getD j default).args (gs.getD j default).cap wo3 (fun W hW=>lst_blk hat.2.2 fun b hb=>(hW b (by have:=HBl.out b hb;have:=HSW.out;omega)).trans (HO.out.b.block b (by have:=HBl.out b hb;have:=HSW.out;omega))) (by have:=HO.out.b.size;have:=HSW.out;omega) V3 (usG U2 (gs.take j)) vc3 HO.out.own (by have:=HNl.out.2;have:=HUj.out;omega))
        clear hcell hat hnn
        generalize gs.getD j default=x at *
        obtain ⟨xo,xn,xA,xc,xa⟩:=x
        simp only at c1
        go_wp2_with (go_at_call 36;(with_reducible refine QO.out.mono ?_);rintro e w4 ⟨A4,c4,rfl,how,hb4⟩;have HOw:=Lib.hid how;have HB4:=Lib.hid hb4;clear how hb4)
        have HNo:=Lib.hid (show OrdL (TT+1) W1 (usG U2 (gs.take (j+1))) A4 c4 w4 by rw [HNx.out];exact ⟨HOw.out,HO.out.b.trans HB4.out⟩)
        go_roundg (ko3 - 1)
        case measure=>have:=HGk.out;omega
        case rel=>exact ⟨j+1,A4,c4,by omega,by go_num,by rw [HNx.out],Lib.hid ⟨HNo.out,by have:=HGk.out;omega⟩⟩
       ·obtain rfl:j=gs.length:=by omega
        have HE3:=Lib.hid (show usG U2 (gs.take gs.length)=U3 by rw [List.take_length];exact HU3.out)
        have HV3:=Lib.hid (show OrdL (TT+1) W1 U3 V3 vc3 wo3 by rw [←HE3.out];exact HO.out)
        clear HO HGk hlt hj HBx
        go_wp2_with fail
        clear t0 t1 t2 t3 t4 t5
        go_loopg [6,10] bs.length (fun gk v i wr=>∃(j:Nat) (V:Option Addr) (vc:Nat),j≤bs.length∧i=.int .i64 (j:Int)∧v=.slice V (usG U3 (bs.take j)).length vc∧Hid (OrdL (TT+1) W1 (usG U3 (bs.take j)) V vc wr∧bs.length - j≤gk))
        case atStart=>exact ⟨0,V3,vc3,Nat.zero_le _,rfl,by first|rfl|(rw [HE3.out];rfl),Lib.hid ⟨HV3.out,Nat.le_refl _⟩⟩
        case round =>
         obtain ⟨j,V4,vc4,hj,rfl,rfl,hI⟩:=hrel
         obtain ⟨wo4,hwo⟩:∃wo,wo=wr:=⟨_,rfl⟩
         subst hwo
         obtain ⟨ko4,hko⟩:∃ko,ko=gk:=⟨_,rfl⟩
         subst hko
         have HO:=Lib.hid hI.out.1
         have HGk:=Lib.hid hI.out.2
         clear hI HV3 HE3
         have HBx:=Lib.hid (HR0.out.box.of HO.out.b.size (HO.out.b.block TT (Nat.lt_succ_self _)))
         obtain ⟨t0,t1,t2,t3,t4,t5,_,_,_,_,_,_⟩:=HBx.out.get6
         by_cases hlt:j < bs.length
         ·obtain ⟨g,hBA,hg1,hg2,hnn,hcell⟩:=HRows.out.b.elt hlt
          have hat:=HRows.out.b.sit.at_ _ (getD_in hlt)
          have HBl:=Lib.hid (fun b (hb:b∈blkA (bs.getD j default).at_ (bs.getD j default).args.length++blkL (bs.getD j default).args)=>(HRows.out.b.sit.bd b (List.mem_flatMap.2 ⟨_,getD_in hlt,hb⟩)).2)
          have HNx:=Lib.hid (usG_next U3 hlt)
          have HNl:=Lib.hid (occ_len2 _ (HNa.out.2.2.2.1 _ (getD_in hlt)))
          have HUj:=Lib.hid (show (usG U3 (bs.take j)).length≤6400 from by
           have h1:=usG_len U3 (bs.take j) (fun x hx=>HNa.out.2.2.2.1 x (List.mem_of_mem_take hx))
           have h2:=HUl.out
           have h3:=HNa.out.2.2.2.2.2.2.2
           simp only [List.length_take] at h1
           omega)
          have hgT:g < TT+1:=by have:=HSW.out;omega
          have c1:wo4.cell? ⟨g,j*3+2,none⟩=some (.slice (bs.getD j default).at_ (bs.getD j default).args.length (bs.getD j default).cap):=(HO.out.b.cell (p:=⟨g,j*3+2,none⟩) hgT).trans (hcell 2 _ rfl)
          subst hBA
          have QO:=Lib.hid (order_z (TT+1) (bs.getD j default).at_ (bs.getD j default).args (bs.getD j default).cap wo4 (fun W hW=>lst_blk hat.2.2 fun b hb=>(hW b (by have:=HBl.out b hb;have:=HSW.out;omega)).trans (HO.out.b.block b (by have:=HBl.out b hb;have:=HSW.out;omega))) (by have:=HO.out.b.size;have:=HSW.out;omega) V4 (usG U3 (bs.take j)) vc4 HO.out.own (by have:=HNl.out.2;have:=HUj.out;omega))
          clear hcell hat hnn
          generalize bs.getD j default=x at *
          obtain ⟨xo,xn,xA,xc,xa⟩:=x
          simp only at c1
          go_wp2_with (go_at_call 36;(with_reducible refine QO.out.mono ?_);rintro e w4 ⟨A4,c4,rfl,how,hb4⟩;have HOw:=Lib.hid how;have HB4:=Lib.hid hb4;clear how hb4)
          have HNo:=Lib.hid (show OrdL (TT+1) W1 (usG U3 (bs.take (j+1))) A4 c4 w4 by rw [HNx.out];exact ⟨HOw.out,HO.out.b.trans HB4.out⟩)
          go_roundg (ko4 - 1)
          case measure=>have:=HGk.out;omega
          case rel=>exact ⟨j+1,A4,c4,by omega,by go_num,by rw [HNx.out],Lib.hid ⟨HNo.out,by have:=HGk.out;omega⟩⟩
         ·obtain rfl:j=bs.length:=by omega
          have HE4:=Lib.hid (show usG U3 (bs.take bs.length)=U4 by rw [List.take_length];exact HU4.out)
          have HV4:=Lib.hid (show OrdL (TT+1) W1 U4 V4 vc4 wo4 by rw [←HE4.out];exact HO.out)
          clear HO HGk hlt hj HBx
          rw [HE4.out]
          go_wp2_with fail
          clear t0 t1 t2 t3 t4 t5
          have hbW:Below W1.heap.size W1 wo4:=by rw [HSW.out];exact HV4.out.b
          have HRst:=Lib.hid (show RestZ R A c l w TT (TT+1) q z2 ns2 a2 V4 vc4 U4 [.string (S t),.slice kA ks.length kc,.slice rA rs.length rc,.slice gA gs.length gc,.slice bA bs.length bc,.int .i64 0] wo4 from
           ⟨HR0.out.k.trans (Below.kp hbW R z2),HR0.out.p.below hbW,HR0.out.zero.below hbW,HR0.out.box.below hbW,HV4.out.own,by have:=hbW.size;have:=HSW.out;omega,HR0.out.zT⟩)
          have HRw:=Lib.hid (HRows.out.below hbW)
          have HMy:=Lib.hid (show w.heap.size+3≤m1∧m1≤m2∧m2≤m3 by have:=HRl.out;omega)
          have HMz:=Lib.hid (show (∀k,z2.ownBlock=some k→k < TT) from HR0.out.zT)
          have HOK:=Lib.hid (And.intro HRows.out.k1 (And.intro HRows.out.r1 HRows.out.g1))
          have HC5:=HRst
          have HRk5:=Lib.hid (HRw.out.k.low (show w.heap.size+3≤_ by rw [HS1.out];omega))
          have HRr5:=Lib.hid HRw.out.r
          have HRg5:=Lib.hid HRw.out.g
          have HRb5:=Lib.hid HRw.out.b
          clear hbW HV4 HR0 HRows HRw HRst
          go_loopg [11] ks.length (fun gk i wr=>∃(j:Nat) (done:List Am),j≤ks.length∧i=.int .i64 (j:Int)∧Hid (RestZ R A c l w TT (TT+1) q z2 ns2 a2 V4 vc4 U4 [.string (S t),.slice kA ks.length kc,.slice rA rs.length rc,.slice gA gs.length gc,.slice bA bs.length bc,.int .i64 0] wr∧((RowZ elAm 92 (w.heap.size+3) z2 wr (.slice kA ks.length kc) (done++ks.drop j))∧(RowZ elAm 92 m1 z2 wr (.slice rA rs.length rc) rs)∧(RowZ elGl 54 m2 z2 wr (.slice gA gs.length gc) gs)∧(RowZ elGl 54 m3 z2 wr (.slice bA bs.length bc) bs))∧NumA (placeS U4) (TT+1) ks done j∧ks.length - j≤gk))
          case atStart=>exact ⟨0,[],Nat.zero_le _,rfl,Lib.hid ⟨HC5.out,⟨HRk5.out,HRr5.out,HRg5.out,HRb5.out⟩,⟨rfl,rfl,fun b hb=>by simp [Elt.blkL] at hb⟩,Nat.le_refl _⟩⟩
          case round =>
           obtain ⟨j,done,hj,rfl,hI⟩:=hrel
           obtain ⟨wq0,hwo⟩:∃wo,wo=wr:=⟨_,rfl⟩
           subst hwo
           obtain ⟨kq0,hko⟩:∃ko,ko=gk:=⟨_,rfl⟩
           subst hko
           obtain ⟨iC,⟨iK,iR,iG,iB⟩,iN,iGk⟩:=hI.out
           have HC:=Lib.hid iC
           have HRk:=Lib.hid iK
           have HRr:=Lib.hid iR
           have HRg:=Lib.hid iG
           have HRb:=Lib.hid iB
           have HN:=Lib.hid iN
           have HGk:=Lib.hid iGk
           clear hI iC iK iR iG iB iN iGk HC5 HRk5 HRr5 HRg5 HRb5
           obtain ⟨t0,t1,t2,t3,t4,t5,g0,g1,g2,g3,g4,g5⟩:=HC.out.box.get6
           by_cases hlt:j < ks.length
           ·obtain ⟨hd1,hd2,hd3,hd4⟩:=done_get HN.out.len hlt
            obtain ⟨g,hBA,hg1,hg2,hnn,hcell⟩:=HRk.out.elt hd2
            have hat:=HRk.out.sit.at_ _ (getD_in hd2)
            rw [hd1] at hcell hat
            have HNl:=Lib.hid (HNa.out.1 _ (getD_in hlt))
            have hgT:g < TT:=by have h1:=HMx.out.1 g (by rw [hBA];rfl);omega
            have hgz:=HRk.out.zap g (by rw [hBA];rfl)
            have hfz:wq0.frozen? ⟨g,j*2+1,none⟩=false:=by
             have h1:=HRk.out.row
             rw [hBA] at h1
             rw [hnn] at h1
             exact World.ownsRow.frozenAt h1 _
            have c1:wq0.cell? ⟨g,j*2+1,none⟩=some (.slice (ks.getD j default).at_ (ks.getD j default).args.length (ks.getD j default).cap):=hcell 1 _ rfl
            subst hBA
            obtain ⟨V',vc',eV,hInt,_⟩:=HC.out.own.form
            injection eV with e1 _ e3
            subst e1 e3
            have HInt:=Lib.hid hInt
            have HLs:=Lib.hid (show Lst wq0 (ks.getD j default).at_ (ks.getD j default).args (ks.getD j default).cap from hat.1.2)
            have QR:=Lib.hid (fun W (hb:Below wq0.heap.size wq0 W)=>renumber_z V4 U4 vc4 (by have:=HUl.out;omega) _ (ks.getD j default).at_ (ks.getD j default).args (ks.getD j default).cap W rfl (by have:=HNl.out;omega) (HLs.out.below hb) (HInt.out.below hb))
            have HBD:=Lib.hid (fun (A2:Option Addr) (c2:Nat) (k2:List Tm) (W:World) (hb:Below wq0.heap.size wq0 W) (hl:Lst W A2 k2 c2) (hbl:∀b∈blkA A2 k2.length++blkL k2,wq0.heap.size≤b∧b < W.heap.size) (hp:stripL k2=numL2 (placeS U4) (ks.getD j default).args) (he:k2=[]→A2=none∧c2=0)=>(show (RowZ elAm 92 (w.heap.size+3) z2 (W.setCell ⟨g,j*2+1,none⟩ (.slice A2 k2.length c2)) (.slice (some ⟨g,0,none⟩) ks.length kc) ((done++[⟨(ks.getD j default).name,A2,c2,k2⟩])++ks.drop (j+1)))∧NumA (placeS U4) (TT+1) ks (done++[⟨(ks.getD j default).name,A2,c2,k2⟩]) (j+1) from
             ⟨num_stepA HRk.out HN.out.len hlt (fun k hk=>by have h1:=HMz.out k hk;have h2:=HC.out.top;omega) hb hl hbl he (by have h1:=congrArg List.length hp;rw [stripL_len,num2_len] at h1;have h2:=len_nodes (ks.getD j default).args;have h3:=HNl.out;omega),HN.out.next hlt hp HC.out.top fun b hb=>(hbl b hb).1⟩))
            clear hd1 hd2 hd3 hd4 hcell hat hnn hInt
            have hlj:(ks.getD j default).args.length≤16385:=by have:=len_nodes (ks.getD j default).args;have:=HNl.out;omega
            generalize ks.getD j default=x at *
            obtain ⟨xn,xA,xc,xa⟩:=x
            simp only at c1 QR hlj
            have hgTT:¬g=TT:=by omega
            have hTTg:¬TT=g:=by omega
            go_wp2_with fail
            have hS0:(fun W=>W.cell? ⟨TT,1,none⟩=some (.slice (some ⟨g,0,none⟩) ks.length kc)) wq0.drew:=t1
            have hltI:(j:Int) < (ks.length:Int):=by omega
            have hj0:(0:Int)≤(j:Int):=by omega
            refine held_start 14 rfl (fun W=>W.cell? ⟨TT,1,none⟩=some (.slice (some ⟨g,0,none⟩) ks.length kc)) rfl ?_
            refine held_take (i:=0) (dst:=some 93) (v:=?_) rfl rfl (by kernel_rfl) (by kernel_rfl) (by kernel_rfl) rfl hS0 ?_ ?_;rotate_left
            ·rintro w' l0;go_simp;with_reducible rfl
            go_frame
            refine held_take (i:=1) (dst:=some 94) (v:=?_) rfl rfl (by kernel_rfl) (by kernel_rfl) (by kernel_rfl) rfl hS0 ?_ ?_;rotate_left
            ·rintro w' l0;go_simp;with_reducible rfl
            go_frame
            refine held_take (i:=2) (dst:=some 95) (v:=?_) rfl rfl (by kernel_rfl) (by kernel_rfl) (by kernel_rfl) rfl hS0 ?_ ?_;rotate_left
            ·rintro w' l0;go_simp;with_reducible rfl
            go_frame
            refine held_take (i:=3) (dst:=some 96) (v:=?_) rfl rfl (by kernel_rfl) (by kernel_rfl) (by kernel_rfl) rfl hS0 ?_ ?_;rotate_left
            ·rintro w' l0;go_simp;with_reducible rfl
            go_frame
            refine held_take (i:=4) (dst:=some 97) (v:=?_) rfl rfl (by kernel_rfl) (by kernel_rfl) (by kernel_rfl) rfl hS0 ?_ ?_;rotate_left
            ·rintro w' l0;go_simp;with_reducible rfl
            go_frame
            refine held_take (i:=5) (dst:=some 98) (v:=?_) rfl rfl (by kernel_rfl) (by kernel_rfl) (by kernel_rfl) rfl hS0 ?_ ?_;rotate_left
            ·rintro w' l0;go_simp;with_reducible rfl
            go_frame
            refine held_take (i:=6) (dst:=some 99) (v:=?_) rfl rfl (by kernel_rfl) (by kernel_rfl) (by kernel_rfl) rfl hS0 ?_ ?_;rotate_left
            ·rintro w' l0;go_simp;with_reducible rfl
            go_frame
            refine held_take (i:=7) (dst:=some 100) (v:=?_) rfl rfl (by kernel_rfl) (by kernel_rfl) (by kernel_rfl) rfl hS0 ?_ ?_;rotate_left
            ·rintro w' l0;go_simp;with_reducible rfl
            go_frame
            refine held_take (i:=8) (dst:=some 101) (v:=?_) rfl rfl (by kernel_rfl) (by kernel_rfl) (by kernel_rfl) rfl hS0 ?_ ?_;rotate_left
            ·rintro w' l0;go_simp;with_reducible rfl
            go_frame
            refine round_one (i:=9) (by kernel_rfl) ?_
            refine round_do (dst:=some 102) (v:=.slice xA xa.length xc) (w2:=wq0.drew) rfl rfl rfl (by go_simp;try rfl) hS0 ?_
            go_frame
            refine round_one (i:=10) (by kernel_rfl) ?_
            refine held_call (dst:=some 103) rfl rfl rfl ?_ (QR.out wq0.drew (Below.refl _ _).drew) ?_
            ·go_simp;try rfl
            rintro e w5 ⟨A2,c2,k2,rfl,hb0,hp5,hl5,hbl5,he5⟩
            have hb5:Below wq0.heap.size wq0 w5:=⟨hb0.os,hb0.tape,hb0.output,hb0.size,hb0.block⟩
            have HB5:=Lib.hid hb5
            have HD5:=Lib.hid (HBD.out A2 c2 k2 w5 hb5 hl5 hbl5 hp5 he5)
            have hS5:(fun W=>W.cell? ⟨TT,1,none⟩=some (.slice (some ⟨g,0,none⟩) ks.length kc)) w5:=(hb5.cell (World.block_lt_of_cell? _ _ t1)).trans t1
            have c5':=(hb5.cell (World.block_lt_of_cell? _ _ c1)).trans c1
            have hfz5:=(World.frozen?_of_block (a:=⟨g,j*2+1,none⟩) (hb5.block g (by have:=HC.out.top;omega))).trans hfz
            have hS6:(fun W=>W.cell? ⟨TT,1,none⟩=some (.slice (some ⟨g,0,none⟩) ks.length kc)) (w5.setCell ⟨g,j*2+1,none⟩ (.slice A2 k2.length c2)):=(World.cell?_setCell_other _ _ _ _ (by simp only [ne_eq,Addr.mk.injEq];omega)).trans hS5
            clear hb0 hb5 hp5 hl5 hbl5 he5
            refine ⟨_,rfl,hS5,?_⟩
            go_frame
            refine held_take (i:=11) (dst:=some 104) (v:=?_) rfl rfl (by kernel_rfl) (by kernel_rfl) (by kernel_rfl) rfl hS5 ?_ ?_;rotate_left
            ·rintro w' l0;go_simp;with_reducible rfl
            go_frame
            refine held_take (i:=12) (dst:=some 105) (v:=?_) rfl rfl (by kernel_rfl) (by kernel_rfl) (by kernel_rfl) rfl hS5 ?_ ?_;rotate_left
            ·rintro w' l0;go_simp;with_reducible rfl
            go_frame
            refine round_one (i:=13) (by kernel_rfl) ?_
            refine round_skip (w2:=w5.setCell ⟨g,j*2+1,none⟩ (.slice A2 k2.length c2)) rfl rfl (by go_simp;try rfl) hS6 ?_
            go_frame
            refine round_end (by kernel_rfl) ?_
            have HNx:=Lib.hid (show RestZ R A c l w TT (TT+1) q z2 ns2 a2 V4 vc4 U4 [.string (S t),.slice (some ⟨g,0,none⟩) ks.length kc,.slice rA rs.length rc,.slice gA gs.length gc,.slice bA bs.length bc,.int .i64 0] (w5.setCell ⟨g,j*2+1,none⟩ (.slice A2 k2.length c2))∧((RowZ elAm 92 (w.heap.size+3) z2 (w5.setCell ⟨g,j*2+1,none⟩ (.slice A2 k2.length c2)) (.slice (some ⟨g,0,none⟩) ks.length kc) (done++[⟨xn,A2,c2,k2⟩]++ks.drop (j+1)))∧(RowZ elAm 92 m1 z2 (w5.setCell ⟨g,j*2+1,none⟩ (.slice A2 k2.length c2)) (.slice rA rs.length rc) rs)∧(RowZ elGl 54 m2 z2 (w5.setCell ⟨g,j*2+1,none⟩ (.slice A2 k2.length c2)) (.slice gA gs.length gc) gs)∧(RowZ elGl 54 m3 z2 (w5.setCell ⟨g,j*2+1,none⟩ (.slice A2 k2.length c2)) (.slice bA bs.length bc) bs)) from
             ⟨(HC.out.below HB5.out).put (by have:=HTw.out;have:=HS2.out;have:=HTT.out;have:=HMy.out;omega) (by omega) hgTT hR hgz _ _,HD5.out.1,(HRr.out.below HB5.out).away (.inl (by have h1:=HMy.out;have h2:=HOK.out.1 g rfl;omega)) _ _,(HRg.out.below HB5.out).away (.inl (by have h1:=HMy.out;have h2:=HOK.out.1 g rfl;omega)) _ _,(HRb.out.below HB5.out).away (.inl (by have h1:=HMy.out;have h2:=HOK.out.1 g rfl;omega)) _ _⟩)
            have HNy:=Lib.hid HD5.out.2
            go_wp2_with fail
            go_roundg (kq0 - 1)
            case measure=>have:=HGk.out;omega
            case rel=>exact ⟨j+1,done++[⟨xn,A2,c2,k2⟩],by omega,by go_num,Lib.hid ⟨by first|exact HNx.out.1|exact HNx.out.1.drew,by first|exact HNx.out.2|exact ⟨HNx.out.2.1.drew,HNx.out.2.2.1.drew,HNx.out.2.2.2.1.drew,HNx.out.2.2.2.2.drew⟩,HNy.out,by have:=HGk.out;omega⟩⟩
           ·obtain rfl:j=ks.length:=by omega
            have hnil:done++ks.drop ks.length=done:=by rw [List.drop_length,List.append_nil]
            rw [hnil] at HRk
            obtain ⟨dks,hdd⟩:∃dd,dd=done:=⟨_,rfl⟩
            subst hdd
            have HWks:=Lib.hid HN.out.new
            have HPks:=Lib.hid HN.out.p
            have HC6:=HC
            have HRk6:=HRk
            have HRr6:=HRr
            have HRg6:=HRg
            have HRb6:=HRb
            clear HGk hlt hj hnil HC HRk HRr HRg HRb HN
            go_wp2_with fail
            clear t0 t1 t2 t3 t4 t5 g0 g1 g2 g3 g4 g5
            go_loopg [12] rs.length (fun gk i wr=>∃(j:Nat) (done:List Am),j≤rs.length∧i=.int .i64 (j:Int)∧Hid (RestZ R A c l w TT (TT+1) q z2 ns2 a2 V4 vc4 U4 [.string (S t),.slice kA ks.length kc,.slice rA rs.length rc,.slice gA gs.length gc,.slice bA bs.length bc,.int .i64 0] wr∧((RowZ elAm 92 (w.heap.size+3) z2 wr (.slice kA ks.length kc) dks)∧(RowZ elAm 92 m1 z2 wr (.slice rA rs.length rc) (done++rs.drop j))∧(RowZ elGl 54 m2 z2 wr (.slice gA gs.length gc) gs)∧(RowZ elGl 54 m3 z2 wr (.slice bA bs.length bc) bs))∧NumA (placeS U4) (TT+1) rs done j∧rs.length - j≤gk))
            case atStart=>exact ⟨0,[],Nat.zero_le _,rfl,Lib.hid ⟨HC6.out,⟨HRk6.out,HRr6.out,HRg6.out,HRb6.out⟩,⟨rfl,rfl,fun b hb=>by simp [Elt.blkL] at hb⟩,Nat.le_refl _⟩⟩
            case round =>
             obtain ⟨j,done,hj,rfl,hI⟩:=hrel
             obtain ⟨wq1,hwo⟩:∃wo,wo=wr:=⟨_,rfl⟩
             subst hwo
             obtain ⟨kq1,hko⟩:∃ko,ko=gk:=⟨_,rfl⟩
             subst hko
             obtain ⟨iC,⟨iK,iR,iG,iB⟩,iN,iGk⟩:=hI.out
             have HC:=Lib.hid iC
             have HRk:=Lib.hid iK
             have HRr:=Lib.hid iR
             have HRg:=Lib.hid iG
             have HRb:=Lib.hid iB
             have HN:=Lib.hid iN
             have HGk:=Lib.hid iGk
             clear hI iC iK iR iG iB iN iGk HC6 HRk6 HRr6 HRg6 HRb6
             obtain ⟨t0,t1,t2,t3,t4,t5,g0,g1,g2,g3,g4,g5⟩:=HC.out.box.get6
             by_cases hlt:j < rs.length
             ·obtain ⟨hd1,hd2,hd3,hd4⟩:=done_get HN.out.len hlt
              obtain ⟨g,hBA,hg1,hg2,hnn,hcell⟩:=HRr.out.elt hd2
              have hat:=HRr.out.sit.at_ _ (getD_in hd2)
              rw [hd1] at hcell hat
              have HNl:=Lib.hid (HNa.out.2.1 _ (getD_in hlt))
              have hgT:g < TT:=by have h1:=HMx.out.2.1 g (by rw [hBA];rfl);omega
              have hgz:=HRr.out.zap g (by rw [hBA];rfl)
              have hfz:wq1.frozen? ⟨g,j*2+1,none⟩=false:=by
               have h1:=HRr.out.row
               rw [hBA] at h1
               rw [hnn] at h1
               exact World.ownsRow.frozenAt h1 _
              have c1:wq1.cell? ⟨g,j*2+1,none⟩=some (.slice (rs.getD j default).at_ (rs.getD j default).args.length (rs.getD j default).cap):=hcell 1 _ rfl
              subst hBA
              obtain ⟨V',vc',eV,hInt,_⟩:=HC.out.own.form
              injection eV with e1 _ e3
              subst e1 e3
              have HInt:=Lib.hid hInt
              have HLs:=Lib.hid (show Lst wq1 (rs.getD j default).at_ (rs.getD j default).args (rs.getD j default).cap from hat.1.2)
              have QR:=Lib.hid (fun W (hb:Below wq1.heap.size wq1 W)=>renumber_z V4 U4 vc4 (by have:=HUl.out;omega) _ (rs.getD j default).at_ (rs.getD j default).args (rs.getD j default).cap W rfl (by have:=HNl.out;omega) (HLs.out.below hb) (HInt.out.below hb))
              have HBD:=Lib.hid (fun (A2:Option Addr) (c2:Nat) (k2:List Tm) (W:World) (hb:Below wq1.heap.size wq1 W) (hl:Lst W A2 k2 c2) (hbl:∀b∈blkA A2 k2.length++blkL k2,wq1.heap.size≤b∧b < W.heap.size) (hp:stripL k2=numL2 (placeS U4) (rs.getD j default).args) (he:k2=[]→A2=none∧c2=0)=>(show (RowZ elAm 92 m1 z2 (W.setCell ⟨g,j*2+1,none⟩ (.slice A2 k2.length c2)) (.slice (some ⟨g,0,none⟩) rs.length rc) ((done++[⟨(rs.getD j default).name,A2,c2,k2⟩])++rs.drop (j+1)))∧NumA (placeS U4) (TT+1) rs (done++[⟨(rs.getD j default).name,A2,c2,k2⟩]) (j+1) from
               ⟨num_stepA HRr.out HN.out.len hlt (fun k hk=>by have h1:=HMz.out k hk;have h2:=HC.out.top;omega) hb hl hbl he (by have h1:=congrArg List.length hp;rw [stripL_len,num2_len] at h1;have h2:=len_nodes (rs.getD j default).args;have h3:=HNl.out;omega),HN.out.next hlt hp HC.out.top fun b hb=>(hbl b hb).1⟩))
              clear hd1 hd2 hd3 hd4 hcell hat hnn hInt
              have hlj:(rs.getD j default).args.length≤16385:=by have:=len_nodes (rs.getD j default).args;have:=HNl.out;omega
              generalize rs.getD j default=x at *
              obtain ⟨xn,xA,xc,xa⟩:=x
              simp only at c1 QR hlj
              have hgTT:¬g=TT:=by omega
              have hTTg:¬TT=g:=by omega
              go_wp2_with fail
              have hS0:(fun W=>W.cell? ⟨TT,2,none⟩=some (.slice (some ⟨g,0,none⟩) rs.length rc)) wq1.drew:=t2
              have hltI:(j:Int) < (rs.length:Int):=by omega
              have hj0:(0:Int)≤(j:Int):=by omega
              refine held_start 14 rfl (fun W=>W.cell? ⟨TT,2,none⟩=some (.slice (some ⟨g,0,none⟩) rs.length rc)) rfl ?_
              refine held_take (i:=0) (dst:=some 113) (v:=?_) rfl rfl (by kernel_rfl) (by kernel_rfl) (by kernel_rfl) rfl hS0 ?_ ?_;rotate_left
              ·rintro w' l0;go_simp;with_reducible rfl
              go_frame
              refine held_take (i:=1) (dst:=some 114) (v:=?_) rfl rfl (by kernel_rfl) (by kernel_rfl) (by kernel_rfl) rfl hS0 ?_ ?_;rotate_left
              ·rintro w' l0;go_simp;with_reducible rfl
              go_frame
              refine held_take (i:=2) (dst:=some 115) (v:=?_) rfl rfl (by kernel_rfl) (by kernel_rfl) (by kernel_rfl) rfl hS0 ?_ ?_;rotate_left
              ·rintro w' l0;go_simp;with_reducible rfl
              go_frame
              refine held_take (i:=3) (dst:=some 116) (v:=?_) rfl rfl (by kernel_rfl) (by kernel_rfl) (by kernel_rfl) rfl hS0 ?_ ?_;rotate_left
              ·rintro w' l0;go_simp;with_reducible rfl
              go_frame
              refine held_take (i:=4) (dst:=some 117) (v:=?_) rfl rfl (by kernel_rfl) (by kernel_rfl) (by kernel_rfl) rfl hS0 ?_ ?_;rotate_left
              ·rintro w' l0;go_simp;with_reducible rfl
              go_frame
              refine held_take (i:=5) (dst:=some 118) (v:=?_) rfl rfl (by kernel_rfl) (by kernel_rfl) (by kernel_rfl) rfl hS0 ?_ ?_;rotate_left
              ·rintro w' l0;go_simp;with_reducible rfl
              go_frame
              refine held_take (i:=6) (dst:=some 119) (v:=?_) rfl rfl (by kernel_rfl) (by kernel_rfl) (by kernel_rfl) rfl hS0 ?_ ?_;rotate_left
              ·rintro w' l0;go_simp;with_reducible rfl
              go_frame
              refine held_take (i:=7) (dst:=some 120) (v:=?_) rfl rfl (by kernel_rfl) (by kernel_rfl) (by kernel_rfl) rfl hS0 ?_ ?_;rotate_left
              ·rintro w' l0;go_simp;with_reducible rfl
              go_frame
              refine held_take (i:=8) (dst:=some 121) (v:=?_) rfl rfl (by kernel_rfl) (by kernel_rfl) (by kernel_rfl) rfl hS0 ?_ ?_;rotate_left
              ·rintro w' l0;go_simp;with_reducible rfl
              go_frame
              refine round_one (i:=9) (by kernel_rfl) ?_
              refine round_do (dst:=some 122) (v:=.slice xA xa.length xc) (w2:=wq1.drew) rfl rfl rfl (by go_simp;try rfl) hS0 ?_
              go_frame
              refine round_one (i:=10) (by kernel_rfl) ?_
              refine held_call (dst:=some 123) rfl rfl rfl ?_ (QR.out wq1.drew (Below.refl _ _).drew) ?_
              ·go_simp;try rfl
              rintro e w5 ⟨A2,c2,k2,rfl,hb0,hp5,hl5,hbl5,he5⟩
              have hb5:Below wq1.heap.size wq1 w5:=⟨hb0.os,hb0.tape,hb0.output,hb0.size,hb0.block⟩
              have HB5:=Lib.hid hb5
              have HD5:=Lib.hid (HBD.out A2 c2 k2 w5 hb5 hl5 hbl5 hp5 he5)
              have hS5:(fun W=>W.cell? ⟨TT,2,none⟩=some (.slice (some ⟨g,0,none⟩) rs.length rc)) w5:=(hb5.cell (World.block_lt_of_cell? _ _ t2)).trans t2
              have c5':=(hb5.cell (World.block_lt_of_cell? _ _ c1)).trans c1
              have hfz5:=(World.frozen?_of_block (a:=⟨g,j*2+1,none⟩) (hb5.block g (by have:=HC.out.top;omega))).trans hfz
              have hS6:(fun W=>W.cell? ⟨TT,2,none⟩=some (.slice (some ⟨g,0,none⟩) rs.length rc)) (w5.setCell ⟨g,j*2+1,none⟩ (.slice A2 k2.length c2)):=(World.cell?_setCell_other _ _ _ _ (by simp only [ne_eq,Addr.mk.injEq];omega)).trans hS5
              clear hb0 hb5 hp5 hl5 hbl5 he5
              refine ⟨_,rfl,hS5,?_⟩
              go_frame
              refine held_take (i:=11) (dst:=some 124) (v:=?_) rfl rfl (by kernel_rfl) (by kernel_rfl) (by kernel_rfl) rfl hS5 ?_ ?_;rotate_left
              ·rintro w' l0;go_simp;with_reducible rfl
              go_frame
              refine held_take (i:=12) (dst:=some 125) (v:=?_) rfl rfl (by kernel_rfl) (by kernel_rfl) (by kernel_rfl) rfl hS5 ?_ ?_;rotate_left
              ·rintro w' l0;go_simp;with_reducible rfl
              go_frame
              refine round_one (i:=13) (by kernel_rfl) ?_
              refine round_skip (w2:=w5.setCell ⟨g,j*2+1,none⟩ (.slice A2 k2.length c2)) rfl rfl (by go_simp;try rfl) hS6 ?_
              go_frame
              refine round_end (by kernel_rfl) ?_
              have HNx:=Lib.hid (show RestZ R A c l w TT (TT+1) q z2 ns2 a2 V4 vc4 U4 [.string (S t),.slice kA ks.length kc,.slice (some ⟨g,0,none⟩) rs.length rc,.slice gA gs.length gc,.slice bA bs.length bc,.int .i64 0] (w5.setCell ⟨g,j*2+1,none⟩ (.slice A2 k2.length c2))∧((RowZ elAm 92 (w.heap.size+3) z2 (w5.setCell ⟨g,j*2+1,none⟩ (.slice A2 k2.length c2)) (.slice kA ks.length kc) dks)∧(RowZ elAm 92 m1 z2 (w5.setCell ⟨g,j*2+1,none⟩ (.slice A2 k2.length c2)) (.slice (some ⟨g,0,none⟩) rs.length rc) (done++[⟨xn,A2,c2,k2⟩]++rs.drop (j+1)))∧(RowZ elGl 54 m2 z2 (w5.setCell ⟨g,j*2+1,none⟩ (.slice A2 k2.length c2)) (.slice gA gs.length gc) gs)∧(RowZ elGl 54 m3 z2 (w5.setCell ⟨g,j*2+1,none⟩ (.slice A2 k2.length c2)) (.slice bA bs.length bc) bs)) from
               ⟨(HC.out.below HB5.out).put (by have:=HTw.out;have:=HS2.out;have:=HTT.out;have:=HMy.out;omega) (by omega) hgTT hR hgz _ _,(HRk.out.below HB5.out).away (.inr ⟨fun k hk=>by have h1:=HOK.out.1 k hk;have h2:=HMy.out;omega,fun b hb=>by have h1:=HWks.out b hb;omega⟩) _ _,HD5.out.1,(HRg.out.below HB5.out).away (.inl (by have h1:=HMy.out;have h2:=HOK.out.2.1 g rfl;omega)) _ _,(HRb.out.below HB5.out).away (.inl (by have h1:=HMy.out;have h2:=HOK.out.2.1 g rfl;omega)) _ _⟩)
              have HNy:=Lib.hid HD5.out.2
              go_wp2_with fail
              go_roundg (kq1 - 1)
              case measure=>have:=HGk.out;omega
              case rel=>exact ⟨j+1,done++[⟨xn,A2,c2,k2⟩],by omega,by go_num,Lib.hid ⟨by first|exact HNx.out.1|exact HNx.out.1.drew,by first|exact HNx.out.2|exact ⟨HNx.out.2.1.drew,HNx.out.2.2.1.drew,HNx.out.2.2.2.1.drew,HNx.out.2.2.2.2.drew⟩,HNy.out,by have:=HGk.out;omega⟩⟩
             ·obtain rfl:j=rs.length:=by omega
              have hnil:done++rs.drop rs.length=done:=by rw [List.drop_length,List.append_nil]
              rw [hnil] at HRr
              obtain ⟨drs,hdd⟩:∃dd,dd=done:=⟨_,rfl⟩
              subst hdd
              have HWrs:=Lib.hid HN.out.new
              have HPrs:=Lib.hid HN.out.p
              have HC7:=HC
              have HRk7:=HRk
              have HRr7:=HRr
              have HRg7:=HRg
              have HRb7:=HRb
              clear HGk hlt hj hnil HC HRk HRr HRg HRb HN
              go_wp2_with fail
              clear t0 t1 t2 t3 t4 t5 g0 g1 g2 g3 g4 g5
              go_loopg [13] gs.length (fun gk i wr=>∃(j:Nat) (done:List Gl),j≤gs.length∧i=.int .i64 (j:Int)∧Hid (RestZ R A c l w TT (TT+1) q z2 ns2 a2 V4 vc4 U4 [.string (S t),.slice kA ks.length kc,.slice rA rs.length rc,.slice gA gs.length gc,.slice bA bs.length bc,.int .i64 0] wr∧((RowZ elAm 92 (w.heap.size+3) z2 wr (.slice kA ks.length kc) dks)∧(RowZ elAm 92 m1 z2 wr (.slice rA rs.length rc) drs)∧(RowZ elGl 54 m2 z2 wr (.slice gA gs.length gc) (done++gs.drop j))∧(RowZ elGl 54 m3 z2 wr (.slice bA bs.length bc) bs))∧NumG (placeS U4) (TT+1) gs done j∧gs.length - j≤gk))
              case atStart=>exact ⟨0,[],Nat.zero_le _,rfl,Lib.hid ⟨HC7.out,⟨HRk7.out,HRr7.out,HRg7.out,HRb7.out⟩,⟨rfl,rfl,fun b hb=>by simp [Elt.blkL] at hb⟩,Nat.le_refl _⟩⟩
              case round =>
               obtain ⟨j,done,hj,rfl,hI⟩:=hrel
               obtain ⟨wq2,hwo⟩:∃wo,wo=wr:=⟨_,rfl⟩
               subst hwo
               obtain ⟨kq2,hko⟩:∃ko,ko=gk:=⟨_,rfl⟩
               subst hko
               obtain ⟨iC,⟨iK,iR,iG,iB⟩,iN,iGk⟩:=hI.out
               have HC:=Lib.hid iC
               have HRk:=Lib.hid iK
               have HRr:=Lib.hid iR
               have HRg:=Lib.hid iG
               have HRb:=Lib.hid iB
               have HN:=Lib.hid iN
               have HGk:=Lib.hid iGk
               clear hI iC iK iR iG iB iN iGk HC7 HRk7 HRr7 HRg7 HRb7
               obtain ⟨t0,t1,t2,t3,t4,t5,g0,g1,g2,g3,g4,g5⟩:=HC.out.box.get6
               by_cases hlt:j < gs.length
               ·obtain ⟨hd1,hd2,hd3,hd4⟩:=done_get HN.out.len hlt
                obtain ⟨g,hBA,hg1,hg2,hnn,hcell⟩:=HRg.out.elt hd2
                have hat:=HRg.out.sit.at_ _ (getD_in hd2)
                rw [hd1] at hcell hat
                have HNl:=Lib.hid (HNa.out.2.2.1 _ (getD_in hlt))
                have hgT:g < TT:=by have h1:=HMx.out.2.2.1 g (by rw [hBA];rfl);omega
                have hgz:=HRg.out.zap g (by rw [hBA];rfl)
                have hfz:wq2.frozen? ⟨g,j*3+2,none⟩=false:=by
                 have h1:=HRg.out.row
                 rw [hBA] at h1
                 rw [hnn] at h1
                 exact World.ownsRow.frozenAt h1 _
                have c1:wq2.cell? ⟨g,j*3+2,none⟩=some (.slice (gs.getD j default).at_ (gs.getD j default).args.length (gs.getD j default).cap):=hcell 2 _ rfl
                subst hBA
                obtain ⟨V',vc',eV,hInt,_⟩:=HC.out.own.form
                injection eV with e1 _ e3
                subst e1 e3
                have HInt:=Lib.hid hInt
                have HLs:=Lib.hid (show Lst wq2 (gs.getD j default).at_ (gs.getD j default).args (gs.getD j default).cap from hat.2.2)
                have QR:=Lib.hid (fun W (hb:Below wq2.heap.size wq2 W)=>renumber_z V4 U4 vc4 (by have:=HUl.out;omega) _ (gs.getD j default).at_ (gs.getD j default).args (gs.getD j default).cap W rfl (by have:=HNl.out;omega) (HLs.out.below hb) (HInt.out.below hb))
                have HBD:=Lib.hid (fun (A2:Option Addr) (c2:Nat) (k2:List Tm) (W:World) (hb:Below wq2.heap.size wq2 W) (hl:Lst W A2 k2 c2) (hbl:∀b∈blkA A2 k2.length++blkL k2,wq2.heap.size≤b∧b < W.heap.size) (hp:stripL k2=numL2 (placeS U4) (gs.getD j default).args) (he:k2=[]→A2=none∧c2=0)=>(show (RowZ elGl 54 m2 z2 (W.setCell ⟨g,j*3+2,none⟩ (.slice A2 k2.length c2)) (.slice (some ⟨g,0,none⟩) gs.length gc) ((done++[⟨(gs.getD j default).op,(gs.getD j default).name,A2,c2,k2⟩])++gs.drop (j+1)))∧NumG (placeS U4) (TT+1) gs (done++[⟨(gs.getD j default).op,(gs.getD j default).name,A2,c2,k2⟩]) (j+1) from
                 ⟨num_stepG HRg.out HN.out.len hlt (fun k hk=>by have h1:=HMz.out k hk;have h2:=HC.out.top;omega) hb hl hbl,HN.out.next hlt hp HC.out.top fun b hb=>(hbl b hb).1⟩))
                clear hd1 hd2 hd3 hd4 hcell hat hnn hInt
                have hlj:(gs.getD j default).args.length≤16385:=by have:=len_nodes (gs.getD j default).args;have:=HNl.out;omega
                generalize gs.getD j default=x at *
                obtain ⟨xo,xn,xA,xc,xa⟩:=x
                simp only at c1 QR hlj
                have hgTT:¬g=TT:=by omega
                have hTTg:¬TT=g:=by omega
                go_wp2_with fail
                have hS0:(fun W=>W.cell? ⟨TT,3,none⟩=some (.slice (some ⟨g,0,none⟩) gs.length gc)) wq2.drew:=t3
                have hltI:(j:Int) < (gs.length:Int):=by omega
                have hj0:(0:Int)≤(j:Int):=by omega
                refine held_start 14 rfl (fun W=>W.cell? ⟨TT,3,none⟩=some (.slice (some ⟨g,0,none⟩) gs.length gc)) rfl ?_
                refine held_take (i:=0) (dst:=some 133) (v:=?_) rfl rfl (by kernel_rfl) (by kernel_rfl) (by kernel_rfl) rfl hS0 ?_ ?_;rotate_left
                ·rintro w' l0;go_simp;with_reducible rfl
                go_frame
                refine held_take (i:=1) (dst:=some 134) (v:=?_) rfl rfl (by kernel_rfl) (by kernel_rfl) (by kernel_rfl) rfl hS0 ?_ ?_;rotate_left
                ·rintro w' l0;go_simp;with_reducible rfl
                go_frame
                refine held_take (i:=2) (dst:=some 135) (v:=?_) rfl rfl (by kernel_rfl) (by kernel_rfl) (by kernel_rfl) rfl hS0 ?_ ?_;rotate_left
                ·rintro w' l0;go_simp;with_reducible rfl
                go_frame
                refine held_take (i:=3) (dst:=some 136) (v:=?_) rfl rfl (by kernel_rfl) (by kernel_rfl) (by kernel_rfl) rfl hS0 ?_ ?_;rotate_left
                ·rintro w' l0;go_simp;with_reducible rfl
                go_frame
                refine held_take (i:=4) (dst:=some 137) (v:=?_) rfl rfl (by kernel_rfl) (by kernel_rfl) (by kernel_rfl) rfl hS0 ?_ ?_;rotate_left
                ·rintro w' l0;go_simp;with_reducible rfl
                go_frame
                refine held_take (i:=5) (dst:=some 138) (v:=?_) rfl rfl (by kernel_rfl) (by kernel_rfl) (by kernel_rfl) rfl hS0 ?_ ?_;rotate_left
                ·rintro w' l0;go_simp;with_reducible rfl
                go_frame
                refine held_take (i:=6) (dst:=some 139) (v:=?_) rfl rfl (by kernel_rfl) (by kernel_rfl) (by kernel_rfl) rfl hS0 ?_ ?_;rotate_left
                ·rintro w' l0;go_simp;with_reducible rfl
                go_frame
                refine held_take (i:=7) (dst:=some 140) (v:=?_) rfl rfl (by kernel_rfl) (by kernel_rfl) (by kernel_rfl) rfl hS0 ?_ ?_;rotate_left
                ·rintro w' l0;go_simp;with_reducible rfl
                go_frame
                refine held_take (i:=8) (dst:=some 141) (v:=?_) rfl rfl (by kernel_rfl) (by kernel_rfl) (by kernel_rfl) rfl hS0 ?_ ?_;rotate_left
                ·rintro w' l0;go_simp;with_reducible rfl
                go_frame
                refine round_one (i:=9) (by kernel_rfl) ?_
                refine round_do (dst:=some 142) (v:=.slice xA xa.length xc) (w2:=wq2.drew) rfl rfl rfl (by go_simp;try rfl) hS0 ?_
                go_frame
                refine round_one (i:=10) (by kernel_rfl) ?_
                refine held_call (dst:=some 143) rfl rfl rfl ?_ (QR.out wq2.drew (Below.refl _ _).drew) ?_
                ·go_simp;try rfl
                rintro e w5 ⟨A2,c2,k2,rfl,hb0,hp5,hl5,hbl5,he5⟩
                have hb5:Below wq2.heap.size wq2 w5:=⟨hb0.os,hb0.tape,hb0.output,hb0.size,hb0.block⟩
                have HB5:=Lib.hid hb5
                have HD5:=Lib.hid (HBD.out A2 c2 k2 w5 hb5 hl5 hbl5 hp5 he5)
                have hS5:(fun W=>W.cell? ⟨TT,3,none⟩=some (.slice (some ⟨g,0,none⟩) gs.length gc)) w5:=(hb5.cell (World.block_lt_of_cell? _ _ t3)).trans t3
                have c5':=(hb5.cell (World.block_lt_of_cell? _ _ c1)).trans c1
                have hfz5:=(World.frozen?_of_block (a:=⟨g,j*3+2,none⟩) (hb5.block g (by have:=HC.out.top;omega))).trans hfz
                have hS6:(fun W=>W.cell? ⟨TT,3,none⟩=some (.slice (some ⟨g,0,none⟩) gs.length gc)) (w5.setCell ⟨g,j*3+2,none⟩ (.slice A2 k2.length c2)):=(World.cell?_setCell_other _ _ _ _ (by simp only [ne_eq,Addr.mk.injEq];omega)).trans hS5
                clear hb0 hb5 hp5 hl5 hbl5 he5
                refine ⟨_,rfl,hS5,?_⟩
                go_frame
                refine held_take (i:=11) (dst:=some 144) (v:=?_) rfl rfl (by kernel_rfl) (by kernel_rfl) (by kernel_rfl) rfl hS5 ?_ ?_;rotate_left
                ·rintro w' l0;go_simp;with_reducible rfl
                go_frame
                refine held_take (i:=12) (dst:=some 145) (v:=?_) rfl rfl (by kernel_rfl) (by kernel_rfl) (by kernel_rfl) rfl hS5 ?_ ?_;rotate_left
                ·rintro w' l0;go_simp;with_reducible rfl
                go_frame
                refine round_one (i:=13) (by kernel_rfl) ?_
                refine round_skip (w2:=w5.setCell ⟨g,j*3+2,none⟩ (.slice A2 k2.length c2)) rfl rfl (by go_simp;try rfl) hS6 ?_
                go_frame
                refine round_end (by kernel_rfl) ?_
                have HNx:=Lib.hid (show RestZ R A c l w TT (TT+1) q z2 ns2 a2 V4 vc4 U4 [.string (S t),.slice kA ks.length kc,.slice rA rs.length rc,.slice (some ⟨g,0,none⟩) gs.length gc,.slice bA bs.length bc,.int .i64 0] (w5.setCell ⟨g,j*3+2,none⟩ (.slice A2 k2.length c2))∧((RowZ elAm 92 (w.heap.size+3) z2 (w5.setCell ⟨g,j*3+2,none⟩ (.slice A2 k2.length c2)) (.slice kA ks.length kc) dks)∧(RowZ elAm 92 m1 z2 (w5.setCell ⟨g,j*3+2,none⟩ (.slice A2 k2.length c2)) (.slice rA rs.length rc) drs)∧(RowZ elGl 54 m2 z2 (w5.setCell ⟨g,j*3+2,none⟩ (.slice A2 k2.length c2)) (.slice (some ⟨g,0,none⟩) gs.length gc) (done++[⟨xo,xn,A2,c2,k2⟩]++gs.drop (j+1)))∧(RowZ elGl 54 m3 z2 (w5.setCell ⟨g,j*3+2,none⟩ (.slice A2 k2.length c2)) (.slice bA bs.length bc) bs)) from
                 ⟨(HC.out.below HB5.out).put (by have:=HTw.out;have:=HS2.out;have:=HTT.out;have:=HMy.out;omega) (by omega) hgTT hR hgz _ _,(HRk.out.below HB5.out).away (.inr ⟨fun k hk=>by have h1:=HOK.out.1 k hk;have h2:=HMy.out;omega,fun b hb=>by have h1:=HWks.out b hb;omega⟩) _ _,(HRr.out.below HB5.out).away (.inr ⟨fun k hk=>by have h1:=HOK.out.2.1 k hk;have h2:=HMy.out;omega,fun b hb=>by have h1:=HWrs.out b hb;omega⟩) _ _,HD5.out.1,(HRb.out.below HB5.out).away (.inl (by have h1:=HMy.out;have h2:=HOK.out.2.2 g rfl;omega)) _ _⟩)
                have HNy:=Lib.hid HD5.out.2
                go_wp2_with fail
                go_roundg (kq2 - 1)
                case measure=>have:=HGk.out;omega
                case rel=>exact ⟨j+1,done++[⟨xo,xn,A2,c2,k2⟩],by omega,by go_num,Lib.hid ⟨by first|exact HNx.out.1|exact HNx.out.1.drew,by first|exact HNx.out.2|exact ⟨HNx.out.2.1.drew,HNx.out.2.2.1.drew,HNx.out.2.2.2.1.drew,HNx.out.2.2.2.2.drew⟩,HNy.out,by have:=HGk.out;omega⟩⟩
               ·obtain rfl:j=gs.length:=by omega
                have hnil:done++gs.drop gs.length=done:=by rw [List.drop_length,List.append_nil]
                rw [hnil] at HRg
                obtain ⟨dgs,hdd⟩:∃dd,dd=done:=⟨_,rfl⟩
                subst hdd
                have HWgs:=Lib.hid HN.out.new
                have HPgs:=Lib.hid HN.out.p
                have HC8:=HC
                have HRk8:=HRk
                have HRr8:=HRr
                have HRg8:=HRg
                have HRb8:=HRb
                clear HGk hlt hj hnil HC HRk HRr HRg HRb HN
                go_wp2_with fail
                clear t0 t1 t2 t3 t4 t5 g0 g1 g2 g3 g4 g5
                go_loopg [14] bs.length (fun gk i wr=>∃(j:Nat) (done:List Gl),j≤bs.length∧i=.int .i64 (j:Int)∧Hid (RestZ R A c l w TT (TT+1) q z2 ns2 a2 V4 vc4 U4 [.string (S t),.slice kA ks.length kc,.slice rA rs.length rc,.slice gA gs.length gc,.slice bA bs.length bc,.int .i64 0] wr∧((RowZ elAm 92 (w.heap.size+3) z2 wr (.slice kA ks.length kc) dks)∧(RowZ elAm 92 m1 z2 wr (.slice rA rs.length rc) drs)∧(RowZ elGl 54 m2 z2 wr (.slice gA gs.length gc) dgs)∧(RowZ elGl 54 m3 z2 wr (.slice bA bs.length bc) (done++bs.drop j)))∧NumG (placeS U4) (TT+1) bs done j∧bs.length - j≤gk))
                case atStart=>exact ⟨0,[],Nat.zero_le _,rfl,Lib.hid ⟨HC8.out,⟨HRk8.out,HRr8.out,HRg8.out,HRb8.out⟩,⟨rfl,rfl,fun b hb=>by simp [Elt.blkL] at hb⟩,Nat.le_refl _⟩⟩
                case round =>
                 obtain ⟨j,done,hj,rfl,hI⟩:=hrel
                 obtain ⟨wq3,hwo⟩:∃wo,wo=wr:=⟨_,rfl⟩
                 subst hwo
                 obtain ⟨kq3,hko⟩:∃ko,ko=gk:=⟨_,rfl⟩
                 subst hko
                 obtain ⟨iC,⟨iK,iR,iG,iB⟩,iN,iGk⟩:=hI.out
                 have HC:=Lib.hid iC
                 have HRk:=Lib.hid iK
                 have HRr:=Lib.hid iR
                 have HRg:=Lib.hid iG
                 have HRb:=Lib.hid iB
                 have HN:=Lib.hid iN
                 have HGk:=Lib.hid iGk
                 clear hI iC iK iR iG iB iN iGk HC8 HRk8 HRr8 HRg8 HRb8
                 obtain ⟨t0,t1,t2,t3,t4,t5,g0,g1,g2,g3,g4,g5⟩:=HC.out.box.get6
                 by_cases hlt:j < bs.length
                 ·obtain ⟨hd1,hd2,hd3,hd4⟩:=done_get HN.out.len hlt
                  obtain ⟨g,hBA,hg1,hg2,hnn,hcell⟩:=HRb.out.elt hd2
                  have hat:=HRb.out.sit.at_ _ (getD_in hd2)
                  rw [hd1] at hcell hat
                  have HNl:=Lib.hid (HNa.out.2.2.2.1 _ (getD_in hlt))
                  have hgT:g < TT:=by have h1:=HMx.out.2.2.2 g (by rw [hBA];rfl);omega
                  have hgz:=HRb.out.zap g (by rw [hBA];rfl)
                  have hfz:wq3.frozen? ⟨g,j*3+2,none⟩=false:=by
                   have h1:=HRb.out.row
                   rw [hBA] at h1
                   rw [hnn] at h1
                   exact World.ownsRow.frozenAt h1 _
                  have c1:wq3.cell? ⟨g,j*3+2,none⟩=some (.slice (bs.getD j default).at_ (bs.getD j default).args.length (bs.getD j default).cap):=hcell 2 _ rfl
                  subst hBA
                  obtain ⟨V',vc',eV,hInt,_⟩:=HC.out.own.form
                  injection eV with e1 _ e3
                  subst e1 e3
                  have HInt:=Lib.hid hInt
                  have HLs:=Lib.hid (show Lst wq3 (bs.getD j default).at_ (bs.getD j default).args (bs.getD j default).cap from hat.2.2)
                  have QR:=Lib.hid (fun W (hb:Below wq3.heap.size wq3 W)=>renumber_z V4 U4 vc4 (by have:=HUl.out;omega) _ (bs.getD j default).at_ (bs.getD j default).args (bs.getD j default).cap W rfl (by have:=HNl.out;omega) (HLs.out.below hb) (HInt.out.below hb))
                  have HBD:=Lib.hid (fun (A2:Option Addr) (c2:Nat) (k2:List Tm) (W:World) (hb:Below wq3.heap.size wq3 W) (hl:Lst W A2 k2 c2) (hbl:∀b∈blkA A2 k2.length++blkL k2,wq3.heap.size≤b∧b < W.heap.size) (hp:stripL k2=numL2 (placeS U4) (bs.getD j default).args) (he:k2=[]→A2=none∧c2=0)=>(show (RowZ elGl 54 m3 z2 (W.setCell ⟨g,j*3+2,none⟩ (.slice A2 k2.length c2)) (.slice (some ⟨g,0,none⟩) bs.length bc) ((done++[⟨(bs.getD j default).op,(bs.getD j default).name,A2,c2,k2⟩])++bs.drop (j+1)))∧NumG (placeS U4) (TT+1) bs (done++[⟨(bs.getD j default).op,(bs.getD j default).name,A2,c2,k2⟩]) (j+1) from
                   ⟨num_stepG HRb.out HN.out.len hlt (fun k hk=>by have h1:=HMz.out k hk;have h2:=HC.out.top;omega) hb hl hbl,HN.out.next hlt hp HC.out.top fun b hb=>(hbl b hb).1⟩))
                  clear hd1 hd2 hd3 hd4 hcell hat hnn hInt
                  have hlj:(bs.getD j default).args.length≤16385:=by have:=len_nodes (bs.getD j default).args;have:=HNl.out;omega
                  generalize bs.getD j default=x at *
                  obtain ⟨xo,xn,xA,xc,xa⟩:=x
                  simp only at c1 QR hlj
                  have hgTT:¬g=TT:=by omega
                  have hTTg:¬TT=g:=by omega
                  go_wp2_with fail
                  have hS0:(fun W=>W.cell? ⟨TT,4,none⟩=some (.slice (some ⟨g,0,none⟩) bs.length bc)) wq3.drew:=t4
                  have hltI:(j:Int) < (bs.length:Int):=by omega
                  have hj0:(0:Int)≤(j:Int):=by omega
                  refine held_start 14 rfl (fun W=>W.cell? ⟨TT,4,none⟩=some (.slice (some ⟨g,0,none⟩) bs.length bc)) rfl ?_
                  refine held_take (i:=0) (dst:=some 153) (v:=?_) rfl rfl (by kernel_rfl) (by kernel_rfl) (by kernel_rfl) rfl hS0 ?_ ?_;rotate_left
                  ·rintro w' l0;go_simp;with_reducible rfl
                  go_frame
                  refine held_take (i:=1) (dst:=some 154) (v:=?_) rfl rfl (by kernel_rfl) (by kernel_rfl) (by kernel_rfl) rfl hS0 ?_ ?_;rotate_left
                  ·rintro w' l0;go_simp;with_reducible rfl
                  go_frame
                  refine held_take (i:=2) (dst:=some 155) (v:=?_) rfl rfl (by kernel_rfl) (by kernel_rfl) (by kernel_rfl) rfl hS0 ?_ ?_;rotate_left
                  ·rintro w' l0;go_simp;with_reducible rfl
                  go_frame
                  refine held_take (i:=3) (dst:=some 156) (v:=?_) rfl rfl (by kernel_rfl) (by kernel_rfl) (by kernel_rfl) rfl hS0 ?_ ?_;rotate_left
                  ·rintro w' l0;go_simp;with_reducible rfl
                  go_frame
                  refine held_take (i:=4) (dst:=some 157) (v:=?_) rfl rfl (by kernel_rfl) (by kernel_rfl) (by kernel_rfl) rfl hS0 ?_ ?_;rotate_left
                  ·rintro w' l0;go_simp;with_reducible rfl
                  go_frame
                  refine held_take (i:=5) (dst:=some 158) (v:=?_) rfl rfl (by kernel_rfl) (by kernel_rfl) (by kernel_rfl) rfl hS0 ?_ ?_;rotate_left
                  ·rintro w' l0;go_simp;with_reducible rfl
                  go_frame
                  refine held_take (i:=6) (dst:=some 159) (v:=?_) rfl rfl (by kernel_rfl) (by kernel_rfl) (by kernel_rfl) rfl hS0 ?_ ?_;rotate_left
                  ·rintro w' l0;go_simp;with_reducible rfl
                  go_frame
                  refine held_take (i:=7) (dst:=some 160) (v:=?_) rfl rfl (by kernel_rfl) (by kernel_rfl) (by kernel_rfl) rfl hS0 ?_ ?_;rotate_left
                  ·rintro w' l0;go_simp;with_reducible rfl
                  go_frame
                  refine held_take (i:=8) (dst:=some 161) (v:=?_) rfl rfl (by kernel_rfl) (by kernel_rfl) (by kernel_rfl) rfl hS0 ?_ ?_;rotate_left
                  ·rintro w' l0;go_simp;with_reducible rfl
                  go_frame
                  refine round_one (i:=9) (by kernel_rfl) ?_
                  refine round_do (dst:=some 162) (v:=.slice xA xa.length xc) (w2:=wq3.drew) rfl rfl rfl (by go_simp;try rfl) hS0 ?_
                  go_frame
                  refine round_one (i:=10) (by kernel_rfl) ?_
                  refine held_call (dst:=some 163) rfl rfl rfl ?_ (QR.out wq3.drew (Below.refl _ _).drew) ?_
                  ·go_simp;try rfl
                  rintro e w5 ⟨A2,c2,k2,rfl,hb0,hp5,hl5,hbl5,he5⟩
                  have hb5:Below wq3.heap.size wq3 w5:=⟨hb0.os,hb0.tape,hb0.output,hb0.size,hb0.block⟩
                  have HB5:=Lib.hid hb5
                  have HD5:=Lib.hid (HBD.out A2 c2 k2 w5 hb5 hl5 hbl5 hp5 he5)
                  have hS5:(fun W=>W.cell? ⟨TT,4,none⟩=some (.slice (some ⟨g,0,none⟩) bs.length bc)) w5:=(hb5.cell (World.block_lt_of_cell? _ _ t4)).trans t4
                  have c5':=(hb5.cell (World.block_lt_of_cell? _ _ c1)).trans c1
                  have hfz5:=(World.frozen?_of_block (a:=⟨g,j*3+2,none⟩) (hb5.block g (by have:=HC.out.top;omega))).trans hfz
                  have hS6:(fun W=>W.cell? ⟨TT,4,none⟩=some (.slice (some ⟨g,0,none⟩) bs.length bc)) (w5.setCell ⟨g,j*3+2,none⟩ (.slice A2 k2.length c2)):=(World.cell?_setCell_other _ _ _ _ (by simp only [ne_eq,Addr.mk.injEq];omega)).trans hS5
                  clear hb0 hb5 hp5 hl5 hbl5 he5
                  refine ⟨_,rfl,hS5,?_⟩
                  go_frame
                  refine held_take (i:=11) (dst:=some 164) (v:=?_) rfl rfl (by kernel_rfl) (by kernel_rfl) (by kernel_rfl) rfl hS5 ?_ ?_;rotate_left
                  ·rintro w' l0;go_simp;with_reducible rfl
                  go_frame
                  refine held_take (i:=12) (dst:=some 165) (v:=?_) rfl rfl (by kernel_rfl) (by kernel_rfl) (by kernel_rfl) rfl hS5 ?_ ?_;rotate_left
                  ·rintro w' l0;go_simp;with_reducible rfl
                  go_frame
                  refine round_one (i:=13) (by kernel_rfl) ?_
                  refine round_skip (w2:=w5.setCell ⟨g,j*3+2,none⟩ (.slice A2 k2.length c2)) rfl rfl (by go_simp;try rfl) hS6 ?_
                  go_frame
                  refine round_end (by kernel_rfl) ?_
                  have HNx:=Lib.hid (show RestZ R A c l w TT (TT+1) q z2 ns2 a2 V4 vc4 U4 [.string (S t),.slice kA ks.length kc,.slice rA rs.length rc,.slice gA gs.length gc,.slice (some ⟨g,0,none⟩) bs.length bc,.int .i64 0] (w5.setCell ⟨g,j*3+2,none⟩ (.slice A2 k2.length c2))∧((RowZ elAm 92 (w.heap.size+3) z2 (w5.setCell ⟨g,j*3+2,none⟩ (.slice A2 k2.length c2)) (.slice kA ks.length kc) dks)∧(RowZ elAm 92 m1 z2 (w5.setCell ⟨g,j*3+2,none⟩ (.slice A2 k2.length c2)) (.slice rA rs.length rc) drs)∧(RowZ elGl 54 m2 z2 (w5.setCell ⟨g,j*3+2,none⟩ (.slice A2 k2.length c2)) (.slice gA gs.length gc) dgs)∧(RowZ elGl 54 m3 z2 (w5.setCell ⟨g,j*3+2,none⟩ (.slice A2 k2.length c2)) (.slice (some ⟨g,0,none⟩) bs.length bc) (done++[⟨xo,xn,A2,c2,k2⟩]++bs.drop (j+1)))) from
                   ⟨(HC.out.below HB5.out).put (by have:=HTw.out;have:=HS2.out;have:=HTT.out;have:=HMy.out;omega) (by omega) hgTT hR hgz _ _,(HRk.out.below HB5.out).away (.inr ⟨fun k hk=>by have h1:=HOK.out.1 k hk;have h2:=HMy.out;omega,fun b hb=>by have h1:=HWks.out b hb;omega⟩) _ _,(HRr.out.below HB5.out).away (.inr ⟨fun k hk=>by have h1:=HOK.out.2.1 k hk;have h2:=HMy.out;omega,fun b hb=>by have h1:=HWrs.out b hb;omega⟩) _ _,(HRg.out.below HB5.out).away (.inr ⟨fun k hk=>by have h1:=HOK.out.2.2 k hk;have h2:=HMy.out;omega,fun b hb=>by have h1:=HWgs.out b hb;omega⟩) _ _,HD5.out.1⟩)
                  have HNy:=Lib.hid HD5.out.2
                  go_wp2_with fail
                  go_roundg (kq3 - 1)
                  case measure=>have:=HGk.out;omega
                  case rel=>exact ⟨j+1,done++[⟨xo,xn,A2,c2,k2⟩],by omega,by go_num,Lib.hid ⟨by first|exact HNx.out.1|exact HNx.out.1.drew,by first|exact HNx.out.2|exact ⟨HNx.out.2.1.drew,HNx.out.2.2.1.drew,HNx.out.2.2.2.1.drew,HNx.out.2.2.2.2.drew⟩,HNy.out,by have:=HGk.out;omega⟩⟩
                 ·obtain rfl:j=bs.length:=by omega
                  have hnil:done++bs.drop bs.length=done:=by rw [List.drop_length,List.append_nil]
                  rw [hnil] at HRb
                  obtain ⟨dbs,hdd⟩:∃dd,dd=done:=⟨_,rfl⟩
                  subst hdd
                  have HWbs:=Lib.hid HN.out.new
                  have HPbs:=Lib.hid HN.out.p
                  have HC9:=HC
                  have HRk9:=HRk
                  have HRr9:=HRr
                  have HRg9:=HRg
                  have HRb9:=HRb
                  clear HGk hlt hj hnil HC HRk HRr HRg HRb HN
                  have hu4:U4.length≤9223372036854775807:=by have:=HUl.out;omega
                  go_upto_region 39 with (fail)
                  clear t0 t1 t2 t3 t4 t5 g0 g1 g2 g3 g4 g5
                  have hTw1:¬TT=w.heap.size:=by have:=HTw.out;omega
                  have hTw2:¬w.heap.size=TT:=by have:=HTw.out;omega
                  obtain ⟨W9,hW9⟩:∃W,W=wq3.setCell ⟨TT,5,none⟩ (.int .i64 (U4.length:Int)):=⟨_,rfl⟩
                  rw [←hW9]
                  obtain ⟨t0,t1,t2,t3,t4,t5,g0,g1,g2,g3,g4,g5⟩:=(hW9 ▸ HC9.out.box.set (j:=5) (by simp) (.int .i64 (U4.length:Int)):BoxL W9 TT [.string (S t),.slice kA ks.length kc,.slice rA rs.length rc,.slice gA gs.length gc,.slice bA bs.length bc,.int .i64 (U4.length:Int)]).get6
                  obtain ⟨c0,c1,c2,c3,c4,c5,f0,f1,f2,f3,f4,f5⟩:=(hW9 ▸ HC9.out.zero.put (p:=⟨TT,5,none⟩) hTw1 (.int .i64 (U4.length:Int)):BoxL W9 w.heap.size Zr).get6
                  have HW9:=Lib.hid hW9
                  clear hW9
                  go_wp2_with fail
                  refine bodyPost_ret (v:=.tuple #[.agg #[.string (S t),.slice kA ks.length kc,.slice rA rs.length rc,.slice gA gs.length gc,.slice bA bs.length bc,.int .i64 (U4.length:Int)],.bool true]) (by simp [results,Tryz.results28,go_sem,c0,c1,c2,c3,c4,c5]) rfl ?_
                  have hle:w.heap.size≤TT:=by have:=HTw.out;omega
                  have hRT:R < TT:=by omega
                  have hzT:z2.ownBlock≠some TT:=fun e=>by have:=HMz.out TT e;omega
                  have eK:Kp R Z0 z2 w W9:=by rw [HW9.out];exact HC9.out.k.put (p:=⟨TT,5,none⟩) hle (.int .i64 (U4.length:Int))
                  have eP:Pr W9 R A c l q z2 ns2 a2 0:=by rw [HW9.out];exact HC9.out.p.store (p:=⟨TT,5,none⟩) hRT hzT (.int .i64 (U4.length:Int))
                  have hrw:RowsZ (w.heap.size+2) m1 m2 m3 z2 W9 (.slice kA ks.length kc) (.slice rA rs.length rc) (.slice gA gs.length gc) (.slice bA bs.length bc) dks drs dgs dbs:=by
                   rw [HW9.out]
                   exact ⟨(HRk9.out.away (.inr ⟨fun k hk=>by have:=HMx.out.1 k hk;omega,fun b hb=>by have:=HWks.out b hb;omega⟩) 5 (.int .i64 (U4.length:Int))).low (by omega),HRr9.out.away (.inr ⟨fun k hk=>by have:=HMx.out.2.1 k hk;omega,fun b hb=>by have:=HWrs.out b hb;omega⟩) 5 (.int .i64 (U4.length:Int)),HRg9.out.away (.inr ⟨fun k hk=>by have:=HMx.out.2.2.1 k hk;omega,fun b hb=>by have:=HWgs.out b hb;omega⟩) 5 (.int .i64 (U4.length:Int)),HRb9.out.away (.inr ⟨fun k hk=>by have:=HMx.out.2.2.2 k hk;omega,fun b hb=>by have:=HWbs.out b hb;omega⟩) 5 (.int .i64 (U4.length:Int)),by have:=HMy.out;omega,HOK.out.1,HOK.out.2.1,HOK.out.2.2⟩
                  refine ⟨t,_,_,_,_,U4.length,true,rfl,sl4,.inl ⟨rfl,z2,ns2,q,a2,m1,m2,m3,dks,drs,dgs,dbs,(((((eK.put (p:=⟨w.heap.size,0,none⟩) (Nat.le_refl _) _).put (p:=⟨w.heap.size,1,none⟩) (Nat.le_refl _) _).put (p:=⟨w.heap.size,2,none⟩) (Nat.le_refl _) _).put (p:=⟨w.heap.size,3,none⟩) (Nat.le_refl _) _).put (p:=⟨w.heap.size,4,none⟩) (Nat.le_refl _) _).put (p:=⟨w.heap.size,5,none⟩) (Nat.le_refl _) _,(((((eP.store (p:=⟨w.heap.size,0,none⟩) hR HZ2.out _).store (p:=⟨w.heap.size,1,none⟩) hR HZ2.out _).store (p:=⟨w.heap.size,2,none⟩) hR HZ2.out _).store (p:=⟨w.heap.size,3,none⟩) hR HZ2.out _).store (p:=⟨w.heap.size,4,none⟩) hR HZ2.out _).store (p:=⟨w.heap.size,5,none⟩) hR HZ2.out _,?_,HF.out.2.1,HF.out.2.2,hrw.end_ (by omega) _ _ _ _ _ _⟩⟩
                  have hU:orderS (Rs.terms ⟨t,ks.map sA,rs.map sA,gs.map sG,bs.map sG,0⟩)=U4:=by rw [order_all,HU1.out,HU2.out,HU3.out,HU4.out]
                  have h1:=HPks.out
                  have h2:=HPrs.out
                  have h3:=HPgs.out
                  have h4:=HPbs.out
                  rw [List.take_length] at h1 h2 h3 h4
                  unfold ruleS
                  rw [HF.out.1]
                  simp only [numberS,hU,h1,h2,h3,h4,List.map_map]
                  rfl
 ·obtain ⟨⟨kA,kn,kc,rfl⟩,⟨rA,rn,rc,rfl⟩,⟨gA,gn,gc,rfl⟩,⟨bA,bn,bc,rfl⟩⟩:=hsl
  have HP2:=Lib.hid hp2
  have HK2:=Lib.hid (HK1.out.trans hk2)
  have HF:=Lib.hid (And.intro hf he2)
  have HB2:=Lib.hid (HB1.out.kz hk2 hTR (Z0_own _))
  have HZ2:=Lib.hid (hk2.off HB1.out.lt (Z0_own _))
  have c0:=fun o=>(HB2.out.alloc o).get6.1
  have c1:=fun o=>(HB2.out.alloc o).get6.2.1
  have c2:=fun o=>(HB2.out.alloc o).get6.2.2.1
  have c3:=fun o=>(HB2.out.alloc o).get6.2.2.2.1
  have c4:=fun o=>(HB2.out.alloc o).get6.2.2.2.2.1
  have c5:=fun o=>(HB2.out.alloc o).get6.2.2.2.2.2.1
  have f0:=fun o=>(HB2.out.alloc o).get6.2.2.2.2.2.2.1
  have f1:=fun o=>(HB2.out.alloc o).get6.2.2.2.2.2.2.2.1
  have f2:=fun o=>(HB2.out.alloc o).get6.2.2.2.2.2.2.2.2.1
  have f3:=fun o=>(HB2.out.alloc o).get6.2.2.2.2.2.2.2.2.2.1
  have f4:=fun o=>(HB2.out.alloc o).get6.2.2.2.2.2.2.2.2.2.2.1
  have f5:=fun o=>(HB2.out.alloc o).get6.2.2.2.2.2.2.2.2.2.2.2
  clear hk2 hp2 hf he2
  go_wp2_with fail
  refine bodyPost_ret (v:=.tuple #[.agg #[.string ⟨#[]⟩,.slice none 0 0,.slice none 0 0,.slice none 0 0,.slice none 0 0,.int .i64 0],.bool false]) (by simp [results,Tryz.results28,go_sem,c0,c1,c2,c3,c4,c5]) rfl ?_
  refine ⟨[],.slice none 0 0,.slice none 0 0,.slice none 0 0,.slice none 0 0,0,false,rfl,sl4,.inr ⟨rfl,z2,ns2,q,n2,er2,((((((HK2.out.alloc _).put (p:=⟨w.heap.size,0,none⟩) (Nat.le_refl _) _).put (p:=⟨w.heap.size,1,none⟩) (Nat.le_refl _) _).put (p:=⟨w.heap.size,2,none⟩) (Nat.le_refl _) _).put (p:=⟨w.heap.size,3,none⟩) (Nat.le_refl _) _).put (p:=⟨w.heap.size,4,none⟩) (Nat.le_refl _) _).put (p:=⟨w.heap.size,5,none⟩) (Nat.le_refl _) _,((((((HP2.out.alloc _).store (p:=⟨w.heap.size,0,none⟩) hR HZ2.out _).store (p:=⟨w.heap.size,1,none⟩) hR HZ2.out _).store (p:=⟨w.heap.size,2,none⟩) hR HZ2.out _).store (p:=⟨w.heap.size,3,none⟩) hR HZ2.out _).store (p:=⟨w.heap.size,4,none⟩) hR HZ2.out _).store (p:=⟨w.heap.size,5,none⟩) hR HZ2.out _,HF.out.2,?_⟩⟩
  unfold ruleS
  rw [HF.out.1]
end
end Go.Proofs.YtaojnljppcnhjaaGreatDoor
