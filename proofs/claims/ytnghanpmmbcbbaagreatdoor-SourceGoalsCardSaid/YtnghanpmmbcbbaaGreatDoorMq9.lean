/-
  VlP.
  VpRule.
  SrTerms.
 SrRen.
 VrAm.
 SrAm.
 VrGl.
 SrGl.
 SrNum.
 SrTwin.
 TtPlain.
 TtTrip.
-/
import Derived.Test.YtnghanpmmbcbbaaGreatDoorMq8
import Derived.KernelRfl
import Derived.Deep.Cut
import Derived.Test.YtnghanpmmbcbbaaGreatDoorMq7
import Derived.Deep.AppendLies
import Derived.Deep.Upon
import Derived.Deep.LoopGhost
import Derived.Test.YtnghanpmmbcbbaaGreatDoorMq5
import Derived.Deep.RegionLaw
import Derived.Deep.RegionHeld3
import Derived.RegionTactic
import Derived.BigQuiet
import Derived.Deep.QuietTactic
import Derived.Test.YtnghanpmmbcbbaaGreatDoorMq2
import Derived.Lib.AtoiAllCases
import Derived.WalkKit
namespace Go.Proofs.YtnghanpmmbcbbaaGreatDoor
open Go.RowKit
def Ext (w v:World):Prop:=Below w.heap.size w v
theorem Ext.refl (w:World):Ext w w:=Below.refl _ _
theorem Ext.trans {u v w:World} (h1:Ext u v) (h2:Ext v w):Ext u w:=Below.trans h1 (h2.mono h1.size)
theorem Ext.al (w:World) (o:Obj):Ext w (w.alloc o):=(Below.refl _ w).alloc (Nat.le_refl _) o
theorem Ext.drew (w:World):Ext w w.drew:=(Below.refl _ w).drew
theorem Ext.al2 (w:World) (o o2:Obj):Ext w ((w.alloc o).alloc o2):=(Ext.al _ _).trans (Ext.al _ _)
theorem ext_row {u v:World} {cs:Array Value} {T:TypeId} (h:Ext (u.alloc (.cells cs T)) v) (j:Nat) {x:Value} (hx:cs[j]?=some x):v.cell? ⟨u.heap.size,j,none⟩=some x :=
 (h.cell (p:=⟨u.heap.size,j,none⟩) (by simp)).trans ((World.cell?_alloc_at _ _ _ _ rfl).trans hx)
abbrev exV (n:Int):Tm:=.mk 1 n ⟨#[]⟩ none 0 []
abbrev exF (b:UInt8) (g c:Nat) (l:List Tm):Tm:=.mk 2 0 ⟨#[b]⟩ (some ⟨g,0,none⟩) c l
def FunR (b:UInt8) (l:List Tm) (w:World) (e:Ending) (w':World):Prop :=
 ∃g c:Nat,e=.returned (.agg #[.int .i64 2,.int .i64 0,.string ⟨#[b]⟩,.slice (some ⟨g,0,none⟩) l.length c])∧(exF b g c l).At w'∧Ext w w'
def NumE (W:World) (e:Ending) (w':World):Prop:=∃A cap B cb,∃cur:List Tm,e=.returned (.tuple #[.slice A 2 cap,.slice B 2 cb])∧cur.length=2∧stripL cur=stripL [exF 102 0 0 [exV 0,exV 1],exV 0]∧Lst w' A cur cap∧Ints w' B [5,2]∧Ext W w'
end Go.Proofs.YtnghanpmmbcbbaaGreatDoor
namespace Go.Proofs.YtnghanpmmbcbbaaGreatDoor
open Go.ChangeShapes Go.WideShapes Go.ChangeAt Go.RowKit
structure Rl where
 name:ByteArray
 kA:Option Addr
 kc:Nat
 keep:List Am
 rA:Option Addr
 rc:Nat
 remove:List Am
 gA:Option Addr
 gc:Nat
 guard:List Gl
 bA:Option Addr
 bc:Nat
 body:List Gl
 vars:Int
abbrev Rl.val (r:Rl):Value:=.agg #[.string r.name,.slice r.kA r.keep.length r.kc,.slice r.rA r.remove.length r.rc,.slice r.gA r.guard.length r.gc,.slice r.bA r.body.length r.bc,.int .i64 r.vars]
structure Rl.At (w:World) (r:Rl):Prop where
 name:r.name.size≤maxLen
 keep:AmLst w r.kA r.keep r.kc
 remove:AmLst w r.rA r.remove r.rc
 guard:GlLst w r.gA r.guard r.gc
 body:GlLst w r.bA r.body r.bc
 vars:Fits r.vars
theorem Rl.At.below {w w':World} {r:Rl} (h:r.At w) (hb:Below w.heap.size w w'):r.At w':=⟨h.name,h.keep.below hb,h.remove.below hb,h.guard.below hb,h.body.below hb,h.vars⟩
structure Rl.Small (r:Rl):Prop where
 k1:r.keep.length≤1000000
 k2:∀x∈r.keep,nodesL x.args≤1000000
 r1:r.remove.length≤1000000
 r2:∀x∈r.remove,nodesL x.args≤1000000
 g1:r.guard.length≤1000000
 g2:∀x∈r.guard,nodesL x.args≤1000000
 b1:r.body.length≤1000000
 b2:∀x∈r.body,nodesL x.args≤1000000
structure Like (fA:Am→Am) (fG:Gl→Gl) (u r:Rl):Prop where
 name:u.name=r.name
 vars:u.vars=r.vars
 kl:u.keep.length=r.keep.length
 keep:u.keep.map Am.key=(r.keep.map fA).map Am.key
 rl:u.remove.length=r.remove.length
 remove:u.remove.map Am.key=(r.remove.map fA).map Am.key
 gl:u.guard.length=r.guard.length
 guard:u.guard.map Gl.key=(r.guard.map fG).map Gl.key
 bl:u.body.length=r.body.length
 body:u.body.map Gl.key=(r.body.map fG).map Gl.key
def RlMade (fA:Am→Am) (fG:Gl→Gl) (r:Rl) (w:World) (e:Ending) (w':World):Prop:=∃u:Rl,e=.returned u.val∧Like fA fG u r∧u.At w'∧Below w.heap.size w w'
section
variable {H:Type} {enc:TypeId×Value→H} {W:World} {base:Nat} {spare:Nat→Bool} {held:Bool}
end
structure HeldL (B:Nat) (w:World) (vs:List Value):Prop where
 lt:B < w.heap.size
 cell:∀j v,vs[j]?=some v→w.cell? ⟨B,j,none⟩=some v
 free:∀j,w.frozen? ⟨B,j,none⟩=false
theorem HeldL.below {B:Nat} {w w':World} {vs:List Value} (h:HeldL B w vs) (hb:Below w.heap.size w w'):HeldL B w' vs :=
 ⟨Nat.lt_of_lt_of_le h.lt hb.size,fun j v hv=>keepv hb (h.cell j v hv),fun j=>(hb.frozen (p:=⟨B,j,none⟩) h.lt).trans (h.free j)⟩
theorem heldL_new (w:World) (vs:List Value) (T:TypeId):HeldL w.heap.size (w.alloc (.cells vs.toArray T)) vs :=
 ⟨by simp,fun j v hv=>by rw [World.cell?_alloc_at _ _ _ _ rfl,List.getElem?_toArray];exact hv,fun j=>World.frozen?_alloc_at _ _ _ _ rfl⟩
theorem two_boxesL (w:World) (vs us:List Value) (T:TypeId):HeldL w.heap.size ((w.alloc (.cells vs.toArray T)).alloc (.cells us.toArray T)) vs∧HeldL (w.heap.size+1) ((w.alloc (.cells vs.toArray T)).alloc (.cells us.toArray T)) us:=by
 have h:=heldL_new (w.alloc (.cells vs.toArray T)) us T
 rw [World.size_alloc] at h
 exact ⟨(heldL_new w vs T).below (below1 _ _),h⟩
theorem HeldL.set {B:Nat} {w:World} {vs:List Value} (h:HeldL B w vs) {j:Nat} (hj:j < vs.length) (v:Value):HeldL B (w.setCell ⟨B,j,none⟩ v) (vs.set j v):=by
 refine ⟨by simpa [World.setCell] using h.lt,fun i u hu=>?_,fun i=>by rw [World.frozen?_setCell];exact h.free i⟩
 by_cases e:i=j
 ·subst e
  rw [List.getElem?_set_self hj] at hu
  injection hu with hu
  subst hu
  exact World.cell?_setCell_same' _ _ _ (by rw [h.cell i vs[i] (List.getElem?_eq_getElem hj)];rfl)
 ·rw [List.getElem?_set_ne (Ne.symm e)] at hu
  rw [World.cell?_setCell_other _ _ _ _ (fun e2=>by injection e2 with _ e2 _;omega)]
  exact h.cell i u hu
theorem HeldL.other {B:Nat} {w:World} {vs:List Value} (h:HeldL B w vs) {p:Addr} (hp:p.block≠B) (v:Value):HeldL B (w.setCell p v) vs :=
 ⟨by simpa [World.setCell] using h.lt,fun i u hu=>by rw [World.cell?_setCell_other _ _ _ _ (fun e=>hp (by rw [e]))];exact h.cell i u hu,fun i=>by rw [World.frozen?_setCell];exact h.free i⟩
def LP (P:World→Prop) (lo:Nat) (w:World):Prop:=∀W,Agree lo No w W→P W
section
variable {P:World→Prop} {lo lo':Nat} {w w':World}
theorem LP.low (h:LP P lo w) (hl:lo'≤lo):LP P lo' w:=fun W hW=>h W fun b h1 h2 h3=>hW b (by omega) h2 h3
theorem LP.below (h:LP P lo w) (hb:Below w.heap.size w w'):LP P lo w':=fun W hW=>h W fun b h1 h2 h3=>(hW b h1 (Nat.lt_of_lt_of_le h2 hb.size) h3).trans (hb.block b h2)
theorem LP.set (h:LP P lo w) {p:Addr} (hp:p.block < lo) (v:Value):LP P lo (w.setCell p v):=fun W hW=>h W fun b h1 h2 h3=>(hW b h1 (by simpa [World.setCell] using h2) h3).trans (Below.heap_setCell _ _ _ _ (by omega))
end
end Go.Proofs.YtnghanpmmbcbbaaGreatDoor
namespace Go.Proofs.YtnghanpmmbcbbaaGreatDoor
open Go.RowKit
theorem RowT.nexts {B:World→Prop} {lo g cap:Nat} {w w4:World} {z:Value} {acc l:List Tm} (h:RowT B lo w z acc) (hl:∀t∈l,∀W,B W→t.At W)
  (hown:w4.ownsRow lo 69 4 (.slice (some ⟨g,0,none⟩) (acc.length+l.length) cap) (acc.length+l.length) (tcells acc++tcells l)) (hg:w.grownBy w4 z.ownBlock) (hat:z.ownBlock=some g∨g=w.heap.size) :
  RowT B lo w4 (.slice (some ⟨g,0,none⟩) (acc.length+l.length) cap) (acc++l):=by
 refine ⟨by rw [List.length_append,tcells_append];exact hown,fun x hx=>?_⟩
 rcases List.mem_append.1 hx with hx|hx
 ·refine (h.2 x hx).less hg.size fun b h1 h2 h3=>⟨h1,fun e=>?_,hg.block b h2 (fun e=>h3 e.symm)⟩
  have e':g=b:=by simpa [Value.ownBlock] using e
  rcases hat with h|h
  ·exact h3 (by rw [h,e'])
  ·omega
 ·exact Lie.any (hl x hx)
theorem wpList_append_terms {B:World→Prop} {lo:Nat} {w:World} {ops:Array Oper} {rest:List Oper} {o:Oper} {a:Act} {Q:Exit→Act→World→Prop} (hgd:o.guard=none) (s x:Operand)
  (ho:o.op=.call { callee:=.builtin .append,args:=#[s,x],argTypes:=#[51,51] }) {z:Value} {acc l:List Tm} {A:Option Addr} {c:Nat}
  (hs:a.eval s=z) (hx:a.eval x=.slice A l.length c) (hz:RowT B lo w z acc) (hl:Lst w A l c) (hat:∀t∈l,∀W,B W→t.At W) (hlo:lo≤w.heap.size) (h63:acc.length+l.length≤1000000000000)
  (h:∀v' w',RowT B lo w' v' (acc++l)→w.grownBy w' z.ownBlock→wpList Tryz.prog ops Q rest (a.put o.dst v') w'):wpList Tryz.prog ops Q (o :: rest) a w:=by
 obtain ⟨i0,hi,hz0,hz1,hz2⟩:=info_parts term_info
 rcases Nat.eq_zero_or_pos l.length with h0|h0
 ·have hl0:l=[]:=List.length_eq_zero_iff.1 h0
  subst hl0
  have hsrc:Src Tryz.prog i0.size 51 (.slice A 0 c) 0 [] w:=by
   cases A with
   | none=>exact Src.ofNil w Tryz.underlying51 c
   | some ad=>exact Src.ofSlice w Tryz.underlying51 ad 0 c [] (by simp) (fun j u hu=>by simp at hu) (fun u hu=>by cases hu)
  obtain ⟨A',c',rfl,hle⟩:=hz.form
  refine wpList_plain hgd fun K hK=>?_
  have hrun:=run_append_nothing (P:=Tryz.prog) w 51 51 o.type 69 i0 Tryz.underlying51 hi A' acc.length c' hle _ hsrc
  unfold Oper.wp
  simp only [List.length_nil] at hx
  simp [execOp,ho,resolve,invoke,builtin,hs,hx,hrun,Result.andThen]
  exact hK _ _ (h _ w (by rw [List.append_nil];exact hz) (World.grownBy.refl _ _))
 ·obtain ⟨b,p,rfl,hr⟩:=hl.2.2 h0
  refine wpList_append_lies w hgd s x 51 ho lo 69 i0 _ 4 56 Tryz.underlying51 hi hz0 hz1 hz2 rfl (by decide) z acc.length (tcells acc) hs hz.1 ⟨b,p,none⟩ l.length c (tcells l) hx (tcells_length l) hr.cells (tcells_one l) h0 (by unfold maxLen;omega) (by omega) hlo _ rfl ?_
  intro g cap w' hown hg hat' _
  exact h _ w' (hz.nexts hat hown hg hat') hg
def Rl.ts (r:Rl):List Tm:=r.keep.flatMap Am.args++(r.remove.flatMap Am.args++(r.guard.flatMap Gl.args++r.body.flatMap Gl.args))
structure Rl.Tiny (r:Rl):Prop where
 k1:r.keep.length≤300
 k2:∀x∈r.keep,nodesL x.args≤300
 r1:r.remove.length≤300
 r2:∀x∈r.remove,nodesL x.args≤300
 g1:r.guard.length≤300
 g2:∀x∈r.guard,nodesL x.args≤300
 b1:r.body.length≤300
 b2:∀x∈r.body,nodesL x.args≤300
theorem Rl.Tiny.small {r:Rl} (h:r.Tiny):r.Small :=
 ⟨by have:=h.k1;omega,fun x hx=>by have:=h.k2 x hx;omega,by have:=h.r1;omega,fun x hx=>by have:=h.r2 x hx;omega,by have:=h.g1;omega,fun x hx=>by have:=h.g2 x hx;omega,by have:=h.b1;omega,fun x hx=>by have:=h.b2 x hx;omega⟩
theorem nodesL_app (l m:List Tm):nodesL (l++m)=nodesL l+nodesL m:=by
 induction l with
 | nil=>simp [nodesL]
 | cons t r ih=>simp only [List.cons_append,nodesL,ih];omega
theorem nodes_flat {α:Type} (f:α→List Tm) {m:Nat}:∀l:List α,(∀x∈l,nodesL (f x)≤m)→nodesL (l.flatMap f)≤l.length*m
 | [],_=>by simp [nodesL]
 | x :: r,h=>by
  have h1:=h x (by simp)
  have h2:=nodes_flat f r fun y hy=>h y (List.mem_cons_of_mem _ hy)
  rw [List.flatMap_cons,nodesL_app,List.length_cons,Nat.add_mul]
  omega
theorem Rl.Tiny.nodes {r:Rl} (h:r.Tiny):nodesL r.ts≤360000:=by
 have p:∀{a:Nat},a≤300→a*300≤90000:=fun h=>by omega
 have h1:=nodes_flat Am.args r.keep h.k2
 have h2:=nodes_flat Am.args r.remove h.r2
 have h3:=nodes_flat Gl.args r.guard h.g2
 have h4:=nodes_flat Gl.args r.body h.b2
 have h5:=p h.k1
 have h6:=p h.r1
 have h7:=p h.g1
 have h8:=p h.b1
 unfold Rl.ts
 rw [nodesL_app,nodesL_app,nodesL_app]
 omega
theorem flat_next {α:Type} [Inhabited α] (f:α→List Tm) {l:List α} {j:Nat} (h:j < l.length):(l.take (j+1)).flatMap f=(l.take j).flatMap f++f (l.getD j default):=by
 rw [List.take_add_one,List.getElem?_eq_getElem h,List.flatMap_append]
 simp [List.getD,h]
theorem Rl.At.terms {r:Rl} {w:World} (h:r.At w):∀t∈r.ts,∀W,From w W→t.At W:=by
 intro t ht W hW
 unfold Rl.ts at ht
 simp only [List.mem_append,List.mem_flatMap] at ht
 rcases ht with ⟨x,hx,hxt⟩|⟨x,hx,hxt⟩|⟨x,hx,hxt⟩|⟨x,hx,hxt⟩
 ·exact (Lst.mem (h.keep.mem hx).2 hxt).below hW
 ·exact (Lst.mem (h.remove.mem hx).2 hxt).below hW
 ·exact (Lst.mem (h.guard.mem hx).2.2 hxt).below hW
 ·exact (Lst.mem (h.body.mem hx).2.2 hxt).below hW
end Go.Proofs.YtnghanpmmbcbbaaGreatDoor
namespace Go.Proofs.YtnghanpmmbcbbaaGreatDoor
open Go.RowKit
theorem place_found {l:List Int} {n:Int} {j:Nat} (hj:j < l.length) (he:l.getD j 0=n) (hn:n∉l.take j):placeS l n=(j:Int):=by
 have hg:l[j]=n:=by rw [←he];simp [List.getD,hj]
 have hm:n∈l:=by rw [←hg];exact List.getElem_mem hj
 unfold placeS
 rw [if_pos hm]
 have h1:=List.idxOf_lt_length_iff.2 hm
 have h2:l[l.idxOf n]=n:=List.getElem_idxOf h1
 rcases Nat.lt_trichotomy (l.idxOf n) j with h|h|h
 ·refine absurd ?_ hn
  rw [←h2,List.mem_take_iff_getElem]
  exact ⟨l.idxOf n,by omega,rfl⟩
 ·rw [h]
 ·have:=List.not_of_lt_findIdx (p:=(·==n)) (xs:=l) (i:=j) (by simpa [List.idxOf] using h)
  exact absurd this (by rw [hg];simp)
theorem place_none {l:List Int} {n:Int} (hn:n∉l):placeS l n = -1:=by
 unfold placeS
 rw [if_neg hn]
theorem place_z (A:Option Addr) (l:List Int) (c:Nat) (n:Int) (w:World) (hI:Ints w A l) (hlen:l.length≤9223372036854775807) {r:Int} (hr:placeS l n=r) :
  Calls Tryz.prog 109 #[.slice A l.length c,.int .i64 n] w fun e w'=>e=.returned (.int .i64 r)∧w=w':=by
 have HR:=Lib.hid hr
 clear hr
 go_enter Tryz.func109,Tryz.ntmps109
 go_wp2
 go_loop [5] (fun i=>∃j:Nat,j≤l.length∧i=.int .i64 j∧Hid (n∉l.take j)) (fun i=>l.length - (intOf i).toNat)
 case atStart=>exact ⟨0,Nat.zero_le _,rfl,Lib.hid (by simp)⟩
 case round =>
  obtain ⟨j,hj,rfl,HN⟩:=hrel
  by_cases hlt:j < l.length
  ·obtain ⟨b,o,rfl,hc⟩:=hI.get hlt
   have HT:=Lib.hid (take_int hlt)
   have HF:=Lib.hid (fun e=>place_found (n:=n) hlt e HN.out)
   generalize l.getD j 0=x at *
   by_cases hx:x=n
   ·subst hx
    have HE:=Lib.hid (show (j:Int)=r by rw [←HR.out,HF.out rfl])
    go_wp2
    go_ret
    exact ⟨by rw [←HE.out];rfl,rfl⟩
   ·have hx':(x==n)=false:=by simpa using hx
    have HN':=Lib.hid (show n∉l.take (j+1) by
     rw [HT.out,List.mem_append,List.mem_singleton]
     exact fun h=>h.elim HN.out (fun e=>hx e.symm))
    clear hx
    go_wp2
    go_round
    case rel=>exact ⟨j+1,by omega,by go_num,HN'⟩
    case measure=>simp [intOf];omega
  ·obtain rfl:j=l.length:=by omega
   have HE:=Lib.hid (show (-1:Int)=r by
    have:=HN.out
    rw [List.take_length] at this
    rw [←HR.out,place_none this])
   go_wp2
   go_ret
   exact ⟨by rw [←HE.out];rfl,rfl⟩
theorem nodes_in {l:List Tm} {j:Nat} (hj:j < l.length):nodesL (l.getD j default).args < nodesL l:=by
 induction l generalizing j with
 | nil=>simp at hj
 | cons t r ih =>
  cases j with
  | zero =>
   obtain ⟨k,n,s,A,c,a⟩:=t
   simp only [List.getD_cons_zero,Tm.args,nodesL,Tm.nodes]
   omega
  | succ j =>
   have:=ih (j:=j) (by simpa using hj)
   simp only [List.getD_cons_succ,nodesL]
   omega
theorem len_nodes (l:List Tm):l.length≤nodesL l:=by
 induction l with
 | nil=>simp [nodesL]
 | cons t r ih =>
  obtain ⟨k,n,s,A,c,a⟩:=t
  simp only [List.length_cons,nodesL,Tm.nodes]
  omega
theorem news_set (w:World) (p:Addr) (v:Value) (u:Tm) (T:TypeId):∀j x,(Tm.cells u)[j]?=some x→((w.setCell p v).alloc (.cells #[.int .i64 u.kind,.int .i64 u.num,.string u.name,.slice u.at_ u.args.length u.cap] T)).cell? ((⟨w.heap.size,0,none⟩:Addr).add j)=some x:=by
 intro j x hx
 have e:(w.setCell p v).heap.size=w.heap.size:=by simp [World.setCell]
 rw [add_plain,Nat.zero_add,← e,World.cell?_alloc_at _ _ _ _ rfl,← hx,show (#[.int .i64 u.kind,.int .i64 u.num,.string u.name,.slice u.at_ u.args.length u.cap]:Array Value)=(Tm.cells u).toArray from rfl,List.getElem?_toArray]
theorem BoxL.four {w:World} {T:Nat} {v0 v1 v2 v3:Value} (h:BoxL w T [v0,v1,v2,v3]):w.cell? ⟨T,0,none⟩=some v0∧w.cell? ⟨T,1,none⟩=some v1∧w.cell? ⟨T,2,none⟩=some v2∧w.cell? ⟨T,3,none⟩=some v3 ∧
  w.frozen? ⟨T,0,none⟩=false∧w.frozen? ⟨T,1,none⟩=false∧w.frozen? ⟨T,2,none⟩=false∧w.frozen? ⟨T,3,none⟩=false:=⟨h.cells 0 _ rfl,h.cells 1 _ rfl,h.cells 2 _ rfl,h.cells 3 _ rfl,h.free 0,h.free 1,h.free 2,h.free 3⟩
theorem place_fits2 {vs:List Int} (h:vs.length≤1000000) (n:Int):Fits (placeS vs n):=by
 unfold placeS Fits
 split
 ·rename_i hm
  have:=List.idxOf_lt_length_iff.2 hm
  omega
 ·omega
set_option maxHeartbeats 8000000 in
set_option maxRecDepth 100000 in
theorem ren_list_at (w0:World) (V:Option Addr) (vs:List Int) (cv:Nat) (hvs:vs.length≤1000000):∀(n:Nat) (A:Option Addr) (l:List Tm) (c:Nat) (w:World),nodesL l=n→n≤1000000→Lst w0 A l c→Below w0.heap.size w0 w→Ints w V vs →
  Calls Tryz.prog 67 #[.slice V vs.length cv,.slice A l.length c] w (RMadeN w0 l.length (rrL l (placeS vs)) w):=by
 intro n
 induction n using Nat.strongRecOn with
 | _ n ih =>
  intro A l c w hn hn2 hL hw hV
  obtain ⟨i0,hi,hz0,hz1,hz2⟩:=info_parts term_info
  have hlen:l.length≤1000000:=by have:=len_nodes l;omega
  have hvl:vs.length≤9223372036854775807:=by omega
  have hlen2:l.length≤9223372036854775807:=by omega
  have HLn:=Lib.hid hlen
  have HV:=Lib.hid hvs
  have HL:=Lib.hid (hL.below hw)
  have HAT:=Lib.hid (fun (j:Nat) (hj:j < l.length) W (h:From w0 W)=>show (l.getD j default).At W from (hL.mem (getD_mem hj)).below h)
  have QP:=Lib.hid (fun W (x:Int) (hb:Below w.heap.size w W)=>place_z V vs cv x W (hV.below hb) hvl rfl)
  have QR:=Lib.hid (fun (j:Nat) (hj:j < l.length) W (hb:Below w.heap.size w W)=>ih (nodesL (l.getD j default).args) (by rw [←hn];exact nodes_in hj) (l.getD j default).at_ (l.getD j default).args (l.getD j default).cap W rfl (by have:=nodes_in hj;omega) (hL.mem (getD_mem hj)).lst (hw.trans (hb.mono hw.size)) (hV.below hb))
  have HA:=Lib.hid (fun l=>rrL_map l (placeS vs))
  have HW0:=Lib.hid hw
  clear hL hV hvs hlen hn hn2 ih hw
  go_enter Tryz.func67,Tryz.ntmps67
  go_wp2_with fail
  go_loopg [5,6] l.length (fun gk v i wr=>∃(j:Nat) (acc:List Tm) (x:Value),j≤l.length∧i=.int .i64 (j:Int)∧v=x∧Hid (RowT (From w0) w.heap.size wr x acc)∧Hid (stripL acc=stripL (rrL (l.take j) (placeS vs)))∧Hid (acc.length=j∧l.length - j≤gk)∧Hid (Below w.heap.size w wr))
  case atStart=>exact ⟨0,[],_,Nat.zero_le _,rfl,rfl,Lib.hid (RowT.nil _ _ _),Lib.hid rfl,Lib.hid ⟨rfl,by omega⟩,Lib.hid (Below.refl _ _)⟩
  case round =>
   obtain ⟨j,acc,z,hj,rfl,hz,HK,HS,HAc,HB⟩:=hrel
   have hz':=hz.symm
   subst hz'
   clear hz
   by_cases hlt:j < l.length
   ·obtain ⟨b0,o,rfl,⟨c0,c1,c2,c3⟩,_⟩:=(HL.out.below HB.out).get hlt
    have HT:=Lib.hid (take_tm hlt)
    have Q1:=Lib.hid (QR.out j hlt)
    have HX:=Lib.hid (HAT.out j hlt)
    have hal:acc.length≤1000000:=by rw [HAc.out.1];have:=HLn.out;omega
    have hszr:=HB.out.size
    have HRl:=Lib.hid (own_lt HK.out.1)
    clear QR HAT
    generalize l.getD j default=x at *
    obtain ⟨k',n',s',A',c',a'⟩:=x
    simp only [Tm.kind,Tm.num,Tm.name,Tm.at_,Tm.args,Tm.cap] at c0 c1 c2 c3
    simp only [Tm.args,Tm.at_,Tm.cap] at Q1
    have HP:=Lib.hid ((At_iff _ _).1 (HX.out wr (HW0.out.trans (HB.out.mono HW0.out.size)))).1
    simp only [Tm.kind,Tm.num,Tm.name] at HP
    have hb0:=Lib.hid ((Below.refl wr.heap.size wr).alloc (Nat.le_refl _) (.cells #[.int .i64 k',.int .i64 n',.string s',.slice A' a'.length c'] 69))
    have hbX:=Lib.hid (HB.out.trans (hb0.out.mono HB.out.size))
    by_cases k1:k'=1
    ·subst k1
     have QPl:=Lib.hid (QP.out (wr.alloc (.cells #[.int .i64 1,.int .i64 n',.string s',.slice A' a'.length c'] 69)) n' hbX.out)
     have HRR:=Lib.hid (rr_var n' s' A' c' a' (placeS vs))
     have HFp:=Lib.hid (place_fits2 HV.out n')
     clear QP Q1
     generalize placeS vs n'=y at *
     have hb1:=(Below.refl wr.heap.size wr).alloc (Nat.le_refl _) (.cells #[.int .i64 1,.int .i64 y,.string s',.slice A' a'.length c'] 69)
     have HKX:=Lib.hid (HK.out.below hb1)
     have HBX:=Lib.hid (HB.out.trans (hb1.mono HB.out.size))
     have HUX:=Lib.hid (show Lie (From w0) w.heap.size (fun k=>z.ownBlock=some k) (wr.alloc (.cells #[.int .i64 1,.int .i64 y,.string s',.slice A' a'.length c'] 69)) (Tm.mk 1 y s' A' c' a') from Lie.any fun W hW=>(At_iff _ _).2 ⟨⟨HP.out.1,HFp.out,HP.out.2.2⟩,(HX.out W hW).lst⟩)
     have HST:=Lib.hid (show (Tm.mk 1 y s' A' c' a').strip=((Tm.mk 1 n' s' A' c' a').rr (placeS vs)).strip by rw [HRR.out])
     clear hb1
     have HOwn:=Lib.hid (own_lt HKX.out.1)
     have HS2:=Lib.hid (show stripL (acc++[Tm.mk 1 y s' A' c' a'])=stripL (rrL (l.take (j+1)) (placeS vs)) by
      rw [HT.out,HA.out,List.map_append,stripL_append,stripL_append,HS.out,HA.out]
      simp only [stripL,List.map_cons,List.map_nil,HST.out])
     go_wp2_with (first|(go_at_call 109;(with_reducible refine QPl.out.mono ?_);rintro e w4 ⟨rfl,rfl⟩)|(at_builtin;refine wpList_append_lies _ rfl _ _ 51 rfl w.heap.size 69 i0 _ 4 56 Tryz.underlying51 hi hz0 hz1 hz2 rfl (by decide) _ acc.length (tcells acc) rfl (HKX.out.1.alloc _) ⟨wr.heap.size+1,0,none⟩ 1 1 (Tm.cells (.mk 1 y s' A' c' a')) rfl rfl (by have:=tnews1 (wr.alloc (.cells #[.int .i64 1,.int .i64 y,.string s',.slice A' a'.length c'] 69)) (.mk 1 y s' A' c' a') 69;rw [World.size_alloc] at this;exact this) (cells_one _) (by decide) (by unfold maxLen;omega) (by omega) (by have:=HBX.out.size;simp at this ⊢;omega) _ rfl ?_;intro g cap w7 hown hg hat hglt))
     have hbx:=(Below.refl (wr.alloc (.cells #[.int .i64 1,.int .i64 y,.string s',.slice A' a'.length c'] 69)).heap.size (wr.alloc (.cells #[.int .i64 1,.int .i64 y,.string s',.slice A' a'.length c'] 69))).alloc (Nat.le_refl _) (.cells #[.int .i64 1,.int .i64 y,.string s',.slice A' a'.length c'] 69)
     have HR7:=Lib.hid (HKX.out.next (u:=(.mk 1 y s' A' c' a')) HUX.out hbx hown hg hat)
     have HB7:=Lib.hid (show Below w.heap.size w w7 from (HBX.out.trans (hbx.mono HBX.out.size)).grown hg (by have:=HBX.out.size;simp at this ⊢;omega) (fun k hk=>(HOwn.out k hk).1))
     clear hown hg hat hglt hbx
     go_wp2_with fail
     go_roundg (gk - 1)
     case measure=>have:=HAc.out.2;omega
     case rel=>exact ⟨j+1,acc++[.mk 1 y s' A' c' a'],_,by omega,by go_num,rfl,HR7,HS2,Lib.hid ⟨by rw [List.length_append,HAc.out.1];rfl,by have:=HAc.out.2;omega⟩,HB7⟩
    ·have k1':(k'==1)=false:=by simpa using k1
     by_cases k2:k'=2
     ·subst k2
      have HRR:=Lib.hid (rr_fun n' s' A' c' a' (placeS vs))
      have Q2:=Lib.hid (Q1.out (wr.alloc (.cells #[.int .i64 2,.int .i64 n',.string s',.slice A' a'.length c'] 69)) hbX.out)
      clear QP Q1
      go_wp2_with fail
      refine Q2.out.mono ?_
      rintro e w5 ⟨A2,c2',k2l,rfl,hkl,hp5,hl5,hb5⟩
      have hs5:wr.heap.size+1≤w5.heap.size:=by have:=hb5.size;simpa using this
      have HBx:=Lib.hid ((BoxL.new wr [.int .i64 2,.int .i64 n',.string s',.slice A' a'.length c'] 69).below hb5)
      have HB5:=Lib.hid (HB.out.trans ((hb0.out.trans (hb5.mono (by simp))).mono HB.out.size))
      have HBX:=Lib.hid (show Below w.heap.size w (w5.setCell ⟨wr.heap.size,3,none⟩ (.slice A2 a'.length c2')) from HB5.out.setCell (p:=⟨wr.heap.size,3,none⟩) HB.out.size _)
      have HKX:=Lib.hid (show RowT (From w0) w.heap.size (w5.setCell ⟨wr.heap.size,3,none⟩ (.slice A2 a'.length c2')) z acc from ⟨own_of ((HK.out.below hb0.out).below hb5).1 fun k hk=>Below.heap_setCell _ _ _ _ (by have:=(HRl.out k hk).2;show k≠wr.heap.size;omega),fun x hx=>(HK.out.2 x hx).less (by have:=hb5.size;simp [World.setCell] at this ⊢;omega) fun b h1 h2 h3=>⟨h1,h3,(Below.heap_setCell _ _ _ _ (by show b≠wr.heap.size;omega)).trans ((hb5.block b (by simp;omega)).trans (hb0.out.block b h2))⟩⟩)
      have HUX:=Lib.hid (show Lie (From w0) w.heap.size (fun k=>z.ownBlock=some k) (w5.setCell ⟨wr.heap.size,3,none⟩ (.slice A2 a'.length c2')) (Tm.mk 2 n' s' A2 c2' k2l) from lie_apart HK.out.1 (rlie_row (w:=wr.alloc (.cells #[.int .i64 2,.int .i64 n',.string s',.slice A' a'.length c'] 69)) (lo:=wr.heap.size+1) HP.out (fun W hBW hW=>hl5 W hBW fun b h1 h2 h3=>(hW b (by simpa using h1) (by simpa [World.setCell] using h2) h3).trans (Below.heap_setCell _ _ _ _ (by simp at h1;show b≠wr.heap.size;omega))) (by simp)) (by simp;omega) (by simp))
      have HST:=Lib.hid (show (Tm.mk 2 n' s' A2 c2' k2l).strip=((Tm.mk 2 n' s' A' c' a').rr (placeS vs)).strip by rw [HRR.out];simp only [Tm.strip,hp5])
      obtain ⟨d0,d1,d2,d3,g0,g1,g2,g3⟩:=HBx.out.four
      clear hb5 hp5 hl5 Q2
      have HOwn:=Lib.hid (own_lt HKX.out.1)
      have HS2:=Lib.hid (show stripL (acc++[Tm.mk 2 n' s' A2 c2' k2l])=stripL (rrL (l.take (j+1)) (placeS vs)) by
       rw [HT.out,HA.out,List.map_append,stripL_append,stripL_append,HS.out,HA.out]
       simp only [stripL,List.map_cons,List.map_nil,HST.out])
      go_wp2_with ((at_builtin;refine wpList_append_lies _ rfl _ _ 51 rfl w.heap.size 69 i0 _ 4 56 Tryz.underlying51 hi hz0 hz1 hz2 rfl (by decide) _ acc.length (tcells acc) rfl (HKX.out.1.alloc _) ⟨w5.heap.size,0,none⟩ 1 1 (Tm.cells (.mk 2 n' s' A2 c2' k2l)) rfl rfl (by have:=news_set w5 ⟨wr.heap.size,3,none⟩ (.slice A2 a'.length c2') (Tm.mk 2 n' s' A2 c2' k2l) 69;simp only [Tm.kind,Tm.num,Tm.name,Tm.at_,Tm.args,Tm.cap,hkl] at this;exact this) (cells_one _) (by decide) (by unfold maxLen;omega) (by omega) (by have:=HBX.out.size;simp [World.setCell] at this ⊢;omega) _ rfl ?_;intro g cap w7 hown hg hat hglt))
      have hbx:=(Below.refl (w5.setCell ⟨wr.heap.size,3,none⟩ (.slice A2 a'.length c2')).heap.size (w5.setCell ⟨wr.heap.size,3,none⟩ (.slice A2 a'.length c2'))).alloc (Nat.le_refl _) (.cells #[.int .i64 2,.int .i64 n',.string s',.slice A2 a'.length c2'] 69)
      have HR7:=Lib.hid (HKX.out.next (u:=(.mk 2 n' s' A2 c2' k2l)) HUX.out hbx hown hg hat)
      have HB7:=Lib.hid (show Below w.heap.size w w7 from (HBX.out.trans (hbx.mono HBX.out.size)).grown hg (by have:=HBX.out.size;simp [World.setCell] at this ⊢;omega) (fun k hk=>(HOwn.out k hk).1))
      clear hown hg hat hglt hbx
      go_wp2_with fail
      go_roundg (gk - 1)
      case measure=>have:=HAc.out.2;omega
      case rel=>exact ⟨j+1,acc++[.mk 2 n' s' A2 c2' k2l],_,by omega,by go_num,rfl,HR7,HS2,Lib.hid ⟨by rw [List.length_append,HAc.out.1];rfl,by have:=HAc.out.2;omega⟩,HB7⟩
     ·have k2':(k'==2)=false:=by simpa using k2
      have HRR:=Lib.hid (rr_else n' s' A' c' a' (placeS vs) k1 k2)
      clear QP Q1 k1 k2
      have HKX:=Lib.hid (HK.out.below hb0.out)
      have HBX:=hbX
      have HUX:=Lib.hid (show Lie (From w0) w.heap.size (fun k=>z.ownBlock=some k) (wr.alloc (.cells #[.int .i64 k',.int .i64 n',.string s',.slice A' a'.length c'] 69)) (Tm.mk k' n' s' A' c' a') from Lie.any fun W hW=>HX.out W hW)
      have HST:=Lib.hid (show (Tm.mk k' n' s' A' c' a').strip=((Tm.mk k' n' s' A' c' a').rr (placeS vs)).strip by rw [HRR.out])
      have HOwn:=Lib.hid (own_lt HKX.out.1)
      have HS2:=Lib.hid (show stripL (acc++[Tm.mk k' n' s' A' c' a'])=stripL (rrL (l.take (j+1)) (placeS vs)) by
       rw [HT.out,HA.out,List.map_append,stripL_append,stripL_append,HS.out,HA.out]
       simp only [stripL,List.map_cons,List.map_nil,HST.out])
      go_wp2_with ((at_builtin;refine wpList_append_lies _ rfl _ _ 51 rfl w.heap.size 69 i0 _ 4 56 Tryz.underlying51 hi hz0 hz1 hz2 rfl (by decide) _ acc.length (tcells acc) rfl (HKX.out.1.alloc _) ⟨wr.heap.size+1,0,none⟩ 1 1 (Tm.cells (.mk k' n' s' A' c' a')) rfl rfl (by have:=tnews1 (wr.alloc (.cells #[.int .i64 k',.int .i64 n',.string s',.slice A' a'.length c'] 69)) (.mk k' n' s' A' c' a') 69;rw [World.size_alloc] at this;exact this) (cells_one _) (by decide) (by unfold maxLen;omega) (by omega) (by have:=HBX.out.size;simp at this ⊢;omega) _ rfl ?_;intro g cap w7 hown hg hat hglt))
      have hbx:=(Below.refl (wr.alloc (.cells #[.int .i64 k',.int .i64 n',.string s',.slice A' a'.length c'] 69)).heap.size (wr.alloc (.cells #[.int .i64 k',.int .i64 n',.string s',.slice A' a'.length c'] 69))).alloc (Nat.le_refl _) (.cells #[.int .i64 k',.int .i64 n',.string s',.slice A' a'.length c'] 69)
      have HR7:=Lib.hid (HKX.out.next (u:=(.mk k' n' s' A' c' a')) HUX.out hbx hown hg hat)
      have HB7:=Lib.hid (show Below w.heap.size w w7 from (HBX.out.trans (hbx.mono HBX.out.size)).grown hg (by have:=HBX.out.size;simp at this ⊢;omega) (fun k hk=>(HOwn.out k hk).1))
      clear hown hg hat hglt hbx
      go_wp2_with fail
      go_roundg (gk - 1)
      case measure=>have:=HAc.out.2;omega
      case rel=>exact ⟨j+1,acc++[.mk k' n' s' A' c' a'],_,by omega,by go_num,rfl,HR7,HS2,Lib.hid ⟨by rw [List.length_append,HAc.out.1];rfl,by have:=HAc.out.2;omega⟩,HB7⟩
   ·obtain rfl:j=l.length:=by omega
    have hK:=HK.out
    obtain ⟨A',cz,hz,hcz⟩:=hK.form
    subst hz
    have HF:=Lib.hid hK.lies
    have HE:=Lib.hid (show stripL acc=stripL (rrL l (placeS vs)) by rw [HS.out,List.take_length])
    have hac:=HAc.out.1
    rw [hac]
    clear hK HK hlt HS hcz hac
    go_wp2_with fail
    go_ret
    exact ⟨A',cz,acc,rfl,HAc.out.1,HE.out,HF.out,HB.out⟩
end Go.Proofs.YtnghanpmmbcbbaaGreatDoor
namespace Go.Proofs.YtnghanpmmbcbbaaGreatDoor
open Go.RowKit
def AmRowT (B:World→Prop) (lo:Nat) (w:World) (z:Value) (acc:List Am):Prop :=
 w.ownsRow lo 66 2 z acc.length (amcells acc)∧∀x∈acc,AmLie B lo (fun k=>z.ownBlock=some k) w x
section
variable {B:World→Prop} {lo:Nat} {w w':World} {z:Value} {acc:List Am}
theorem AmRowT.nil (B:World→Prop) (lo:Nat) (w:World):AmRowT B lo w (.slice none 0 0) []:=⟨⟨rfl,.inl ⟨rfl,rfl⟩⟩,fun x hx=>by cases hx⟩
theorem AmRowT.below (h:AmRowT B lo w z acc) (hb:Below w.heap.size w w'):AmRowT B lo w' z acc:=⟨own_below h.1 hb,fun x hx=>(h.2 x hx).below hb⟩
theorem AmRowT.next {g cap:Nat} {w2 w3 w4:World} {u:Am} (h:AmRowT B lo w2 z acc) (hu:AmLie B lo (fun k=>z.ownBlock=some k) w2 u) (hb:Below w2.heap.size w2 w3)
  (hown:w4.ownsRow lo 66 2 (.slice (some ⟨g,0,none⟩) (acc.length+1) cap) (acc.length+1) (amcells acc++u.cells)) (hg:w3.grownBy w4 z.ownBlock) (hat:z.ownBlock=some g∨g=w3.heap.size) :
  AmRowT B lo w4 (.slice (some ⟨g,0,none⟩) (acc.length+1) cap) (acc++[u]):=by
 refine ⟨by rw [List.length_append,amcells_append];simpa [amcells] using hown,fun x hx=>?_⟩
 have hx2:AmLie B lo (fun k=>z.ownBlock=some k) w2 x:=by
  rcases List.mem_append.1 hx with hx|hx
  ·exact h.2 x hx
  ·rw [List.mem_singleton.1 hx];exact hu
 refine (hx2.below hb).less hg.size fun b h1 h2 h3=>⟨h1,fun e=>?_,hg.block b h2 (fun e=>h3 e.symm)⟩
 have e':g=b:=by simpa [Value.ownBlock] using e
 rcases hat with h|h
 ·exact h3 (by rw [h,e'])
 ·omega
theorem AmRowT.form (h:AmRowT B lo w z acc):∃A c,z=.slice A acc.length c∧acc.length≤c:=by
 rcases h.1.2 with ⟨rfl,h1⟩|⟨g,cap,cur,rfl,hb,hg,hle,_⟩
 ·exact ⟨none,0,by rw [h1],by omega⟩
 ·exact ⟨_,cap,rfl,hle⟩
theorem AmRowT.lies {A:Option Addr} {c n:Nat} (h:AmRowT B lo w (.slice A n c) acc):∀W,B W→Agree lo No w W→AmLst W A acc c:=by
 intro W hB hW
 have hl:=amcells_len acc
 rcases h.1.2 with ⟨e,h1⟩|⟨g,cap,cur,e,hb,hg,hle,hcap,hcs,hcur⟩
 ·injection e with e1 _ e3
  obtain rfl:acc=[]:=List.length_eq_zero_iff.1 h1
  rw [e1,e3];exact AmLst.nil W
 ·injection e with e1 e2 e3
  subst e1 e2 e3
  have hlt:=own_lt h.1 g rfl
  refine ⟨hle,hcap,fun _=>⟨g,0,rfl,fun i hi=>⟨fun j u hu=>?_,?_⟩⟩⟩
  ·have hj:=Am.cells_lt hu
   rw [Nat.zero_add,hW.cell (p:=⟨g,i*2+j,none⟩) hlt.1 hlt.2 (fun h=>h)]
   have hc:=World.ownsRow.cellAt h.1 (i*2+j) (by omega)
   rw [hc]
   exact (amcells_get acc hi hj).trans hu
  ·exact h.2 _ (am_getD_mem hi) W hB fun b h1 h2 h3=>hW b h1 h2 (fun h=>h)
end
end Go.Proofs.YtnghanpmmbcbbaaGreatDoor
namespace Go.Proofs.YtnghanpmmbcbbaaGreatDoor
open Go.RowKit
end Go.Proofs.YtnghanpmmbcbbaaGreatDoor
namespace Go.Proofs.YtnghanpmmbcbbaaGreatDoor
open Go.RowKit
def GlRowT (B:World→Prop) (lo:Nat) (w:World) (z:Value) (acc:List Gl):Prop :=
 w.ownsRow lo 59 3 z acc.length (glcells acc)∧∀x∈acc,GlLie B lo (fun k=>z.ownBlock=some k) w x
section
variable {B:World→Prop} {lo:Nat} {w w':World} {z:Value} {acc:List Gl}
theorem GlRowT.nil (B:World→Prop) (lo:Nat) (w:World):GlRowT B lo w (.slice none 0 0) []:=⟨⟨rfl,.inl ⟨rfl,rfl⟩⟩,fun x hx=>by cases hx⟩
theorem GlRowT.below (h:GlRowT B lo w z acc) (hb:Below w.heap.size w w'):GlRowT B lo w' z acc:=⟨own_below h.1 hb,fun x hx=>(h.2 x hx).below hb⟩
theorem GlRowT.next {g cap:Nat} {w2 w3 w4:World} {u:Gl} (h:GlRowT B lo w2 z acc) (hu:GlLie B lo (fun k=>z.ownBlock=some k) w2 u) (hb:Below w2.heap.size w2 w3)
  (hown:w4.ownsRow lo 59 3 (.slice (some ⟨g,0,none⟩) (acc.length+1) cap) (acc.length+1) (glcells acc++u.cells)) (hg:w3.grownBy w4 z.ownBlock) (hat:z.ownBlock=some g∨g=w3.heap.size) :
  GlRowT B lo w4 (.slice (some ⟨g,0,none⟩) (acc.length+1) cap) (acc++[u]):=by
 refine ⟨by rw [List.length_append,glcells_append];simpa [glcells] using hown,fun x hx=>?_⟩
 have hx2:GlLie B lo (fun k=>z.ownBlock=some k) w2 x:=by
  rcases List.mem_append.1 hx with hx|hx
  ·exact h.2 x hx
  ·rw [List.mem_singleton.1 hx];exact hu
 refine (hx2.below hb).less hg.size fun b h1 h2 h3=>⟨h1,fun e=>?_,hg.block b h2 (fun e=>h3 e.symm)⟩
 have e':g=b:=by simpa [Value.ownBlock] using e
 rcases hat with h|h
 ·exact h3 (by rw [h,e'])
 ·omega
theorem gl_apart {x:Gl} {lo':Nat} {w0 w2:World} {n:Nat} {e:TypeId} {size:Nat} {xs:List Value} (hown:w0.ownsRow lo e size z n xs) (hx:GlLie B lo' No w2 x) (h1:lo≤lo') (h2:w0.heap.size≤lo'):GlLie B lo (fun k=>z.ownBlock=some k) w2 x :=
 (hx.out (X:=fun k=>z.ownBlock=some k) (fun b h3 _ h4=>by have:=(own_lt hown b h4).2;omega)).low h1
theorem GlRowT.form (h:GlRowT B lo w z acc):∃A c,z=.slice A acc.length c∧acc.length≤c:=by
 rcases h.1.2 with ⟨rfl,h1⟩|⟨g,cap,cur,rfl,hb,hg,hle,_⟩
 ·exact ⟨none,0,by rw [h1],by omega⟩
 ·exact ⟨_,cap,rfl,hle⟩
theorem GlRowT.lies {A:Option Addr} {c n:Nat} (h:GlRowT B lo w (.slice A n c) acc):∀W,B W→Agree lo No w W→GlLst W A acc c:=by
 intro W hB hW
 have hl:=glcells_len acc
 rcases h.1.2 with ⟨e,h1⟩|⟨g,cap,cur,e,hb,hg,hle,hcap,hcs,hcur⟩
 ·injection e with e1 _ e3
  obtain rfl:acc=[]:=List.length_eq_zero_iff.1 h1
  rw [e1,e3];exact GlLst.nil W
 ·injection e with e1 e2 e3
  subst e1 e2 e3
  have hlt:=own_lt h.1 g rfl
  refine ⟨hle,hcap,fun _=>⟨g,0,rfl,fun i hi=>⟨fun j u hu=>?_,?_⟩⟩⟩
  ·have hj:=Gl.cells_lt hu
   rw [Nat.zero_add,hW.cell (p:=⟨g,i*3+j,none⟩) hlt.1 hlt.2 (fun h=>h)]
   have hc:=World.ownsRow.cellAt h.1 (i*3+j) (by omega)
   rw [hc]
   exact (glcells_get acc hi hj).trans hu
  ·exact h.2 _ (gl_getD_mem hi) W hB fun b h1 h2 h3=>hW b h1 h2 (fun h=>h)
end
theorem glnews (w:World) (u:Gl) (T:TypeId):∀j v,u.cells[j]?=some v→(w.alloc (.cells #[.int .i64 u.op,.string u.name,.slice u.at_ u.args.length u.cap] T)).cell? ((⟨w.heap.size,0,none⟩:Addr).add j)=some v:=by
 intro j v hv
 rw [add_plain,Nat.zero_add,World.cell?_alloc_at _ _ _ _ rfl,← hv,show (#[.int .i64 u.op,.string u.name,.slice u.at_ u.args.length u.cap]:Array Value)=u.cells.toArray from rfl,List.getElem?_toArray]
end Go.Proofs.YtnghanpmmbcbbaaGreatDoor
namespace Go.Proofs.YtnghanpmmbcbbaaGreatDoor
open Go.RowKit
set_option maxHeartbeats 8000000 in
set_option maxRecDepth 100000 in
theorem ren_gls_at (w0:World) (V:Option Addr) (vs:List Int) (cv:Nat) (hvs:vs.length≤1000000) (l:List Gl) (A:Option Addr) (c:Nat) (w:World) (hV:Ints w V vs) (hw:Below w0.heap.size w0 w) (hl:GlLst w0 A l c) (hsz:l.length≤1000000) (hnd:∀x∈l,nodesL x.args≤1000000) :
  Calls Tryz.prog 28 #[.slice V vs.length cv,.slice A l.length c] w (GlMade (From w0) l.length (l.map fun x=>x.rr (placeS vs)) w):=by
 obtain ⟨i0,hi,hz0,hz1,hz2⟩:=info_parts gl_info
 have HL:=Lib.hid (hl.below hw)
 have HI:=Lib.hid (fun (x:Gl) (hx:x∈l) (W:World) (h:Below w.heap.size w W)=>ren_list_at w0 V vs cv hvs (nodesL x.args) x.at_ x.args x.cap W rfl (hnd x hx) (((hl.mem hx)).2.2) (hw.trans (h.mono hw.size)) (hV.below h))
 have HAT:=Lib.hid (fun (x:Gl) (hx:x∈l)=>hl.mem hx)
 clear hl hnd hw hV
 go_enter Tryz.func28,Tryz.ntmps28
 go_wp2_with fail
 go_loopw [5,6] (fun z i wr=>∃(j:Nat) (acc:List Gl) (x:Value),j≤l.length∧i=.int .i64 j∧z=x∧Hid (GlRowT (From w0) w.heap.size wr x acc)∧Hid (acc.map Gl.key=(l.take j).map fun x=>(x.rr (placeS vs)).key)∧Hid (acc.length=j)∧Below w.heap.size w wr) (fun _ i _=>l.length - (intOf i).toNat)
 case atStart=>exact ⟨0,[],_,Nat.zero_le _,rfl,rfl,Lib.hid (GlRowT.nil _ _ _),Lib.hid rfl,Lib.hid rfl,Below.refl _ _⟩
 case round =>
  obtain ⟨j,acc,z,hj,rfl,hz,HK,HS,HAc,hbw⟩:=hrel
  have hz':=hz.symm
  subst hz'
  clear hz
  by_cases hlt:j < l.length
  ·obtain ⟨b0,o,rfl,hcs,_⟩:=(HL.out.below hbw).get hlt
   have HT:=Lib.hid (gl_take_next hlt)
   have hmem:=gl_getD_mem hlt
   have hal:acc.length≤1000000:=by rw [HAc.out];omega
   generalize l.getD j default=x at *
   have Q1:=Lib.hid (fun W (h:Below w.heap.size w W)=>HI.out x hmem W h)
   have HXA:=Lib.hid (HAT.out x hmem)
   have c0:=hcs 0 _ rfl
   have c1:=hcs 1 _ rfl
   have c2:=hcs 2 _ rfl
   simp only [Nat.add_zero] at c0
   have hb0:b0 < wr.heap.size:=World.block_lt_of_cell? _ _ c0
   have HCL:=Lib.hid (fun W (h:Below wr.heap.size wr W)=>(⟨keepv h c0,keepv h c1,keepv h c2⟩:W.cell? ⟨b0,o+j*3,none⟩=some (.int .i64 x.op)∧W.cell? ⟨b0,o+j*3+1,none⟩=some (.string x.name)∧W.cell? ⟨b0,o+j*3+2,none⟩=some (.slice x.at_ x.args.length x.cap)))
   clear hcs hmem
   obtain ⟨o',s',A',c',a'⟩:=x
   simp only at c0 c1 c2
   go_wp2_with fail
   go_region_law (first
    | (go_simp;go_at_call 67;refine (Q1.out _ hbw.drew).mono ?_;rintro e w2 ⟨A2,p2,cur,rfl,hcl,hst,hL,hb2⟩;replace hb2:=undrew hb2;have hbk:b0 < w2.heap.size:=Nat.lt_of_lt_of_le hb0 hb2.size;obtain ⟨d0,d1,d2⟩:=HCL.out _ hb2;have HL2:=Lib.hid (fun W h1 (hW:Agree wr.heap.size No w2 W)=>hL W h1 (fun b' h1 h2 h3=>hW b' (by simpa using h1) h2 h3));have HC2:=Lib.hid hcl;have HS2:=Lib.hid hst;have HK2:=Lib.hid (HK.out.below hb2);have HB2:=Lib.hid hb2;clear hcl hst hL hb2)
    | (refine step_append_lies _ (by rfl) _ _ _ (by rfl) w.heap.size 59 i0 _ 3 48 Tryz.underlying23 hi hz0 hz1 hz2 rfl (by omega) _ acc.length (glcells acc) (by rfl) (HK2.out.1.alloc _) ⟨w2.heap.size,0,none⟩ 1 1 (Gl.cells ⟨o',s',A2,p2,cur⟩) (by rfl) (by rfl) (by have:=glnews w2 (⟨o',s',A2,p2,cur⟩:Gl) 59;simp only [HC2.out] at this;exact this) (by exact glcells_one _) (by omega) (by unfold maxLen;omega) (by omega) (by have:=hbw.size;have:=HB2.out.size;simp;omega) (w2.heap.size+1) (by simp) ?_;intro g cap w5 hown hg hat hglt)
    | fail)
   all_goals
    have HU:=Lib.hid (gl_apart (x:=⟨o',s',A2,p2,cur⟩) HK.out.1 (show GlLie (From w0) wr.heap.size No w2 ⟨o',s',A2,p2,cur⟩ from fun W h1 hW=>⟨HXA.out.1,HXA.out.2.1,HL2.out W h1 hW⟩) hbw.size (Nat.le_refl _))
    have HR5:=Lib.hid (HK2.out.next (u:=⟨o',s',A2,p2,cur⟩) HU.out (below1 w2 _) hown hg (by rcases hat with h|h;exact .inl h;exact .inr (by rw [h];simp)))
    have HB5:Below w.heap.size w w5:=((hbw.trans (HB2.out.mono hbw.size)).alloc (Nat.le_trans hbw.size HB2.out.size) _).grown hg (by have:=hbw.size;have:=HB2.out.size;simp;omega) (fun k hk=>((own_lt HK2.out.1) k hk).1)
    have HS5:=Lib.hid (show (acc++[(⟨o',s',A2,p2,cur⟩:Gl)]).map Gl.key=(l.take (j+1)).map fun x=>(x.rr (placeS vs)).key by
     rw [HT.out,List.map_append,List.map_append,HS.out]
     refine congrArg _ ?_
     simp only [List.map_cons,List.map_nil]
     exact congrArg (fun x=>[x]) (Prod.ext rfl HS2.out))
    clear hown hg hat hglt HK HK2 HU
    go_wp2_with fail
    go_roundw
    case rel=>exact ⟨j+1,acc++[(⟨o',s',A2,p2,cur⟩:Gl)],_,by omega,by go_num,rfl,HR5,HS5,Lib.hid (by rw [List.length_append,HAc.out];rfl),HB5⟩
    case measure=>simp [intOf];omega
  ·obtain rfl:j=l.length:=by omega
   have hK:=HK.out
   obtain ⟨A',cz,hz,hcz⟩:=hK.form
   subst hz
   have HF:=Lib.hid hK.lies
   have HE:=Lib.hid (show acc.map Gl.key=(l.map fun x=>x.rr (placeS vs)).map Gl.key by rw [HS.out,List.take_length,List.map_map];rfl)
   rw [HAc.out]
   clear hK HK hlt HS hcz
   go_wp2_with fail
   go_ret
   exact ⟨A',cz,acc,rfl,HAc.out,HE.out,HF.out,hbw⟩
end Go.Proofs.YtnghanpmmbcbbaaGreatDoor
namespace Go.Proofs.YtnghanpmmbcbbaaGreatDoor
open Go.RowKit
def Rl.vs (r:Rl):List Int:=varsL r.ts
def RlLies (w0:World) (fA:Am→Am) (fG:Gl→Gl) (r:Rl) (w:World) (e:Ending) (w':World):Prop:=∃u:Rl,e=.returned u.val∧Like fA fG u r∧(∀W,From w0 W→Agree w.heap.size No w' W→u.At W)∧Below w.heap.size w w'
end Go.Proofs.YtnghanpmmbcbbaaGreatDoor
namespace Go.Proofs.YtnghanpmmbcbbaaGreatDoor
open Go.RowKit
theorem keys_map {α β γ:Type} {k:α→β} {f:α→γ} (hf:∀x y,k x=k y→f x=f y):∀{l m:List α},l.map k=m.map k→l.map f=m.map f
 | [],[],_=>rfl
 | [],_ :: _,h=>by simp at h
 | _ :: _,[],h=>by simp at h
 | x :: l,y :: m,h=>by
  simp only [List.map_cons,List.cons.injEq] at h ⊢
  exact ⟨hf x y h.1,keys_map hf h.2⟩
structure Rl.Twin (u v:Rl):Prop where
 name:u.name=v.name
 keep:u.keep.map Am.key=v.keep.map Am.key
 remove:u.remove.map Am.key=v.remove.map Am.key
 guard:u.guard.map Gl.key=v.guard.map Gl.key
 body:u.body.map Gl.key=v.body.map Gl.key
theorem map_len {α β:Type} {f:α→β} {l m:List α} (h:l.map f=m.map f):l.length=m.length:=by have:=congrArg List.length h;simpa using this
def Rl.numR (r:Rl):Rl:={ r with keep:=r.keep.map fun x=>x.rr (placeS r.vs),remove:=r.remove.map fun x=>x.rr (placeS r.vs),guard:=r.guard.map fun x=>x.rr (placeS r.vs),body:=r.body.map fun x=>x.rr (placeS r.vs),vars:=(r.vs.length:Int) }
theorem mem_key {α β:Type} {k:α→β} {l m:List α} (h:l.map k=m.map k) {x:α} (hx:x∈l):∃y∈m,k x=k y:=by
 have:k x∈m.map k:=by rw [←h];exact List.mem_map_of_mem hx
 obtain ⟨y,hy,e⟩:=List.mem_map.1 this
 exact ⟨y,hy,e.symm⟩
theorem like_num {u r:Rl} (h:Like (fun x=>x.rr (placeS r.vs)) (fun x=>x.rr (placeS r.vs)) u { r with vars:=(r.vs.length:Int) }):u.Twin r.numR:=⟨h.name,h.keep,h.remove,h.guard,h.body⟩
end Go.Proofs.YtnghanpmmbcbbaaGreatDoor
namespace Go.Proofs.YtnghanpmmbcbbaaGreatDoor
open Go
def skip:List UInt8→List UInt8
 | []=>[]
 | c :: r=>if c=32 then skip r else c :: r
theorem skip_len (l:List UInt8):(skip l).length≤l.length:=by
 induction l with
 | nil=>simp [skip]
 | cons c r ih =>
  unfold skip
  split
  ·simp only [List.length_cons];omega
  ·exact Nat.le_refl _
def sp (n:Nat):List UInt8:=List.replicate n 32
def ostr (s:List UInt8):Nat:=if s=[43]∨s=[45] then 0 else if s=[42]∨s=[47]∨s=[37] then 1 else 2
def Tm.pw (t:Tm):Nat:=ostr t.name.data.toList
theorem ostr_op (s:List UInt8):opB s=true↔ostr s < 2:=by
 simp only [opB,operators,List.mem_cons,List.not_mem_nil,or_false,decide_eq_true_eq,ostr]
 split
 ·rename_i h;rcases h with h|h<;>simp [h]
 ·rename_i h
  split
  ·rename_i h';rcases h' with h'|h'|h'<;>simp [h']
  ·rename_i h'
   simp only [not_or] at h h'
   simp [h,h']
theorem ostr_hi (s:List UInt8):ostr s≤2:=by unfold ostr;split<;>(try split)<;>omega
structure Sty where
 a:Nat
 b:Nat
 c:Nat
 d:Nat
 e:Nat
def plain:Sty:=⟨0,0,0,0,0⟩
def wide:Sty:=⟨1,2,1,2,1⟩
def Sty.lp (σ:Sty):List UInt8:=sp σ.a++40 :: sp σ.b
def Sty.rp (σ:Sty):List UInt8:=sp σ.c++41 :: sp σ.d
def Sty.cm (σ:Sty):List UInt8:=sp σ.e++[44]
def paren (σ:Sty) (b:Bool) (x:List UInt8):List UInt8:=if b then σ.lp++(x++σ.rp) else x
def restT (σ:Sty):List (List UInt8)→List UInt8
 | []=>[]
 | x :: r=>σ.cm++(32 :: x++restT σ r)
def callT (σ:Sty) (s:List UInt8):List (List UInt8)→List UInt8
 | []=>s
 | x :: r=>s++(σ.lp++(x++(restT σ r++σ.rp)))
def topT (s x y:List UInt8):List UInt8:=x++(32 :: s++(32 :: y))
mutual
def Tm.txt (σ:Sty):Tm→List UInt8
 | .mk k n s _ _ a=>if k=0 then Lib.itoa n else if k=1 then label n.toNat
   else if opB s.data.toList then topT s.data.toList (paren σ (decide ((a.getD 0 default).pw < ostr s.data.toList)) ((txtL σ a).getD 0 [])) (paren σ (decide ((a.getD 1 default).pw≤ostr s.data.toList)) ((txtL σ a).getD 1 []))
   else callT σ s.data.toList (txtL σ a)
def txtL (σ:Sty):List Tm→List (List UInt8)
 | []=>[]
 | t :: r=>t.txt σ :: txtL σ r
end
theorem txtL_map (σ:Sty) (l:List Tm):txtL σ l=l.map (Tm.txt σ):=by
 induction l with
 | nil=>rfl
 | cons t r ih=>simp [txtL,ih]
inductive PR (α:Type) where
 | ok (v:α) (r:List UInt8)
 | err (e:Int)
def binT (c:UInt8) (t u:Tm):Tm:=.mk 2 0 ⟨#[c]⟩ none 0 [t,u]
def funT (w:List UInt8) (l:List Tm):Tm:=.mk 2 0 ⟨w.toArray⟩ none 0 l
def intT (n:Int):Tm:=.mk 0 n ⟨#[]⟩ none 0 []
def varT (n:Nat):Tm:=.mk 1 (n:Int) ⟨#[]⟩ none 0 []
def intP (r:List UInt8):PR Tm :=
 if (if r.headD 0=45 then r.tail else r).takeWhile digB=[]∨(((if r.headD 0=45 then r.tail else r).takeWhile digB).headD 0=48∧(r.headD 0=45∨1 < ((if r.headD 0=45 then r.tail else r).takeWhile digB).length)) then .err 16
 else if 2147483648 < spell ((if r.headD 0=45 then r.tail else r).takeWhile digB) then .err 5
 else .ok (intT (if r.headD 0=45 then -(spell ((if r.headD 0=45 then r.tail else r).takeWhile digB):Int) else (spell ((if r.headD 0=45 then r.tail else r).takeWhile digB):Int))) (skip ((if r.headD 0=45 then r.tail else r).dropWhile digB))
def labP (r:List UInt8):PR Tm :=
 if spell ((r.takeWhile inB).drop 1)≤1048576∧r.takeWhile inB=label (spell ((r.takeWhile inB).drop 1)) then .ok (varT (spell ((r.takeWhile inB).drop 1))) (skip (r.dropWhile inB)) else .err 7
def argsP (ex:List UInt8→PR Tm) (acc:List Tm) (r:List UInt8):PR (List Tm) :=
 match ex r with
 | .err e=>.err e
 | .ok _ []=>.err 16
 | .ok t (c :: r2)=>if c=41 then .ok (acc++[t]) (skip r2)
   else if c=44 then (if _h:r2.length < r.length then argsP ex (acc++[t]) (skip r2) else .err 0)
   else .err 16
termination_by r.length
decreasing_by have:=skip_len r2;omega
def atomP (ex:List UInt8→PR Tm) (r:List UInt8):PR (List UInt8×List Tm) :=
 if lowB (r.headD 0) then
  if rightB (r.takeWhile inB) then
   match skip (r.dropWhile inB) with
   | []=>.ok (r.takeWhile inB,[]) []
   | c :: r2=>if c=40 then (match argsP ex [] (skip r2) with
     | .ok l r3=>.ok (r.takeWhile inB,l) r3
     | .err e=>.err e) else .ok (r.takeWhile inB,[]) (c :: r2)
  else .err 7
 else .err 16
def groupP (ex:List UInt8→PR Tm) (r:List UInt8):PR Tm :=
 match ex (skip r.tail) with
 | .err e=>.err e
 | .ok _ []=>.err 16
 | .ok t (c :: r2)=>if c=41 then .ok t (skip r2) else .err 16
def asFun:PR (List UInt8×List Tm)→PR Tm
 | .ok (w,l) r2=>.ok (funT w l) r2
 | .err e=>.err e
def opnd (ex:List UInt8→PR Tm) (r:List UInt8):PR Tm :=
 if r.headD 0=40 then groupP ex r
 else if r.headD 0=45∨digB (r.headD 0)=true then intP r
 else if undB (r.headD 0)=true∨uppB (r.headD 0)=true then labP r
 else asFun (atomP ex r)
def chain (own:Nat) (o:List UInt8→PR Tm) (t:Tm) (r:List UInt8):PR Tm :=
 if ostr [r.headD 0]=own then
  match o (skip r.tail) with
  | .ok u r2=>if _h:r2.length < r.length then chain own o (binT (r.headD 0) t u) r2 else .err 0
  | .err e=>.err e
 else .ok t r
termination_by r.length
def level (own:Nat) (o:List UInt8→PR Tm) (r:List UInt8):PR Tm :=
 match o r with
 | .ok t r1=>chain own o t r1
 | .err e=>.err e
def exprP:Nat→List UInt8→PR Tm
 | 0,_=>.err 0
 | n+1,r=>level 0 (level 1 (opnd (exprP n))) r
def parseP (s:List UInt8):PR Tm :=
 if 16384 < s.length then .err 6 else
 match exprP (s.length+1) (skip s) with
 | .err e=>.err e
 | .ok t r=>if r≠[] then .err 16 else if t.right then .ok t [] else .err 6
def atomR (w:List UInt8) (l:List Tm):Bool:=rightB w&&(decide (l.length≤6)&&(formL l&&(decide (sizeL l≤200)&&decide (depthL l≤20))))
def parseA (s:List UInt8):PR (List UInt8×List Tm) :=
 if 16384 < s.length then .err 6 else
 match atomP (exprP (s.length+1)) (skip s) with
 | .err e=>.err e
 | .ok (w,l) r=>if r≠[] then .err 16 else if atomR w l then .ok (w,l) [] else .err 6
def Shrinks {α:Type} (o:List UInt8→PR α):Prop:=∀r t r',o r=.ok t r'→r'.length < r.length
end Go.Proofs.YtnghanpmmbcbbaaGreatDoor
namespace Go.Proofs.YtnghanpmmbcbbaaGreatDoor
open Go
theorem while_stop {p:UInt8→Bool} {l k:List UInt8} (h:∀c∈l,p c=true) (hk:k=[]∨p (k.headD 0)=false):(l++k).takeWhile p=l∧(l++k).dropWhile p=k:=by
 induction l with
 | nil =>
  rcases k with _|⟨c,r⟩
  ·simp
  ·rcases hk with hk|hk
   ·cases hk
   ·simp only [List.headD_cons] at hk
    simp [hk]
 | cons c r ih =>
  have:=ih (fun x hx=>h x (List.mem_cons_of_mem _ hx))
  have hc:=h c List.mem_cons_self
  simp [hc,this]
theorem dec_dig (n:Nat):∀c∈Lib.decDigits n,digB c=true:=fun c hc=>by
 have:=dec_digit n c hc
 simp only [digB,decide_eq_true_eq]
 exact this
theorem dig_in {c:UInt8} (h:digB c=true):inB c=true:=by simp [inB,h]
theorem dec_ne (n:Nat):Lib.decDigits n≠[]:=fun e=>by have:=dec_len n;rw [e] at this;simp at this
def Cont (k:List UInt8):Prop:=inB (k.headD 0)=false∧(skip k).headD 0≠40
theorem in_dig {c:UInt8} (h:inB c=false):digB c=false:=by
 cases hd:digB c
 ·rfl
 ·rw [dig_in hd] at h;cases h
section
variable (σ:Sty)
def RA (t:Tm):Prop:=∀n k,(t.txt σ++k).length≤n→Cont k→t.pw=2→opnd (exprP n) (skip (t.txt σ++k))=.ok t.strip (skip k)
def RB (t:Tm):Prop:=∀n k,(t.txt σ++k).length≤n→Cont k→1≤t.pw→level 1 (opnd (exprP n)) (skip (t.txt σ++k))=chain 1 (opnd (exprP n)) t.strip (skip k)
def RC (t:Tm):Prop:=∀n k,(t.txt σ++k).length≤n→Cont k→ostr [(skip k).headD 0]≠1→level 0 (level 1 (opnd (exprP n))) (skip (t.txt σ++k))=chain 0 (level 1 (opnd (exprP n))) t.strip (skip k)
def RD (t:Tm):Prop:=∀n k,(t.txt σ++k).length≤n→Cont k→ostr [(skip k).headD 0]=2→exprP (n+1) (skip (t.txt σ++k))=.ok t.strip (skip k)
variable {σ}
theorem tchain_stop {own:Nat} {o:List UInt8→PR Tm} {t:Tm} {r:List UInt8} (h:ostr [r.headD 0]≠own):chain own o t r=.ok t r:=by rw [chain,if_neg h]
theorem RA.b {t:Tm} (h:RA σ t) (h2:t.pw=2):RB σ t:=fun n k hn hk _=>by unfold level;rw [h n k hn hk h2]
theorem RB.c {t:Tm} (h:RB σ t) (h1:1≤t.pw):RC σ t:=fun n k hn hk h3=>by rw [level,h n k hn hk h1,tchain_stop h3]
theorem RC.d {t:Tm} (h:RC σ t):RD σ t:=fun n k hn hk h3=>by rw [exprP,h n k hn hk (by omega),tchain_stop (by omega)]
theorem op_byte {s:List UInt8} (h:opB s=true):∃c,s=[c]∧c≠32∧inB c=false∧c≠40∧c≠0:=by
 simp only [opB,operators,List.mem_cons,List.not_mem_nil,or_false,decide_eq_true_eq] at h
 rcases h with rfl|rfl|rfl|rfl|rfl
 all_goals exact ⟨_,rfl,by decide,by decide,by decide,by decide⟩
theorem pw_hi (t:Tm):t.pw≤2:=ostr_hi _
end
end Go.Proofs.YtnghanpmmbcbbaaGreatDoor
