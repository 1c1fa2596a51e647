/-
  PgNumR0.
  PgNumR1.
  PgNumR.
 PgRuleN.
 SrJoin.
-/
import Derived.Test.YtnghanpmmbcbbaaGreatDoorMq24
import Derived.Test.YtnghanpmmbcbbaaGreatDoorMq11
import Derived.Test.YtnghanpmmbcbbaaGreatDoorMq21
import Derived.Test.YtnghanpmmbcbbaaGreatDoorMq13
namespace Go.Proofs.YtnghanpmmbcbbaaGreatDoor
open Go.RowKit
theorem RowG.only {α:Type} {E:Elt α} {T:TypeId} {lo:Nat} {w w':World} {r:Value} {L:List α} (h:RowG E T lo w r L) (hs:w.heap.size≤w'.heap.size) (ho:∀k,r.ownBlock=some k→w'.heap[k]?=w.heap[k]?) (hb:∀b∈E.blkL L,w'.heap[b]?=w.heap[b]?):RowG E T lo w' r L :=
 ⟨own_of h.row ho,h.sit.frame hs hb,h.apart⟩
theorem nodes_size:(∀t:Tm,t.neat→t.nodes=t.size)∧(∀l,neatL l→nodesL l=sizeL l):=by
 refine Tm.induct2 (fun k n s A c a ih=>?_) (fun _=>rfl) (fun t r h1 h2=>?_)
 ·intro h
  rcases h with ⟨rfl,_,rfl⟩|⟨rfl,_,rfl⟩|⟨rfl,_,h⟩
  ·simp [Tm.nodes,Tm.size,nodesL]
  ·simp [Tm.nodes,Tm.size,nodesL]
  ·simp only [Tm.nodes,Tm.size,ih h,if_true]
 ·intro h
  simp only [nodesL,sizeL,h1 h.1,h2 h.2]
def setA (ks:List Am) (qs:List (List Tm)):List Am:=List.zipWith (fun x a=>{ x with args:=a }) ks qs
def setG (gs:List Gl) (qs:List (List Tm)):List Gl:=List.zipWith (fun x a=>{ x with args:=a }) gs qs
theorem okv_sub {l:List Tk} {i j:Nat} {us vs:List Tm} (h:OkV l i j (us++vs)):OkV l i j us∧OkV l i j vs:=by
 obtain ⟨h1,h2,h3⟩:=h
 have hn:=(neatL_append us vs).1 h1
 rw [occL_append] at h2 h3
 obtain ⟨n1,n2,_⟩:=List.nodup_append.1 h2
 exact ⟨⟨hn.1,n1,fun v hv=>h3 v (List.mem_append.2 (.inl hv))⟩,⟨hn.2,n2,fun v hv=>h3 v (List.mem_append.2 (.inr hv))⟩⟩
theorem okv_each {α:Type} {l:List Tk} {i j:Nat} {f:α→List Tm}:∀{xs:List α},OkV l i j (xs.flatMap f)→∀x∈xs,OkV l i j (f x)
 | [],_,_,hx=>by cases hx
 | y :: r,h,x,hx=>by
  rw [List.flatMap_cons] at h
  obtain ⟨h1,h2⟩:=okv_sub h
  rcases List.mem_cons.1 hx with rfl|hx
  ·exact h1
  ·exact okv_each h2 x hx
theorem okv_valid {l:List Tk} {i j:Nat} {us:List Tm} (h:OkV l i j us) (hj:j≤l.length):neatL us∧∀v∈occL us,0≤v∧v.toNat < l.length:=⟨h.1,fun v hv=>by have:=h.2.2 v hv;omega⟩
theorem setAm_len {ks:List Am} {qs:List (List Tm)} (h:qs.length=ks.length):(setA ks qs).length=ks.length:=by simp [setA,h]
theorem setAm_get {ks:List Am} {qs:List (List Tm)} (h:qs.length=ks.length) {i:Nat} (hi:i < ks.length):(setA ks qs).getD i default={ ks.getD i default with args:=qs.getD i [] }:=by
 have hq:i < qs.length:=by omega
 simp only [setA,List.getD_eq_getElem?_getD,List.getElem?_zipWith,List.getElem?_eq_getElem hi,List.getElem?_eq_getElem hq,Option.getD_some]
theorem blkAm (ks:List Am):elAm.blkL ks=(ks.map hdAm).flatMap blkH:=by
 rw [List.flatMap_map];rfl
theorem setAm_same:∀{ks:List Am} {qs:List (List Tm)},qs.length=ks.length→(∀i,i < ks.length→(qs.getD i []).length=(ks.getD i default).args.length∧blkL (qs.getD i [])=blkL (ks.getD i default).args)→elAm.cellsL (setA ks qs)=elAm.cellsL ks∧elAm.blkL (setA ks qs)=elAm.blkL ks
 | [],_,_,_=>⟨rfl,rfl⟩
 | x :: r,[],h,_=>by simp at h
 | x :: r,a :: q,h,hs=>by
  obtain ⟨e1,e2⟩:=setAm_same (ks:=r) (qs:=q) (by simpa using h) (fun i hi=>by have:=hs (i+1) (by simpa using hi);simpa using this)
  obtain ⟨h1,h2⟩:=hs 0 (by simp)
  simp only [List.getD_cons_zero] at h1 h2
  have c1:elAm.cells { x with args:=a }=elAm.cells x:=by
   show (_:List Value)=_
   simp only [elAm,h1]
  have c2:elAm.blk { x with args:=a }=elAm.blk x:=by
   show (_:List Nat)=_
   simp only [elAm,h1,h2]
  refine ⟨?_,?_⟩
  ·show elAm.cells { x with args:=a }++elAm.cellsL (setA r q)=elAm.cells x++elAm.cellsL r
   rw [c1,e1]
  ·show elAm.blk { x with args:=a }++elAm.blkL (setA r q)=elAm.blk x++elAm.blkL r
   rw [c2,e2]
section
variable {l:List Tk} {M lo:Nat} {A:Option Addr} {w w':World} {r:Value} {xs:List Am} {i j:Nat}
theorem rowAm_of {B:Option Addr} {n c:Nat} (h:RowG elAm 66 lo w (.slice B n c) xs) (hless:LessG elAm (.slice B n c) xs M):RowAm w M B xs c:=by
 rcases h.row.2 with ⟨e,h1⟩|⟨g,cap,cur,e,hb,hg,hle,hcap,hcs,hcur⟩
 ·injection e with e1 e2 e3
  subst e3
  exact ⟨by omega,by unfold maxLen;omega,fun h0=>by omega⟩
 ·have e':=e
  injection e with e1 e2 e3
  subst e1 e2 e3
  refine ⟨hle,hcap,fun h0=>?_⟩
  obtain ⟨g2,c2,e,_,_,hlo,hlt,hap,hfz,hcell⟩:=h.form h0
  injection e with e1 e2 e3
  injection e1 with e1
  injection e1 with e1
  subst e1
  refine ⟨g,0,rfl,hless.1 g rfl,by rw [←blkAm];exact hap,fun i hi q u hu=>?_⟩
  have hq:q < 2:=by
   have:=(List.getElem?_eq_some_iff.1 hu).1
   rw [elAm.len] at this
   exact this
  have:=Elt.cellsL_get elAm xs hi hq
  rw [Nat.zero_add]
  exact hcell _ _ (this.trans hu)
theorem numHAm_of (h:RowG elAm 66 lo w r xs) (hless:LessG elAm r xs M) (hA:∀g,A=some ⟨g,0,none⟩→g < lo) (hv:OkV l i j (xs.flatMap Am.args)) (hj:j≤l.length):NumH w M A l (xs.map hdAm):=by
 refine ⟨by rw [←blkAm];exact h.sit.nd,fun b hb=>?_,fun g e hg=>?_,fun b hb=>h.sit.fz b (by rw [blkAm];exact hb),fun hd hh=>?_⟩
 ·rw [←blkAm] at hb
  exact hless.2 b hb
 ·rw [←blkAm] at hg
  have h1:=(h.sit.bd g hg).1
  have h2:=hA g e
  omega
 ·obtain ⟨x,hx,rfl⟩:=List.mem_map.1 hh
  have:=okv_valid (okv_each hv x hx) hj
  exact ⟨(h.sit.at_ _ hx).1.2,this.1,this.2⟩
theorem numRowAm {X:Nat→List UInt8} {ns:List (List UInt8)} (h:RowG elAm 66 lo w r xs) (hless:LessG elAm r xs M) (hs:w.heap.size≤w'.heap.size) (hfr:∀k,k < M→k∉(xs.map hdAm).flatMap blkH→w'.heap[k]?=w.heap[k]?) (hfz:∀k,k < M→∀j,w'.frozen? ⟨k,j,none⟩=w.frozen? ⟨k,j,none⟩)
  (hl:∀i,i < (xs.map hdAm).length→Lst w' ((xs.map hdAm).getD i default).1 ((numLL X ((xs.map hdAm).map (·.2.2)) ns).1.getD i []) ((xs.map hdAm).getD i default).2.1) :
  RowG elAm 66 lo w' r (setA xs (numLL X ((xs.map hdAm).map (·.2.2)) ns).1)∧elAm.blkL (setA xs (numLL X ((xs.map hdAm).map (·.2.2)) ns).1)=elAm.blkL xs:=by
 have hlen:(numLL X ((xs.map hdAm).map (·.2.2)) ns).1.length=xs.length:=by rw [numLL_len];simp
 have hsh:∀i,i < xs.length→((numLL X ((xs.map hdAm).map (·.2.2)) ns).1.getD i []).length=(xs.getD i default).args.length∧blkL ((numLL X ((xs.map hdAm).map (·.2.2)) ns).1.getD i [])=blkL (xs.getD i default).args:=fun i hi=>by
  have:=midH_blk (X:=X) (hs:=xs.map hdAm) (ns:=ns) (j:=(xs.map hdAm).length) (i:=i) (by rw [List.length_map];exact hi)
  rw [midH_all,hdAm_get hi] at this
  exact this
 obtain ⟨e1,e2⟩:=setAm_same hlen hsh
 have hown:∀k,r.ownBlock=some k→w'.heap[k]?=w.heap[k]?:=fun k hk=>hfr k (hless.1 k hk) (by rw [←blkAm];exact h.apart k hk)
 refine ⟨⟨by rw [setAm_len hlen,e1];exact own_of h.row hown,⟨fun x hx=>?_,by rw [e2];exact h.sit.nd,fun b hb=>by rw [e2] at hb;exact ⟨(h.sit.bd b hb).1,Nat.lt_of_lt_of_le (h.sit.bd b hb).2 hs⟩,fun b hb q=>by rw [e2] at hb;rw [hfz b (hless.2 b hb) q];exact h.sit.fz b hb q⟩,fun k hk=>by rw [e2];exact h.apart k hk⟩,e2⟩
 obtain ⟨i,hi,e⟩:=List.mem_iff_getElem.1 hx
 rw [setAm_len hlen] at hi
 have e3:x=(setA xs (numLL X ((xs.map hdAm).map (·.2.2)) ns).1).getD i default:=by rw [List.getD_eq_getElem?_getD,List.getElem?_eq_getElem (by rw [setAm_len hlen];exact hi),← e];rfl
 rw [e3,setAm_get hlen hi]
 have hm:xs.getD i default∈xs:=by rw [List.getD_eq_getElem?_getD,List.getElem?_eq_getElem hi];exact List.getElem_mem hi
 have hL:=hl i (by rw [List.length_map];exact hi)
 rw [hdAm_get hi] at hL
 have hat:=h.sit.at_ _ hm
 refine ⟨⟨hat.1.1,hL⟩,fun e=>hat.2.1 ?_,by rw [(hsh i hi).1];exact hat.2.2⟩
 have:=(hsh i hi).1
 have e0:(numLL X ((xs.map hdAm).map (·.2.2)) ns).1.getD i []=[]:=e
 rw [e0] at this
 exact List.length_eq_zero_iff.1 this.symm
end
theorem setGl_len {ks:List Gl} {qs:List (List Tm)} (h:qs.length=ks.length):(setG ks qs).length=ks.length:=by simp [setG,h]
theorem setGl_get {ks:List Gl} {qs:List (List Tm)} (h:qs.length=ks.length) {i:Nat} (hi:i < ks.length):(setG ks qs).getD i default={ ks.getD i default with args:=qs.getD i [] }:=by
 have hq:i < qs.length:=by omega
 simp only [setG,List.getD_eq_getElem?_getD,List.getElem?_zipWith,List.getElem?_eq_getElem hi,List.getElem?_eq_getElem hq,Option.getD_some]
theorem blkGl (ks:List Gl):elGl.blkL ks=(ks.map hdGl).flatMap blkH:=by
 rw [List.flatMap_map];rfl
theorem setGl_same:∀{ks:List Gl} {qs:List (List Tm)},qs.length=ks.length→(∀i,i < ks.length→(qs.getD i []).length=(ks.getD i default).args.length∧blkL (qs.getD i [])=blkL (ks.getD i default).args)→elGl.cellsL (setG ks qs)=elGl.cellsL ks∧elGl.blkL (setG ks qs)=elGl.blkL ks
 | [],_,_,_=>⟨rfl,rfl⟩
 | x :: r,[],h,_=>by simp at h
 | x :: r,a :: q,h,hs=>by
  obtain ⟨e1,e2⟩:=setGl_same (ks:=r) (qs:=q) (by simpa using h) (fun i hi=>by have:=hs (i+1) (by simpa using hi);simpa using this)
  obtain ⟨h1,h2⟩:=hs 0 (by simp)
  simp only [List.getD_cons_zero] at h1 h2
  have c1:elGl.cells { x with args:=a }=elGl.cells x:=by
   show (_:List Value)=_
   simp only [elGl,h1]
  have c2:elGl.blk { x with args:=a }=elGl.blk x:=by
   show (_:List Nat)=_
   simp only [elGl,h1,h2]
  refine ⟨?_,?_⟩
  ·show elGl.cells { x with args:=a }++elGl.cellsL (setG r q)=elGl.cells x++elGl.cellsL r
   rw [c1,e1]
  ·show elGl.blk { x with args:=a }++elGl.blkL (setG r q)=elGl.blk x++elGl.blkL r
   rw [c2,e2]
section
variable {l:List Tk} {M lo:Nat} {A:Option Addr} {w w':World} {r:Value} {xs:List Gl} {i j:Nat}
theorem rowGl_of {B:Option Addr} {n c:Nat} (h:RowG elGl 59 lo w (.slice B n c) xs) (hless:LessG elGl (.slice B n c) xs M):RowGl w M B xs c:=by
 rcases h.row.2 with ⟨e,h1⟩|⟨g,cap,cur,e,hb,hg,hle,hcap,hcs,hcur⟩
 ·injection e with e1 e2 e3
  subst e3
  exact ⟨by omega,by unfold maxLen;omega,fun h0=>by omega⟩
 ·have e':=e
  injection e with e1 e2 e3
  subst e1 e2 e3
  refine ⟨hle,hcap,fun h0=>?_⟩
  obtain ⟨g2,c2,e,_,_,hlo,hlt,hap,hfz,hcell⟩:=h.form h0
  injection e with e1 e2 e3
  injection e1 with e1
  injection e1 with e1
  subst e1
  refine ⟨g,0,rfl,hless.1 g rfl,by rw [←blkGl];exact hap,fun i hi q u hu=>?_⟩
  have hq:q < 3:=by
   have:=(List.getElem?_eq_some_iff.1 hu).1
   rw [elGl.len] at this
   exact this
  have:=Elt.cellsL_get elGl xs hi hq
  rw [Nat.zero_add]
  exact hcell _ _ (this.trans hu)
theorem numHGl_of (h:RowG elGl 59 lo w r xs) (hless:LessG elGl r xs M) (hA:∀g,A=some ⟨g,0,none⟩→g < lo) (hv:OkV l i j (xs.flatMap Gl.args)) (hj:j≤l.length):NumH w M A l (xs.map hdGl):=by
 refine ⟨by rw [←blkGl];exact h.sit.nd,fun b hb=>?_,fun g e hg=>?_,fun b hb=>h.sit.fz b (by rw [blkGl];exact hb),fun hd hh=>?_⟩
 ·rw [←blkGl] at hb
  exact hless.2 b hb
 ·rw [←blkGl] at hg
  have h1:=(h.sit.bd g hg).1
  have h2:=hA g e
  omega
 ·obtain ⟨x,hx,rfl⟩:=List.mem_map.1 hh
  have:=okv_valid (okv_each hv x hx) hj
  exact ⟨(h.sit.at_ _ hx).2.2,this.1,this.2⟩
theorem numRowGl {X:Nat→List UInt8} {ns:List (List UInt8)} (h:RowG elGl 59 lo w r xs) (hless:LessG elGl r xs M) (hs:w.heap.size≤w'.heap.size) (hfr:∀k,k < M→k∉(xs.map hdGl).flatMap blkH→w'.heap[k]?=w.heap[k]?) (hfz:∀k,k < M→∀j,w'.frozen? ⟨k,j,none⟩=w.frozen? ⟨k,j,none⟩)
  (hl:∀i,i < (xs.map hdGl).length→Lst w' ((xs.map hdGl).getD i default).1 ((numLL X ((xs.map hdGl).map (·.2.2)) ns).1.getD i []) ((xs.map hdGl).getD i default).2.1) :
  RowG elGl 59 lo w' r (setG xs (numLL X ((xs.map hdGl).map (·.2.2)) ns).1)∧elGl.blkL (setG xs (numLL X ((xs.map hdGl).map (·.2.2)) ns).1)=elGl.blkL xs:=by
 have hlen:(numLL X ((xs.map hdGl).map (·.2.2)) ns).1.length=xs.length:=by rw [numLL_len];simp
 have hsh:∀i,i < xs.length→((numLL X ((xs.map hdGl).map (·.2.2)) ns).1.getD i []).length=(xs.getD i default).args.length∧blkL ((numLL X ((xs.map hdGl).map (·.2.2)) ns).1.getD i [])=blkL (xs.getD i default).args:=fun i hi=>by
  have:=midH_blk (X:=X) (hs:=xs.map hdGl) (ns:=ns) (j:=(xs.map hdGl).length) (i:=i) (by rw [List.length_map];exact hi)
  rw [midH_all,hdGl_get hi] at this
  exact this
 obtain ⟨e1,e2⟩:=setGl_same hlen hsh
 have hown:∀k,r.ownBlock=some k→w'.heap[k]?=w.heap[k]?:=fun k hk=>hfr k (hless.1 k hk) (by rw [←blkGl];exact h.apart k hk)
 refine ⟨⟨by rw [setGl_len hlen,e1];exact own_of h.row hown,⟨fun x hx=>?_,by rw [e2];exact h.sit.nd,fun b hb=>by rw [e2] at hb;exact ⟨(h.sit.bd b hb).1,Nat.lt_of_lt_of_le (h.sit.bd b hb).2 hs⟩,fun b hb q=>by rw [e2] at hb;rw [hfz b (hless.2 b hb) q];exact h.sit.fz b hb q⟩,fun k hk=>by rw [e2];exact h.apart k hk⟩,e2⟩
 obtain ⟨i,hi,e⟩:=List.mem_iff_getElem.1 hx
 rw [setGl_len hlen] at hi
 have e3:x=(setG xs (numLL X ((xs.map hdGl).map (·.2.2)) ns).1).getD i default:=by rw [List.getD_eq_getElem?_getD,List.getElem?_eq_getElem (by rw [setGl_len hlen];exact hi),← e];rfl
 rw [e3,setGl_get hlen hi]
 have hm:xs.getD i default∈xs:=by rw [List.getD_eq_getElem?_getD,List.getElem?_eq_getElem hi];exact List.getElem_mem hi
 have hL:=hl i (by rw [List.length_map];exact hi)
 rw [hdGl_get hi] at hL
 have hat:=h.sit.at_ _ hm
 exact ⟨hat.1,hat.2.1,hL⟩
end
end Go.Proofs.YtnghanpmmbcbbaaGreatDoor
namespace Go.Proofs.YtnghanpmmbcbbaaGreatDoor
open Go.RowKit
structure RowsM (M lo m1 m2 m3:Nat) (w:World) (kv rv gv bv:Value) (ks rs:List Am) (gs bs:List Gl):Prop where
 k:RowG elAm 66 lo w kv ks
 r:RowG elAm 66 m1 w rv rs
 g:RowG elGl 59 m2 w gv gs
 b:RowG elGl 59 m3 w bv bs
 lk:LessG elAm kv ks m1
 lr:LessG elAm rv rs m2
 lg:LessG elGl gv gs m3
 lb:LessG elGl bv bs M
 o1:lo≤m1
 o2:m1≤m2
 o3:m2≤m3
 o4:m3≤M
theorem RowsM.of {M lo m1 m2 m3:Nat} {w w':World} {kv rv gv bv:Value} {ks rs:List Am} {gs bs:List Gl} (h:RowsM M lo m1 m2 m3 w kv rv gv bv ks rs gs bs) (hs:w.heap.size≤w'.heap.size) (hb:∀b,lo≤b→b < M→w'.heap[b]?=w.heap[b]?):RowsM M lo m1 m2 m3 w' kv rv gv bv ks rs gs bs:=by
 have o1:=h.o1
 have o2:=h.o2
 have o3:=h.o3
 have o4:=h.o4
 exact ⟨h.k.only hs (fun k hk=>hb k (own_lt h.k.row k hk).1 (by have:=h.lk.1 k hk;omega)) (fun k hk=>hb k (h.k.sit.bd k hk).1 (by have:=h.lk.2 k hk;omega)),
  h.r.only hs (fun k hk=>hb k (by have:=(own_lt h.r.row k hk).1;omega) (by have:=h.lr.1 k hk;omega)) (fun k hk=>hb k (by have:=(h.r.sit.bd k hk).1;omega) (by have:=h.lr.2 k hk;omega)),
  h.g.only hs (fun k hk=>hb k (by have:=(own_lt h.g.row k hk).1;omega) (by have:=h.lg.1 k hk;omega)) (fun k hk=>hb k (by have:=(h.g.sit.bd k hk).1;omega) (by have:=h.lg.2 k hk;omega)),
  h.b.only hs (fun k hk=>hb k (by have:=(own_lt h.b.row k hk).1;omega) (by have:=h.lb.1 k hk;omega)) (fun k hk=>hb k (by have:=(h.b.sit.bd k hk).1;omega) (by have:=h.lb.2 k hk;omega)),
  h.lk,h.lr,h.lg,h.lb,o1,o2,o3,o4⟩
structure NumSt (M lo m1 m2 m3 N:Nat) (A:Option Addr) (c:Nat) (l:List Tk) (w0 w:World) (kv rv gv bv:Value) (ks rs:List Am) (gs bs:List Gl) (z:Value) (ns:List (List UInt8)):Prop where
 rows:RowsM M lo m1 m2 m3 w kv rv gv bv ks rs gs bs
 num:NumS w N M A c l z ns
 os:w.os=w0.os
 tape:w.tape=w0.tape
 output:w.output=w0.output
 size:w0.heap.size≤w.heap.size
 block:∀k,k < lo→w.heap[k]?=w0.heap[k]?
section
variable {M lo m1 m2 m3 N:Nat} {A:Option Addr} {c:Nat} {l:List Tk} {w0 w w':World} {kv rv gv bv:Value} {ks rs:List Am} {gs bs:List Gl} {z:Value} {ns:List (List UInt8)} {en:Ending}
theorem NumSt.step_k (h:NumSt M lo m1 m2 m3 N A c l w0 w kv rv gv bv ks rs gs bs z ns) (ht:ListsR N M A c l (ks.map hdAm) ns w en w') :
  en=.returned (.tuple #[])∧∃z',NumSt M lo m1 m2 m3 N A c l w0 w' kv rv gv bv (setA ks (numLL (xV l) ((ks.map hdAm).map (·.2.2)) ns).1) rs gs bs z' (numLL (xV l) ((ks.map hdAm).map (·.2.2)) ns).2:=by
 obtain ⟨rfl,z',hfr,hl,hn⟩:=ht
 have o1:=h.rows.o1
 have o2:=h.rows.o2
 have o3:=h.rows.o3
 have o4:=h.rows.o4
 have hlow:∀b∈(ks.map hdAm).flatMap blkH,lo≤b∧b < m1:=fun b hb=>by
  rw [←blkAm] at hb
  exact ⟨(h.rows.k.sit.bd b hb).1,h.rows.lk.2 b hb⟩
 have hsame:∀k,k < M→(k < lo∨m1≤k)→w'.heap[k]?=w.heap[k]?:=fun k hk hx=>hfr.block k hk fun hb=>by have:=hlow k hb;omega
 have hM:LessG elAm kv ks M:=h.rows.lk.more (by omega)
 obtain ⟨hrow,hblk⟩:=numRowAm h.rows.k hM hfr.size hfr.block hfr.fz hl
 have hless:LessG elAm kv (setA ks (numLL (xV l) ((ks.map hdAm).map (·.2.2)) ns).1) m1:=⟨h.rows.lk.1,by rw [hblk];exact h.rows.lk.2⟩
 exact ⟨rfl,z',⟨hrow,h.rows.r.only hfr.size (fun k hk=>hsame k (by have:=h.rows.lr.1 k hk;omega) (.inr (by have:=(own_lt h.rows.r.row k hk).1;omega))) (fun k hk=>hsame k (by have:=h.rows.lr.2 k hk;omega) (.inr (by have:=(h.rows.r.sit.bd k hk).1;omega))),h.rows.g.only hfr.size (fun k hk=>hsame k (by have:=h.rows.lg.1 k hk;omega) (.inr (by have:=(own_lt h.rows.g.row k hk).1;omega))) (fun k hk=>hsame k (by have:=h.rows.lg.2 k hk;omega) (.inr (by have:=(h.rows.g.sit.bd k hk).1;omega))),h.rows.b.only hfr.size (fun k hk=>hsame k (by have:=h.rows.lb.1 k hk;omega) (.inr (by have:=(own_lt h.rows.b.row k hk).1;omega))) (fun k hk=>hsame k (by have:=h.rows.lb.2 k hk;omega) (.inr (by have:=(h.rows.b.sit.bd k hk).1;omega))),hless,h.rows.lr,h.rows.lg,h.rows.lb,o1,o2,o3,o4⟩,hn,hfr.os.trans h.os,hfr.tape.trans h.tape,hfr.output.trans h.output,Nat.le_trans h.size hfr.size,fun k hk=>(hsame k (by omega) (.inl (by omega))).trans (h.block k hk)⟩
theorem NumSt.step_r (h:NumSt M lo m1 m2 m3 N A c l w0 w kv rv gv bv ks rs gs bs z ns) (ht:ListsR N M A c l (rs.map hdAm) ns w en w') :
  en=.returned (.tuple #[])∧∃z',NumSt M lo m1 m2 m3 N A c l w0 w' kv rv gv bv ks (setA rs (numLL (xV l) ((rs.map hdAm).map (·.2.2)) ns).1) gs bs z' (numLL (xV l) ((rs.map hdAm).map (·.2.2)) ns).2:=by
 obtain ⟨rfl,z',hfr,hl,hn⟩:=ht
 have o1:=h.rows.o1
 have o2:=h.rows.o2
 have o3:=h.rows.o3
 have o4:=h.rows.o4
 have hlow:∀b∈(rs.map hdAm).flatMap blkH,m1≤b∧b < m2:=fun b hb=>by
  rw [←blkAm] at hb
  exact ⟨(h.rows.r.sit.bd b hb).1,h.rows.lr.2 b hb⟩
 have hsame:∀k,k < M→(k < m1∨m2≤k)→w'.heap[k]?=w.heap[k]?:=fun k hk hx=>hfr.block k hk fun hb=>by have:=hlow k hb;omega
 have hM:LessG elAm rv rs M:=h.rows.lr.more (by omega)
 obtain ⟨hrow,hblk⟩:=numRowAm h.rows.r hM hfr.size hfr.block hfr.fz hl
 have hless:LessG elAm rv (setA rs (numLL (xV l) ((rs.map hdAm).map (·.2.2)) ns).1) m2:=⟨h.rows.lr.1,by rw [hblk];exact h.rows.lr.2⟩
 exact ⟨rfl,z',⟨h.rows.k.only hfr.size (fun k hk=>hsame k (by have:=h.rows.lk.1 k hk;omega) (.inl (by have:=h.rows.lk.1 k hk;omega))) (fun k hk=>hsame k (by have:=h.rows.lk.2 k hk;omega) (.inl (by have:=h.rows.lk.2 k hk;omega))),hrow,h.rows.g.only hfr.size (fun k hk=>hsame k (by have:=h.rows.lg.1 k hk;omega) (.inr (by have:=(own_lt h.rows.g.row k hk).1;omega))) (fun k hk=>hsame k (by have:=h.rows.lg.2 k hk;omega) (.inr (by have:=(h.rows.g.sit.bd k hk).1;omega))),h.rows.b.only hfr.size (fun k hk=>hsame k (by have:=h.rows.lb.1 k hk;omega) (.inr (by have:=(own_lt h.rows.b.row k hk).1;omega))) (fun k hk=>hsame k (by have:=h.rows.lb.2 k hk;omega) (.inr (by have:=(h.rows.b.sit.bd k hk).1;omega))),h.rows.lk,hless,h.rows.lg,h.rows.lb,o1,o2,o3,o4⟩,hn,hfr.os.trans h.os,hfr.tape.trans h.tape,hfr.output.trans h.output,Nat.le_trans h.size hfr.size,fun k hk=>(hsame k (by omega) (.inl (by omega))).trans (h.block k hk)⟩
theorem NumSt.step_g (h:NumSt M lo m1 m2 m3 N A c l w0 w kv rv gv bv ks rs gs bs z ns) (ht:ListsR N M A c l (gs.map hdGl) ns w en w') :
  en=.returned (.tuple #[])∧∃z',NumSt M lo m1 m2 m3 N A c l w0 w' kv rv gv bv ks rs (setG gs (numLL (xV l) ((gs.map hdGl).map (·.2.2)) ns).1) bs z' (numLL (xV l) ((gs.map hdGl).map (·.2.2)) ns).2:=by
 obtain ⟨rfl,z',hfr,hl,hn⟩:=ht
 have o1:=h.rows.o1
 have o2:=h.rows.o2
 have o3:=h.rows.o3
 have o4:=h.rows.o4
 have hlow:∀b∈(gs.map hdGl).flatMap blkH,m2≤b∧b < m3:=fun b hb=>by
  rw [←blkGl] at hb
  exact ⟨(h.rows.g.sit.bd b hb).1,h.rows.lg.2 b hb⟩
 have hsame:∀k,k < M→(k < m2∨m3≤k)→w'.heap[k]?=w.heap[k]?:=fun k hk hx=>hfr.block k hk fun hb=>by have:=hlow k hb;omega
 have hM:LessG elGl gv gs M:=h.rows.lg.more (by omega)
 obtain ⟨hrow,hblk⟩:=numRowGl h.rows.g hM hfr.size hfr.block hfr.fz hl
 have hless:LessG elGl gv (setG gs (numLL (xV l) ((gs.map hdGl).map (·.2.2)) ns).1) m3:=⟨h.rows.lg.1,by rw [hblk];exact h.rows.lg.2⟩
 exact ⟨rfl,z',⟨h.rows.k.only hfr.size (fun k hk=>hsame k (by have:=h.rows.lk.1 k hk;omega) (.inl (by have:=h.rows.lk.1 k hk;omega))) (fun k hk=>hsame k (by have:=h.rows.lk.2 k hk;omega) (.inl (by have:=h.rows.lk.2 k hk;omega))),h.rows.r.only hfr.size (fun k hk=>hsame k (by have:=h.rows.lr.1 k hk;omega) (.inl (by have:=h.rows.lr.1 k hk;omega))) (fun k hk=>hsame k (by have:=h.rows.lr.2 k hk;omega) (.inl (by have:=h.rows.lr.2 k hk;omega))),hrow,h.rows.b.only hfr.size (fun k hk=>hsame k (by have:=h.rows.lb.1 k hk;omega) (.inr (by have:=(own_lt h.rows.b.row k hk).1;omega))) (fun k hk=>hsame k (by have:=h.rows.lb.2 k hk;omega) (.inr (by have:=(h.rows.b.sit.bd k hk).1;omega))),h.rows.lk,h.rows.lr,hless,h.rows.lb,o1,o2,o3,o4⟩,hn,hfr.os.trans h.os,hfr.tape.trans h.tape,hfr.output.trans h.output,Nat.le_trans h.size hfr.size,fun k hk=>(hsame k (by omega) (.inl (by omega))).trans (h.block k hk)⟩
theorem NumSt.step_b (h:NumSt M lo m1 m2 m3 N A c l w0 w kv rv gv bv ks rs gs bs z ns) (ht:ListsR N M A c l (bs.map hdGl) ns w en w') :
  en=.returned (.tuple #[])∧∃z',NumSt M lo m1 m2 m3 N A c l w0 w' kv rv gv bv ks rs gs (setG bs (numLL (xV l) ((bs.map hdGl).map (·.2.2)) ns).1) z' (numLL (xV l) ((bs.map hdGl).map (·.2.2)) ns).2:=by
 obtain ⟨rfl,z',hfr,hl,hn⟩:=ht
 have o1:=h.rows.o1
 have o2:=h.rows.o2
 have o3:=h.rows.o3
 have o4:=h.rows.o4
 have hlow:∀b∈(bs.map hdGl).flatMap blkH,m3≤b∧b < M:=fun b hb=>by
  rw [←blkGl] at hb
  exact ⟨(h.rows.b.sit.bd b hb).1,h.rows.lb.2 b hb⟩
 have hsame:∀k,k < M→(k < m3∨M≤k)→w'.heap[k]?=w.heap[k]?:=fun k hk hx=>hfr.block k hk fun hb=>by have:=hlow k hb;omega
 have hM:LessG elGl bv bs M:=h.rows.lb.more (by omega)
 obtain ⟨hrow,hblk⟩:=numRowGl h.rows.b hM hfr.size hfr.block hfr.fz hl
 have hless:LessG elGl bv (setG bs (numLL (xV l) ((bs.map hdGl).map (·.2.2)) ns).1) M:=⟨h.rows.lb.1,by rw [hblk];exact h.rows.lb.2⟩
 exact ⟨rfl,z',⟨h.rows.k.only hfr.size (fun k hk=>hsame k (by have:=h.rows.lk.1 k hk;omega) (.inl (by have:=h.rows.lk.1 k hk;omega))) (fun k hk=>hsame k (by have:=h.rows.lk.2 k hk;omega) (.inl (by have:=h.rows.lk.2 k hk;omega))),h.rows.r.only hfr.size (fun k hk=>hsame k (by have:=h.rows.lr.1 k hk;omega) (.inl (by have:=h.rows.lr.1 k hk;omega))) (fun k hk=>hsame k (by have:=h.rows.lr.2 k hk;omega) (.inl (by have:=h.rows.lr.2 k hk;omega))),h.rows.g.only hfr.size (fun k hk=>hsame k (by have:=h.rows.lg.1 k hk;omega) (.inl (by have:=h.rows.lg.1 k hk;omega))) (fun k hk=>hsame k (by have:=h.rows.lg.2 k hk;omega) (.inl (by have:=h.rows.lg.2 k hk;omega))),hrow,h.rows.lk,h.rows.lr,h.rows.lg,hless,o1,o2,o3,o4⟩,hn,hfr.os.trans h.os,hfr.tape.trans h.tape,hfr.output.trans h.output,Nat.le_trans h.size hfr.size,fun k hk=>(hsame k (by omega) (.inl (by omega))).trans (h.block k hk)⟩
theorem NumSt.below (h:NumSt M lo m1 m2 m3 N A c l w0 w kv rv gv bv ks rs gs bs z ns) (hb:Below w.heap.size w w'):NumSt M lo m1 m2 m3 N A c l w0 w' kv rv gv bv ks rs gs bs z ns:=by
 have hM:M < w.heap.size:=by have:=h.num.box.lt;have:=h.num.mn;omega
 have o1:=h.rows.o1
 have o2:=h.rows.o2
 have o3:=h.rows.o3
 have o4:=h.rows.o4
 exact ⟨h.rows.of hb.size fun b _ h2=>hb.block b (by omega),h.num.below hb,hb.os.trans h.os,hb.tape.trans h.tape,hb.output.trans h.output,Nat.le_trans h.size hb.size,fun k hk=>(hb.block k (by omega)).trans (h.block k hk)⟩
end
end Go.Proofs.YtnghanpmmbcbbaaGreatDoor
namespace Go.Proofs.YtnghanpmmbcbbaaGreatDoor
open Go.RowKit
def argsA (ks:List Am):List (List Tm):=(ks.map hdAm).map (·.2.2)
def argsG (gs:List Gl):List (List Tm):=(gs.map hdGl).map (·.2.2)
theorem argsA_flat (ks:List Am):(argsA ks).flatten=ks.flatMap Am.args:=by simp [argsA,hdAm,List.flatMap,Function.comp_def]
theorem argsG_flat (gs:List Gl):(argsG gs).flatten=gs.flatMap Gl.args:=by simp [argsG,hdGl,List.flatMap,Function.comp_def]
section
variable {l:List Tk} (X:Nat→List UInt8) (ks rs:List Am) (gs bs:List Gl)
def nK:List (List Tm)×List (List UInt8):=numLL X (argsA ks) []
def nR:List (List Tm)×List (List UInt8):=numLL X (argsA rs) (nK X ks).2
def nG:List (List Tm)×List (List UInt8):=numLL X (argsG gs) (nR X ks rs).2
def nB:List (List Tm)×List (List UInt8):=numLL X (argsG bs) (nG X ks rs gs).2
theorem nK_le:(nK X ks).2.length≤nodesLL (argsA ks):=by have:=numLL_names X (argsA ks) [];simpa [nK] using this
theorem nR_le:(nR X ks rs).2.length≤nodesLL (argsA ks)+nodesLL (argsA rs):=by have:=numLL_names X (argsA rs) (nK X ks).2;have:=nK_le X ks;unfold nR;omega
theorem nG_le:(nG X ks rs gs).2.length≤nodesLL (argsA ks)+nodesLL (argsA rs)+nodesLL (argsG gs):=by have:=numLL_names X (argsG gs) (nR X ks rs).2;have:=nR_le X ks rs;unfold nG;omega
end
section
variable {M lo m1 m2 m3 B R:Nat} {A:Option Addr} {c:Nat} {l:List Tk} {w:World} {kv rv gv bv vn vr:Value} {ks rs:List Am} {gs bs:List Gl} {i j:Nat}
def NruleR (lo m1 m2 m3 B:Nat) (l:List Tk) (kv rv gv bv vn:Value) (ks rs:List Am) (gs bs:List Gl) (w:World) (en:Ending) (w':World):Prop :=
 en=.returned (.tuple #[])∧w'.os=w.os∧w'.tape=w.tape∧w'.output=w.output∧w.heap.size≤w'.heap.size∧(∀k,k < lo→k≠B→w'.heap[k]?=w.heap[k]?) ∧
  RowsM w.heap.size lo m1 m2 m3 w' kv rv gv bv (setA ks (nK (xV l) ks).1) (setA rs (nR (xV l) ks rs).1) (setG gs (nG (xV l) ks rs gs).1) (setG bs (nB (xV l) ks rs gs bs).1)∧BoxL w' B [vn,kv,rv,gv,bv,.int .i64 ((nB (xV l) ks rs gs bs).2.length:Int)]
set_option maxHeartbeats 8000000 in
set_option maxRecDepth 100000 in
theorem nrule_at (hg:GoodT l) (ht:TLst w A l c) (hA:∀g,A=some ⟨g,0,none⟩→g < lo) (hrows:RowsM w.heap.size lo m1 m2 m3 w kv rv gv bv ks rs gs bs) (hB:BoxL w B [vn,kv,rv,gv,bv,vr]) (hBlo:B < lo)
  (hk:OkV l i j (ks.flatMap Am.args)) (hr:OkV l i j (rs.flatMap Am.args)) (hgo:OkV l i j (gs.flatMap Gl.args)) (hb:OkV l i j (bs.flatMap Gl.args)) (hj:j≤l.length)
  (hsz:nodesLL (argsA ks)+nodesLL (argsA rs)+nodesLL (argsG gs)+nodesLL (argsG bs)≤100000) :
  Calls Tryz.prog 99 #[.slice A l.length c,.pointer (some ⟨B,0,none⟩)] w (NruleR lo m1 m2 m3 B l kv rv gv bv vn ks rs gs bs w):=by
 obtain ⟨kA,kc,hkv⟩:=RowG.zform hrows.k
 obtain ⟨rA,rc,hrv⟩:=RowG.zform hrows.r
 obtain ⟨gA,gc,hgv⟩:=RowG.zform hrows.g
 obtain ⟨bA,bc,hbv⟩:=RowG.zform hrows.b
 subst hkv hrv hgv hbv
 have hlw:lo≤w.heap.size:=by have:=hrows.o1;have:=hrows.o2;have:=hrows.o3;have:=hrows.o4;omega
 have Q0:=Lib.hid (new_numbering_at A c l w ht (fun g e=>by have:=hA g e;omega))
 have HA:=Lib.hid hA
 have htx:=hg.texts
 have HRows:=Lib.hid hrows
 have HB:=Lib.hid hB
 -- each list,in its turn
 have QK:=Lib.hid (fun N z W (h:NumSt w.heap.size lo m1 m2 m3 N A c l w W (.slice kA ks.length kc) (.slice rA rs.length rc) (.slice gA gs.length gc) (.slice bA bs.length bc) ks rs gs bs z []) =>
  number_Am_at htx (rowAm_of h.rows.k (h.rows.lk.more (by have:=hrows.o2;have:=hrows.o3;have:=hrows.o4;omega))) (numHAm_of h.rows.k (h.rows.lk.more (by have:=hrows.o2;have:=hrows.o3;have:=hrows.o4;omega)) hA hk hj) h.num (by show [].length+nodesLL (argsA ks)≤_;simp;omega))
 have QR:=Lib.hid (fun N z W (h:NumSt w.heap.size lo m1 m2 m3 N A c l w W (.slice kA ks.length kc) (.slice rA rs.length rc) (.slice gA gs.length gc) (.slice bA bs.length bc) (setA ks (nK (xV l) ks).1) rs gs bs z (nK (xV l) ks).2) =>
  number_Am_at htx (rowAm_of h.rows.r (h.rows.lr.more (by have:=hrows.o3;have:=hrows.o4;omega))) (numHAm_of h.rows.r (h.rows.lr.more (by have:=hrows.o3;have:=hrows.o4;omega)) (fun g e=>by have:=hA g e;have:=hrows.o1;omega) hr hj) h.num (by show (nK (xV l) ks).2.length+nodesLL (argsA rs)≤_;have:=nK_le (xV l) ks;omega))
 have QG:=Lib.hid (fun N z W (h:NumSt w.heap.size lo m1 m2 m3 N A c l w W (.slice kA ks.length kc) (.slice rA rs.length rc) (.slice gA gs.length gc) (.slice bA bs.length bc) (setA ks (nK (xV l) ks).1) (setA rs (nR (xV l) ks rs).1) gs bs z (nR (xV l) ks rs).2) =>
  number_Gl_at htx (rowGl_of h.rows.g (h.rows.lg.more (by have:=hrows.o4;omega))) (numHGl_of h.rows.g (h.rows.lg.more (by have:=hrows.o4;omega)) (fun g e=>by have:=hA g e;have:=hrows.o1;have:=hrows.o2;omega) hgo hj) h.num (by show (nR (xV l) ks rs).2.length+nodesLL (argsG gs)≤_;have:=nR_le (xV l) ks rs;omega))
 have QB:=Lib.hid (fun N z W (h:NumSt w.heap.size lo m1 m2 m3 N A c l w W (.slice kA ks.length kc) (.slice rA rs.length rc) (.slice gA gs.length gc) (.slice bA bs.length bc) (setA ks (nK (xV l) ks).1) (setA rs (nR (xV l) ks rs).1) (setG gs (nG (xV l) ks rs gs).1) bs z (nG (xV l) ks rs gs).2) =>
  number_Gl_at htx (rowGl_of h.rows.b h.rows.lb) (numHGl_of h.rows.b h.rows.lb (fun g e=>by have:=hA g e;have:=hrows.o1;have:=hrows.o2;have:=hrows.o3;omega) hb hj) h.num (by show (nG (xV l) ks rs gs).2.length+nodesLL (argsG bs)≤_;have:=nG_le (xV l) ks rs gs;omega))
 have hBw:=hB.lt
 clear hg ht hA hrows hB hk hr hgo hb hsz
 go_enter Tryz.func99,Tryz.ntmps99
 obtain ⟨q0,q1,q2,q3,q4,q5,f0,f1,f2,f3,f4,f5⟩:=HB.out.get6
 go_wp2_with fail
 refine Q0.out.mono ?_
 rintro e w1 ⟨rfl,hb1,hnum1⟩
 have S1:=Lib.hid (show NumSt w.heap.size lo m1 m2 m3 (w.heap.size+1) A c l w w1 (.slice kA ks.length kc) (.slice rA rs.length rc) (.slice gA gs.length gc) (.slice bA bs.length bc) ks rs gs bs (.slice none 0 0) [] from
  ⟨HRows.out.of hb1.size (fun b _ h2=>hb1.block b h2),hnum1,hb1.os,hb1.tape,hb1.output,hb1.size,fun k hk=>hb1.block k (by omega)⟩)
 have HBx:=Lib.hid (fun (W:World) (h:∀k,k < lo→W.heap[k]?=w.heap[k]?) (hs:w.heap.size≤W.heap.size)=>(HB.out.of hs (h B hBlo)).get6)
 clear hb1 hnum1 q0 q1 q2 q3 q4 q5 f0 f1 f2 f3 f4 f5
 obtain ⟨q0,q1,q2,q3,q4,q5,f0,f1,f2,f3,f4,f5⟩:=HBx.out w1 S1.out.block S1.out.size
 go_wp2_with (first
  | (go_at_call 141;(with_reducible refine (QK.out _ _ _ S1.out).mono ?_);rintro en w2 h2;obtain ⟨rfl,z2,hs2⟩:=S1.out.step_k h2;have S2:=Lib.hid (show NumSt w.heap.size lo m1 m2 m3 (w.heap.size+1) A c l w w2 (.slice kA ks.length kc) (.slice rA rs.length rc) (.slice gA gs.length gc) (.slice bA bs.length bc) (setA ks (nK (xV l) ks).1) rs gs bs z2 (nK (xV l) ks).2 from hs2);clear q0 q1 q2 q3 q4 q5 f0 f1 f2 f3 f4 f5 h2 hs2 QK;obtain ⟨q0,q1,q2,q3,q4,q5,f0,f1,f2,f3,f4,f5⟩:=HBx.out w2 S2.out.block S2.out.size)
  | (go_at_call 141;(with_reducible refine (QR.out _ _ _ S2.out).mono ?_);rintro en w3 h2;obtain ⟨rfl,z3,hs2⟩:=S2.out.step_r h2;have S3:=Lib.hid (show NumSt w.heap.size lo m1 m2 m3 (w.heap.size+1) A c l w w3 (.slice kA ks.length kc) (.slice rA rs.length rc) (.slice gA gs.length gc) (.slice bA bs.length bc) (setA ks (nK (xV l) ks).1) (setA rs (nR (xV l) ks rs).1) gs bs z3 (nR (xV l) ks rs).2 from hs2);clear q0 q1 q2 q3 q4 q5 f0 f1 f2 f3 f4 f5 h2 hs2 QR;obtain ⟨q0,q1,q2,q3,q4,q5,f0,f1,f2,f3,f4,f5⟩:=HBx.out w3 S3.out.block S3.out.size)
  | (go_at_call 142;(with_reducible refine (QG.out _ _ _ S3.out).mono ?_);rintro en w4 h2;obtain ⟨rfl,z4,hs2⟩:=S3.out.step_g h2;have S4:=Lib.hid (show NumSt w.heap.size lo m1 m2 m3 (w.heap.size+1) A c l w w4 (.slice kA ks.length kc) (.slice rA rs.length rc) (.slice gA gs.length gc) (.slice bA bs.length bc) (setA ks (nK (xV l) ks).1) (setA rs (nR (xV l) ks rs).1) (setG gs (nG (xV l) ks rs gs).1) bs z4 (nG (xV l) ks rs gs).2 from hs2);clear q0 q1 q2 q3 q4 q5 f0 f1 f2 f3 f4 f5 h2 hs2 QG;obtain ⟨q0,q1,q2,q3,q4,q5,f0,f1,f2,f3,f4,f5⟩:=HBx.out w4 S4.out.block S4.out.size)
  | (go_at_call 142;(with_reducible refine (QB.out _ _ _ S4.out).mono ?_);rintro en w5 h2;obtain ⟨rfl,z5,hs2⟩:=S4.out.step_b h2;have S5:=Lib.hid (show NumSt w.heap.size lo m1 m2 m3 (w.heap.size+1) A c l w w5 (.slice kA ks.length kc) (.slice rA rs.length rc) (.slice gA gs.length gc) (.slice bA bs.length bc) (setA ks (nK (xV l) ks).1) (setA rs (nR (xV l) ks rs).1) (setG gs (nG (xV l) ks rs gs).1) (setG bs (nB (xV l) ks rs gs bs).1) z5 (nB (xV l) ks rs gs bs).2 from hs2);clear q0 q1 q2 q3 q4 q5 f0 f1 f2 f3 f4 f5 h2 hs2 QB;obtain ⟨q0,q1,q2,q3,q4,q5,f0,f1,f2,f3,f4,f5⟩:=HBx.out w5 S5.out.block S5.out.size;obtain ⟨zA,zc,hz⟩:=S5.out.num.zform;subst hz;have n2:=S5.out.num.box.cells 2 _ rfl))
 go_end0
 refine ⟨rfl,S5.out.os,S5.out.tape,S5.out.output,by simpa [World.setCell] using S5.out.size,fun k hk hkB=>(Below.heap_setCell _ _ _ _ hkB).trans (S5.out.block k hk),S5.out.rows.of (by simp [World.setCell]) (fun b h1 _=>Below.heap_setCell _ _ _ _ (show b≠B by omega)),?_⟩
 exact (HB.out.of S5.out.size (S5.out.block B hBlo)).set (j:=5) (by simp) _
end
end Go.Proofs.YtnghanpmmbcbbaaGreatDoor
namespace Go.Proofs.YtnghanpmmbcbbaaGreatDoor
open Go.RowKit
theorem kV_lt {l:List Tk} {i:Nat} (h:kV l i=true):i < l.length:=by
 rcases Nat.lt_or_ge i l.length with h1|h1
 ·exact h1
 ·rw [kV,List.getD_eq_getElem?_getD,List.getElem?_eq_none h1] at h
  exact absurd h (by decide)
def nmL (l:List Tk) (a:Nat) (v:Int):List UInt8:=(nsL l a l.length).getD v.toNat []
theorem nmL_ok {l:List Tk} {a:Nat}:∀i:Nat,VTok (kV l) a i→nmL l a (gU (kV l) (xV l) a (i:Int))=xV l i:=fun i h=>by
 have e:gU (kV l) (xV l) a (i:Int)=((nameS (xV l i) (nsU (kV l) (xV l) a i)).1:Int):=by rw [gU,Int.toNat_natCast]
 rw [nmL,e,Int.toNat_natCast]
 exact gU_name h (kV_lt h.2)
theorem okP_of {l:List Tk} {a i j:Nat} {us:List Tm} (h:OkV l i j us) (ha:a≤i):OkP (kV l) a (occL us):=⟨h.2.1,fun v hv=>by
 obtain ⟨h1,h2,h3⟩:=h.2.2 v hv
 exact ⟨by omega,by omega,h3⟩⟩
theorem stripL_split {F:Int→Int}:∀{P Q:List (List Tm)},P.length=Q.length→(∀i,i < Q.length→(P.getD i []).length=(Q.getD i []).length)→stripL P.flatten=numL2 F Q.flatten→∀i,i < Q.length→stripL (P.getD i [])=numL2 F (Q.getD i [])
 | [],[],_,_,_,i,hi=>absurd hi (by simp)
 | [],_ :: _,h,_,_,_,_=>by simp at h
 | _ :: _,[],h,_,_,_,_=>by simp at h
 | p :: P,q :: Q,h,hl,e,i,hi=>by
  have h0:=hl 0 (by simp)
  simp only [List.getD_cons_zero] at h0
  rw [List.flatten_cons,List.flatten_cons,stripL_append,num2_map,List.map_append,← num2_map,← num2_map] at e
  obtain ⟨e1,e2⟩:=List.append_inj e (by rw [stripL_len,num2_len,h0])
  cases i with
  | zero=>simpa using e1
  | succ i =>
   simp only [List.getD_cons_succ]
   exact stripL_split (P:=P) (Q:=Q) (by simpa using h) (fun i hi=>by have:=hl (i+1) (by simpa using hi);simpa using this) e2 i (by simpa using hi)
def sA (x:Am):As:=(x.name.data.toList,stripL x.args)
def sG (g:Gl):Gs:=(g.op,g.name.data.toList,stripL g.args)
def ruP (t:List UInt8) (ks rs:List Am) (gs bs:List Gl) (n:Nat):Rs:=⟨t,ks.map sA,rs.map sA,gs.map sG,bs.map sG,n⟩
theorem numLL_lens (X:Nat→List UInt8):∀(q:List (List Tm)) (ns:List (List UInt8)) (i:Nat),((numLL X q ns).1.getD i []).length=(q.getD i []).length
 | [],_,_=>by simp [numLL]
 | a :: r,ns,0=>by simp [numLL,numPL_len]
 | a :: r,ns,i+1=>by simp only [numLL,List.getD_cons_succ];exact numLL_lens X r _ i
theorem setA_map {X:Nat→List UInt8} {F g:Int→Int} {ks:List Am} {ns:List (List UInt8)} (h:∀i,i < ks.length→stripL ((numLL X (argsA ks) ns).1.getD i [])=numL2 (fun v=>F (g v)) ((argsA ks).getD i [])) :
  (setA ks (numLL X (argsA ks) ns).1).map sA=(ks.map (rdAm.h g)).map (As.num2 F):=by
 have hlen:(numLL X (argsA ks) ns).1.length=ks.length:=by rw [numLL_len];simp [argsA]
 refine List.ext_getElem (by rw [List.length_map,setAm_len hlen];simp) fun i h1 h2=>?_
 rw [List.length_map,setAm_len hlen] at h1
 have e:=setAm_get hlen h1
 rw [List.getD_eq_getElem?_getD,List.getElem?_eq_getElem (by rw [setAm_len hlen];exact h1),Option.getD_some] at e
 rw [List.getElem_map,e,List.getElem_map,List.getElem_map]
 have hk:ks.getD i default=ks[i]:=by simp [List.getD_eq_getElem?_getD,List.getElem?_eq_getElem h1]
 have ha:(argsA ks).getD i []=ks[i].args:=by simp [argsA,hdAm,List.getD_eq_getElem?_getD,List.getElem?_eq_getElem h1]
 have:=h i h1
 rw [ha] at this
 simp only [sA,As.num2,rdAm,hk,this]
 rw [num2_num2.2]
theorem setG_map {X:Nat→List UInt8} {F g:Int→Int} {ks:List Gl} {ns:List (List UInt8)} (h:∀i,i < ks.length→stripL ((numLL X (argsG ks) ns).1.getD i [])=numL2 (fun v=>F (g v)) ((argsG ks).getD i [])) :
  (setG ks (numLL X (argsG ks) ns).1).map sG=(ks.map (rdGl.h g)).map (Gs.num2 F):=by
 have hlen:(numLL X (argsG ks) ns).1.length=ks.length:=by rw [numLL_len];simp [argsG]
 refine List.ext_getElem (by rw [List.length_map,setGl_len hlen];simp) fun i h1 h2=>?_
 rw [List.length_map,setGl_len hlen] at h1
 have e:=setGl_get hlen h1
 rw [List.getD_eq_getElem?_getD,List.getElem?_eq_getElem (by rw [setGl_len hlen];exact h1),Option.getD_some] at e
 rw [List.getElem_map,e,List.getElem_map,List.getElem_map]
 have hk:ks.getD i default=ks[i]:=by simp [List.getD_eq_getElem?_getD,List.getElem?_eq_getElem h1]
 have ha:(argsG ks).getD i []=ks[i].args:=by simp [argsG,hdGl,List.getD_eq_getElem?_getD,List.getElem?_eq_getElem h1]
 have:=h i h1
 rw [ha] at this
 simp only [sG,Gs.num2,rdGl,hk,this]
 rw [num2_num2.2]
theorem flat_hA (g:Int→Int) (ks:List Am):(ks.map (rdAm.h g)).flatMap (·.2)=numL2 g (ks.flatMap Am.args):=by
 rw [num2_map,List.map_flatMap,List.flatMap_map]
 simp only [rdAm,num2_map]
theorem flat_hG (g:Int→Int) (ks:List Gl):(ks.map (rdGl.h g)).flatMap (·.2.2)=numL2 g (ks.flatMap Gl.args):=by
 rw [num2_map,List.map_flatMap,List.flatMap_map]
 simp only [rdGl,num2_map]
theorem rule_numbered {l:List Tk} {a i j:Nat} (t:List UInt8) {ks rs:List Am} {gs bs:List Gl} (ha:a≤i)
  (hv:OkV l i j (ks.flatMap Am.args++(rs.flatMap Am.args++(gs.flatMap Gl.args++bs.flatMap Gl.args)))) :
  numberS ⟨t,ks.map (rdAm.h (gL l a)),rs.map (rdAm.h (gL l a)),gs.map (rdGl.h (gL l a)),bs.map (rdGl.h (gL l a)),0⟩ =
   ruP t (setA ks (nK (xV l) ks).1) (setA rs (nR (xV l) ks rs).1) (setG gs (nG (xV l) ks rs gs).1) (setG bs (nB (xV l) ks rs gs bs).1) (nB (xV l) ks rs gs bs).2.length:=by
 have hall:numLL (xV l) (argsA ks++(argsA rs++(argsG gs++argsG bs))) []=((nK (xV l) ks).1++((nR (xV l) ks rs).1++((nG (xV l) ks rs gs).1++(nB (xV l) ks rs gs bs).1)),(nB (xV l) ks rs gs bs).2):=by
  rw [numLL_append,numLL_append,numLL_append];rfl
 have hflat:(argsA ks++(argsA rs++(argsG gs++argsG bs))).flatten=ks.flatMap Am.args++(rs.flatMap Am.args++(gs.flatMap Gl.args++bs.flatMap Gl.args)):=by
  rw [List.flatten_append,List.flatten_append,List.flatten_append,argsA_flat,argsA_flat,argsG_flat,argsG_flat]
 have hterms:Rs.terms ⟨t,ks.map (rdAm.h (gL l a)),rs.map (rdAm.h (gL l a)),gs.map (rdGl.h (gL l a)),bs.map (rdGl.h (gL l a)),0⟩=numL2 (gL l a) (ks.flatMap Am.args++(rs.flatMap Am.args++(gs.flatMap Gl.args++bs.flatMap Gl.args))):=by
  simp only [Rs.terms,flat_hA,flat_hG]
  simp only [num2_map,List.map_append]
 obtain ⟨h1,h2⟩:=numPL_ref (nmL l a) nmL_ok _ hv.1 (okP_of hv ha)
 rw [←hflat,numLL_flat,hall,hflat] at h1 h2
 simp only at h1 h2
 generalize hF:placeS (orderS (numL2 (gU (kV l) (xV l) a) (ks.flatMap Am.args++(rs.flatMap Am.args++(gs.flatMap Gl.args++bs.flatMap Gl.args)))))=F at h1
 rw [num2_num2.2,← hflat] at h1
 have hlen:((nK (xV l) ks).1++((nR (xV l) ks rs).1++((nG (xV l) ks rs gs).1++(nB (xV l) ks rs gs bs).1))).length=(argsA ks++(argsA rs++(argsG gs++argsG bs))).length:=by
  have:=numLL_len (xV l) (argsA ks++(argsA rs++(argsG gs++argsG bs))) []
  rw [hall] at this
  exact this
 have hels:=stripL_split hlen (fun i _=>by
  have:=numLL_lens (xV l) (argsA ks++(argsA rs++(argsG gs++argsG bs))) [] i
  rw [hall] at this
  exact this) h1
 have lK:(nK (xV l) ks).1.length=(argsA ks).length:=numLL_len _ _ _
 have lR:(nR (xV l) ks rs).1.length=(argsA rs).length:=numLL_len _ _ _
 have lG:(nG (xV l) ks rs gs).1.length=(argsG gs).length:=numLL_len _ _ _
 have aK:(argsA ks).length=ks.length:=by simp [argsA]
 have aR:(argsA rs).length=rs.length:=by simp [argsA]
 have aG:(argsG gs).length=gs.length:=by simp [argsG]
 have aB:(argsG bs).length=bs.length:=by simp [argsG]
 have gl:∀{α:Type} (p q:List (List Tm)) (i:Nat),i < p.length→(p++q).getD i []=p.getD i []:=fun {_} p q i hi=>by simp [List.getD_eq_getElem?_getD,List.getElem?_append_left hi]
 have gr:∀(p q:List (List Tm)) (i:Nat),(p++q).getD (p.length+i) []=q.getD i []:=fun p q i=>by simp [List.getD_eq_getElem?_getD,List.getElem?_append_right (Nat.le_add_right _ _)]
 simp only [List.length_append] at hels
 unfold numberS
 simp only [hterms]
 have e1:placeS (orderS (numL2 (gL l a) (ks.flatMap Am.args++(rs.flatMap Am.args++(gs.flatMap Gl.args++bs.flatMap Gl.args)))))=F:=hF
 rw [e1]
 have e2:(orderS (numL2 (gL l a) (ks.flatMap Am.args++(rs.flatMap Am.args++(gs.flatMap Gl.args++bs.flatMap Gl.args))))).length=(nB (xV l) ks rs gs bs).2.length:=by
  rw [h2,List.length_map]
 rw [e2]
 unfold ruP
 rw [show (setA ks (nK (xV l) ks).1).map sA=(ks.map (rdAm.h (gL l a))).map (As.num2 F) from setA_map fun i hi=>by
   have:=hels i (by omega)
   rw [gl (α:=Nat) _ _ i (by omega),gl (α:=Nat) _ _ i (by omega)] at this
   exact this,
  show (setA rs (nR (xV l) ks rs).1).map sA=(rs.map (rdAm.h (gL l a))).map (As.num2 F) from setA_map fun i hi=>by
   have:=hels ((argsA ks).length+i) (by omega)
   rw [gr (argsA ks),← lK,gr (nK (xV l) ks).1,gl (α:=Nat) _ _ i (by omega),gl (α:=Nat) _ _ i (by omega)] at this
   exact this,
  show (setG gs (nG (xV l) ks rs gs).1).map sG=(gs.map (rdGl.h (gL l a))).map (Gs.num2 F) from setG_map fun i hi=>by
   have:=hels ((argsA ks).length+((argsA rs).length+i)) (by omega)
   rw [gr (argsA ks),gr (argsA rs),← lK,gr (nK (xV l) ks).1,← lR,gr (nR (xV l) ks rs).1,gl (α:=Nat) _ _ i (by omega),gl (α:=Nat) _ _ i (by omega)] at this
   exact this,
  show (setG bs (nB (xV l) ks rs gs bs).1).map sG=(bs.map (rdGl.h (gL l a))).map (Gs.num2 F) from setG_map fun i hi=>by
   have:=hels ((argsA ks).length+((argsA rs).length+((argsG gs).length+i))) (by omega)
   rw [gr (argsA ks),gr (argsA rs),gr (argsG gs),← lK,gr (nK (xV l) ks).1,← lR,gr (nR (xV l) ks rs).1,← lG,gr (nG (xV l) ks rs gs).1] at this
   exact this]
end Go.Proofs.YtnghanpmmbcbbaaGreatDoor
namespace Go.Proofs.YtnghanpmmbcbbaaGreatDoor
open Go.RowKit
theorem ok_right (x:Am):rightA (sA x).1 (sA x).2=x.ok:=by
 show atomB x.name.data.toList (stripL x.args)=_
 rw [atomB_strip];rfl
theorem tx_text {x:Am} (h:x.ok=true):(sA x).txt=x.tx:=by
 unfold As.txt sA Am.tx atomT
 simp only
 rw [(txt_strip plain).2,if_pos (show atomB x.name.data.toList x.args=true from h)]
theorem okG_right (x:Gl):rightG (sG x)=x.ok:=by
 unfold rightG sG Gl.ok
 rw [←goalB_strip]
 unfold goalB builtinB
 by_cases h:x.op=0
 ·rw [if_pos h,if_pos h];rfl
 ·rw [if_neg h,if_neg h]
  have e:decide (x.name.data.toList=[])=decide (x.name.size=0):=by
   rw [decide_eq_decide]
   constructor
   ·intro g;show x.name.data.size=0;rw [←Array.length_toList,g];rfl
   ·intro g;exact List.length_eq_zero_iff.1 (by rw [Array.length_toList];exact g)
  rw [←e]
  rfl
theorem txG_text {x:Gl} (h:x.ok=true):(sG x).txt=x.tx:=by
 unfold Gs.txt sG Gl.tx goalT goalW
 simp only
 rw [(txt_strip plain).2,if_pos (show goalB x.op x.name x.args=true from h)]
 by_cases h0:x.op=0
 ·rw [if_pos h0,if_pos h0]
 ·obtain ⟨_,h2,_,_,_,h5,h6⟩:=builtin_parts h h0
  rw [if_neg h0,if_neg h0]
  have hc:x.op=1∨x.op=2∨x.op=3∨x.op=4∨x.op=5∨x.op=6∨x.op=7∨x.op=8∨x.op=9∨x.op=10∨x.op=11∨x.op=12:=by omega
  rcases hc with e|e|e|e|e|e|e|e|e|e|e|e
  ·have hl:x.args=[]:=List.length_eq_zero_iff.1 (by rw [e] at h2;simpa [arity] using h2)
   rw [e,hl];rfl
  ·have hl:x.args=[]:=List.length_eq_zero_iff.1 (by rw [e] at h2;simpa [arity] using h2)
   rw [e,hl];rfl
  all_goals rw [e];rfl
theorem joinS_sep:∀(l:List (List UInt8)),joinS 0 l []=sepT l:=by
 have key:∀(l:List (List UInt8)) (i:Nat) (s:List UInt8),0 < i→joinS i l s=s++(l.flatMap fun x=>[44,32]++x):=by
  intro l
  induction l with
  | nil=>intro i s _;simp [joinS]
  | cons x r ih =>
   intro i s hi
   rw [joinS,ih (i+1) _ (by omega),if_neg (by omega)]
   simp
 have sep:∀(x:List UInt8) (l:List (List UInt8)),sepT (x :: l)=x++(l.flatMap fun x=>[44,32]++x):=by
  intro x l
  induction l generalizing x with
  | nil=>simp [sepT]
  | cons y r ih=>rw [sepT,ih y];simp
 intro l
 cases l with
 | nil=>rfl
 | cons x r=>rw [joinS,key r 1 _ (by omega),if_pos rfl,sep];simp
theorem allAm_all {l:List Am} (h:allAm l=true):AllA (l.map sA)∧sepT ((l.map sA).map As.txt)=txtAm l:=by
 have h2:∀x∈l,x.ok=true:=fun x hx=>List.all_eq_true.1 h x hx
 refine ⟨fun a ha=>?_,?_⟩
 ·obtain ⟨x,hx,rfl⟩:=List.mem_map.1 ha
  rw [ok_right];exact h2 x hx
 ·rw [←joinS_sep,List.map_map,txtAm]
  congr 1
  exact List.map_congr_left fun x hx=>tx_text (h2 x hx)
theorem allGl_all {l:List Gl} (h:allGl l=true):AllG (l.map sG)∧sepT ((l.map sG).map Gs.txt)=txtGl l:=by
 have h2:∀x∈l,x.ok=true:=fun x hx=>List.all_eq_true.1 h x hx
 refine ⟨fun a ha=>?_,?_⟩
 ·obtain ⟨x,hx,rfl⟩:=List.mem_map.1 ha
  rw [okG_right];exact h2 x hx
 ·rw [←joinS_sep,List.map_map,txtGl]
  congr 1
  exact List.map_congr_left fun x hx=>txG_text (h2 x hx)
def Rl.rs (u:Rl):Rs:=⟨u.name.data.toList,u.keep.map sA,u.remove.map sA,u.guard.map sG,u.body.map sG,u.vars.toNat⟩
theorem nil_len {α:Type} {l:List α}:l=[]↔l.length=0:=List.length_eq_zero_iff.symm
theorem good_src {u:Rl} (h:u.Good):SrcOk u.rs∧u.rs.txt=u.txt:=by
 obtain ⟨k1,k2⟩:=allAm_all h.keep
 obtain ⟨r1,r2⟩:=allAm_all h.remove
 obtain ⟨g1,g2⟩:=allGl_all h.guard
 obtain ⟨b1,b2⟩:=allGl_all h.body
 have hn:u.name.data.toList=[]↔u.name.size=0:=by
  rw [nil_len,Array.length_toList];rfl
 refine ⟨⟨?_,?_,?_,?_,?_,k1,r1,g1,b1,?_⟩,?_⟩
 ·exact h.name.imp (fun e=>hn.2 e) id
 ·have:=h.some
  simp only [Rl.rs,List.length_map];omega
 ·have:=h.few
  simp only [Rl.rs,List.length_map];omega
 ·have:=h.guards
  simp only [Rl.rs,List.length_map];omega
 ·have:=h.bodies
  simp only [Rl.rs,List.length_map];omega
 ·intro g e
  have hl:u.body.length=1:=by have:=congrArg List.length e;simpa [Rl.rs] using this
  obtain ⟨x,hx⟩:∃x,u.body=[x]:=by
   match hu:u.body,hl with
   | [x],_=>exact ⟨x,rfl⟩
  have h2:sG x=g:=by
   have:u.rs.body=[sG x]:=by simp [Rl.rs,hx]
   rw [this] at e
   simpa using e
  rw [←h2]
  intro e2
  exact h.noTrue ⟨hl,by rw [hx];exact e2⟩
 ·unfold Rs.txt labelT headT bodyT Rl.txt Rl.labT Rl.headT Rl.bodT Rl.rs
  simp only
  rw [k2,r2,g2,b2]
  simp only [nil_len,List.length_map]
  rw [Array.length_toList]
  congr 1
  congr 1
  split
  ·rfl
  ·split
   ·rename_i hk
    have:txtAm u.keep=[]:=by unfold txtAm;rw [List.length_eq_zero_iff.1 hk];rfl
    rw [this];rfl
   ·simp
theorem limT_some {l:List UInt8} (h:limT l≠[]):limT l=l∧l.length≤16384:=by
 unfold limT at h ⊢
 split
 ·rename_i g;rw [if_pos g] at h;exact absurd rfl h
 ·exact ⟨rfl,by omega⟩
theorem src_some {u:Rl} (h:u.src≠[]):u.Good∧u.src=u.rs.txt∧u.src.length≤16384:=by
 by_cases hg:u.Good
 ·rw [src_good hg] at h ⊢
  obtain ⟨h1,h2⟩:=limT_some h
  exact ⟨hg,by rw [h1,(good_src hg).2],by rw [h1];exact h2⟩
 ·exact absurd (src_bad hg) h
theorem goals_some {l:List Gl} (h:goalsSrc l≠[]):l≠[]∧l.length≤40∧AllG (l.map sG)∧goalsSrc l=goalsT (l.map sG)∧(goalsSrc l).length≤16384:=by
 by_cases hg:allGl l=true∧l.length≤40
 ·rw [goalsSrc,if_pos hg] at h ⊢
  obtain ⟨h1,h2⟩:=limT_some h
  obtain ⟨g1,g2⟩:=allGl_all hg.1
  refine ⟨fun e=>?_,hg.2,g1,by rw [h1,← g2];rfl,by rw [h1];exact h2⟩
  subst e
  rw [h1] at h
  exact h rfl
 ·rw [goalsSrc,if_neg hg] at h
  exact absurd rfl h
theorem occ_strip3:(∀t:Tm,t.strip.occ=t.occ)∧(∀l,occL (stripL l)=occL l):=by
 refine Tm.induct2 (fun k n s A c a ih=>?_) rfl (fun t r h1 h2=>?_)
 ·simp only [Tm.strip,Tm.occ,ih]
 ·simp only [stripL,occL,h1,h2]
theorem num2_id:(∀t:Tm,t.num2 (fun v=>v)=t.strip)∧(∀l,numL2 (fun v=>v) l=stripL l):=by
 refine Tm.induct2 (fun k n s A c a ih=>?_) rfl (fun t r h1 h2=>?_)
 ·simp only [Tm.num2,Tm.strip,ih,ite_self]
 ·simp only [numL2,stripL,h1,h2]
theorem rs_terms (u:Rl):u.rs.terms=stripL u.ts:=by
 have flatA:∀l:List Am,(l.map sA).flatMap (·.2)=stripL (l.flatMap Am.args):=fun l=>by
  induction l with
  | nil=>rfl
  | cons x r ih=>rw [List.map_cons,List.flatMap_cons,ih,List.flatMap_cons,stripL_append];rfl
 have flatG:∀l:List Gl,(l.map sG).flatMap (·.2.2)=stripL (l.flatMap Gl.args):=fun l=>by
  induction l with
  | nil=>rfl
  | cons x r ih=>rw [List.map_cons,List.flatMap_cons,ih,List.flatMap_cons,stripL_append];rfl
 unfold Rs.terms Rl.rs Rl.ts
 simp only
 rw [flatA,flatA,flatG,flatG,stripL_append,stripL_append,stripL_append]
theorem rs_order (u:Rl):orderS u.rs.terms=u.vs:=by
 rw [rs_terms]
 unfold orderS Rl.vs varsL addAll
 rw [occ_strip3.2]
 rfl
theorem right_form {l:List Tm} {s:List UInt8} (h:rightA s l=true):formL l=true:=by
 simp only [rightA,rightT,Bool.and_eq_true] at h
 exact h.2.2.1
theorem number_id {u:Rl} (h:u.Good) (hv:u.vs=(List.range u.vs.length).map fun (i:Nat)=>(i:Int)) (hn:u.vars=(u.vs.length:Int)):numberS u.rs=u.rs:=by
 obtain ⟨hs,_⟩:=good_src h
 have hp:∀v∈u.vs,placeS u.vs v=v:=fun v hm=>by
  rw [place_in hm]
  obtain ⟨i,hi,e⟩:=List.mem_iff_getElem.1 hm
  have e2:u.vs[i]=(i:Int):=by
   have:u.vs[i]?=some (i:Int):=by rw [hv];simp [hi]
   rw [List.getElem?_eq_getElem hi] at this
   exact Option.some.inj this
  have hnd:=varsL_nodup u.ts
  have:=hnd.idxOf_getElem i hi
  rw [←e]
  show ((u.vs.idxOf u.vs[i]:Nat):Int)=u.vs[i]
  rw [show u.vs.idxOf u.vs[i]=i from this,e2]
 obtain ⟨m1,m2,m3,m4⟩:=mem_ts u
 have one:∀l:List Tm,formL (stripL l)=true→(∀v∈occL l,v∈occL u.ts)→numL2 (placeS u.vs) (stripL l)=stripL l:=fun l hf hm=>by
  have e:=(num2_same (f:=placeS u.vs) (g:=fun v=>v)).2 (stripL l) hf (fun v hv1=>hp v ((mem_varsL u.ts v).2 (hm v (by rw [occ_strip3.2] at hv1;exact hv1))))
  rw [e,num2_id.2,strip_strip.2]
 unfold numberS
 simp only [rs_order]
 unfold Rl.rs at *
 simp only at hs ⊢
 congr 1
 ·rw [List.map_map]
  refine List.map_congr_left fun x hx=>?_
  show As.num2 _ (sA x)=sA x
  unfold As.num2 sA
  simp only
  rw [one x.args (right_form (hs.keepR (sA x) (List.mem_map_of_mem hx))) (m1 x hx)]
 ·rw [List.map_map]
  refine List.map_congr_left fun x hx=>?_
  show As.num2 _ (sA x)=sA x
  unfold As.num2 sA
  simp only
  rw [one x.args (right_form (hs.removeR (sA x) (List.mem_map_of_mem hx))) (m2 x hx)]
 ·rw [List.map_map]
  refine List.map_congr_left fun x hx=>?_
  show Gs.num2 _ (sG x)=sG x
  unfold Gs.num2 sG
  simp only
  rw [one x.args (rightG_form (hs.guardR (sG x) (List.mem_map_of_mem hx))) (m3 x hx)]
 ·rw [List.map_map]
  refine List.map_congr_left fun x hx=>?_
  show Gs.num2 _ (sG x)=sG x
  unfold Gs.num2 sG
  simp only
  rw [one x.args (rightG_form (hs.bodyR (sG x) (List.mem_map_of_mem hx))) (m4 x hx)]
 ·rw [hn];rfl
theorem numR_reads {r:Rl} (h:r.numR.src≠[]):SrcOk r.numR.rs∧r.numR.src=r.numR.rs.txt∧r.numR.src.length≤16384∧numberS r.numR.rs=r.numR.rs:=by
 obtain ⟨h1,h2,h3⟩:=src_some h
 have hl:r.numR.vs.length=r.vs.length:=by rw [numR_vs];simp
 exact ⟨(good_src h1).1,h2,h3,number_id h1 (by rw [hl];exact numR_vs r) (by rw [hl];rfl)⟩
theorem key_sA {x y:Am} (h:sA x=sA y):x.key=y.key:=by
 obtain ⟨h1,h2⟩:=Prod.ext_iff.1 h
 have e:x.name=y.name:=WideShapes.bytes_inj h1
 exact Prod.ext (by show [Value.string x.name]=[Value.string y.name];rw [e]) h2
theorem key_sG {x y:Gl} (h:sG x=sG y):x.key=y.key:=by
 obtain ⟨h1,h2⟩:=Prod.ext_iff.1 h
 obtain ⟨h3,h4⟩:=Prod.ext_iff.1 h2
 have e:x.name=y.name:=WideShapes.bytes_inj h3
 exact Prod.ext (by show [Value.int .i64 x.op,.string x.name]=[.int .i64 y.op,.string y.name];rw [e,show x.op=y.op from h1]) h4
theorem twin_rs {u v:Rl} (h:u.rs=v.rs):u.Twin v:=by
 have h1:=congrArg Rs.name h
 have h2:=congrArg Rs.keep h
 have h3:=congrArg Rs.remove h
 have h4:=congrArg Rs.guard h
 have h5:=congrArg Rs.body h
 exact ⟨WideShapes.bytes_inj h1,keys_map (fun x y e=>key_sA e) h2,keys_map (fun x y e=>key_sA e) h3,keys_map (fun x y e=>key_sG e) h4,keys_map (fun x y e=>key_sG e) h5⟩
end Go.Proofs.YtnghanpmmbcbbaaGreatDoor
