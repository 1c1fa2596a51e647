/-
  PgMem.
  PrWant.
  PrName.
 PgTok.
 PgFun.
 TmEach.
 TmGround.
 TmInts.
-/
import Derived.Test.YtnghanpmmbcbbaaGreatDoorMq2
import Derived.Test.YtnghanpmmbcbbaaGreatDoorMq3
import Derived.Test.YtnghanpmmbcbbaaGreatDoorMq4
import Derived.Maps.AppendAt
import Derived.WalkSpells
import Derived.Lib.SliceRun
import Derived.Laws.Rows
import Derived.BigQuiet
import Derived.Deep.QuietTactic
import Derived.OwnWalk
import Derived.Laws.OwnMore
namespace Go.Proofs.YtnghanpmmbcbbaaGreatDoor
open Go.RowKit
def blkO:Option Addr→List Nat
 | some p=>[p.block]
 | none=>[]
def blkA (A:Option Addr) (n:Nat):List Nat:=if n=0 then [] else blkO A
mutual
def Tm.blk:Tm→List Nat
 | .mk _ _ _ A _ a=>blkA A a.length++blkL a
def blkL:List Tm→List Nat
 | []=>[]
 | t :: r=>t.blk++blkL r
end
theorem blkL_flat (l:List Tm):blkL l=l.flatMap Tm.blk:=by
 induction l with
 | nil=>rfl
 | cons t r ih=>rw [blkL,ih,List.flatMap_cons]
theorem blkL_append (l m:List Tm):blkL (l++m)=blkL l++blkL m:=by rw [blkL_flat,blkL_flat,blkL_flat,List.flatMap_append]
theorem at_blk {w w':World}:(∀t:Tm,t.At w→(∀b∈t.blk,w'.heap[b]?=w.heap[b]?)→t.At w')∧(∀(l:List Tm) b o,RowAt w l b o→(l≠[]→w'.heap[b]?=w.heap[b]?)→(∀k∈blkL l,w'.heap[k]?=w.heap[k]?)→RowAt w' l b o):=by
 refine Tm.induct2 (p:=fun t=>t.At w→(∀b∈t.blk,w'.heap[b]?=w.heap[b]?)→t.At w') (q:=fun l=>∀b o,RowAt w l b o→(l≠[]→w'.heap[b]?=w.heap[b]?)→(∀k∈blkL l,w'.heap[k]?=w.heap[k]?)→RowAt w' l b o) (fun k n s A c a ih=>?_) (fun _ _ _ _ _=>by simp [RowAt]) (fun t r h1 h2=>?_)
 ·intro h hb
  simp only [Tm.At] at h ⊢
  refine ⟨h.1,h.2.1,h.2.2.1,fun hn=>?_⟩
  obtain ⟨b,o,rfl,hr⟩:=h.2.2.2 hn
  refine ⟨b,o,rfl,ih b o hr (fun _=>hb b ?_) fun j hj=>hb j ?_⟩
  ·simp only [Tm.blk,blkA,if_neg (show ¬a.length=0 by omega),blkO,List.mem_append,List.mem_singleton,true_or]
  ·simp only [Tm.blk,List.mem_append];exact .inr hj
 ·intro b o h hb hk
  simp only [RowAt] at h ⊢
  have e:∀j,w'.cell? ⟨b,j,none⟩=w.cell? ⟨b,j,none⟩:=fun j=>World.cell?_of_block (hb (by simp))
  refine ⟨by rw [e,e,e,e];exact h.1,h1 h.2.1 fun j hj=>hk j (by simp [blkL,hj]),h2 b (o+4) h.2.2 (fun _=>hb (by simp)) fun j hj=>hk j (by simp [blkL,hj])⟩
theorem lst_blk {w w':World} {A:Option Addr} {l:List Tm} {c:Nat} (h:Lst w A l c) (hb:∀b∈blkA A l.length++blkL l,w'.heap[b]?=w.heap[b]?):Lst w' A l c:=by
 refine ⟨h.1,h.2.1,fun hn=>?_⟩
 obtain ⟨b,o,rfl,hr⟩:=h.2.2 hn
 refine ⟨b,o,rfl,at_blk.2 l b o hr (fun _=>hb b ?_) fun j hj=>hb j (List.mem_append.2 (.inr hj))⟩
 simp [blkA,blkO,show ¬l.length=0 by omega]
structure Elt (α:Type) where
 k:Nat
 cells:α→List Value
 len:∀x,(cells x).length=k
 one:∀x,∀v∈cells x,v.oneCell'=true
 blk:α→List Nat
 At:World→α→Prop
 frame:∀{x w w'},At w x→(∀b∈blk x,w'.heap[b]?=w.heap[b]?)→At w' x
def elTm:Elt Tm:=⟨4,Tm.cells,fun _=>rfl,fun x v hv=>by
 simp only [Tm.cells,List.mem_cons,List.not_mem_nil,or_false] at hv
 rcases hv with rfl|rfl|rfl|rfl<;>rfl,Tm.blk,fun w t=>t.At w,fun h hb=>at_blk.1 _ h hb⟩
def elAm:Elt Am:=⟨2,fun x=>[.string x.name,.slice x.at_ x.args.length x.cap],fun _=>rfl,fun x v hv=>by
 simp only [List.mem_cons,List.not_mem_nil,or_false] at hv
 rcases hv with rfl|rfl<;>rfl,fun x=>blkA x.at_ x.args.length++blkL x.args,fun w x=>x.At w∧(x.args=[]→x.at_=none∧x.cap=0)∧x.args.length≤16385,fun h hb=>⟨⟨h.1.1,lst_blk h.1.2 hb⟩,h.2⟩⟩
def elGl:Elt Gl:=⟨3,fun x=>[.int .i64 x.op,.string x.name,.slice x.at_ x.args.length x.cap],fun _=>rfl,fun x v hv=>by
 simp only [List.mem_cons,List.not_mem_nil,or_false] at hv
 rcases hv with rfl|rfl|rfl<;>rfl,fun x=>blkA x.at_ x.args.length++blkL x.args,fun w x=>x.At w,fun h hb=>⟨h.1,h.2.1,lst_blk h.2.2 hb⟩⟩
abbrev Dl:=List UInt8×Int
def elDl:Elt Dl:=⟨2,fun x=>[.string (S x.1),.int .i64 x.2],fun _=>rfl,fun x v hv=>by
 simp only [List.mem_cons,List.not_mem_nil,or_false] at hv
 rcases hv with rfl|rfl<;>rfl,fun _=>[],fun _ _=>True,fun h _=>h⟩
section
variable {α:Type} (E:Elt α)
def Elt.cellsL (l:List α):List Value:=l.flatMap E.cells
def Elt.blkL (l:List α):List Nat:=l.flatMap E.blk
theorem Elt.cellsL_len (l:List α):(E.cellsL l).length=l.length*E.k:=by
 induction l with
 | nil=>simp [Elt.cellsL]
 | cons t r ih=>simp only [Elt.cellsL,List.flatMap_cons,List.length_append,E.len,List.length_cons,Nat.add_mul] at *;omega
theorem Elt.cellsL_append (l m:List α):E.cellsL (l++m)=E.cellsL l++E.cellsL m:=by simp [Elt.cellsL]
theorem Elt.blkL_append (l m:List α):E.blkL (l++m)=E.blkL l++E.blkL m:=by simp [Elt.blkL]
theorem Elt.blkL_one (x:α):E.blkL [x]=E.blk x:=by simp [Elt.blkL]
theorem Elt.cellsL_get [Inhabited α] (l:List α) {i j:Nat} (hi:i < l.length) (hj:j < E.k):(E.cellsL l)[i*E.k+j]?=(E.cells (l.getD i default))[j]?:=by
 induction l generalizing i with
 | nil=>simp at hi
 | cons t r ih =>
  simp only [Elt.cellsL,List.flatMap_cons]
  cases i with
  | zero =>
   rw [List.getElem?_append_left (by rw [E.len];omega)]
   simp
  | succ i =>
   rw [List.getElem?_append_right (by rw [E.len,Nat.add_mul];omega),E.len,show (i+1)*E.k+j - E.k=i*E.k+j by rw [Nat.add_mul];omega]
   simpa [Elt.cellsL] using ih (by simpa using hi)
structure SitG (lo:Nat) (w:World) (l:List α):Prop where
 at_:∀x∈l,E.At w x
 nd:(E.blkL l).Nodup
 bd:∀b∈E.blkL l,lo≤b∧b < w.heap.size
 fz:∀b∈E.blkL l,∀j,w.frozen? ⟨b,j,none⟩=false
variable {E}
theorem SitG.frame {lo:Nat} {w w':World} {l:List α} (h:SitG E lo w l) (hs:w.heap.size≤w'.heap.size) (hb:∀b∈E.blkL l,w'.heap[b]?=w.heap[b]?):SitG E lo w' l :=
 ⟨fun x hx=>E.frame (h.at_ x hx) fun b hbx=>hb b (List.mem_flatMap.2 ⟨x,hx,hbx⟩),h.nd,fun b hx=>⟨(h.bd b hx).1,Nat.lt_of_lt_of_le (h.bd b hx).2 hs⟩,fun b hx j=>by rw [World.frozen?_of_block (a:=⟨b,j,none⟩) (hb b hx)];exact h.fz b hx j⟩
theorem SitG.below {lo:Nat} {w w':World} {l:List α} (h:SitG E lo w l) (hb:Below w.heap.size w w'):SitG E lo w' l:=h.frame hb.size fun b hx=>hb.block b (h.bd b hx).2
theorem SitG.low {lo lo':Nat} {w:World} {l:List α} (h:SitG E lo w l) (hl:lo'≤lo):SitG E lo' w l:=⟨h.at_,h.nd,fun b hb=>⟨Nat.le_trans hl (h.bd b hb).1,(h.bd b hb).2⟩,h.fz⟩
theorem SitG.nil (lo:Nat) (w:World):SitG E lo w []:=⟨fun _ h=>(by cases h),by simp [Elt.blkL],fun _ h=>(by simp [Elt.blkL] at h),fun _ h=>(by simp [Elt.blkL] at h)⟩
theorem SitG.append {lo m:Nat} {w:World} {l k:List α} (h:SitG E lo w l) (h2:SitG E m w k) (hm:lo≤m) (hlt:∀b∈E.blkL l,b < m):SitG E lo w (l++k):=by
 refine ⟨fun x hx=>(List.mem_append.1 hx).elim (h.at_ x) (h2.at_ x),?_,fun b hb=>?_,fun b hb=>?_⟩
 ·rw [Elt.blkL_append,List.nodup_append]
  refine ⟨h.nd,h2.nd,fun a ha b hb e=>?_⟩
  have:=hlt a ha
  have:=(h2.bd b hb).1
  omega
 ·rw [Elt.blkL_append] at hb
  rcases List.mem_append.1 hb with hb|hb
  ·exact h.bd b hb
  ·exact ⟨Nat.le_trans hm (h2.bd b hb).1,(h2.bd b hb).2⟩
 ·rw [Elt.blkL_append] at hb
  exact (List.mem_append.1 hb).elim (h.fz b) (h2.fz b)
structure RowG (E:Elt α) (T:TypeId) (lo:Nat) (w:World) (r:Value) (l:List α):Prop where
 row:w.ownsRow lo T E.k r l.length (E.cellsL l)
 sit:SitG E lo w l
 apart:∀k,r.ownBlock=some k→k∉E.blkL l
variable {T:TypeId} {lo:Nat} {w w':World} {r:Value} {l:List α}
theorem RowG.frame (h:RowG E T lo w r l) (hs:w.heap.size≤w'.heap.size) (hb:∀b,lo≤b→b < w.heap.size→w'.heap[b]?=w.heap[b]?):RowG E T lo w' r l :=
 ⟨own_of h.row fun k hk=>hb k (own_lt h.row k hk).1 (own_lt h.row k hk).2,h.sit.frame hs fun b hx=>hb b (h.sit.bd b hx).1 (h.sit.bd b hx).2,h.apart⟩
theorem RowG.below (h:RowG E T lo w r l) (hb:Below w.heap.size w w'):RowG E T lo w' r l:=h.frame hb.size fun b _ h2=>hb.block b h2
theorem RowG.nil (E:Elt α) (T:TypeId) (lo:Nat) (w:World):RowG E T lo w (.slice none 0 0) []:=⟨⟨by simp [Elt.cellsL],.inl ⟨rfl,rfl⟩⟩,SitG.nil _ _,fun k hk=>(by cases hk)⟩
theorem RowG.next {m g cap:Nat} {w2 w3 w4:World} {u:α} (h:RowG E T lo w2 r l) (hm:lo≤m) (hrm:∀k,r.ownBlock=some k→k < m) (hlm:∀b∈E.blkL l,b < m) (hu:SitG E m w2 [u]) (hb:Below w2.heap.size w2 w3)
  (hown:w4.ownsRow lo T E.k (.slice (some ⟨g,0,none⟩) (l.length+1) cap) (l.length+1) (E.cellsL l++E.cells u)) (hg:w3.grownBy w4 r.ownBlock) (hat:r.ownBlock=some g∨g=w3.heap.size) :
  RowG E T lo w4 (.slice (some ⟨g,0,none⟩) (l.length+1) cap) (l++[u]):=by
 have hall:=h.sit.append hu hm hlm
 have h3:=hall.below hb
 refine ⟨by rw [List.length_append,Elt.cellsL_append];simpa [Elt.cellsL] using hown,h3.frame hg.size fun b hx=>hg.block b (h3.bd b hx).2 fun e=>?_,fun k hk hx=>?_⟩
 ·rw [Elt.blkL_append] at hx
  rcases List.mem_append.1 hx with hx|hx
  ·exact h.apart b e.symm hx
  ·have h1:=hrm b e.symm
   have h2:=(hu.bd b hx).1
   omega
 ·have e':g=k:=by simpa [Value.ownBlock] using hk
  subst e'
  rcases hat with h1|h1
  ·rw [Elt.blkL_append] at hx
   rcases List.mem_append.1 hx with hx|hx
   ·exact h.apart g h1 hx
   ·have h2:=hrm g h1
    have h4:=(hu.bd g hx).1
    omega
  ·have h2:=(hall.bd g hx).2
   have:=hb.size
   omega
theorem RowG.form (h:RowG E T lo w r l) (h0:0 < l.length):∃g c,r=.slice (some ⟨g,0,none⟩) l.length c∧l.length≤c∧c≤maxLen∧lo≤g∧g < w.heap.size∧g∉E.blkL l∧(∀j,w.frozen? ⟨g,j,none⟩=false)∧∀j u,(E.cellsL l)[j]?=some u→w.cell? ⟨g,j,none⟩=some u:=by
 rcases h.row.2 with ⟨_,h1⟩|⟨g,cap,cur,rfl,hb,hg,hle,hcap,hcs,hcur⟩
 ·omega
 ·have hlt:=own_lt h.row g rfl
  refine ⟨g,cap,rfl,hle,hcap,hlt.1,hlt.2,h.apart g rfl,fun j=>?_,fun j u hu=>?_⟩
  ·simp [World.frozen?,hg]
  ·have hj:j < (E.cellsL l).length:=(List.getElem?_eq_some_iff.1 hu).1
   rw [Elt.cellsL_len] at hj
   rw [World.ownsRow.cellAt h.row j hj];exact hu
end
abbrev Z0:Value:=.slice none 0 0
theorem Z0_own (k:Nat):Z0.ownBlock≠some k:=fun e=>by cases e
structure Pq (w:World) (R:Nat) (A:Option Addr) (c:Nat) (l:List Tk) (i:Nat):Prop where
 lt:R < w.heap.size
 l0:w.cell? ⟨R,0,none⟩=some (.slice A l.length c)
 l1:w.cell? ⟨R,1,none⟩=some (.int .i64 (i:Int))
 fr:∀j,w.frozen? ⟨R,j,none⟩=false
 toks:TLst w A l c
 low:∀g,A=some ⟨g,0,none⟩→g < R
 ilt:i < l.length
section
variable {w w':World} {R:Nat} {A:Option Addr} {c:Nat} {l:List Tk} {i:Nat}
theorem Pq.of (h:Pq w R A c l i) (hs:w.heap.size≤w'.heap.size) (hb:∀k,k≤R→w'.heap[k]?=w.heap[k]?):Pq w' R A c l i:=by
 have hR:=hb R (Nat.le_refl _)
 have hc:∀j,w'.cell? ⟨R,j,none⟩=w.cell? ⟨R,j,none⟩:=fun j=>World.cell?_of_block hR
 refine ⟨Nat.lt_of_lt_of_le h.lt hs,by rw [hc,h.l0],by rw [hc,h.l1],fun j=>by rw [World.frozen?_of_block (a:=⟨R,j,none⟩) hR];exact h.fr j,?_,h.low,h.ilt⟩
 refine ⟨h.toks.1,h.toks.2.1,fun hn=>?_⟩
 obtain ⟨g,e,hr⟩:=h.toks.2.2 hn
 have hg:=h.low g e
 exact ⟨g,e,fun i hi j u hu=>by rw [World.cell?_of_block (a:=⟨g,i*3+j,none⟩) (hb g (by omega))];exact hr i hi j u hu⟩
theorem Pq.below (h:Pq w R A c l i) (hb:Below w.heap.size w w'):Pq w' R A c l i:=h.of hb.size fun k hk=>hb.block k (by have:=h.lt;omega)
theorem Pq.drewN (h:Pq w R A c l i) (n:Nat):Pq (w.drewN n) R A c l i:=h.of (Nat.le_refl _) fun _ _=>rfl
theorem Pq.alloc (h:Pq w R A c l i) (o:Obj):Pq (w.alloc o) R A c l i:=h.below ((Below.refl _ _).alloc (Nat.le_refl _) o)
theorem Pq.put (h:Pq w R A c l i) {p:Addr} (hp:R < p.block) (v:Value):Pq (w.setCell p v) R A c l i :=
 h.of (by simp [World.setCell]) fun k hk=>Below.heap_setCell _ _ _ _ (by omega)
theorem Pq.grown {row:Option Nat} (h:Pq w R A c l i) (hg:w.grownBy w' row) (hr:∀k,row=some k→R < k):Pq w' R A c l i :=
 h.of hg.size fun k hk=>hg.block k (by have:=h.lt;omega) fun e=>by have:=hr k e.symm;omega
theorem Pq.set (h:Pq w R A c l i) {q:Nat} (hq:q < l.length):Pq (w.setCell ⟨R,1,none⟩ (.int .i64 (q:Int))) R A c l q:=by
 refine ⟨by simpa [World.setCell] using h.lt,?_,World.cell?_setCell_same _ _ _ (by rw [h.l1]),fun j=>by rw [World.frozen?_setCell];exact h.fr j,?_,h.low,hq⟩
 ·rw [World.cell?_setCell_other _ _ _ _ (by simp)];exact h.l0
 ·refine ⟨h.toks.1,h.toks.2.1,fun hn=>?_⟩
  obtain ⟨g,e,hr⟩:=h.toks.2.2 hn
  have hg:=h.low g e
  exact ⟨g,e,fun i hi j u hu=>by rw [World.cell?_setCell_other _ _ _ _ (by simp only [ne_eq,Addr.mk.injEq];omega)];exact hr i hi j u hu⟩
theorem Pq.tok (h:Pq w R A c l i):∃g,A=some ⟨g,0,none⟩∧w.cell? ⟨g,i*3,none⟩=some (.int .i64 (l.getD i default).1)∧w.cell? ⟨g,i*3+1,none⟩=some (.int .i64 ((l.getD i default).2.1:Int))∧w.cell? ⟨g,i*3+2,none⟩=some (.string (S (l.getD i default).2.2)):=h.toks.get h.ilt
abbrev Kq (R:Nat) (w w':World):Prop:=Kp R Z0 Z0 w w'
theorem SitG.kq {α:Type} {E:Elt α} {lo:Nat} {L:List α} (h:SitG E lo w L) (k:Kq R w w') (hR:R < lo):SitG E lo w' L:=h.frame k.size fun b hb=>k.block b (h.bd b hb).2 (by have:=(h.bd b hb).1;omega) (Z0_own b)
theorem RowG.kq {α:Type} {E:Elt α} {T:TypeId} {lo:Nat} {r:Value} {L:List α} (h:RowG E T lo w r L) (k:Kq R w w') (hR:R < lo):RowG E T lo w' r L:=h.frame k.size fun b h1 h2=>k.block b h2 (by omega) (Z0_own b)
end
structure BoxL (w:World) (T:Nat) (vs:List Value):Prop where
 lt:T < w.heap.size
 cells:∀j v,vs[j]?=some v→w.cell? ⟨T,j,none⟩=some v
 free:∀j,w.frozen? ⟨T,j,none⟩=false
section
variable {w w':World} {T:Nat} {vs:List Value}
theorem BoxL.of (h:BoxL w T vs) (hs:w.heap.size≤w'.heap.size) (hb:w'.heap[T]?=w.heap[T]?):BoxL w' T vs :=
 ⟨Nat.lt_of_lt_of_le h.lt hs,fun j v hv=>by rw [World.cell?_of_block (a:=⟨T,j,none⟩) hb];exact h.cells j v hv,fun j=>by rw [World.frozen?_of_block (a:=⟨T,j,none⟩) hb];exact h.free j⟩
theorem BoxL.below (h:BoxL w T vs) (hb:Below w.heap.size w w'):BoxL w' T vs:=h.of hb.size (hb.block T h.lt)
theorem BoxL.alloc (h:BoxL w T vs) (o:Obj):BoxL (w.alloc o) T vs:=h.below ((Below.refl _ _).alloc (Nat.le_refl _) o)
theorem BoxL.kq {R:Nat} (h:BoxL w T vs) (k:Kp R Z0 Z0 w w') (hT:T≠R):BoxL w' T vs:=h.of k.size (k.block T h.lt hT (Z0_own T))
theorem BoxL.put (h:BoxL w T vs) {p:Addr} (hp:p.block≠T) (v:Value):BoxL (w.setCell p v) T vs:=h.of (by simp [World.setCell]) (Below.heap_setCell _ _ _ _ hp.symm)
theorem BoxL.grown {row:Option Nat} (h:BoxL w T vs) (hg:w.grownBy w' row) (hr:row≠some T):BoxL w' T vs:=h.of hg.size (hg.block T h.lt (fun e=>hr e.symm))
theorem BoxL.new (w:World) (vs:List Value) (t:TypeId):BoxL (w.alloc (.cells vs.toArray t)) w.heap.size vs :=
 ⟨by simp,fun j v hv=>by rw [World.cell?_alloc_at _ _ _ _ rfl,List.getElem?_toArray];exact hv,fun j=>World.frozen?_alloc_at _ _ _ _ rfl⟩
theorem BoxL.set (h:BoxL w T vs) {j:Nat} (hj:j < vs.length) (v:Value):BoxL (w.setCell ⟨T,j,none⟩ v) T (vs.set j v):=by
 refine ⟨by simpa [World.setCell] using h.lt,fun i u hu=>?_,fun i=>by rw [World.frozen?_setCell];exact h.free i⟩
 by_cases e:i=j
 ·subst e
  rw [List.getElem?_set_self hj] at hu
  injection hu with hu
  subst hu
  exact World.cell?_setCell_same _ _ _ (by rw [h.cells i _ (List.getElem?_eq_getElem hj)])
 ·rw [List.getElem?_set_ne (fun h=>e h.symm)] at hu
  rw [World.cell?_setCell_other _ _ _ _ (by simp only [ne_eq,Addr.mk.injEq,true_and,and_true];omega)]
  exact h.cells i u hu
theorem BoxL.set4 {a b c d:Value} (h:BoxL w T [a,b,c,d]) (a' b' c' d':Value):BoxL ((((w.setCell ⟨T,0,none⟩ a').setCell ⟨T,1,none⟩ b').setCell ⟨T,2,none⟩ c').setCell ⟨T,3,none⟩ d') T [a',b',c',d'] :=
 (((h.set (j:=0) (by simp) a').set (j:=1) (by simp) b').set (j:=2) (by simp) c').set (j:=3) (by simp) d'
theorem SitG.put {α:Type} {E:Elt α} {lo:Nat} {L:List α} (h:SitG E lo w L) {p:Addr} (hp:p.block∉E.blkL L) (v:Value):SitG E lo (w.setCell p v) L :=
 h.frame (by simp [World.setCell]) fun b hb=>Below.heap_setCell _ _ _ _ (fun e=>hp (e ▸ hb))
end
def kindO:List UInt8→Int
 | []=>0
 | c :: _=>if lowB c then 1 else if wordyB c then 2 else if digB c then 3 else 4
structure GoodT (l:List Tk):Prop where
 ended:Ended l
 kinds:∀i,i < l.length→(l.getD i default).1=kindO (l.getD i default).2.2
 nums:∀i,i < l.length→(l.getD i default).1=3→(∀c∈(l.getD i default).2.2,digB c=true)∧valD (l.getD i default).2.2≤2147483648
 offs:∀i,i < l.length→(l.getD i default).2.1≤16384
 small:l.length≤16385
 texts:∀i,i < l.length→(l.getD i default).2.2.length≤16384
theorem GoodT.acc {l:List Tk} (h:GoodT l) {i:Nat} (hi:i < l.length) {s:List UInt8} {k:Int} (hs:kindO s=k):((l.getD i default).2.2==s)=isT k s (l.getD i default):=by
 unfold isT
 by_cases e:(l.getD i default).2.2=s
 ·rw [h.kinds i hi,e,hs];simp
 ·rw [beq_eq_false_iff_ne.2 e,Bool.and_false]
end Go.Proofs.YtnghanpmmbcbbaaGreatDoor
namespace Go.Proofs.YtnghanpmmbcbbaaGreatDoor
open Go.RowKit
section
variable {w:World} {R:Nat} {A:Option Addr} {c:Nat} {l:List Tk} {i:Nat} {z:Value} {ns:List (List UInt8)} {at_:Nat} {er:Int}
def WantR (R:Nat) (A:Option Addr) (c:Nat) (l:List Tk) (i:Nat) (z:Value) (ns:List (List UInt8)) (s:List UInt8) (w:World) (en:Ending) (w':World):Prop :=
 (isT 4 s (l.getD i default)=true∧en=.returned (.bool true)∧Kp R z z w w'∧∃a,Pr w' R A c l (stepI l i) z ns a 0) ∨
 (isT 4 s (l.getD i default)=false∧en=.returned (.bool false)∧FailedAt R A c l i z ns w (l.getD i default).2.1 16 w')
end
end Go.Proofs.YtnghanpmmbcbbaaGreatDoor
namespace Go.Proofs.YtnghanpmmbcbbaaGreatDoor
open Go.RowKit
section
variable {w:World} {R:Nat} {A:Option Addr} {c:Nat} {l:List Tk} {i:Nat} {z:Value} {ns:List (List UInt8)} {at_:Nat} {er:Int}
def NameR (R:Nat) (A:Option Addr) (c:Nat) (l:List Tk) (i:Nat) (z:Value) (ns:List (List UInt8)) (w:World) (en:Ending) (w':World):Prop :=
 ((l.getD i default).1=1∧resB (l.getD i default).2.2=false∧en=.returned (.tuple #[.string (S (l.getD i default).2.2),.bool true])∧Kp R z z w w'∧∃a,Pr w' R A c l (stepI l i) z ns a 0) ∨
 (∃e,((l.getD i default).1≠1∧e=16∨(l.getD i default).1=1∧resB (l.getD i default).2.2=true∧e=7)∧en=.returned (.tuple #[.string ⟨#[]⟩,.bool false])∧FailedAt R A c l i z ns w (l.getD i default).2.1 e w')
end
end Go.Proofs.YtnghanpmmbcbbaaGreatDoor
namespace Go.Proofs.YtnghanpmmbcbbaaGreatDoor
open Go.RowKit
section
variable {w:World} {R:Nat} {A:Option Addr} {c:Nat} {l:List Tk} {i:Nat}
set_option maxHeartbeats 1000000 in
theorem p_next_at (h:Pq w R A c l i) :
  Calls Tryz.prog 94 #[.pointer (some ⟨R,0,none⟩)] w fun e w'=>e=.returned (tokV (l.getD i default))∧Below w.heap.size w w':=by
 obtain ⟨X,hX⟩:∃X,X=w.alloc (.cells #[.int .i64 0,.int .i64 0,.string ⟨#[]⟩] 135):=⟨_,rfl⟩
 have HX:=Lib.hid (show Below w.heap.size w X by rw [hX];exact below1 w _)
 have hXX:Pq X R A c l i:=h.below HX.out
 have hnew:∀j,X.cell? ⟨w.heap.size,j,none⟩=(#[.int .i64 0,.int .i64 0,.string ⟨#[]⟩]:Array Value)[j]?:=fun j=>by rw [hX];exact World.cell?_alloc_at _ _ _ _ rfl
 have n0:X.cell? ⟨w.heap.size,0,none⟩=some (.int .i64 0):=hnew 0
 have n1:X.cell? ⟨w.heap.size,1,none⟩=some (.int .i64 0):=hnew 1
 have n2:X.cell? ⟨w.heap.size,2,none⟩=some (.string ⟨#[]⟩):=hnew 2
 have f0:∀j,X.frozen? ⟨w.heap.size,j,none⟩=false:=fun j=>by rw [hX];exact World.frozen?_alloc_at _ _ _ _ rfl
 have fr0:=f0 0
 have fr1:=f0 1
 have fr2:=f0 2
 clear hnew f0 h
 obtain ⟨g,rfl,t0,t1,t2⟩:=hXX.tok
 have h0:=hXX.l0
 have h1:=hXX.l1
 have hil:(i:Int) < (l.length:Int):=by have:=hXX.ilt;omega
 have hi0:(0:Int)≤(i:Int):=by omega
 have hlen:=hXX.toks.1
 have hcap:=hXX.toks.2.1
 have hgR:=hXX.low g rfl
 have hRX:=hXX.lt
 clear hXX
 generalize l.getD i default=t at t0 t1 t2 ⊢
 obtain ⟨k,p,x⟩:=t
 simp only at t0 t1 t2
 generalize l.length=n at h0 hil hlen
 go_enter Tryz.func94,Tryz.ntmps94
 go_wp2_with fail
 rw [←hX]
 clear hX
 go_region
 generalize hY:(((X.setCell _ _).setCell _ _).setCell _ _).drew=Y
 have HB:Below w.heap.size w Y:=by
  rw [←hY]
  exact (((HX.out.setCell (Nat.le_refl _) _).setCell (Nat.le_refl _) _).setCell (Nat.le_refl _) _).drew
 obtain ⟨q0,q1,q2⟩:Y.cell? ⟨w.heap.size,0,none⟩=some (.int .i64 k)∧Y.cell? ⟨w.heap.size,1,none⟩=some (.int .i64 (p:Int))∧Y.cell? ⟨w.heap.size,2,none⟩=some (.string (S x)):=by
  rw [←hY]
  exact put3_cells n0 n1 n2
 clear hY
 go_wp2_with fail
 refine bodyPost_ret (v:=tokV (k,p,x)) (by simp [results,Tryz.results94,go_sem,q0,q1,q2]) rfl ⟨rfl,HB⟩
theorem p_next_of (h:Pq w R A c l i) {k:Int} {p:Nat} {x:List UInt8} (ht:l.getD i default=(k,p,x)) :
  Calls Tryz.prog 94 #[.pointer (some ⟨R,0,none⟩)] w fun e w'=>e=.returned (.agg #[.int .i64 k,.int .i64 (p:Int),.string (S x)])∧Below w.heap.size w w':=by
 have:=p_next_at h
 rw [ht] at this
 exact this
def AccR (R:Nat) (A:Option Addr) (c:Nat) (l:List Tk) (i:Nat) (b:Bool) (w:World) (en:Ending) (w':World):Prop :=
 en=.returned (.bool b)∧Kq R w w'∧Pq w' R A c l (if b then i+1 else i)
theorem good_next {l:List Tk} (h:GoodT l) {i:Nat} (hi:i < l.length) (hne:(l.getD i default).2.2≠[]):i+1 < l.length:=by
 refine (ended_step h.ended hi fun e=>?_).1
 rw [h.kinds i hi] at e
 revert hne e
 cases (l.getD i default).2.2 with
 | nil=>exact fun h _=>h rfl
 | cons x r =>
  intro _ e
  simp only [kindO] at e
  split at e
  ·omega
  ·split at e
   ·omega
   ·split at e<;>omega
set_option maxHeartbeats 1000000 in
set_option maxRecDepth 10000 in
theorem accept_at (hg:GoodT l) (h:Pq w R A c l i) (s:List UInt8) (hs:s≠[]) {b:Bool} (hb:((l.getD i default).2.2==s)=b) :
  Calls Tryz.prog 100 #[.pointer (some ⟨R,0,none⟩),.string (S s)] w (AccR R A c l i b w):=by
 have HN:=Lib.hid (show b=true→i+1 < l.length from fun hb2=>good_next hg h.ilt (by rw [hb2] at hb;rw [beq_iff_eq.1 hb];exact hs))
 have HI:=Lib.hid (show (i:Int)+1≤16386 by have:=h.ilt;have:=hg.small;omega)
 generalize ht:l.getD i default=t at hb
 obtain ⟨k,p,x⟩:=t
 have Q:=Lib.hid (p_next_of h ht)
 have H:=Lib.hid (fun W (hb:Below w.heap.size w W)=>h.below hb)
 have ft:=tok_text k p (S x)
 have hb':(x==s)=b:=hb
 have hn':(x != s) = !b:=by rw [←hb'];rfl
 have HS:=Lib.hid hs
 clear h hb ht hs hg
 cases b
 ·go_enter Tryz.func100,Tryz.ntmps100
  go_wp2_with (go_at_call 94;refine Q.out.mono ?_;rintro en w1 ⟨rfl,hb1⟩;have H1:=Lib.hid hb1;clear hb1)
  go_ret
  exact ⟨rfl,Below.kp H1.out R Z0,H.out _ H1.out⟩
 ·have hi1:(i:Int)+1≤9223372036854775807:=by have:=HI.out;omega
  go_enter Tryz.func100,Tryz.ntmps100
  go_wp2_with (go_at_call 94;refine Q.out.mono ?_;rintro en w1 ⟨rfl,hb1⟩;have H1:=Lib.hid hb1;clear hb1;have l1:=(H.out _ H1.out).l1;have f1:=(H.out _ H1.out).fr 1)
  go_ret
  exact ⟨rfl,(Below.kp H1.out R Z0).set 1 none _,(H.out _ H1.out).set (q:=i+1) (by first|exact HN.out rfl|exact HN.out trivial)⟩
set_option maxHeartbeats 1000000 in
set_option maxRecDepth 10000 in
theorem expect_at (hg:GoodT l) (h:Pq w R A c l i) (s:List UInt8) (hs:s≠[]) {b:Bool} (hb:((l.getD i default).2.2==s)=b) :
  Calls Tryz.prog 98 #[.pointer (some ⟨R,0,none⟩),.string (S s)] w fun en w'=>en=.returned (.int .i64 (if b then 0 else 16))∧Kq R w w'∧Pq w' R A c l (if b then i+1 else i):=by
 have Q:=Lib.hid (accept_at hg h s hs hb)
 clear h hb hs hg
 cases b
 ·go_enter Tryz.func98,Tryz.ntmps98
  go_wp2_with (go_at_call 100;refine Q.out.mono ?_;rintro en w1 ⟨rfl,hb1⟩;have H1:=Lib.hid hb1;clear hb1)
  go_ret
  exact ⟨rfl,H1.out⟩
 ·go_enter Tryz.func98,Tryz.ntmps98
  go_wp2_with (go_at_call 100;refine Q.out.mono ?_;rintro en w1 ⟨rfl,hb1⟩;have H1:=Lib.hid hb1;clear hb1)
  go_ret
  exact ⟨rfl,H1.out⟩
def NameQ (R:Nat) (A:Option Addr) (c:Nat) (l:List Tk) (i:Nat) (w:World) (en:Ending) (w':World):Prop :=
 ∃(t:List UInt8) (er:Int) (j:Nat),en=.returned (.tuple #[.string (S t),.int .i64 er])∧Kq R w w'∧Pq w' R A c l j∧t.length≤16384 ∧
  ((er=0∧j=i+1∧t=(l.getD i default).2.2∧∀ns,nmS (leftT l i) ns=.ok t (leftT l j) ns)∨((er=16∨er=7)∧j=i∧t=[]∧∀ns,nmS (leftT l i) ns=.err (leftT l j).length er))
set_option maxHeartbeats 1000000 in
set_option maxRecDepth 10000 in
theorem p_name_at (hg:GoodT l) (h:Pq w R A c l i) :
  Calls Tryz.prog 137 #[.pointer (some ⟨R,0,none⟩)] w (NameQ R A c l i w):=by
 have HI:=Lib.hid (show (i:Int)+1≤16386 by have:=h.ilt;have:=hg.small;omega)
 have hi1:(i:Int)+1≤9223372036854775807:=by have:=HI.out;omega
 have hx0:∃t,l.getD i default=t:=⟨_,rfl⟩
 obtain ⟨t,ht⟩:=hx0
 obtain ⟨k,p,x⟩:=t
 have HC:=Lib.hid (left_cons h.ilt)
 have HN:=Lib.hid (show x≠[]→i+1 < l.length from fun hne=>good_next hg h.ilt (by rw [ht];exact hne))
 have HX:=Lib.hid (show x.length≤16384 by have:=hg.texts i h.ilt;rw [ht] at this;exact this)
 have HK:=Lib.hid (show k=kindO x by have:=hg.kinds i h.ilt;rw [ht] at this;exact this)
 have Q:=Lib.hid (p_next_of h ht)
 have H:=Lib.hid h
 have HT:=Lib.hid ht
 have hR:=h.lt
 clear h ht hg
 obtain ⟨b,hk⟩:∃b,(k==1)=b:=⟨_,rfl⟩
 have hk2:(k != 1) = !b:=by rw [←hk];rfl
 obtain ⟨r,hr⟩:∃r,resB x=r:=⟨_,rfl⟩
 have QR:=Lib.hid (fun W=>res_at (S x) W (r:=r) hr)
 have HR:=Lib.hid hr
 have HB:=Lib.hid hk
 clear hr
 cases b
 ·have hkf:k≠1:=by simpa using HB.out
  go_enter Tryz.func137,Tryz.ntmps137
  go_wp2_with (go_at_call 94;refine Q.out.mono ?_;rintro en w2 ⟨rfl,hb2⟩;have H2:=Lib.hid hb2;clear hb2)
  refine bodyPost_ret (v:=.tuple #[.string ⟨#[]⟩,.int .i64 16]) (by simp [results,Tryz.results137,go_sem]) rfl ?_
  have hb3:=H2.out.alloc H2.out.size (.cells #[.int .i64 k,.int .i64 (p:Int),.string (S x)] 135)
  exact ⟨[],16,i,rfl,Below.kp hb3 R Z0,H.out.below hb3,by simp,.inr ⟨.inl rfl,rfl,rfl,fun ns=>by rw [HC.out,HT.out,nmS,if_pos hkf]⟩⟩
 ·obtain rfl:k=1:=by simpa using HB.out
  cases r
  ·go_enter Tryz.func137,Tryz.ntmps137
   go_wp2_with (first
    | (go_at_call 94;refine Q.out.mono ?_;rintro en w2 ⟨rfl,hb2⟩;have H2:=Lib.hid hb2;clear hb2;have hb3:=H2.out.alloc H2.out.size (.cells #[.int .i64 1,.int .i64 (p:Int),.string (S x)] 135);have HP:=Lib.hid (H.out.below hb3);have l1:=HP.out.l1;have f1:=HP.out.fr 1;have H3:=Lib.hid hb3;have hne:¬w2.heap.size=R:=(by have:=H2.out.size;omega);clear hb3)
    | (go_at_call 112;refine (QR.out _).mono ?_;rintro en w3 ⟨rfl,rfl⟩))
   refine bodyPost_ret (v:=.tuple #[.string (S x),.int .i64 0]) (by simp [results,Tryz.results137,go_sem]) rfl ?_
   have hxne:x≠[]:=fun e=>by have:=HK.out;rw [e] at this;exact absurd this (by decide)
   refine ⟨x,0,i+1,rfl,(Below.kp H3.out R Z0).set 1 none _,HP.out.set (q:=i+1) (HN.out hxne),HX.out,.inl ⟨rfl,rfl,by rw [HT.out],fun ns=>?_⟩⟩
   rw [HC.out,HT.out,nmS,if_neg (by simp),HR.out]
   rfl
  ·go_enter Tryz.func137,Tryz.ntmps137
   go_wp2_with (first
    | (go_at_call 94;refine Q.out.mono ?_;rintro en w2 ⟨rfl,hb2⟩;have H2:=Lib.hid hb2;clear hb2)
    | (go_at_call 112;refine (QR.out _).mono ?_;rintro en w3 ⟨rfl,rfl⟩))
   refine bodyPost_ret (v:=.tuple #[.string ⟨#[]⟩,.int .i64 7]) (by simp [results,Tryz.results137,go_sem]) rfl ?_
   have hb3:=H2.out.alloc H2.out.size (.cells #[.int .i64 1,.int .i64 (p:Int),.string (S x)] 135)
   refine ⟨[],7,i,rfl,Below.kp hb3 R Z0,H.out.below hb3,by simp,.inr ⟨.inr rfl,rfl,rfl,fun ns=>?_⟩⟩
   rw [HC.out,HT.out,nmS,if_neg (by simp),HR.out]
   rfl
end
end Go.Proofs.YtnghanpmmbcbbaaGreatDoor
namespace Go.Proofs.YtnghanpmmbcbbaaGreatDoor
open Go.RowKit
theorem RowAt.pcl {w:World} {l:List Tm} {b o:Nat} (h:RowAt w l b o):∀(j:Nat) (u:Value),(pcells l)[j]?=some u→w.cell? ((⟨b,o,none⟩:Addr).add j)=some u:=by
 induction l generalizing o with
 | nil=>intro j u hu;simp [pcells] at hu
 | cons t r ih =>
  intro j u hu
  simp only [RowAt] at h
  obtain ⟨⟨h0,h1,h2,h3⟩,_,hr⟩:=h
  rw [add_plain]
  simp only [pcells,List.flatMap_cons] at hu
  by_cases hj:j < 4
  ·rw [List.getElem?_append_left (by rw [pcell_len];exact hj)] at hu
   match j,hj with
   | 0,_=>rw [←hu];exact h0
   | 1,_=>rw [←hu];exact h1
   | 2,_=>rw [←hu];exact h2
   | 3,_=>rw [←hu];exact h3
  ·rw [List.getElem?_append_right (by rw [pcell_len];omega),pcell_len] at hu
   have:=ih hr (j - 4) u hu
   rw [add_plain,show o+4+(j - 4)=o+j by omega] at this
   exact this
theorem term_info:(Tryz.prog.info? 69).map (fun i=>(i.zero,i.size,i.bytes))=some (some (.agg #[.int .i64 0,.int .i64 0,.string ⟨#[]⟩,.slice none 0 0]),4,56):=by kernel_rfl
def PCloned (w:World) (l:List Tm) (e:Ending) (w':World):Prop:=∃g cap,e=.returned (.slice (some ⟨g,0,none⟩) l.length cap)∧w.heap.size≤g∧g < w'.heap.size∧l.length≤cap∧cap≤maxLen∧(∀j u,(pcells l)[j]?=some u→w'.cell? ⟨g,j,none⟩=some u)∧Below w.heap.size w w'∧∀j,w'.frozen? ⟨g,j,none⟩=false
set_option maxHeartbeats 400000 in
theorem pclone_at (l:List Tm) (b o c:Nat) (w:World) (h0:0 < l.length) (hl:RowAt w l b o) (hsz:l.length≤1000000) :
  Calls Tryz.prog 124 #[.slice (some ⟨b,o,none⟩) l.length c] w (PCloned w l):=by
 obtain ⟨i0,hi,hz0,hz1,hz2⟩:=info_parts term_info
 have hn:=fun (W:World)=>Lib.run_eql_slice_nil (P:=Tryz.prog) W 51 69 (some ⟨b,o,none⟩) l.length c 0 0 Tryz.underlying51
 go_enter Tryz.func124,Tryz.ntmps124
 have hl1:RowAt (w.alloc (.cells #[] 69)) l b o:=(At_keep ((Below.refl _ _).alloc (Nat.le_refl _) _)).2 _ _ _ hl
 have HC:=Lib.hid hl1.pcl
 have HO:=Lib.hid (World.ownsRow_lit (base:=w.heap.size) (e:=69) (size:=4) w #[] 0 (Nat.le_refl _) (Nat.zero_le _) rfl)
 clear hl hl1
 go_wp2_with (at_builtin;refine wpList_append_own _ rfl _ _ 51 rfl w.heap.size 69 i0 _ 4 56 Tryz.underlying51 hi hz0 hz1 hz2 rfl (by decide) _ 0 [] rfl HO.out ⟨b,o,none⟩ l.length c (pcells l) rfl (pcells_length l) HC.out (pcells_one l) (by unfold maxLen;omega) (by omega) (by simp) ?_;intro v' w1 hown1 hg1 _)
 have HG:=Lib.hid hg1
 have HW:=Lib.hid hown1
 clear hg1 hown1
 go_ret
 obtain ⟨hlen,hv⟩:=HW.out
 rcases hv with ⟨_,h⟩|⟨g,cap,cur,rfl,hb,hheap,hle,hcap,_,hcur⟩
 ·omega
 ·refine ⟨g,cap,by simp only [Nat.zero_add];rfl,hb,?_,by omega,hcap,fun j u hu=>?_,?_,fun j=>by simp [World.frozen?,hheap]⟩
  ·rcases Nat.lt_or_ge g w1.heap.size with h|h
   ·exact h
   ·rw [Array.getElem?_eq_none h] at hheap;cases hheap
  ·have hj:j < (pcells l).length:=(List.getElem?_eq_some_iff.1 hu).1
   rw [pcells_length] at hj
   rw [World.ownsRow.cellAt HW.out j (by omega)]
   simpa using hu
  ·exact ((Below.refl _ _).alloc (Nat.le_refl _) _).grown HG.out (by simp) (fun k hk=>(World.ownsRow.lt HO.out k hk).1)
theorem clip_at (A:Option Addr) (n c:Nat) (w:World) (hn:n≤c) (_hc:c≤9223372036854775807) :
  Calls Tryz.prog 236 #[.slice A n c] w fun e w'=>e=.returned (.slice A n n)∧w=w':=by
 go_enter Tryz.func236,Tryz.ntmps236
 go_wp2_with fail
 go_ret
 exact ⟨rfl,rfl⟩
theorem clone_none (w:World) :
  Calls Tryz.prog 124 #[.slice none 0 0] w fun e w'=>e=.returned (.slice none 0 0)∧w=w':=by
 have hn:=fun (W:World)=>Lib.run_eql_slice_nil (P:=Tryz.prog) W 51 69 none 0 0 0 0 Tryz.underlying51
 go_enter Tryz.func124,Tryz.ntmps124
 go_wp2_with fail
 go_ret
 exact ⟨rfl,rfl⟩
def FunQ (lo:Nat) (w:World) (s:ByteArray) (l:List Tm) (e:Ending) (w':World):Prop :=
 ∃A,e=.returned (Tm.mk 2 0 s A l.length l).val∧Below w.heap.size w w'∧SitG elTm lo w' [.mk 2 0 s A l.length l]∧∀b∈blkA A l.length,w.heap.size≤b
theorem sit_fun {lo g:Nat} {w w':World} {s:ByteArray} {l:List Tm} (hs:s.size≤maxLen) (hl:SitG elTm lo w l) (hb:Below w.heap.size w w') (h0:0 < l.length) (hsz:l.length≤1000000) (hlo:lo≤w.heap.size) (hg:w.heap.size≤g) (hg':g < w'.heap.size)
  (hc:∀j u,(pcells l)[j]?=some u→w'.cell? ⟨g,j,none⟩=some u) (hfz:∀j,w'.frozen? ⟨g,j,none⟩=false):SitG elTm lo w' [.mk 2 0 s (some ⟨g,0,none⟩) l.length l]:=by
 have hl2:=hl.below hb
 have e:elTm.blkL [Tm.mk 2 0 s (some ⟨g,0,none⟩) l.length l]=g :: elTm.blkL l:=by
  simp only [Elt.blkL,List.flatMap_cons,List.flatMap_nil,List.append_nil]
  show (Tm.mk 2 0 s (some ⟨g,0,none⟩) l.length l).blk=g :: l.flatMap Tm.blk
  rw [Tm.blk,blkA,if_neg (by omega),blkO,blkL_flat]
  rfl
 refine ⟨fun x hx=>?_,?_,fun b hb2=>?_,fun b hb2=>?_⟩
 ·rw [List.mem_singleton.1 hx]
  refine (At_iff _ _).2 ⟨⟨by simp only [Tm.kind];unfold Fits;omega,by simp only [Tm.num];unfold Fits;omega,hs⟩,Nat.le_refl _,by unfold maxLen;simp only [Tm.cap];omega,fun _=>⟨g,0,rfl,RowAt.of fun i hi=>⟨fun j u hu=>?_,hl2.at_ _ (getD_mem hi)⟩⟩⟩
  have hj:j < 4:=by
   have:=(List.getElem?_eq_some_iff.1 hu).1
   simpa [Tm.cells] using this
  rw [Nat.zero_add]
  exact hc _ _ ((pcells_get l hi hj).trans hu)
 ·rw [e,List.nodup_cons]
  refine ⟨fun hx=>?_,hl.nd⟩
  have:=(hl.bd g hx).2
  omega
 ·rw [e] at hb2
  rcases List.mem_cons.1 hb2 with rfl|hb2
  ·exact ⟨Nat.le_trans hlo hg,hg'⟩
  ·exact hl2.bd b hb2
 ·rw [e] at hb2
  rcases List.mem_cons.1 hb2 with rfl|hb2
  ·exact hfz
  ·exact hl2.fz b hb2
set_option maxHeartbeats 400000 in
theorem fun_some (lo:Nat) (s:ByteArray) (l:List Tm) (b o c:Nat) (w:World) (h0:0 < l.length) (hl:RowAt w l b o) (hsz:l.length≤1000000) (hs:s.size≤maxLen) (hlo:lo≤w.heap.size) (hsit:SitG elTm lo w l) :
  Calls Tryz.prog 227 #[.string s,.slice (some ⟨b,o,none⟩) l.length c] w (FunQ lo w s l):=by
 have Q1:=Lib.hid (fun W (h:Below w.heap.size w W)=>pclone_at l b o c W h0 ((At_keep h).2 _ _ _ hl) hsz)
 have HS:=Lib.hid hsit
 clear hl hsit
 go_enter Tryz.func227,Tryz.ntmps227
 go_wp2_with fail
 refine (Q1.out _ ((Below.refl _ _).alloc (Nat.le_refl _) _)).mono ?_
 rintro e w1 ⟨g,cap,rfl,hg,hg',hle,hcap,hc,hb,hfg⟩
 have hcap':cap≤9223372036854775807:=by unfold maxLen at hcap;exact hcap
 obtain ⟨d0,d1,d2,d3,hb1⟩:=box4 hb
 have f0:∀j,w1.frozen? ⟨w.heap.size,j,none⟩=false:=fun j=>by
  rw [hb.frozen (p:=⟨w.heap.size,j,none⟩) (by simp),World.frozen?_alloc_at _ _ _ _ rfl]
 have HC:=Lib.hid hc
 have HFg:=Lib.hid hfg
 have HB:=Lib.hid hb
 have hgw:w.heap.size < g:=by simp at hg;omega
 have f00:=f0 0
 have f01:=f0 1
 have f02:=f0 2
 have f03:=f0 3
 clear hc hb f0 hg hfg
 go_wp2_with fail
 refine (clip_at _ _ _ _ hle hcap').mono ?_
 rintro e w2 ⟨rfl,rfl⟩
 go_wp2_with fail
 have hb2:Below w.heap.size w ((((w1.setCell ⟨w.heap.size,0,none⟩ (.int .i64 2)).setCell ⟨w.heap.size,1,none⟩ (.int .i64 0)).setCell ⟨w.heap.size,2,none⟩ (.string s)).setCell ⟨w.heap.size,3,none⟩ (.slice (some ⟨g,0,none⟩) l.length l.length)) :=
  (((hb1.setCell (Nat.le_refl _) _).setCell (Nat.le_refl _) _).setCell (Nat.le_refl _) _).setCell (Nat.le_refl _) _
 refine bodyPost_ret (v:=.agg #[.int .i64 2,.int .i64 0,.string s,.slice (some ⟨g,0,none⟩) l.length l.length]) (by simp [results,Tryz.results227,go_sem,d0,d1,d2,d3]) rfl ⟨some ⟨g,0,none⟩,rfl,hb2,?_,fun b hb=>by rw [blkA,if_neg (by omega),blkO,List.mem_singleton] at hb;simp only at hb;omega⟩
 refine sit_fun hs HS.out hb2 h0 hsz hlo (by omega) (by simpa [World.setCell] using hg') (fun j u hu=>?_) (fun j=>by rw [World.frozen?_setCell,World.frozen?_setCell,World.frozen?_setCell,World.frozen?_setCell];exact HFg.out j)
 have hne:∀q:Nat,(⟨g,j,none⟩:Addr)≠⟨w.heap.size,q,none⟩:=fun q e=>by injection e with e _;omega
 rw [World.cell?_setCell_other _ _ _ _ (hne 3).symm,World.cell?_setCell_other _ _ _ _ (hne 2).symm,World.cell?_setCell_other _ _ _ _ (hne 1).symm,World.cell?_setCell_other _ _ _ _ (hne 0).symm]
 exact HC.out _ _ hu
theorem fun_nil (lo:Nat) (s:ByteArray) (w:World) (hs:s.size≤maxLen) :
  Calls Tryz.prog 227 #[.string s,.slice none 0 0] w (FunQ lo w s []):=by
 go_enter Tryz.func227,Tryz.ntmps227
 go_wp2_with fail
 refine (clone_none _).mono ?_
 rintro e w1 ⟨rfl,rfl⟩
 go_wp2_with fail
 refine (clip_at _ _ _ _ (Nat.le_refl _) (by omega)).mono ?_
 rintro e w2 ⟨rfl,rfl⟩
 go_wp2_with fail
 refine bodyPost_ret (v:=.agg #[.int .i64 2,.int .i64 0,.string s,.slice none 0 0]) (by simp [results,Tryz.results227,go_sem]) rfl ⟨none,rfl,(Below.refl _ _).alloc (Nat.le_refl _) _,⟨fun x hx=>?_,by simp [Elt.blkL,elTm,Tm.blk,blkA,blkL],fun b hb=>?_,fun b hb=>?_⟩,fun b hb=>(by simp [blkA] at hb)⟩
 ·rw [List.mem_singleton.1 hx]
  exact (At_iff _ _).2 ⟨⟨by simp only [Tm.kind];unfold Fits;omega,by simp only [Tm.num];unfold Fits;omega,hs⟩,Lst.nil _⟩
 ·simp [Elt.blkL,elTm,Tm.blk,blkA,blkL] at hb
 ·simp [Elt.blkL,elTm,Tm.blk,blkA,blkL] at hb
theorem fun_q (lo:Nat) (s:ByteArray) (l:List Tm) (A:Option Addr) (c:Nat) (w:World) (hl:Lst w A l c) (hA:l=[]→A=none∧c=0) (hsz:l.length≤1000000) (hs:s.size≤maxLen) (hlo:lo≤w.heap.size) (hsit:SitG elTm lo w l) :
  Calls Tryz.prog 227 #[.string s,.slice A l.length c] w (FunQ lo w s l):=by
 by_cases h0:l=[]
 ·obtain ⟨rfl,rfl⟩:=hA h0
  subst h0
  exact fun_nil lo s w hs
 ·have hp:0 < l.length:=List.length_pos_iff.2 h0
  obtain ⟨b,o,rfl,hr⟩:=hl.2.2 hp
  exact fun_some lo s l b o c w hp hr hsz hs hlo hsit
end Go.Proofs.YtnghanpmmbcbbaaGreatDoor
namespace Go.Proofs.YtnghanpmmbcbbaaGreatDoor
open Go.RowKit
section
variable {σ:Type}
def runV (step:σ→Int→Bool×σ):σ→List Int→Bool×σ
 | s,[]=>(true,s)
 | s,x :: r=>if (step s x).1 then runV step (step s x).2 r else (false,(step s x).2)
structure Visits (step:σ→Int→Bool×σ) (Inv:Nat→σ→World→Prop) (w0:World) (F:FuncId) (caps:Array Value):Prop where
 enter:∀(args:Array Value) (W:World),(callFunc F args).run Tryz.prog W=.ok (.enter F args) W
 call:∀(f:Nat) (s:σ) (n:Int) (W:World),Fits n→Inv (f+1) s W→Calls Tryz.prog F (#[.int .i64 n]++caps) W fun e W'=>e=.returned (.bool (step s n).1)∧Inv f (step s n).2 W'
 keep:∀(f:Nat) (s:σ) (W W':World),Inv f s W→Below W.heap.size W W'→Inv f s W'
 less:∀(f g:Nat) (s:σ) (W:World),g≤f→Inv f s W→Inv g s W
 base:∀(f:Nat) (s:σ) (W:World),Inv f s W→Below w0.heap.size w0 W
end
end Go.Proofs.YtnghanpmmbcbbaaGreatDoor
namespace Go.Proofs.YtnghanpmmbcbbaaGreatDoor
open Go.RowKit
theorem enters_fn {f:FuncId} {fn:Func} {c:Code} (hf:Tryz.prog.funcs[f]?=some fn) (hname:(fn.name == "runtime.NumGoroutine")=false) (hb:fn.body=some c) (args:Array Value) (W:World) :
  (callFunc f args).run Tryz.prog W=.ok (.enter f args) W:=by
 have h1:fn.name ≠ "runtime.NumGoroutine" := by simpa using hname
 simp [callFunc,hf,h1,hb,mark]
def noStep (_:Unit) (_:Int):Bool×Unit:=(false,())
def otherStep (v:Int) (_:Unit) (n:Int):Bool×Unit:=(n != v,())
end Go.Proofs.YtnghanpmmbcbbaaGreatDoor
namespace Go.Proofs.YtnghanpmmbcbbaaGreatDoor
open Go.RowKit
def icells (l:List Int):List Value:=l.map (Value.int .i64)
theorem icells_append (l m:List Int):icells (l++m)=icells l++icells m:=by simp [icells]
theorem icells_one (l:List Int):∀u∈icells l,u.oneCell'=true:=by
 intro u hu
 obtain ⟨_,_,rfl⟩:=List.mem_map.1 hu
 rfl
theorem icells_get {l:List Int} {i:Nat} (h:i < l.length):(icells l)[i]?=some (.int .i64 (l.getD i 0)):=by simp [icells,List.getD,h]
def Ints (w:World) (A:Option Addr) (l:List Int):Prop:=0 < l.length→∃b o,A=some ⟨b,o,none⟩∧∀i,i < l.length→w.cell? ⟨b,o+i,none⟩=some (.int .i64 (l.getD i 0))
theorem Ints.get {w:World} {A:Option Addr} {l:List Int} (h:Ints w A l) {i:Nat} (hi:i < l.length):∃b o,A=some ⟨b,o,none⟩∧w.cell? ⟨b,o+i,none⟩=some (.int .i64 (l.getD i 0)):=by
 obtain ⟨b,o,e,hc⟩:=h (by omega)
 exact ⟨b,o,e,hc i hi⟩
theorem Ints.below {w w':World} {A:Option Addr} {l:List Int} (h:Ints w A l) (hb:Below w.heap.size w w'):Ints w' A l:=fun hn=>by
 obtain ⟨b,o,e,hc⟩:=h hn
 refine ⟨b,o,e,fun i hi=>?_⟩
 rw [hb.cell (World.block_lt_of_cell? w _ (hc i hi))]
 exact hc i hi
def OwnI (w:World) (base:Nat) (v:Value) (l:List Int):Prop:=w.ownsRow base 3 1 v l.length (icells l)
theorem OwnI.nil (w:World) (base:Nat):OwnI w base (.slice none 0 0) []:=World.ownsRow_nil w base _ _
theorem OwnI.form {w:World} {base:Nat} {v:Value} {l:List Int} (h:OwnI w base v l):∃A c,v=.slice A l.length c∧Ints w A l∧l.length≤c:=by
 rcases h.2 with ⟨rfl,h0⟩|⟨g,cap,cur,rfl,_,_,hn,_,_,_⟩
 ·exact ⟨none,0,by rw [h0],fun hn=>absurd hn (by omega),by omega⟩
 ·refine ⟨_,cap,rfl,fun _=>⟨g,0,rfl,fun i hi=>?_⟩,hn⟩
  rw [Nat.zero_add,World.ownsRow.cellAt h i (by omega),icells_get hi]
theorem OwnI.alloc {w:World} {base:Nat} {v:Value} {l:List Int} (h:OwnI w base v l) (o:Obj):OwnI (w.alloc o) base v l:=World.ownsRow.alloc h o
theorem OwnI.below {w w':World} {base:Nat} {v:Value} {l:List Int} (h:OwnI w base v l) (hb:Below w.heap.size w w'):OwnI w' base v l :=
 World.ownsRow.kept (row:=none) h ⟨hb.os,hb.tape,hb.output,hb.size,fun k hk _=>hb.block k hk⟩ (by
  rcases h.2 with ⟨rfl,_⟩|⟨g,cap,cur,rfl,_⟩
  ·exact .inl rfl
  ·exact .inr (by simp [Value.ownBlock]))
theorem take_int {l:List Int} {k:Nat} (h:k < l.length):l.take (k+1)=l.take k++[l.getD k 0]:=by
 rw [List.take_succ_eq_append_getElem h]
 simp [List.getD,List.getElem?_eq_getElem h]
theorem getD_int {l:List Int} {k:Nat} (h:k < l.length):l.getD k 0∈l:=by
 simp only [List.getD,List.getElem?_eq_getElem h,Option.getD_some]
 exact List.getElem_mem h
set_option maxHeartbeats 400000 in
theorem has_at (A:Option Addr) (l:List Int) (c:Nat) (n:Int) (w:World) (hI:Ints w A l) (hlen:l.length≤9223372036854775807) {r:Bool} (hr:decide (n∈l)=r) :
  Calls Tryz.prog 102 #[.slice A l.length c,.int .i64 n] w fun e w'=>e=.returned (.bool r)∧w=w':=by
 have HR:=Lib.hid hr
 clear hr
 go_enter Tryz.func102,Tryz.ntmps102
 go_wp2
 go_loop [5] (fun i=>∃j:Nat,j≤l.length∧i=.int .i64 j∧Hid (n∉l.take j)) (fun i=>l.length - (intOf i).toNat)
 case atStart=>exact ⟨0,Nat.zero_le _,rfl,Lib.hid (by simp)⟩
 case round =>
  obtain ⟨j,hj,rfl,HN⟩:=hrel
  by_cases hlt:j < l.length
  ·obtain ⟨b,o,rfl,hc⟩:=hI.get hlt
   have HT:=Lib.hid (take_int hlt)
   have HM:=Lib.hid (getD_int hlt)
   generalize l.getD j 0=x at *
   by_cases hx:x=n
   ·subst hx
    have HE:=Lib.hid (show true=r by rw [←HR.out];simp [HM.out])
    go_wp2
    go_ret
    exact ⟨by rw [←HE.out];rfl,rfl⟩
   ·have hx':(x==n)=false:=by simpa using hx
    have HN':=Lib.hid (show n∉l.take (j+1) by
     rw [HT.out,List.mem_append,List.mem_singleton]
     exact fun h=>h.elim HN.out (fun e=>hx e.symm))
    clear hx
    go_wp2
    go_round
    case rel=>exact ⟨j+1,by omega,by go_num,HN'⟩
    case measure=>simp [intOf];omega
  ·obtain rfl:j=l.length:=by omega
   have HE:=Lib.hid (show false=r by
    have:=HN.out
    rw [List.take_length] at this
    rw [←HR.out];simp [this])
   go_wp2
   go_ret
   exact ⟨by rw [←HE.out];rfl,rfl⟩
end Go.Proofs.YtnghanpmmbcbbaaGreatDoor
