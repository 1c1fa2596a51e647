/-
  PgMem.
  PrWant.
  PrName.
 PrValue.
 PaNames.
 PrVar.
 RzMem.
-/
import Derived.Test.YtaojnljppcnhjaaGreatDoorMf2
import Derived.Test.YtaojnljppcnhjaaGreatDoorMf3
import Derived.Test.YtaojnljppcnhjaaGreatDoorMf5
import Derived.Test.YtaojnljppcnhjaaGreatDoorMf4
namespace Go.Proofs.YtaojnljppcnhjaaGreatDoor
open Go.RowKit
def blkO:Option Addr→List Nat
 | some p=>[p.block]
 | none=>[]
def blkA (A:Option Addr) (n:Nat):List Nat:=if n=0 then [] else blkO A
mutual
def Tm.blk:Tm→List Nat
 | .mk _ _ _ A _ a=>blkA A a.length++blkL a
def blkL:List Tm→List Nat
 | []=>[]
 | t :: r=>t.blk++blkL r
end
theorem blkL_flat (l:List Tm):blkL l=l.flatMap Tm.blk:=by
 induction l with
 | nil=>rfl
 | cons t r ih=>rw [blkL,ih,List.flatMap_cons]
theorem blkL_append (l m:List Tm):blkL (l++m)=blkL l++blkL m:=by rw [blkL_flat,blkL_flat,blkL_flat,List.flatMap_append]
theorem at_blk {w w':World}:(∀t:Tm,t.At w→(∀b∈t.blk,w'.heap[b]?=w.heap[b]?)→t.At w')∧(∀(l:List Tm) b o,RowAt w l b o→(l≠[]→w'.heap[b]?=w.heap[b]?)→(∀k∈blkL l,w'.heap[k]?=w.heap[k]?)→RowAt w' l b o):=by
 refine Tm.induct2 (p:=fun t=>t.At w→(∀b∈t.blk,w'.heap[b]?=w.heap[b]?)→t.At w') (q:=fun l=>∀b o,RowAt w l b o→(l≠[]→w'.heap[b]?=w.heap[b]?)→(∀k∈blkL l,w'.heap[k]?=w.heap[k]?)→RowAt w' l b o) (fun k n s A c a ih=>?_) (fun _ _ _ _ _=>by simp [RowAt]) (fun t r h1 h2=>?_)
 ·intro h hb
  simp only [Tm.At] at h ⊢
  refine ⟨h.1,h.2.1,h.2.2.1,fun hn=>?_⟩
  obtain ⟨b,o,rfl,hr⟩:=h.2.2.2 hn
  refine ⟨b,o,rfl,ih b o hr (fun _=>hb b ?_) fun j hj=>hb j ?_⟩
  ·simp only [Tm.blk,blkA,if_neg (show ¬a.length=0 by omega),blkO,List.mem_append,List.mem_singleton,true_or]
  ·simp only [Tm.blk,List.mem_append];exact .inr hj
 ·intro b o h hb hk
  simp only [RowAt] at h ⊢
  have e:∀j,w'.cell? ⟨b,j,none⟩=w.cell? ⟨b,j,none⟩:=fun j=>World.cell?_of_block (hb (by simp))
  refine ⟨by rw [e,e,e,e];exact h.1,h1 h.2.1 fun j hj=>hk j (by simp [blkL,hj]),h2 b (o+4) h.2.2 (fun _=>hb (by simp)) fun j hj=>hk j (by simp [blkL,hj])⟩
theorem lst_blk {w w':World} {A:Option Addr} {l:List Tm} {c:Nat} (h:Lst w A l c) (hb:∀b∈blkA A l.length++blkL l,w'.heap[b]?=w.heap[b]?):Lst w' A l c:=by
 refine ⟨h.1,h.2.1,fun hn=>?_⟩
 obtain ⟨b,o,rfl,hr⟩:=h.2.2 hn
 refine ⟨b,o,rfl,at_blk.2 l b o hr (fun _=>hb b ?_) fun j hj=>hb j (List.mem_append.2 (.inr hj))⟩
 simp [blkA,blkO,show ¬l.length=0 by omega]
structure Elt (α:Type) where
 k:Nat
 cells:α→List Value
 len:∀x,(cells x).length=k
 one:∀x,∀v∈cells x,v.oneCell'=true
 blk:α→List Nat
 At:World→α→Prop
 frame:∀{x w w'},At w x→(∀b∈blk x,w'.heap[b]?=w.heap[b]?)→At w' x
def elTm:Elt Tm:=⟨4,Tm.cells,fun _=>rfl,fun x v hv=>by
 simp only [Tm.cells,List.mem_cons,List.not_mem_nil,or_false] at hv
 rcases hv with rfl|rfl|rfl|rfl<;>rfl,Tm.blk,fun w t=>t.At w,fun h hb=>at_blk.1 _ h hb⟩
def elAm:Elt Am:=⟨2,fun x=>[.string x.name,.slice x.at_ x.args.length x.cap],fun _=>rfl,fun x v hv=>by
 simp only [List.mem_cons,List.not_mem_nil,or_false] at hv
 rcases hv with rfl|rfl<;>rfl,fun x=>blkA x.at_ x.args.length++blkL x.args,fun w x=>x.At w∧(x.args=[]→x.at_=none∧x.cap=0)∧x.args.length≤16385,fun h hb=>⟨⟨h.1.1,lst_blk h.1.2 hb⟩,h.2⟩⟩
def elGl:Elt Gl:=⟨3,fun x=>[.int .i64 x.op,.string x.name,.slice x.at_ x.args.length x.cap],fun _=>rfl,fun x v hv=>by
 simp only [List.mem_cons,List.not_mem_nil,or_false] at hv
 rcases hv with rfl|rfl|rfl<;>rfl,fun x=>blkA x.at_ x.args.length++blkL x.args,fun w x=>x.At w,fun h hb=>⟨h.1,h.2.1,lst_blk h.2.2 hb⟩⟩
abbrev Dl:=List UInt8×Int
def elDl:Elt Dl:=⟨2,fun x=>[.string (S x.1),.int .i64 x.2],fun _=>rfl,fun x v hv=>by
 simp only [List.mem_cons,List.not_mem_nil,or_false] at hv
 rcases hv with rfl|rfl<;>rfl,fun _=>[],fun _ _=>True,fun h _=>h⟩
section
variable {α:Type} (E:Elt α)
def Elt.cellsL (l:List α):List Value:=l.flatMap E.cells
def Elt.blkL (l:List α):List Nat:=l.flatMap E.blk
theorem Elt.cellsL_len (l:List α):(E.cellsL l).length=l.length*E.k:=by
 induction l with
 | nil=>simp [Elt.cellsL]
 | cons t r ih=>simp only [Elt.cellsL,List.flatMap_cons,List.length_append,E.len,List.length_cons,Nat.add_mul] at *;omega
theorem Elt.cellsL_append (l m:List α):E.cellsL (l++m)=E.cellsL l++E.cellsL m:=by simp [Elt.cellsL]
theorem Elt.blkL_append (l m:List α):E.blkL (l++m)=E.blkL l++E.blkL m:=by simp [Elt.blkL]
theorem Elt.blkL_one (x:α):E.blkL [x]=E.blk x:=by simp [Elt.blkL]
theorem Elt.cellsL_get [Inhabited α] (l:List α) {i j:Nat} (hi:i < l.length) (hj:j < E.k):(E.cellsL l)[i*E.k+j]?=(E.cells (l.getD i default))[j]?:=by
 induction l generalizing i with
 | nil=>simp at hi
 | cons t r ih =>
  simp only [Elt.cellsL,List.flatMap_cons]
  cases i with
  | zero =>
   rw [List.getElem?_append_left (by rw [E.len];omega)]
   simp
  | succ i =>
   rw [List.getElem?_append_right (by rw [E.len,Nat.add_mul];omega),E.len,show (i+1)*E.k+j - E.k=i*E.k+j by rw [Nat.add_mul];omega]
   simpa [Elt.cellsL] using ih (by simpa using hi)
structure SitG (lo:Nat) (w:World) (l:List α):Prop where
 at_:∀x∈l,E.At w x
 nd:(E.blkL l).Nodup
 bd:∀b∈E.blkL l,lo≤b∧b < w.heap.size
 fz:∀b∈E.blkL l,∀j,w.frozen? ⟨b,j,none⟩=false
variable {E}
theorem SitG.frame {lo:Nat} {w w':World} {l:List α} (h:SitG E lo w l) (hs:w.heap.size≤w'.heap.size) (hb:∀b∈E.blkL l,w'.heap[b]?=w.heap[b]?):SitG E lo w' l :=
 ⟨fun x hx=>E.frame (h.at_ x hx) fun b hbx=>hb b (List.mem_flatMap.2 ⟨x,hx,hbx⟩),h.nd,fun b hx=>⟨(h.bd b hx).1,Nat.lt_of_lt_of_le (h.bd b hx).2 hs⟩,fun b hx j=>by rw [World.frozen?_of_block (a:=⟨b,j,none⟩) (hb b hx)];exact h.fz b hx j⟩
theorem SitG.below {lo:Nat} {w w':World} {l:List α} (h:SitG E lo w l) (hb:Below w.heap.size w w'):SitG E lo w' l:=h.frame hb.size fun b hx=>hb.block b (h.bd b hx).2
theorem SitG.low {lo lo':Nat} {w:World} {l:List α} (h:SitG E lo w l) (hl:lo'≤lo):SitG E lo' w l:=⟨h.at_,h.nd,fun b hb=>⟨Nat.le_trans hl (h.bd b hb).1,(h.bd b hb).2⟩,h.fz⟩
theorem SitG.nil (lo:Nat) (w:World):SitG E lo w []:=⟨fun _ h=>(by cases h),by simp [Elt.blkL],fun _ h=>(by simp [Elt.blkL] at h),fun _ h=>(by simp [Elt.blkL] at h)⟩
theorem SitG.append {lo m:Nat} {w:World} {l k:List α} (h:SitG E lo w l) (h2:SitG E m w k) (hm:lo≤m) (hlt:∀b∈E.blkL l,b < m):SitG E lo w (l++k):=by
 refine ⟨fun x hx=>(List.mem_append.1 hx).elim (h.at_ x) (h2.at_ x),?_,fun b hb=>?_,fun b hb=>?_⟩
 ·rw [Elt.blkL_append,List.nodup_append]
  refine ⟨h.nd,h2.nd,fun a ha b hb e=>?_⟩
  have:=hlt a ha
  have:=(h2.bd b hb).1
  omega
 ·rw [Elt.blkL_append] at hb
  rcases List.mem_append.1 hb with hb|hb
  ·exact h.bd b hb
  ·exact ⟨Nat.le_trans hm (h2.bd b hb).1,(h2.bd b hb).2⟩
 ·rw [Elt.blkL_append] at hb
  exact (List.mem_append.1 hb).elim (h.fz b) (h2.fz b)
structure RowG (E:Elt α) (T:TypeId) (lo:Nat) (w:World) (r:Value) (l:List α):Prop where
 row:w.ownsRow lo T E.k r l.length (E.cellsL l)
 sit:SitG E lo w l
 apart:∀k,r.ownBlock=some k→k∉E.blkL l
variable {T:TypeId} {lo:Nat} {w w':World} {r:Value} {l:List α}
theorem RowG.frame (h:RowG E T lo w r l) (hs:w.heap.size≤w'.heap.size) (hb:∀b,lo≤b→b < w.heap.size→w'.heap[b]?=w.heap[b]?):RowG E T lo w' r l :=
 ⟨own_of h.row fun k hk=>hb k (own_lt h.row k hk).1 (own_lt h.row k hk).2,h.sit.frame hs fun b hx=>hb b (h.sit.bd b hx).1 (h.sit.bd b hx).2,h.apart⟩
theorem RowG.below (h:RowG E T lo w r l) (hb:Below w.heap.size w w'):RowG E T lo w' r l:=h.frame hb.size fun b _ h2=>hb.block b h2
theorem RowG.nil (E:Elt α) (T:TypeId) (lo:Nat) (w:World):RowG E T lo w (.slice none 0 0) []:=⟨⟨by simp [Elt.cellsL],.inl ⟨rfl,rfl⟩⟩,SitG.nil _ _,fun k hk=>(by cases hk)⟩
theorem RowG.next {m g cap:Nat} {w2 w3 w4:World} {u:α} (h:RowG E T lo w2 r l) (hm:lo≤m) (hrm:∀k,r.ownBlock=some k→k < m) (hlm:∀b∈E.blkL l,b < m) (hu:SitG E m w2 [u]) (hb:Below w2.heap.size w2 w3)
  (hown:w4.ownsRow lo T E.k (.slice (some ⟨g,0,none⟩) (l.length+1) cap) (l.length+1) (E.cellsL l++E.cells u)) (hg:w3.grownBy w4 r.ownBlock) (hat:r.ownBlock=some g∨g=w3.heap.size) :
  RowG E T lo w4 (.slice (some ⟨g,0,none⟩) (l.length+1) cap) (l++[u]):=by
 have hall:=h.sit.append hu hm hlm
 have h3:=hall.below hb
 refine ⟨by rw [List.length_append,Elt.cellsL_append];simpa [Elt.cellsL] using hown,h3.frame hg.size fun b hx=>hg.block b (h3.bd b hx).2 fun e=>?_,fun k hk hx=>?_⟩
 ·rw [Elt.blkL_append] at hx
  rcases List.mem_append.1 hx with hx|hx
  ·exact h.apart b e.symm hx
  ·have h1:=hrm b e.symm
   have h2:=(hu.bd b hx).1
   omega
 ·have e':g=k:=by simpa [Value.ownBlock] using hk
  subst e'
  rcases hat with h1|h1
  ·rw [Elt.blkL_append] at hx
   rcases List.mem_append.1 hx with hx|hx
   ·exact h.apart g h1 hx
   ·have h2:=hrm g h1
    have h4:=(hu.bd g hx).1
    omega
  ·have h2:=(hall.bd g hx).2
   have:=hb.size
   omega
theorem RowG.form (h:RowG E T lo w r l) (h0:0 < l.length):∃g c,r=.slice (some ⟨g,0,none⟩) l.length c∧l.length≤c∧c≤maxLen∧lo≤g∧g < w.heap.size∧g∉E.blkL l∧(∀j,w.frozen? ⟨g,j,none⟩=false)∧∀j u,(E.cellsL l)[j]?=some u→w.cell? ⟨g,j,none⟩=some u:=by
 rcases h.row.2 with ⟨_,h1⟩|⟨g,cap,cur,rfl,hb,hg,hle,hcap,hcs,hcur⟩
 ·omega
 ·have hlt:=own_lt h.row g rfl
  refine ⟨g,cap,rfl,hle,hcap,hlt.1,hlt.2,h.apart g rfl,fun j=>?_,fun j u hu=>?_⟩
  ·simp [World.frozen?,hg]
  ·have hj:j < (E.cellsL l).length:=(List.getElem?_eq_some_iff.1 hu).1
   rw [Elt.cellsL_len] at hj
   rw [World.ownsRow.cellAt h.row j hj];exact hu
end
abbrev Z0:Value:=.slice none 0 0
theorem Z0_own (k:Nat):Z0.ownBlock≠some k:=fun e=>by cases e
structure Pq (w:World) (R:Nat) (A:Option Addr) (c:Nat) (l:List Tk) (i:Nat):Prop where
 lt:R < w.heap.size
 l0:w.cell? ⟨R,0,none⟩=some (.slice A l.length c)
 l1:w.cell? ⟨R,1,none⟩=some (.int .i64 (i:Int))
 fr:∀j,w.frozen? ⟨R,j,none⟩=false
 toks:TLst w A l c
 low:∀g,A=some ⟨g,0,none⟩→g < R
 ilt:i < l.length
section
variable {w w':World} {R:Nat} {A:Option Addr} {c:Nat} {l:List Tk} {i:Nat}
theorem Pq.of (h:Pq w R A c l i) (hs:w.heap.size≤w'.heap.size) (hb:∀k,k≤R→w'.heap[k]?=w.heap[k]?):Pq w' R A c l i:=by
 have hR:=hb R (Nat.le_refl _)
 have hc:∀j,w'.cell? ⟨R,j,none⟩=w.cell? ⟨R,j,none⟩:=fun j=>World.cell?_of_block hR
 refine ⟨Nat.lt_of_lt_of_le h.lt hs,by rw [hc,h.l0],by rw [hc,h.l1],fun j=>by rw [World.frozen?_of_block (a:=⟨R,j,none⟩) hR];exact h.fr j,?_,h.low,h.ilt⟩
 refine ⟨h.toks.1,h.toks.2.1,fun hn=>?_⟩
 obtain ⟨g,e,hr⟩:=h.toks.2.2 hn
 have hg:=h.low g e
 exact ⟨g,e,fun i hi j u hu=>by rw [World.cell?_of_block (a:=⟨g,i*3+j,none⟩) (hb g (by omega))];exact hr i hi j u hu⟩
theorem Pq.below (h:Pq w R A c l i) (hb:Below w.heap.size w w'):Pq w' R A c l i:=h.of hb.size fun k hk=>hb.block k (by have:=h.lt;omega)
theorem Pq.drewN (h:Pq w R A c l i) (n:Nat):Pq (w.drewN n) R A c l i:=h.of (Nat.le_refl _) fun _ _=>rfl
theorem Pq.alloc (h:Pq w R A c l i) (o:Obj):Pq (w.alloc o) R A c l i:=h.below ((Below.refl _ _).alloc (Nat.le_refl _) o)
theorem Pq.put (h:Pq w R A c l i) {p:Addr} (hp:R < p.block) (v:Value):Pq (w.setCell p v) R A c l i :=
 h.of (by simp [World.setCell]) fun k hk=>Below.heap_setCell _ _ _ _ (by omega)
theorem Pq.grown {row:Option Nat} (h:Pq w R A c l i) (hg:w.grownBy w' row) (hr:∀k,row=some k→R < k):Pq w' R A c l i :=
 h.of hg.size fun k hk=>hg.block k (by have:=h.lt;omega) fun e=>by have:=hr k e.symm;omega
theorem Pq.set (h:Pq w R A c l i) {q:Nat} (hq:q < l.length):Pq (w.setCell ⟨R,1,none⟩ (.int .i64 (q:Int))) R A c l q:=by
 refine ⟨by simpa [World.setCell] using h.lt,?_,World.cell?_setCell_same _ _ _ (by rw [h.l1]),fun j=>by rw [World.frozen?_setCell];exact h.fr j,?_,h.low,hq⟩
 ·rw [World.cell?_setCell_other _ _ _ _ (by simp)];exact h.l0
 ·refine ⟨h.toks.1,h.toks.2.1,fun hn=>?_⟩
  obtain ⟨g,e,hr⟩:=h.toks.2.2 hn
  have hg:=h.low g e
  exact ⟨g,e,fun i hi j u hu=>by rw [World.cell?_setCell_other _ _ _ _ (by simp only [ne_eq,Addr.mk.injEq];omega)];exact hr i hi j u hu⟩
theorem Pq.tok (h:Pq w R A c l i):∃g,A=some ⟨g,0,none⟩∧w.cell? ⟨g,i*3,none⟩=some (.int .i64 (l.getD i default).1)∧w.cell? ⟨g,i*3+1,none⟩=some (.int .i64 ((l.getD i default).2.1:Int))∧w.cell? ⟨g,i*3+2,none⟩=some (.string (S (l.getD i default).2.2)):=h.toks.get h.ilt
abbrev Kq (R:Nat) (w w':World):Prop:=Kp R Z0 Z0 w w'
theorem SitG.kq {α:Type} {E:Elt α} {lo:Nat} {L:List α} (h:SitG E lo w L) (k:Kq R w w') (hR:R < lo):SitG E lo w' L:=h.frame k.size fun b hb=>k.block b (h.bd b hb).2 (by have:=(h.bd b hb).1;omega) (Z0_own b)
theorem RowG.kq {α:Type} {E:Elt α} {T:TypeId} {lo:Nat} {r:Value} {L:List α} (h:RowG E T lo w r L) (k:Kq R w w') (hR:R < lo):RowG E T lo w' r L:=h.frame k.size fun b h1 h2=>k.block b h2 (by omega) (Z0_own b)
end
structure BoxL (w:World) (T:Nat) (vs:List Value):Prop where
 lt:T < w.heap.size
 cells:∀j v,vs[j]?=some v→w.cell? ⟨T,j,none⟩=some v
 free:∀j,w.frozen? ⟨T,j,none⟩=false
section
variable {w w':World} {T:Nat} {vs:List Value}
theorem BoxL.of (h:BoxL w T vs) (hs:w.heap.size≤w'.heap.size) (hb:w'.heap[T]?=w.heap[T]?):BoxL w' T vs :=
 ⟨Nat.lt_of_lt_of_le h.lt hs,fun j v hv=>by rw [World.cell?_of_block (a:=⟨T,j,none⟩) hb];exact h.cells j v hv,fun j=>by rw [World.frozen?_of_block (a:=⟨T,j,none⟩) hb];exact h.free j⟩
theorem BoxL.below (h:BoxL w T vs) (hb:Below w.heap.size w w'):BoxL w' T vs:=h.of hb.size (hb.block T h.lt)
theorem BoxL.alloc (h:BoxL w T vs) (o:Obj):BoxL (w.alloc o) T vs:=h.below ((Below.refl _ _).alloc (Nat.le_refl _) o)
theorem BoxL.kq {R:Nat} (h:BoxL w T vs) (k:Kp R Z0 Z0 w w') (hT:T≠R):BoxL w' T vs:=h.of k.size (k.block T h.lt hT (Z0_own T))
theorem BoxL.put (h:BoxL w T vs) {p:Addr} (hp:p.block≠T) (v:Value):BoxL (w.setCell p v) T vs:=h.of (by simp [World.setCell]) (Below.heap_setCell _ _ _ _ hp.symm)
theorem BoxL.grown {row:Option Nat} (h:BoxL w T vs) (hg:w.grownBy w' row) (hr:row≠some T):BoxL w' T vs:=h.of hg.size (hg.block T h.lt (fun e=>hr e.symm))
theorem BoxL.new (w:World) (vs:List Value) (t:TypeId):BoxL (w.alloc (.cells vs.toArray t)) w.heap.size vs :=
 ⟨by simp,fun j v hv=>by rw [World.cell?_alloc_at _ _ _ _ rfl,List.getElem?_toArray];exact hv,fun j=>World.frozen?_alloc_at _ _ _ _ rfl⟩
theorem BoxL.set (h:BoxL w T vs) {j:Nat} (hj:j < vs.length) (v:Value):BoxL (w.setCell ⟨T,j,none⟩ v) T (vs.set j v):=by
 refine ⟨by simpa [World.setCell] using h.lt,fun i u hu=>?_,fun i=>by rw [World.frozen?_setCell];exact h.free i⟩
 by_cases e:i=j
 ·subst e
  rw [List.getElem?_set_self hj] at hu
  injection hu with hu
  subst hu
  exact World.cell?_setCell_same _ _ _ (by rw [h.cells i _ (List.getElem?_eq_getElem hj)])
 ·rw [List.getElem?_set_ne (fun h=>e h.symm)] at hu
  rw [World.cell?_setCell_other _ _ _ _ (by simp only [ne_eq,Addr.mk.injEq,true_and,and_true];omega)]
  exact h.cells i u hu
theorem BoxL.set4 {a b c d:Value} (h:BoxL w T [a,b,c,d]) (a' b' c' d':Value):BoxL ((((w.setCell ⟨T,0,none⟩ a').setCell ⟨T,1,none⟩ b').setCell ⟨T,2,none⟩ c').setCell ⟨T,3,none⟩ d') T [a',b',c',d'] :=
 (((h.set (j:=0) (by simp) a').set (j:=1) (by simp) b').set (j:=2) (by simp) c').set (j:=3) (by simp) d'
theorem SitG.put {α:Type} {E:Elt α} {lo:Nat} {L:List α} (h:SitG E lo w L) {p:Addr} (hp:p.block∉E.blkL L) (v:Value):SitG E lo (w.setCell p v) L :=
 h.frame (by simp [World.setCell]) fun b hb=>Below.heap_setCell _ _ _ _ (fun e=>hp (e ▸ hb))
end
def kindO:List UInt8→Int
 | []=>0
 | c :: _=>if lowB c then 1 else if wordyB c then 2 else if digB c then 3 else 4
structure GoodT (l:List Tk):Prop where
 ended:Ended l
 kinds:∀i,i < l.length→(l.getD i default).1=kindO (l.getD i default).2.2
 nums:∀i,i < l.length→(l.getD i default).1=3→(∀c∈(l.getD i default).2.2,digB c=true)∧valD (l.getD i default).2.2≤2147483648
 offs:∀i,i < l.length→(l.getD i default).2.1≤16384
 small:l.length≤16385
 texts:∀i,i < l.length→(l.getD i default).2.2.length≤16384
theorem GoodT.acc {l:List Tk} (h:GoodT l) {i:Nat} (hi:i < l.length) {s:List UInt8} {k:Int} (hs:kindO s=k):((l.getD i default).2.2==s)=isT k s (l.getD i default):=by
 unfold isT
 by_cases e:(l.getD i default).2.2=s
 ·rw [h.kinds i hi,e,hs];simp
 ·rw [beq_eq_false_iff_ne.2 e,Bool.and_false]
end Go.Proofs.YtaojnljppcnhjaaGreatDoor
namespace Go.Proofs.YtaojnljppcnhjaaGreatDoor
open Go.RowKit
section
variable {w:World} {R:Nat} {A:Option Addr} {c:Nat} {l:List Tk} {i:Nat} {z:Value} {ns:List (List UInt8)} {at_:Nat} {er:Int}
def WantR (R:Nat) (A:Option Addr) (c:Nat) (l:List Tk) (i:Nat) (z:Value) (ns:List (List UInt8)) (s:List UInt8) (w:World) (en:Ending) (w':World):Prop :=
 (isT 4 s (l.getD i default)=true∧en=.returned (.bool true)∧Kp R z z w w'∧∃a,Pr w' R A c l (stepI l i) z ns a 0) ∨
 (isT 4 s (l.getD i default)=false∧en=.returned (.bool false)∧FailedAt R A c l i z ns w (l.getD i default).2.1 16 w')
set_option maxHeartbeats 1000000 in
set_option maxRecDepth 10000 in
theorem r_want_at (h:Pr w R A c l i z ns at_ 0) (s:List UInt8) :
  Calls Tryz.prog 50 #[.pointer (some ⟨R,0,none⟩),.string (S s)] w (WantR R A c l i z ns s w):=by
 have Q:=Lib.hid (r_is_at h s)
 have H:=Lib.hid h
 generalize ht:l.getD i default=t at Q
 obtain ⟨k,p,x⟩:=t
 have QT:=Lib.hid (fun W (hb:Below w.heap.size w W)=>r_tok_of (h.below hb) ht)
 have QF:=Lib.hid (fun W (hb:Below w.heap.size w W)=>r_fail_at (h.below hb) p 16)
 have QN:=Lib.hid (fun W (hb:Below w.heap.size w W)=>r_next_at (h.below hb))
 have fa:=tok_at k p (S x)
 obtain ⟨b,hb⟩:∃b,isT 4 s (k,p,x)=b:=⟨_,rfl⟩
 rw [hb] at Q
 have HE:=Lib.hid (show isT 4 s (l.getD i default)=b by rw [ht];exact hb)
 have HP:=Lib.hid (show (l.getD i default).2.1=p by rw [ht])
 clear h ht hb
 cases b
 ·go_enter Tryz.func50,Tryz.ntmps50
  go_wp2_with (first
   | (go_at_call 47;refine Q.out.mono ?_;rintro en w1 ⟨rfl,hb1⟩;have H1:=Lib.hid hb1;clear hb1)
   | (go_at_call 27;refine (QT.out _ H1.out).mono ?_;rintro en w2 ⟨rfl,hb2⟩;have H2:=Lib.hid (H1.out.trans (hb2.mono H1.out.size));clear hb2)
   | (go_at_call 31;refine (QF.out _ H2.out).mono ?_;rintro en w3 ⟨rfl,hk3,hp3⟩;have H3:=Lib.hid (And.intro ((Below.kp H2.out R z).trans hk3) hp3);clear hk3 hp3))
  go_ret
  exact .inr ⟨HE.out,rfl,by rw [HP.out];exact H3.out⟩
 ·go_enter Tryz.func50,Tryz.ntmps50
  go_wp2_with (first
   | (go_at_call 47;refine Q.out.mono ?_;rintro en w1 ⟨rfl,hb1⟩;have H1:=Lib.hid hb1;clear hb1)
   | (go_at_call 48;refine (QN.out _ H1.out).mono ?_;rintro en w3 ⟨rfl,hk3,hp3⟩;have H3:=Lib.hid (And.intro ((Below.kp H1.out R z).trans hk3) hp3);clear hk3 hp3))
  go_ret
  exact .inl ⟨HE.out,rfl,H3.out.1,_,H3.out.2⟩
end
end Go.Proofs.YtaojnljppcnhjaaGreatDoor
namespace Go.Proofs.YtaojnljppcnhjaaGreatDoor
open Go.RowKit
section
variable {w:World} {R:Nat} {A:Option Addr} {c:Nat} {l:List Tk} {i:Nat} {z:Value} {ns:List (List UInt8)} {at_:Nat} {er:Int}
def NameR (R:Nat) (A:Option Addr) (c:Nat) (l:List Tk) (i:Nat) (z:Value) (ns:List (List UInt8)) (w:World) (en:Ending) (w':World):Prop :=
 ((l.getD i default).1=1∧resB (l.getD i default).2.2=false∧en=.returned (.tuple #[.string (S (l.getD i default).2.2),.bool true])∧Kp R z z w w'∧∃a,Pr w' R A c l (stepI l i) z ns a 0) ∨
 (∃e,((l.getD i default).1≠1∧e=16∨(l.getD i default).1=1∧resB (l.getD i default).2.2=true∧e=7)∧en=.returned (.tuple #[.string ⟨#[]⟩,.bool false])∧FailedAt R A c l i z ns w (l.getD i default).2.1 e w')
theorem box_kp {w2 w':World} {z':Value} {k p:Int} {x:ByteArray} {T:TypeId} (hR:R < w2.heap.size) (hz:∀j,z.ownBlock=some j→j < w2.heap.size) (hk:Kp R z z' (w2.alloc (.cells #[.int .i64 k,.int .i64 p,.string x] T)) w') :
  w'.cell? ⟨w2.heap.size,0,none⟩=some (.int .i64 k)∧w'.cell? ⟨w2.heap.size,1,none⟩=some (.int .i64 p)∧w'.cell? ⟨w2.heap.size,2,none⟩=some (.string x):=by
 have h:∀j,w'.cell? ⟨w2.heap.size,j,none⟩=(#[.int .i64 k,.int .i64 p,.string x]:Array Value)[j]?:=fun j=>by
  rw [hk.cell (p:=⟨w2.heap.size,j,none⟩) (by simp) (by simp only;omega) (fun e=>by have:=hz _ e;simp only at this;omega),World.cell?_alloc_at _ _ _ _ rfl]
 exact ⟨h 0,h 1,h 2⟩
set_option maxHeartbeats 1000000 in
set_option maxRecDepth 10000 in
theorem r_name_at (h:Pr w R A c l i z ns at_ 0) :
  Calls Tryz.prog 49 #[.pointer (some ⟨R,0,none⟩)] w (NameR R A c l i z ns w):=by
 generalize ht:l.getD i default=t
 obtain ⟨k,p,x⟩:=t
 have QT:=Lib.hid (r_tok_of h ht)
 have QF:=Lib.hid (fun W (hb:Below w.heap.size w W) (e:Int)=>r_fail_at (h.below hb) p e)
 have QN:=Lib.hid (fun W (hb:Below w.heap.size w W)=>r_next_at (h.below hb))
 have HZ:=Lib.hid (And.intro h.lt h.apart)
 obtain ⟨b,hk⟩:∃b,(k==1)=b:=⟨_,rfl⟩
 obtain ⟨r,hr⟩:∃r,resB x=r:=⟨_,rfl⟩
 have QR:=Lib.hid (fun W=>ref_res_at (S x) W (r:=r) hr)
 have HT:=Lib.hid ht
 have HR:=Lib.hid hr
 have HK:=Lib.hid hk
 clear h ht hr
 cases b
 ·go_enter Tryz.func49,Tryz.ntmps49
  go_wp2_with (first
   | (go_at_call 27;refine QT.out.mono ?_;rintro en w2 ⟨rfl,hb2⟩;have H2:=Lib.hid hb2;clear hb2)
   | (go_at_call 31;refine (QF.out _ (H2.out.alloc H2.out.size _) _).mono ?_;rintro en w3 ⟨rfl,hk3,hp3⟩;have H3:=Lib.hid (And.intro ((Below.kp (H2.out.alloc H2.out.size _) R z).trans hk3) hp3);clear hk3 hp3))
  refine bodyPost_ret (v:=.tuple #[.string ⟨#[]⟩,.bool false]) (by simp [results,Tryz.results49,go_sem]) rfl ?_
  exact .inr ⟨16,.inl ⟨by rw [HT.out];simpa using HK.out,rfl⟩,rfl,by rw [HT.out];exact H3.out⟩
 ·cases r
  ·go_enter Tryz.func49,Tryz.ntmps49
   go_wp2_with (first
    | (go_at_call 27;refine QT.out.mono ?_;rintro en w2 ⟨rfl,hb2⟩;have H2:=Lib.hid hb2;clear hb2)
    | (go_at_call 77;refine (QR.out _).mono ?_;rintro en w3 ⟨rfl,rfl⟩)
    | (go_at_call 48;refine (QN.out _ (H2.out.alloc H2.out.size _)).mono ?_;rintro en w4 ⟨rfl,hk3,hp3⟩;have hbx:=(box_kp (by have:=HZ.out.1;have:=H2.out.size;omega) (fun j hj=>by have:=(HZ.out.2 j hj).2;have:=H2.out.size;omega) hk3).2.2;have H3:=Lib.hid (And.intro ((Below.kp (H2.out.alloc H2.out.size _) R z).trans hk3) hp3);clear hk3 hp3))
   refine bodyPost_ret (v:=.tuple #[.string (S x),.bool true]) (by simp [results,Tryz.results49,go_sem]) rfl ?_
   exact .inl ⟨by rw [HT.out];simpa using HK.out,by rw [HT.out];exact HR.out,by rw [HT.out],H3.out.1,_,H3.out.2⟩
  ·go_enter Tryz.func49,Tryz.ntmps49
   go_wp2_with (first
    | (go_at_call 27;refine QT.out.mono ?_;rintro en w2 ⟨rfl,hb2⟩;have H2:=Lib.hid hb2;clear hb2)
    | (go_at_call 77;refine (QR.out _).mono ?_;rintro en w3 ⟨rfl,rfl⟩)
    | (go_at_call 31;refine (QF.out _ (H2.out.alloc H2.out.size _) _).mono ?_;rintro en w3 ⟨rfl,hk3,hp3⟩;have H3:=Lib.hid (And.intro ((Below.kp (H2.out.alloc H2.out.size _) R z).trans hk3) hp3);clear hk3 hp3))
   refine bodyPost_ret (v:=.tuple #[.string ⟨#[]⟩,.bool false]) (by simp [results,Tryz.results49,go_sem]) rfl ?_
   exact .inr ⟨7,.inr ⟨by rw [HT.out];simpa using HK.out,by rw [HT.out];exact HR.out,rfl⟩,rfl,by rw [HT.out];exact H3.out⟩
end
end Go.Proofs.YtaojnljppcnhjaaGreatDoor
namespace Go.Proofs.YtaojnljppcnhjaaGreatDoor
open Go.RowKit
theorem pvalD_top:∀(l:List UInt8),l.foldl (fun (n:Int) c=>min (n*10+(c.toNat - 48:Int)) 2147483649) 2147483649=2147483649
 | []=>rfl
 | c :: l=>by
  rw [List.foldl_cons,Int.min_eq_right (by omega)]
  exact pvalD_top l
theorem pvalD_snoc (l:List UInt8) (c:UInt8):valD (l++[c])=min (valD l*10+(c.toNat - 48:Int)) 2147483649:=by simp [valD]
theorem pvalD_past {l m:List UInt8} (h:2147483648 < valD l):2147483648 < valD (l++m):=by
 have h1:valD l≤2147483649:=by
  rcases List.eq_nil_or_concat l with rfl|⟨k,c,rfl⟩
  ·decide
  ·rw [List.concat_eq_append,pvalD_snoc];exact Int.min_le_right _ _
 have h2:valD l=2147483649:=by omega
 unfold valD at h2 ⊢
 rw [List.foldl_append,h2,pvalD_top]
 omega
theorem pvalD_step {s:ByteArray} {k:Nat} {v:Int} (h:k < s.size) (hv:valD (s.data.toList.take k)=v):valD (s.data.toList.take (k+1))=min (v*10+(s[k].toNat - 48:Int)) 2147483649:=by
 rw [take_next h,pvalD_snoc,hv]
theorem ptake_all (s:ByteArray):s.data.toList.take s.size=s.data.toList:=List.take_of_length_le (by rw [len_str];exact Nat.le_refl _)
theorem pvalD_over {s:ByteArray} {k:Nat} (h:2147483648 < valD (s.data.toList.take k)):2147483648 < valD s.data.toList:=by
 rw [←List.take_append_drop k s.data.toList]
 exact pvalD_past h
theorem pdig_range {c:UInt8} (h:digB c=true):48≤c.toNat∧c.toNat≤57:=by simpa [digB] using h
set_option maxHeartbeats 1000000 in
theorem r_value_at (s:ByteArray) (w:World) (hs:s.size≤100000) (hd:∀k (h:k < s.size),digB s[k]=true) {r:Int} (hr:valD s.data.toList=r) (hr2:r≤2147483648) :
  Calls Tryz.prog 51 #[.string s] w fun e w'=>e=.returned (.int .i64 r)∧w=w':=by
 have HD:=Lib.hid hd
 have HR:=Lib.hid hr
 have HO:Hid (∀k,¬2147483648 < valD (s.data.toList.take k)):=Lib.hid (fun k h=>absurd (pvalD_over (s:=s) (k:=k) h) (by rw [hr];omega))
 clear hd hr
 go_enter Tryz.func51,Tryz.ntmps51
 go_wp2
 go_loop [3,4] (fun v i=>∃(k:Nat) (x:Int),k≤s.size∧i=.int .i64 (k:Int)∧v=.int .i64 x∧0≤x∧x≤2147483648∧Hid (valD (s.data.toList.take k)=x)) (fun _ i=>s.size - (intOf i).toNat)
 case atStart=>exact ⟨0,0,Nat.zero_le _,rfl,rfl,by decide,by decide,Lib.hid rfl⟩
 case round =>
  obtain ⟨k,x,hk,rfl,rfl,hx0,hx1,hv⟩:=hrel
  by_cases hlt:k < s.size
  ·have hlt':(k:Int) < (s.size:Int):=by omega
   obtain ⟨d1,d2⟩:=pdig_range (HD.out k hlt)
   have hm:valD (s.data.toList.take (k+1))=min (x*10+(s[k].toNat - 48:Int)) 2147483649:=pvalD_step hlt hv.out
   have hno:=HO.out (k+1)
   have hbig:10*x+((s[k].toNat:Int) - 48)≤2147483648:=by
    rw [hm] at hno;omega
   have HV:=Lib.hid (show valD (s.data.toList.take (k+1))=10*x+((s[k].toNat:Int) - 48) by rw [hm];omega)
   clear hm hno
   go_wp2
   go_round
   case rel=>exact ⟨k+1,_,by omega,by go_num,rfl,by omega,by omega,HV⟩
   case measure=>simp [intOf];omega
  ·obtain rfl:k=s.size:=by omega
   have HV:=Lib.hid (show x=r by rw [←HR.out,← ptake_all s,hv.out])
   go_wp2
   go_ret
   exact ⟨by rw [HV.out];rfl,rfl⟩
end Go.Proofs.YtaojnljppcnhjaaGreatDoor
namespace Go.Proofs.YtaojnljppcnhjaaGreatDoor
open Go.RowKit
theorem string_info:(Tryz.prog.info? 9).map (fun i=>(i.zero,i.size,i.bytes))=some (some (.string ⟨#[]⟩),1,16):=by kernel_rfl
section
variable {w w4:World} {R:Nat} {A:Option Addr} {c:Nat} {l:List Tk} {i:Nat} {z:Value} {ns:List (List UInt8)} {at_:Nat} {er:Int}
theorem nmC_append (ns:List (List UInt8)) (s:List UInt8):nmC (ns++[s])=nmC ns++[.string (S s)]:=by simp [nmC]
theorem Pr.names (h:Pr w R A c l i z ns at_ er) {g cap:Nat} {s:List UInt8} (hg:w.grownBy w4 z.ownBlock)
  (hown:w4.ownsRow (R+1) 9 1 (.slice (some ⟨g,0,none⟩) (ns.length+1) cap) (ns.length+1) (nmC ns++[.string (S s)])) :
  Pr (w4.setCell ⟨R,2,none⟩ (.slice (some ⟨g,0,none⟩) (ns.length+1) cap)) R A c l i (.slice (some ⟨g,0,none⟩) (ns.length+1) cap) (ns++[s]) at_ er:=by
 have hap:=h.apart
 have hb:∀k,k≤R→w4.heap[k]?=w.heap[k]?:=fun k hk=>hg.block k (by have:=h.lt;omega) fun e=>by have:=(hap k e.symm).1;omega
 have hc:∀j,w4.cell? ⟨R,j,none⟩=w.cell? ⟨R,j,none⟩:=fun j=>World.cell?_of_block (hb R (Nat.le_refl _))
 have ho:∀j,j≠2→∀v,w.cell? ⟨R,j,none⟩=some v→(w4.setCell ⟨R,2,none⟩ (.slice (some ⟨g,0,none⟩) (ns.length+1) cap)).cell? ⟨R,j,none⟩=some v:=fun j hj v hv=>by
  rw [World.cell?_setCell_other _ _ _ _ (by simp only [ne_eq,Addr.mk.injEq,true_and,and_true];omega),hc,hv]
 have hgR:R+1≤g:=(own_lt hown g rfl).1
 refine ⟨by simpa [World.setCell] using Nat.lt_of_lt_of_le h.lt hg.size,ho 0 (by omega) _ h.l0,ho 1 (by omega) _ h.l1,World.cell?_setCell_same _ _ _ (by rw [hc,h.l2]),ho 3 (by omega) _ h.l3,ho 4 (by omega) _ h.l4,fun j=>by
  rw [World.frozen?_setCell,World.frozen?_of_block (a:=⟨R,j,none⟩) (hb R (Nat.le_refl _))];exact h.fr j,?_,h.low,h.ilt,?_⟩
 ·refine ⟨h.toks.1,h.toks.2.1,fun hn=>?_⟩
  obtain ⟨q,e,hr⟩:=h.toks.2.2 hn
  have hq:=h.low q e
  exact ⟨q,e,fun i hi j u hu=>by
   rw [World.cell?_setCell_other _ _ _ _ (by simp only [ne_eq,Addr.mk.injEq];omega),World.cell?_of_block (a:=⟨q,i*3+j,none⟩) (hb q (by omega))]
   exact hr i hi j u hu⟩
 ·rw [List.length_append,nmC_append]
  exact own_of hown fun k hk => Below.heap_setCell _ _ _ _ (by have e : g = k := by simpa [Value.ownBlock] using hk
                                                               simp only; omega)
theorem Pr.nameAt (h:Pr w R A c l i z ns at_ er) {k:Nat} (hk:k < ns.length):∃g cap,z=.slice (some ⟨g,0,none⟩) ns.length cap∧ns.length≤cap∧cap≤maxLen∧w.cell? ⟨g,k,none⟩=some (.string (S (ns.getD k []))):=by
 rcases h.own.2 with ⟨_,h1⟩|⟨g,cap,cur,e,hb,hg,hle,hcap,hcs,hcur⟩
 ·omega
 ·refine ⟨g,cap,e,hle,hcap,?_⟩
  subst e
  have hc:=World.ownsRow.cellAt h.own k (by omega)
  rw [hc]
  simp [nmC,List.getD_eq_getElem?_getD,List.getElem?_eq_getElem hk]
theorem Pr.zform (h:Pr w R A c l i z ns at_ er):∃B cap,z=.slice B ns.length cap:=by
 rcases h.own.2 with ⟨e,h1⟩|⟨g,cap,cur,e,_⟩
 ·exact ⟨none,0,by rw [e,h1]⟩
 ·exact ⟨_,cap,e⟩
end
end Go.Proofs.YtaojnljppcnhjaaGreatDoor
namespace Go.Proofs.YtaojnljppcnhjaaGreatDoor
open Go.RowKit
section
variable {w:World} {R:Nat} {A:Option Addr} {c:Nat} {l:List Tk} {i:Nat} {z:Value} {ns:List (List UInt8)} {at_:Nat} {er:Int}
def VarR (R:Nat) (A:Option Addr) (c:Nat) (l:List Tk) (i:Nat) (z:Value) (ns:List (List UInt8)) (at_:Nat) (er:Int) (s:List UInt8) (w:World) (en:Ending) (w':World):Prop :=
 en=.returned (.agg #[.int .i64 1,.int .i64 ((nameS s ns).1:Int),.string ⟨#[]⟩,.slice none 0 0])∧∃z',Kp R z z' w w'∧Pr w' R A c l i z' (nameS s ns).2 at_ er
theorem nameS_old {s:List UInt8} {ns:List (List UInt8)} {k:Nat} (hk:k < ns.length) (he:ns.getD k []=s) (hs:s≠[95]) (hb:∀m,m < k→ns.getD m []≠s):nameS s ns=(k,ns):=by
 have hm:s∈ns:=by
  rw [←he,List.getD_eq_getElem?_getD,List.getElem?_eq_getElem hk]
  exact List.getElem_mem hk
 unfold nameS
 rw [if_pos ⟨hs,hm⟩]
 have h1:=List.idxOf_lt_length_iff.2 hm
 have h2:=List.getElem_idxOf h1
 rcases Nat.lt_trichotomy (ns.idxOf s) k with h|h|h
 ·refine absurd ?_ (hb _ h)
  rw [List.getD_eq_getElem?_getD,List.getElem?_eq_getElem h1]
  exact h2
 ·rw [h]
 ·have:=List.not_of_lt_findIdx (p:=(·==s)) (xs:=ns) (i:=k) (by simpa [List.idxOf] using h)
  rw [List.getD_eq_getElem?_getD,List.getElem?_eq_getElem hk] at he
  exact absurd this (by rw [show ns[k]=s by simpa using he];simp)
theorem nameS_new {s:List UInt8} {ns:List (List UInt8)} (hb:s=[95]∨∀m,m < ns.length→ns.getD m []≠s):nameS s ns=(ns.length,ns++[s]):=by
 unfold nameS
 rw [if_neg]
 rintro ⟨h1,h2⟩
 rcases hb with h|h
 ·exact h1 h
 ·obtain ⟨m,hm,e⟩:=List.mem_iff_getElem.1 h2
  exact h m hm (by rw [List.getD_eq_getElem?_getD,List.getElem?_eq_getElem hm];exact e)
theorem pnews1 (X:World) (s:List UInt8) (T:TypeId):∀j v,([.string (S s)]:List Value)[j]?=some v→(X.alloc (.cells #[.string (S s)] T)).cell? ((⟨X.heap.size,0,none⟩:Addr).add j)=some v:=by
 intro j v hv
 rw [add_plain,Nat.zero_add,World.cell?_alloc_at _ _ _ _ rfl,← hv,show (#[Value.string (S s)]:Array Value)=([Value.string (S s)]:List Value).toArray from rfl,List.getElem?_toArray]
theorem pone_one (s:List UInt8):∀u∈([.string (S s)]:List Value),u.oneCell'=true:=by
 intro u hu
 rw [List.mem_singleton.1 hu];rfl
theorem pfar {X w4:World} {T:TypeId} {s:List UInt8} {u0 u1 u2 u3:Value} (h:Pr X R A c l i z ns at_ er) (hR:R < w.heap.size∧∀k,z.ownBlock=some k→R < k∧k < w.heap.size) (_hX:Below w.heap.size w X) (hg:(X.alloc (.cells #[.string (S s)] T)).grownBy w4 z.ownBlock)
  (h0:X.cell? ⟨w.heap.size,0,none⟩=some u0) (h1:X.cell? ⟨w.heap.size,1,none⟩=some u1) (h2:X.cell? ⟨w.heap.size,2,none⟩=some u2) (h3:X.cell? ⟨w.heap.size,3,none⟩=some u3) :
  w4.cell? ⟨R,2,none⟩=some z∧w4.frozen? ⟨R,2,none⟩=false∧w4.cell? ⟨w.heap.size,0,none⟩=some u0∧w4.cell? ⟨w.heap.size,1,none⟩=some u1∧w4.cell? ⟨w.heap.size,2,none⟩=some u2∧w4.cell? ⟨w.heap.size,3,none⟩=some u3 ∧
  w4.frozen? ⟨w.heap.size,0,none⟩=X.frozen? ⟨w.heap.size,0,none⟩∧w4.frozen? ⟨w.heap.size,1,none⟩=X.frozen? ⟨w.heap.size,1,none⟩∧w4.frozen? ⟨w.heap.size,2,none⟩=X.frozen? ⟨w.heap.size,2,none⟩∧w4.frozen? ⟨w.heap.size,3,none⟩=X.frozen? ⟨w.heap.size,3,none⟩:=by
 have hlt:w.heap.size < X.heap.size:=by
  rcases Nat.lt_or_ge w.heap.size X.heap.size with h|h
  ·exact h
  ·simp [World.cell?,Array.getElem?_eq_none h] at h0
 have hb:∀k,k < X.heap.size→z.ownBlock≠some k→w4.heap[k]?=X.heap[k]?:=fun k hk ho=>by
  rw [hg.block k (by simp;omega) (fun e=>ho e.symm),Below.heap_alloc _ _ _ hk]
 have b1:=hb R h.lt (fun e=>by have:=(hR.2 _ e).1;omega)
 have b2:=hb w.heap.size hlt (fun e=>by have:=(hR.2 _ e).2;omega)
 have cT:∀j,w4.cell? ⟨w.heap.size,j,none⟩=X.cell? ⟨w.heap.size,j,none⟩:=fun j=>World.cell?_of_block b2
 have fT:∀j,w4.frozen? ⟨w.heap.size,j,none⟩=X.frozen? ⟨w.heap.size,j,none⟩:=fun j=>World.frozen?_of_block (a:=⟨w.heap.size,j,none⟩) b2
 refine ⟨by rw [World.cell?_of_block (a:=⟨R,2,none⟩) b1];exact h.l2,by rw [World.frozen?_of_block (a:=⟨R,2,none⟩) b1];exact h.fr 2,by rw [cT,h0],by rw [cT,h1],by rw [cT,h2],by rw [cT,h3],fT 0,fT 1,fT 2,fT 3⟩
theorem put4_all {X Y:World} {v0 v1 v2 v3 u0 u1 u2 u3:Value} {z0:Value} (h:Pr X R A c l i z ns at_ er) (hk:Kp R z0 z w X) (hR:R < w.heap.size) (hz:z.ownBlock≠some w.heap.size)
  (h0:X.cell? ⟨w.heap.size,0,none⟩=some u0) (h1:X.cell? ⟨w.heap.size,1,none⟩=some u1) (h2:X.cell? ⟨w.heap.size,2,none⟩=some u2) (h3:X.cell? ⟨w.heap.size,3,none⟩=some u3)
  (hY:(((X.setCell ⟨w.heap.size,0,none⟩ v0).setCell ⟨w.heap.size,1,none⟩ v1).setCell ⟨w.heap.size,2,none⟩ v2).setCell ⟨w.heap.size,3,none⟩ v3=Y) :
  Y.cell? ⟨w.heap.size,0,none⟩=some v0∧Y.cell? ⟨w.heap.size,1,none⟩=some v1∧Y.cell? ⟨w.heap.size,2,none⟩=some v2∧Y.cell? ⟨w.heap.size,3,none⟩=some v3∧Pr Y R A c l i z ns at_ er∧Kp R z0 z w Y:=by
 subst hY
 have ho:∀(a b:Nat),a≠b→∀(W:World) (v u:Value),W.cell? ⟨w.heap.size,a,none⟩=some u→(W.setCell ⟨w.heap.size,b,none⟩ v).cell? ⟨w.heap.size,a,none⟩=some u:=fun a b hab W v u hu=>by
  rw [World.cell?_setCell_other _ _ _ _ (by simp only [ne_eq,Addr.mk.injEq,true_and,and_true];omega)];exact hu
 have hs:∀(a:Nat) (W:World) (v u:Value),W.cell? ⟨w.heap.size,a,none⟩=some u→(W.setCell ⟨w.heap.size,a,none⟩ v).cell? ⟨w.heap.size,a,none⟩=some v:=fun a W v u hu=>World.cell?_setCell_same _ _ _ (by rw [hu])
 refine ⟨?_,?_,?_,?_,?_,?_⟩
 ·exact ho _ _ (by omega) _ _ _ (ho _ _ (by omega) _ _ _ (ho _ _ (by omega) _ _ _ (hs _ _ _ _ h0)))
 ·exact ho _ _ (by omega) _ _ _ (ho _ _ (by omega) _ _ _ (hs _ _ _ _ (ho _ _ (by omega) _ _ _ h1)))
 ·exact ho _ _ (by omega) _ _ _ (hs _ _ _ _ (ho _ _ (by omega) _ _ _ (ho _ _ (by omega) _ _ _ h2)))
 ·exact hs _ _ _ _ (ho _ _ (by omega) _ _ _ (ho _ _ (by omega) _ _ _ (ho _ _ (by omega) _ _ _ h3)))
 ·exact (((h.put (p:=⟨w.heap.size,0,none⟩) hR hz _).put (p:=⟨w.heap.size,1,none⟩) hR hz _).put (p:=⟨w.heap.size,2,none⟩) hR hz _).put (p:=⟨w.heap.size,3,none⟩) hR hz _
 ·exact (((((hk)).put (p:=⟨w.heap.size,0,none⟩) (Nat.le_refl _) _).put (p:=⟨w.heap.size,1,none⟩) (Nat.le_refl _) _).put (p:=⟨w.heap.size,2,none⟩) (Nat.le_refl _) _).put (p:=⟨w.heap.size,3,none⟩) (Nat.le_refl _) _
set_option maxHeartbeats 2000000 in
set_option maxRecDepth 10000 in
theorem r_variable_at (h:Pr w R A c l i z ns at_ er) (hns:ns.length≤100000) (s:List UInt8) :
  Calls Tryz.prog 148 #[.pointer (some ⟨R,0,none⟩),.string (S s)] w (VarR R A c l i z ns at_ er s w):=by
 obtain ⟨i0,hi,hz0,hz1,hz2⟩:=info_parts string_info
 obtain ⟨B,zc,rfl⟩:=h.zform
 obtain ⟨X,hX⟩:∃X,X=w.alloc (.cells #[.int .i64 0,.int .i64 0,.string ⟨#[]⟩,.slice none 0 0] 56):=⟨_,rfl⟩
 have HX0:=Lib.hid (show Below w.heap.size w X by rw [hX];exact below1 w _)
 have H:=Lib.hid (h.below HX0.out)
 have hnew:∀j,X.cell? ⟨w.heap.size,j,none⟩=(#[.int .i64 0,.int .i64 0,.string ⟨#[]⟩,.slice none 0 0]:Array Value)[j]?:=fun j=>by rw [hX];exact World.cell?_alloc_at _ _ _ _ rfl
 have n0:X.cell? ⟨w.heap.size,0,none⟩=some (.int .i64 0):=hnew 0
 have n1:X.cell? ⟨w.heap.size,1,none⟩=some (.int .i64 0):=hnew 1
 have n2:X.cell? ⟨w.heap.size,2,none⟩=some (.string ⟨#[]⟩):=hnew 2
 have n3:X.cell? ⟨w.heap.size,3,none⟩=some (.slice none 0 0):=hnew 3
 have f0:∀j,X.frozen? ⟨w.heap.size,j,none⟩=false:=fun j=>by rw [hX];exact World.frozen?_alloc_at _ _ _ _ rfl
 have fr0:=f0 0
 have fr1:=f0 1
 have fr2:=f0 2
 have fr3:=f0 3
 have h2:=H.out.l2
 have fz:=H.out.fr 2
 have HN:=Lib.hid hns
 have HR0:=Lib.hid (And.intro h.lt h.apart)
 have HH:=Lib.hid (show w.heap.size < X.heap.size by rw [hX];simp)
 clear h hnew f0
 go_enter Tryz.func148,Tryz.ntmps148
 go_wp2_with fail
 rw [←hX]
 clear hX
 go_loop [5] (fun v=>∃j:Nat,j≤ns.length∧v=.int .i64 (j:Int)∧Hid (s=[95]∨∀m,m < j→ns.getD m []≠s)) (fun v=>ns.length - (intOf v).toNat)
 case atStart=>exact ⟨0,Nat.zero_le _,rfl,Lib.hid (.inr fun m hm=>absurd hm (by omega))⟩
 case round =>
  obtain ⟨j,hj,rfl,hb⟩:=hrel
  by_cases hlt:j < ns.length
  ·have hlt':(j:Int) < (ns.length:Int):=by omega
   obtain ⟨g,cap,e,hle,hcap,hcell⟩:=H.out.nameAt hlt
   injection e with e1 _ e3
   subst e1 e3
   have HJ:=Lib.hid hlt
   have hns':ns.length≤9223372036854775807:=by omega
   obtain ⟨x,hx⟩:∃x,ns.getD j []=x:=⟨_,rfl⟩
   rw [hx] at hcell
   have HX:=Lib.hid hx
   obtain ⟨b1,hb1⟩:∃b,(x==s)=b:=⟨_,rfl⟩
   obtain ⟨b2,hb2⟩:∃b,(s != [95])=b:=⟨_,rfl⟩
   have HB:=Lib.hid (And.intro hb1 hb2)
   clear hx
   cases b1
   ·have HR:=Lib.hid (show s=[95]∨∀m,m < j+1→ns.getD m []≠s from hb.out.imp id fun h m hm=>by
     rcases Nat.lt_or_ge m j with h1|h1
     ·exact h m h1
     ·obtain rfl:m=j:=by omega
      rw [HX.out];simpa using HB.out.1)
    go_wp2_with fail
    go_round
    case rel=>exact ⟨j+1,by omega,by go_num,HR⟩
    case measure=>simp [intOf];omega
   ·cases b2
    ·have hs:s=[95]:=by simpa using hb2
     have hxs:x=s:=by simpa using hb1
     subst hs
     subst hxs
     clear hb1 hb2 HB
     go_wp2_with fail
     go_round
     case rel=>exact ⟨j+1,by omega,by go_num,Lib.hid (.inl trivial)⟩
     case measure=>simp [intOf];omega
    ·have hb3:(s==[95])=false:=by simpa using hb2
     have hs5:s≠[95]:=by simpa using hb2
     have hxs:x=s:=by simpa using hb1
     have HV:=Lib.hid (nameS_old HJ.out (HX.out.trans hxs) hs5 (hb.out.resolve_left hs5))
     clear hxs
     go_wp2_with fail
     generalize hY:((((X.setCell _ _).setCell _ _).setCell _ _).setCell _ _)=Y
     obtain ⟨q0,q1,q2,q3,hp,hk⟩:=put4_all H.out (Below.kp HX0.out R _) HR0.out.1 (fun e=>absurd (HR0.out.2 _ e).2 (by omega)) n0 n1 n2 n3 hY
     refine bodyPost_ret (v:=.agg #[.int .i64 1,.int .i64 (j:Int),.string ⟨#[]⟩,.slice none 0 0]) (by simp [results,Tryz.results148,go_sem,q0,q1,q2,q3]) rfl ⟨by rw [HV.out],_,hk,by rw [HV.out];exact hp⟩
  ·obtain rfl:j=ns.length:=by omega
   have HV:=Lib.hid (nameS_new hb.out)
   have HXs:=HX0.out.size
   have hne:¬R=w.heap.size:=by have:=HR0.out.1;omega
   have hne2:¬w.heap.size=R:=by have:=HR0.out.1;omega
   have hns':ns.length≤9223372036854775807:=by omega
   go_wp2_with (at_builtin;refine wpList_append_lies _ rfl _ _ 39 rfl (R+1) 9 i0 _ 1 16 Tryz.underlying39 hi hz0 hz1 hz2 rfl (by decide) _ ns.length (nmC ns) rfl (H.out.alloc _).own ⟨X.heap.size,0,none⟩ 1 1 [.string (S s)] rfl rfl (pnews1 X s _) (pone_one s) (by decide) (by unfold maxLen;omega) (by omega) (by have:=HR0.out.1;simp;omega) _ rfl ?_;intro g cap w4 hown hg hat hglt;have HG:=Lib.hid (And.intro hown (And.intro hg hat));have d0:=pfar H.out HR0.out HX0.out hg n0 n1 n2 n3;obtain ⟨d0,d1,d2,d3,d4,d5,d6,d7,d8,d9⟩:=d0;clear hown hg hat hglt)
   obtain ⟨hown,hg,hat⟩:=HG.out
   have HP:=(H.out.alloc (.cells #[.string (S s)] 9)).names hg hown
   have HK:=(((Below.kp HX0.out R (.slice B ns.length zc)).alloc (.cells #[.string (S s)] 9)).names (n:=ns.length+1) (cap:=cap) hg hat).set 2 none (.slice (some ⟨g,0,none⟩) (ns.length+1) cap)
   have hzz:(Value.slice (some ⟨g,0,none⟩) (ns.length+1) cap).ownBlock≠some w.heap.size:=fun e=>by
    have e':g=w.heap.size:=by simpa [Value.ownBlock] using e
    rcases hat with h|h
    ·have:=(HR0.out.2 _ h).2;omega
    ·have:=HH.out;simp at h;omega
   have hc:∀j u,w4.cell? ⟨w.heap.size,j,none⟩=some u→(w4.setCell ⟨R,2,none⟩ (.slice (some ⟨g,0,none⟩) (ns.length+1) cap)).cell? ⟨w.heap.size,j,none⟩=some u:=fun j u hu=>by
    rw [World.cell?_setCell_other _ _ _ _ (by simp only [ne_eq,Addr.mk.injEq];omega)];exact hu
   generalize hY:((((World.setCell (World.setCell w4 _ _) _ _).setCell _ _).setCell _ _).setCell _ _)=Y
   obtain ⟨q0,q1,q2,q3,hp,hk⟩:=put4_all HP HK HR0.out.1 hzz (hc 0 _ d2) (hc 1 _ d3) (hc 2 _ d4) (hc 3 _ d5) hY
   refine bodyPost_ret (v:=.agg #[.int .i64 1,.int .i64 (ns.length:Int),.string ⟨#[]⟩,.slice none 0 0]) (by simp [results,Tryz.results148,go_sem,q0,q1,q2,q3]) rfl ⟨by rw [HV.out],_,hk,by rw [HV.out];exact hp⟩
end
end Go.Proofs.YtaojnljppcnhjaaGreatDoor
namespace Go.Proofs.YtaojnljppcnhjaaGreatDoor
open Go.RowKit
section
variable {α:Type}
structure SitZ (E:Elt α) (lo:Nat) (z:Value) (w:World) (l:List α):Prop where
 at_:∀x∈l,E.At w x
 bd:∀b∈E.blkL l,lo≤b∧b < w.heap.size
 out:∀b∈E.blkL l,z.ownBlock≠some b
variable {E:Elt α} {lo m:Nat} {z z' r:Value} {w w':World} {l k:List α} {T:TypeId}
theorem SitZ.nil (E:Elt α) (lo:Nat) (z:Value) (w:World):SitZ E lo z w []:=⟨fun _ h=>(by cases h),fun _ h=>(by simp [Elt.blkL] at h),fun _ h=>(by simp [Elt.blkL] at h)⟩
theorem SitZ.frame (h:SitZ E lo z w l) (hs:w.heap.size≤w'.heap.size) (hb:∀b∈E.blkL l,w'.heap[b]?=w.heap[b]?) (hz:∀b∈E.blkL l,z'.ownBlock≠some b):SitZ E lo z' w' l :=
 ⟨fun x hx=>E.frame (h.at_ x hx) fun b hbx=>hb b (List.mem_flatMap.2 ⟨x,hx,hbx⟩),fun b hx=>⟨(h.bd b hx).1,Nat.lt_of_lt_of_le (h.bd b hx).2 hs⟩,hz⟩
theorem SitZ.kp {R:Nat} (h:SitZ E lo z w l) (k:Kp R z z' w w') (hR:R < lo):SitZ E lo z' w' l :=
 h.frame k.size (fun b hb=>k.block b (h.bd b hb).2 (by have:=(h.bd b hb).1;omega) (h.out b hb)) fun b hb e=>by
  rcases k.own b e with h1|h1
  ·exact h.out b hb h1
  ·have:=(h.bd b hb).2;omega
theorem SitZ.below (h:SitZ E lo z w l) (k:Below w.heap.size w w'):SitZ E lo z w' l:=h.frame k.size (fun b hb=>k.block b (h.bd b hb).2) h.out
theorem SitZ.alloc (h:SitZ E lo z w l) (o:Obj):SitZ E lo z (w.alloc o) l:=h.below ((Below.refl _ _).alloc (Nat.le_refl _) o)
theorem SitZ.low {lo':Nat} (h:SitZ E lo z w l) (hl:lo'≤lo):SitZ E lo' z w l:=⟨h.at_,fun b hb=>⟨Nat.le_trans hl (h.bd b hb).1,(h.bd b hb).2⟩,h.out⟩
theorem SitZ.put (h:SitZ E lo z w l) {p:Addr} (hp:p.block∉E.blkL l) (v:Value):SitZ E lo z (w.setCell p v) l :=
 h.frame (by simp [World.setCell]) (fun b hb=>Below.heap_setCell _ _ _ _ (fun e=>hp (e ▸ hb))) h.out
theorem SitZ.append (h:SitZ E lo z w l) (h2:SitZ E lo z w k):SitZ E lo z w (l++k):=by
 refine ⟨fun x hx=>(List.mem_append.1 hx).elim (h.at_ x) (h2.at_ x),fun b hb=>?_,fun b hb=>?_⟩
 ·rw [Elt.blkL_append] at hb
  exact (List.mem_append.1 hb).elim (h.bd b) (h2.bd b)
 ·rw [Elt.blkL_append] at hb
  exact (List.mem_append.1 hb).elim (h.out b) (h2.out b)
structure RowZ (E:Elt α) (T:TypeId) (lo:Nat) (z:Value) (w:World) (r:Value) (l:List α):Prop where
 row:w.ownsRow lo T E.k r l.length (E.cellsL l)
 sit:SitZ E lo z w l
 apart:∀k,r.ownBlock=some k→k∉E.blkL l
 zap:∀k,r.ownBlock=some k→z.ownBlock≠some k
theorem RowZ.nil (E:Elt α) (T:TypeId) (lo:Nat) (z:Value) (w:World):RowZ E T lo z w (.slice none 0 0) []:=⟨⟨by simp [Elt.cellsL],.inl ⟨rfl,rfl⟩⟩,SitZ.nil _ _ _ _,fun k hk=>(by cases hk),fun k hk=>(by cases hk)⟩
theorem RowZ.frame (h:RowZ E T lo z w r l) (hs:w.heap.size≤w'.heap.size) (hb:∀b,lo≤b→b < w.heap.size→z.ownBlock≠some b→w'.heap[b]?=w.heap[b]?) (hz:∀b,z'.ownBlock=some b→z.ownBlock=some b∨w.heap.size≤b):RowZ E T lo z' w' r l:=by
 have hzz:∀b,lo≤b→b < w.heap.size→z.ownBlock≠some b→z'.ownBlock≠some b:=fun b _ h2 h3 e=>by
  rcases hz b e with h4|h4
  ·exact h3 h4
  ·omega
 exact ⟨own_of h.row fun k hk=>hb k (own_lt h.row k hk).1 (own_lt h.row k hk).2 (h.zap k hk),h.sit.frame hs (fun b hx=>hb b (h.sit.bd b hx).1 (h.sit.bd b hx).2 (h.sit.out b hx)) (fun b hx=>hzz b (h.sit.bd b hx).1 (h.sit.bd b hx).2 (h.sit.out b hx)),h.apart,fun k hk=>hzz k (own_lt h.row k hk).1 (own_lt h.row k hk).2 (h.zap k hk)⟩
theorem RowZ.kp {R:Nat} (h:RowZ E T lo z w r l) (k:Kp R z z' w w') (hR:R < lo):RowZ E T lo z' w' r l:=h.frame k.size (fun b h1 h2 h3=>k.block b h2 (by omega) h3) k.own
theorem RowZ.below (h:RowZ E T lo z w r l) (hb:Below w.heap.size w w'):RowZ E T lo z w' r l:=h.frame hb.size (fun b _ h2 _=>hb.block b h2) fun _ h=>.inl h
theorem RowZ.zform (h:RowZ E T lo z w r l):∃B cap,r=.slice B l.length cap:=by
 rcases h.row.2 with ⟨e,h1⟩|⟨g,cap,cur,e,_⟩
 ·exact ⟨none,0,by rw [e,h1]⟩
 ·exact ⟨_,cap,e⟩
theorem RowZ.next {g cap:Nat} {w2 w3 w4:World} {u:α} (h:RowZ E T lo z w2 r l) (hz:∀k,z.ownBlock=some k→k < w2.heap.size) (hm:lo≤m) (hrm:∀k,r.ownBlock=some k→k < m) (hu:SitZ E m z w2 [u]) (hb:Below w2.heap.size w2 w3)
  (hown:w4.ownsRow lo T E.k (.slice (some ⟨g,0,none⟩) (l.length+1) cap) (l.length+1) (E.cellsL l++E.cells u)) (hg:w3.grownBy w4 r.ownBlock) (hat:r.ownBlock=some g∨g=w3.heap.size) :
  RowZ E T lo z w4 (.slice (some ⟨g,0,none⟩) (l.length+1) cap) (l++[u]):=by
 have hall:=h.sit.append (hu.low hm)
 have hap:∀k,r.ownBlock=some k→k∉E.blkL (l++[u]):=fun k hk hx=>by
  rw [Elt.blkL_append] at hx
  rcases List.mem_append.1 hx with hx|hx
  ·exact h.apart k hk hx
  ·have:=hrm k hk
   have:=(hu.bd k hx).1
   omega
 have hge:∀k,(Value.slice (some ⟨g,0,none⟩) (l.length+1) cap).ownBlock=some k→g=k:=fun k hk=>by simpa [Value.ownBlock] using hk
 refine ⟨by rw [List.length_append,Elt.cellsL_append];simpa [Elt.cellsL] using hown,(hall.below hb).frame hg.size (fun b hx=>hg.block b ((hall.below hb).bd b hx).2 fun e=>hap b e.symm hx) hall.out,fun k hk hx=>?_,fun k hk e=>?_⟩
 ·obtain rfl:=hge k hk
  rcases hat with h1|h1
  ·exact hap g h1 hx
  ·have:=(hall.bd g hx).2
   have:=hb.size
   omega
 ·obtain rfl:=hge k hk
  rcases hat with h1|h1
  ·exact h.zap g h1 e
  ·have:=hz g e
   have:=hb.size
   omega
end
def ElZ {α β:Type} (E:Elt α) (val:α→Value) (h:α→β) (f:Rd1 β) (R:Nat) (A:Option Addr) (c:Nat) (l:List Tk) (i:Nat) (z:Value) (ns:List (List UInt8)) (w:World) (en:Ending) (w':World):Prop :=
 ∃(x:α) (b:Bool),en=.returned (.tuple #[val x,.bool b]) ∧
  ((b=true∧∃z' ns' j at_,Kp R z z' w w'∧Pr w' R A c l j z' ns' at_ 0∧f (leftT l i) ns=.ok (h x) (leftT l j) ns'∧i < j∧ns'.length+(leftT l j).length≤ns.length+(leftT l i).length∧SitZ E w.heap.size z' w' [x]) ∨
   (b=false∧∃z' ns' j n e,Kp R z z' w w'∧Pr w' R A c l j z' ns' (offT l n) e∧e≠0∧f (leftT l i) ns=.err n e))
end Go.Proofs.YtaojnljppcnhjaaGreatDoor
