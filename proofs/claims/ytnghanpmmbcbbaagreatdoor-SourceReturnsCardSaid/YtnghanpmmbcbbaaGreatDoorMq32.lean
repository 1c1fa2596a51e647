/-
  SwRow.
-/
import Derived.Test.YtnghanpmmbcbbaaGreatDoorMq11
import Derived.Test.YtnghanpmmbcbbaaGreatDoorMq8
import Derived.Test.YtnghanpmmbcbbaaGreatDoorMq2
namespace Go.Proofs.YtnghanpmmbcbbaaGreatDoor
open Go.RowKit
theorem Rl.cells_len (x:Rl):x.cells.length=6:=rfl
theorem rl_info:(Tryz.prog.info? 25).map (fun i=>(i.zero,i.size,i.bytes))=some (some (.agg #[.string ⟨#[]⟩,.slice none 0 0,.slice none 0 0,.slice none 0 0,.slice none 0 0,.int .i64 0]),6,120):=by kernel_rfl
def rlcells (l:List Rl):List Value:=l.flatMap Rl.cells
theorem rlcells_len (l:List Rl):(rlcells l).length=l.length*6:=by
 induction l with
 | nil=>rfl
 | cons t r ih=>simp only [rlcells,List.flatMap_cons,List.length_append,Rl.cells_len,List.length_cons] at *;omega
theorem rlcells_append (l m:List Rl):rlcells (l++m)=rlcells l++rlcells m:=by simp [rlcells]
theorem rlcells_one (x:Rl):∀v∈x.cells,v.oneCell'=true:=by
 intro v hv
 simp only [Rl.cells,List.mem_cons,List.not_mem_nil,or_false] at hv
 rcases hv with rfl|rfl|rfl|rfl|rfl|rfl<;>rfl
theorem rlcells_get (l:List Rl) {i j:Nat} (hi:i < l.length) (hj:j < 6):(rlcells l)[i*6+j]?=(l.getD i default).cells[j]?:=by
 induction l generalizing i with
 | nil=>simp at hi
 | cons t r ih =>
  simp only [rlcells,List.flatMap_cons]
  cases i with
  | zero =>
   rw [List.getElem?_append_left (by rw [Rl.cells_len];omega)]
   simp
  | succ i =>
   rw [List.getElem?_append_right (by rw [Rl.cells_len];omega),Rl.cells_len,show (i+1)*6+j - 6=i*6+j by omega]
   simpa [rlcells] using ih (by simpa using hi)
def RlLie (B:World→Prop) (lo:Nat) (X:Nat→Prop) (w:World) (t:Rl):Prop:=∀W,B W→Agree lo X w W→t.At W
section
variable {B:World→Prop} {lo:Nat} {X:Nat→Prop} {w w':World} {t:Rl}
theorem RlLie.less {lo':Nat} {Y:Nat→Prop} (h:RlLie B lo' Y w t) (hs:w.heap.size≤w'.heap.size) (hc:∀b,lo'≤b→b < w.heap.size→¬Y b→lo≤b∧¬X b∧w'.heap[b]?=w.heap[b]?):RlLie B lo X w' t:=fun W hB hW=>h W hB (hW.less hs hc)
theorem RlLie.below (h:RlLie B lo X w t) (k:Below w.heap.size w w'):RlLie B lo X w' t:=h.less k.size fun b h1 h2 h3=>⟨h1,h3,k.block b h2⟩
theorem RlLie.low (h:RlLie B lo X w t) {lo':Nat} (hl:lo'≤lo):RlLie B lo' X w t:=h.less (Nat.le_refl _) fun b h1 _ h3=>⟨by omega,h3,rfl⟩
theorem RlLie.out {Y:Nat→Prop} (h:RlLie B lo Y w t) (hY:∀b,lo≤b→b < w.heap.size→X b→Y b):RlLie B lo X w t:=h.less (Nat.le_refl _) fun b h1 h2 h3=>⟨h1,fun hx=>h3 (hY b h1 h2 hx),rfl⟩
theorem RlLie.set (h:RlLie B lo X w t) {p:Addr} (hp:p.block < lo∨X p.block) (v:Value):RlLie B lo X (w.setCell p v) t:=h.less (by simp [World.setCell]) fun b h1 _ h3=>⟨h1,h3,Below.heap_setCell _ _ _ _ (fun e=>hp.elim (fun h=>by omega) (fun h=>h3 (e ▸ h)))⟩
theorem RlLie.new_is {T:Nat} (h:RlLie B lo No w t) (hT:T < lo):RlLie B lo (Is T) w t:=h.out fun b h1 _ h3=>by have:b=T:=h3;omega
end
def RlRowT (B:World→Prop) (lo:Nat) (w:World) (z:Value) (acc:List Rl):Prop :=
 w.ownsRow lo 25 6 z acc.length (rlcells acc)∧∀x∈acc,RlLie B lo (fun k=>z.ownBlock=some k) w x
section
variable {B:World→Prop} {lo:Nat} {w w':World} {z:Value} {acc:List Rl}
theorem RlRowT.nil (B:World→Prop) (lo:Nat) (w:World):RlRowT B lo w (.slice none 0 0) []:=⟨⟨rfl,.inl ⟨rfl,rfl⟩⟩,fun x hx=>by cases hx⟩
theorem RlRowT.below (h:RlRowT B lo w z acc) (hb:Below w.heap.size w w'):RlRowT B lo w' z acc:=⟨own_below h.1 hb,fun x hx=>(h.2 x hx).below hb⟩
theorem RlRowT.next {g cap:Nat} {w2 w3 w4:World} {u:Rl} (h:RlRowT B lo w2 z acc) (hu:RlLie B lo (fun k=>z.ownBlock=some k) w2 u) (hb:Below w2.heap.size w2 w3)
  (hown:w4.ownsRow lo 25 6 (.slice (some ⟨g,0,none⟩) (acc.length+1) cap) (acc.length+1) (rlcells acc++u.cells)) (hg:w3.grownBy w4 z.ownBlock) (hat:z.ownBlock=some g∨g=w3.heap.size) :
  RlRowT B lo w4 (.slice (some ⟨g,0,none⟩) (acc.length+1) cap) (acc++[u]):=by
 refine ⟨by rw [List.length_append,rlcells_append];simpa [rlcells] using hown,fun x hx=>?_⟩
 have hx2:RlLie B lo (fun k=>z.ownBlock=some k) w2 x:=by
  rcases List.mem_append.1 hx with hx|hx
  ·exact h.2 x hx
  ·rw [List.mem_singleton.1 hx];exact hu
 refine (hx2.below hb).less hg.size fun b h1 h2 h3=>⟨h1,fun e=>?_,hg.block b h2 (fun e=>h3 e.symm)⟩
 have e':g=b:=by simpa [Value.ownBlock] using e
 rcases hat with h|h
 ·exact h3 (by rw [h,e'])
 ·omega
theorem rl_apart {x:Rl} {lo':Nat} {w0 w2:World} {n:Nat} {e:TypeId} {size:Nat} {xs:List Value} (hown:w0.ownsRow lo e size z n xs) (hx:RlLie B lo' No w2 x) (h1:lo≤lo') (h2:w0.heap.size≤lo'):RlLie B lo (fun k=>z.ownBlock=some k) w2 x :=
 (hx.out (X:=fun k=>z.ownBlock=some k) (fun b h3 _ h4=>by have:=(own_lt hown b h4).2;omega)).low h1
theorem RlRowT.form (h:RlRowT B lo w z acc):∃A c,z=.slice A acc.length c∧acc.length≤c:=by
 rcases h.1.2 with ⟨rfl,h1⟩|⟨g,cap,cur,rfl,hb,hg,hle,_⟩
 ·exact ⟨none,0,by rw [h1],by omega⟩
 ·exact ⟨_,cap,rfl,hle⟩
theorem RlRowT.lies {A:Option Addr} {c n:Nat} (h:RlRowT B lo w (.slice A n c) acc):∀W,B W→Agree lo No w W→RlLst W A acc c:=by
 intro W hB hW
 have hl:=rlcells_len acc
 rcases h.1.2 with ⟨e,h1⟩|⟨g,cap,cur,e,hb,hg,hle,hcap,hcs,hcur⟩
 ·injection e with e1 _ e3
  obtain rfl:acc=[]:=List.length_eq_zero_iff.1 h1
  rw [e1,e3];exact RlLst.nil W
 ·injection e with e1 e2 e3
  subst e1 e2 e3
  have hlt:=own_lt h.1 g rfl
  refine ⟨hle,hcap,fun _=>⟨g,0,rfl,fun i hi=>⟨fun j u hu=>?_,?_⟩⟩⟩
  ·have hj:=Rl.cells_lt hu
   rw [Nat.zero_add,hW.cell (p:=⟨g,i*6+j,none⟩) hlt.1 hlt.2 (fun h=>h)]
   have hc:=World.ownsRow.cellAt h.1 (i*6+j) (by omega)
   rw [hc]
   exact (rlcells_get acc hi hj).trans hu
  ·exact h.2 _ (rl_getD_mem hi) W hB fun b h1 h2 h3=>hW b h1 h2 (fun h=>h)
end
theorem HeldL.grown {B:Nat} {w w':World} {vs:List Value} {row:Option Nat} (h:HeldL B w vs) (hg:w.grownBy w' row) (hr:∀k,row=some k→B≠k):HeldL B w' vs:=by
 have hb:w'.heap[B]?=w.heap[B]?:=hg.block B h.lt (fun e=>hr B e.symm rfl)
 exact ⟨Nat.lt_of_lt_of_le h.lt hg.size,fun j v hv=>(World.cell?_of_block (a:=⟨B,j,none⟩) hb).trans (h.cell j v hv),fun j=>(World.frozen?_of_block (a:=⟨B,j,none⟩) hb).trans (h.free j)⟩
theorem RlRowT.put {B:World→Prop} {lo:Nat} {w:World} {z:Value} {acc:List Rl} (h:RlRowT B lo w z acc) {p:Addr} (hp:p.block < lo) (v:Value):RlRowT B lo (w.setCell p v) z acc :=
 ⟨own_of h.1 fun k hk=>Below.heap_setCell _ _ _ _ (by have:=(own_lt h.1 k hk).1;omega),fun x hx=>(h.2 x hx).set (.inl hp) v⟩
theorem rlnews (w:World) (u:Rl) (T:TypeId):∀j v,u.cells[j]?=some v→(w.alloc (.cells #[.string u.name,.slice u.kA u.keep.length u.kc,.slice u.rA u.remove.length u.rc,.slice u.gA u.guard.length u.gc,.slice u.bA u.body.length u.bc,.int .i64 u.vars] T)).cell? ((⟨w.heap.size,0,none⟩:Addr).add j)=some v:=by
 intro j v hv
 rw [add_plain,Nat.zero_add,World.cell?_alloc_at _ _ _ _ rfl,← hv,show (#[Value.string u.name,.slice u.kA u.keep.length u.kc,.slice u.rA u.remove.length u.rc,.slice u.gA u.guard.length u.gc,.slice u.bA u.body.length u.bc,.int .i64 u.vars]:Array Value)=u.cells.toArray from rfl,List.getElem?_toArray]
end Go.Proofs.YtnghanpmmbcbbaaGreatDoor
