/-
  UnMem.
  UnFind.
  UnUnion.
  UnAddP.
  UnHead.
-/
import Derived.Test.YtgpglgehlnfggaaGreatMe7
import Derived.Test.YtgpglgehlnfggaaGreatMe10
import Derived.Test.YtgpglgehlnfggaaGreatProg
import Derived.BigRegion
import Derived.StillTailTactics
import Derived.Test.YtgpglgehlnfggaaGreatMe6
import Derived.Maps.OwnOps
import Derived.Maps.OwnSet
import Derived.Maps.Views
namespace Go.Proofs.YtgpglgehlnfggaaGreat
open Go.RowKit
theorem fr_refl (w : World) (row : Option Nat) : w.grownBy w row := ⟨rfl, rfl, rfl, Nat.le_refl _, fun _ _ _ => rfl⟩
theorem fr_trans {a b c : World} {row : Option Nat} (h : a.grownBy b row) (k : b.grownBy c row) : a.grownBy c row :=
  ⟨k.os.trans h.os, k.tape.trans h.tape, k.output.trans h.output, Nat.le_trans h.size k.size, fun i hi hr => (k.block i (Nat.lt_of_lt_of_le hi h.size) hr).trans (h.block i hi hr)⟩
theorem fr_below {w w' : World} (h : Below w.heap.size w w') (row : Option Nat) : w.grownBy w' row := ⟨h.os, h.tape, h.output, h.size, fun k hk _ => h.block k hk⟩
theorem fr_drew {a w : World} {row : Option Nat} (h : a.grownBy w row) : a.grownBy w.drew row := ⟨h.os, h.tape, h.output, h.size, h.block⟩
theorem fr_alloc {a w : World} {row : Option Nat} (h : a.grownBy w row) (o : Obj) : a.grownBy (w.alloc o) row := fr_trans h (World.grownBy_alloc w o row)
theorem fr_set {a w : World} {row : Option Nat} (h : a.grownBy w row) {p : Addr} (hp : some p.block = row) (v : Value) : a.grownBy (w.setCell p v) row :=
  fr_trans h ⟨rfl, rfl, rfl, by simp [World.setCell], fun k _ hr => Below.heap_setCell _ _ _ _ (fun e => hr (by rw [e]; exact hp))⟩
theorem fr_own {a w : World} {row : Option Nat} (h : a.grownBy w row) {p : Addr} (hp : a.heap.size ≤ p.block) (v : Value) : a.grownBy (w.setCell p v) row :=
  ⟨h.os, h.tape, h.output, by simpa [World.setCell] using h.size, fun k hk hr => (Below.heap_setCell _ _ _ _ (by omega)).trans (h.block k hk hr)⟩
theorem fr_cell {w w' : World} {row : Option Nat} (h : w.grownBy w' row) {p : Addr} (hp : p.block < w.heap.size) (hr : some p.block ≠ row) : w'.cell? p = w.cell? p := World.cell?_of_block (h.block _ hp hr)
theorem fr_frozen {w w' : World} {row : Option Nat} (h : w.grownBy w' row) {p : Addr} (hp : p.block < w.heap.size) (hr : some p.block ≠ row) : w'.frozen? p = w.frozen? p := World.frozen?_of_block (h.block _ hp hr)
theorem below_fr {a w w' : World} {row : Option Nat} (hb : Below a.heap.size a w) (h : w.grownBy w' row) (hr : ∀ k, row = some k → a.heap.size ≤ k) : Below a.heap.size a w' :=
  hb.trans ⟨h.os, h.tape, h.output, h.size, fun k hk => h.block k (Nat.lt_of_lt_of_le hk hb.size) (fun e => by have := hr k e.symm; omega)⟩
def IRow (w : World) (A : Option Addr) (l : List Nat) (c : Nat) : Prop := l.length ≤ c ∧ c ≤ maxLen ∧ (0 < l.length → ∃ b, A = some ⟨b, 0, none⟩ ∧ ∀ j, j < l.length → w.cell? ⟨b, j, none⟩ = some (.int .i64 (l.getD j 0 : Nat)))
def KidsAt (lo : Nat) (X : Nat → Prop) (w : World) (x : Nd) : Prop := ∀ W, Agree lo X w W → IRow W x.A x.kids x.cap
section
variable {lo : Nat} {X : Nat → Prop} {w w' : World} {x : Nd}
theorem KidsAt.at (h : KidsAt lo X w x) : IRow w x.A x.kids x.cap := h w (Agree.refl _ _ _)
theorem KidsAt.less {lo' : Nat} {Y : Nat → Prop} (h : KidsAt lo' Y w x) (hs : w.heap.size ≤ w'.heap.size) (hc : ∀ b, lo' ≤ b → b < w.heap.size → ¬ Y b → lo ≤ b ∧ ¬ X b ∧ w'.heap[b]? = w.heap[b]?) : KidsAt lo X w' x := fun W hW => h W (hW.less hs hc)
theorem KidsAt.fr {row : Option Nat} (h : KidsAt lo X w x) (k : w.grownBy w' row) (hr : ∀ b, row = some b → lo ≤ b → X b) : KidsAt lo X w' x := h.less k.size fun b h1 h2 h3 => ⟨h1, h3, k.block b h2 (fun e => h3 (hr b e.symm h1))⟩
theorem KidsAt.out {Y : Nat → Prop} (h : KidsAt lo Y w x) (hY : ∀ b, lo ≤ b → b < w.heap.size → X b → Y b) : KidsAt lo X w x := h.less (Nat.le_refl _) fun b h1 h2 h3 => ⟨h1, fun hx => h3 (hY b h1 h2 hx), rfl⟩
theorem KidsAt.low (h : KidsAt lo X w x) {lo' : Nat} (hl : lo' ≤ lo) : KidsAt lo' X w x := h.less (Nat.le_refl _) fun b h1 _ h3 => ⟨by omega, h3, rfl⟩
theorem KidsAt.next (h : KidsAt lo X w x) (k : Nat) : KidsAt lo X w { x with next := k } := h
end
def ncells (x : Nd) : List Value := [.int .i64 x.tm.kind, .int .i64 x.tm.num, .string x.tm.name, .slice x.tm.at_ x.tm.args.length x.tm.cap, .slice x.A x.kids.length x.cap, .int .i64 (x.next : Nat)]
def gcells (G : List Nd) : List Value := G.flatMap ncells
theorem ncells_length (x : Nd) : (ncells x).length = 6 := rfl
theorem gcells_len (G : List Nd) : (gcells G).length = G.length * 6 := by
  induction G with
  | nil => rfl
  | cons t r ih => simp only [gcells, List.flatMap_cons, List.length_append, ncells_length, List.length_cons] at *; omega
theorem gcells_append (l m : List Nd) : gcells (l ++ m) = gcells l ++ gcells m := by simp [gcells]
theorem ncells_lt {x : Nd} {j : Nat} {u : Value} (h : (ncells x)[j]? = some u) : j < 6 := by
  have := (List.getElem?_eq_some_iff.1 h).1
  simpa [ncells] using this
theorem gcells_get (G : List Nd) {i j : Nat} (hi : i < G.length) (hj : j < 6) : (gcells G)[i * 6 + j]? = (ncells (nd G i))[j]? := by
  induction G generalizing i with
  | nil => simp at hi
  | cons t r ih =>
    simp only [gcells, List.flatMap_cons]
    cases i with
    | zero =>
      rw [List.getElem?_append_left (by rw [ncells_length]; omega)]
      simp [nd]
    | succ i =>
      rw [List.getElem?_append_right (by rw [ncells_length]; omega), ncells_length, show (i + 1) * 6 + j - 6 = i * 6 + j by omega]
      simpa [gcells, nd] using ih (by simpa using hi)
theorem gcells_ext {G H : List Nd} {xs : List Value} (hl : xs.length = G.length * 6) (hlen : H.length = G.length) (h : ∀ i j, i < G.length → j < 6 → xs[i * 6 + j]? = (ncells (nd H i))[j]?) : xs = gcells H := by
  refine List.ext_getElem? fun m => ?_
  by_cases hm : m < G.length * 6
  · have h1 := h (m / 6) (m % 6) (by omega) (by omega)
    rw [show m / 6 * 6 + m % 6 = m by omega] at h1
    rw [h1, ← gcells_get H (by omega) (by omega), show m / 6 * 6 + m % 6 = m by omega]
  · rw [List.getElem?_eq_none (by omega), List.getElem?_eq_none (by rw [gcells_len, hlen]; omega)]
theorem nd_set (G : List Nd) (i : Nat) (x : Nd) (k : Nat) (hi : i < G.length) : nd (G.set i x) k = if k = i then x else nd G k := by
  unfold nd
  by_cases h : k = i
  · subst h; simp [List.getD, hi]
  · rw [if_neg h]; simp [List.getD, Ne.symm h]
theorem gcells_set {G : List Nd} {i j : Nat} {x : Nd} {u : Value} (hi : i < G.length) (hj : j < 6) (h : (ncells (nd G i)).set j u = ncells x) : (gcells G).set (i * 6 + j) u = gcells (G.set i x) := by
  refine gcells_ext (G := G) (by rw [List.length_set, gcells_len]) (by rw [List.length_set]) fun i' j' hi' hj' => ?_
  rw [nd_set _ _ _ _ hi, List.getElem?_set]
  by_cases hij : i' = i
  · subst hij
    rw [if_pos rfl, ← h, List.getElem?_set]
    by_cases hjj : j = j'
    · subst hjj
      rw [if_pos rfl, if_pos rfl, if_pos (by rw [gcells_len]; omega), if_pos (by rw [ncells_length]; omega)]
    · rw [if_neg (by omega), if_neg hjj, gcells_get G hi' hj']
  · rw [if_neg (by omega), if_neg hij, gcells_get G hi' hj']
theorem node_info : (Tryz.prog.info? 140).map (fun i => (i.zero, i.size, i.bytes)) = some (some (.agg #[.int .i64 0, .int .i64 0, .string ⟨#[]⟩, .slice none 0 0, .slice none 0 0, .int .i64 0]), 6, 88) := by kernel_rfl
structure Fine (x : Nd) : Prop where
  kind : Fits x.tm.kind
  num : Fits x.tm.num
  name : x.tm.name.size ≤ maxLen
  args : x.tm.args.length ≤ x.tm.cap ∧ x.tm.cap ≤ maxLen
  kids : x.kids.length ≤ 1000000
structure Gph (lo : Nat) (X : Nat → Prop) (w : World) (p : Nat) (z : Value) (G : List Nd) : Prop where
  hdr : w.cell? ⟨p, 0, none⟩ = some z
  row : w.ownsRow lo 140 6 z G.length (gcells G)
  kids : ∀ i, i < G.length → KidsAt lo (fun k => z.ownBlock = some k ∨ X k) w (nd G i)
  np : z.ownBlock ≠ some p
  fine : ∀ i, i < G.length → Fine (nd G i)
  small : G.length ≤ 1000000
section
variable {lo p : Nat} {X : Nat → Prop} {w w' : World} {z : Value} {G : List Nd}
theorem Gph.lt (h : Gph lo X w p z G) : p < w.heap.size := World.block_lt_of_cell? w _ h.hdr
theorem Gph.form (h : Gph lo X w p z G) (hn : 0 < G.length) : ∃ q cap, z = .slice (some ⟨q, 0, none⟩) G.length cap ∧ lo ≤ q ∧ q < w.heap.size ∧ G.length ≤ cap ∧ cap ≤ maxLen := by
  rcases h.row.2 with ⟨_, h1⟩ | ⟨q, cap, cur, rfl, hb, hg, hle, hcap, _⟩
  · omega
  · exact ⟨q, cap, rfl, hb, (own_lt h.row q rfl).2, hle, hcap⟩
theorem Gph.slice (h : Gph lo X w p z G) : ∃ A cap, z = .slice A G.length cap ∧ G.length ≤ cap ∧ cap ≤ maxLen := by
  rcases h.row.2 with ⟨rfl, h1⟩ | ⟨q, cap, cur, rfl, hb, hg, hle, hcap, _⟩
  · exact ⟨none, 0, by rw [h1], by omega, Nat.zero_le _⟩
  · exact ⟨_, cap, rfl, hle, hcap⟩
theorem Gph.cellAt {q cap n : Nat} (h : Gph lo X w p (.slice (some ⟨q, 0, none⟩) n cap) G) {i j : Nat} {u : Value} (hi : i < G.length) (hu : (ncells (nd G i))[j]? = some u) : w.cell? ⟨q, i * 6 + j, none⟩ = some u := by
  have hj := ncells_lt hu
  have hrow := h.row
  obtain rfl : n = G.length := by
    rcases hrow.2 with ⟨e, _⟩ | ⟨_, _, _, e, _⟩
    · injection e with e; cases e
    · injection e
  have hc := World.ownsRow.cellAt hrow (i * 6 + j) (by omega)
  rw [hc]
  exact (gcells_get G hi hj).trans hu
theorem Gph.cells {q cap n : Nat} (h : Gph lo X w p (.slice (some ⟨q, 0, none⟩) n cap) G) {i : Nat} (hi : i < G.length) :
    w.cell? ⟨q, i * 6, none⟩ = some (.int .i64 (nd G i).tm.kind) ∧ w.cell? ⟨q, i * 6 + 1, none⟩ = some (.int .i64 (nd G i).tm.num) ∧ w.cell? ⟨q, i * 6 + 2, none⟩ = some (.string (nd G i).tm.name) ∧
    w.cell? ⟨q, i * 6 + 3, none⟩ = some (.slice (nd G i).tm.at_ (nd G i).tm.args.length (nd G i).tm.cap) ∧ w.cell? ⟨q, i * 6 + 4, none⟩ = some (.slice (nd G i).A (nd G i).kids.length (nd G i).cap) ∧ w.cell? ⟨q, i * 6 + 5, none⟩ = some (.int .i64 ((nd G i).next : Nat)) :=
  ⟨h.cellAt (j := 0) hi rfl, h.cellAt (j := 1) hi rfl, h.cellAt (j := 2) hi rfl, h.cellAt (j := 3) hi rfl, h.cellAt (j := 4) hi rfl, h.cellAt (j := 5) hi rfl⟩
theorem Gph.free {q cap n : Nat} (h : Gph lo X w p (.slice (some ⟨q, 0, none⟩) n cap) G) (j : Nat) : w.frozen? ⟨q, j, none⟩ = false := by
  have hrow := h.row
  obtain rfl : n = G.length := by
    rcases hrow.2 with ⟨e, _⟩ | ⟨_, _, _, e, _⟩
    · injection e with e; cases e
    · injection e
  exact World.ownsRow.frozenAt hrow j
theorem Gph.fr {row : Option Nat} (h : Gph lo X w p z G) (k : w.grownBy w' row) (hp : row ≠ some p) (hz : z.ownBlock = none ∨ z.ownBlock ≠ row) (hX : ∀ b, row = some b → lo ≤ b → X b) : Gph lo X w' p z G :=
  ⟨(fr_cell k h.lt (Ne.symm hp)).trans h.hdr, World.ownsRow.kept h.row k hz, fun i hi => (h.kids i hi).fr k fun b hb hl => .inr (hX b hb hl), h.np, h.fine, h.small⟩
theorem Gph.below (h : Gph lo X w p z G) (hb : Below w.heap.size w w') : Gph lo X w' p z G :=
  h.fr (row := none) (fr_below hb none) (by simp) (by cases z.ownBlock <;> simp) (fun b hb => by cases hb)
theorem Gph.alloc (h : Gph lo X w p z G) (o : Obj) : Gph lo X (w.alloc o) p z G := h.below ((Below.refl _ _).alloc (Nat.le_refl _) o)
theorem Gph.drew (h : Gph lo X w p z G) : Gph lo X w.drew p z G := ⟨h.hdr, h.row, h.kids, h.np, h.fine, h.small⟩
theorem Gph.out {Y : Nat → Prop} (h : Gph lo Y w p z G) (hY : ∀ b, lo ≤ b → b < w.heap.size → X b → Y b) : Gph lo X w p z G :=
  ⟨h.hdr, h.row, fun i hi => (h.kids i hi).out fun b h1 h2 h3 => h3.elim .inl (fun hx => .inr (hY b h1 h2 hx)), h.np, h.fine, h.small⟩
theorem Gph.setNext {q cap n i k : Nat} (h : Gph lo X w p (.slice (some ⟨q, 0, none⟩) n cap) G) (hi : i < G.length) :
    Gph lo X (w.setCell ⟨q, i * 6 + 5, none⟩ (.int .i64 (k : Nat))) p (.slice (some ⟨q, 0, none⟩) n cap) (G.set i { nd G i with next := k }) := by
  have hpq : p ≠ q := fun e => h.np (by rw [e]; rfl)
  have hg : w.grownBy (w.setCell ⟨q, i * 6 + 5, none⟩ (.int .i64 (k : Nat))) (some q) := fr_set (fr_refl _ _) rfl _
  refine ⟨(fr_cell hg h.lt (by simpa using hpq)).trans h.hdr, ?_, fun j hj => ?_, h.np, fun j hj => ?_, by rw [List.length_set]; exact h.small⟩
  · have hrow := h.row
    obtain rfl : n = G.length := by
      rcases hrow.2 with ⟨e, _⟩ | ⟨_, _, _, e, _⟩
      · injection e with e; cases e
      · injection e
    have hs := (World.ownsRow.stored hrow (i * 6 + 5) (.int .i64 (k : Nat))).1
    rw [gcells_set hi (by omega) (x := { nd G i with next := k }) rfl] at hs
    rw [List.length_set]
    exact hs
  · rw [List.length_set] at hj
    rw [nd_set _ _ _ _ hi]
    have h1 : ∀ j, j < G.length → KidsAt lo (fun b => (Value.slice (some ⟨q, 0, none⟩) n cap).ownBlock = some b ∨ X b) (w.setCell ⟨q, i * 6 + 5, none⟩ (.int .i64 (k : Nat))) (nd G j) := fun j hj => (h.kids j hj).fr hg fun b e _ => .inl e
    split
    · exact (h1 i hi).next k
    · exact h1 j hj
  · rw [List.length_set] at hj
    rw [nd_set _ _ _ _ hi]
    split
    · exact ⟨(h.fine i hi).kind, (h.fine i hi).num, (h.fine i hi).name, (h.fine i hi).args, (h.fine i hi).kids⟩
    · exact h.fine j hj
end
end Go.Proofs.YtgpglgehlnfggaaGreat
namespace Go.Proofs.YtgpglgehlnfggaaGreat
open Go.RowKit
structure UF (G : List Nd) (root r : Nat → Nat) : Prop where
  lt : ∀ i, i < G.length → (nd G i).next < G.length
  step : ∀ i, i < G.length → root (nd G i).next = root i
  fix : ∀ i, i < G.length → ((nd G i).next = i ↔ root i = i)
  dec : ∀ i, i < G.length → (nd G i).next ≠ i → r (nd G i).next < r i
def Alike (G H : List Nd) : Prop := H.length = G.length ∧ ∀ i, i < G.length → ∃ k, nd H i = { nd G i with next := k }
theorem Alike.refl (G : List Nd) : Alike G G := ⟨rfl, fun i _ => ⟨(nd G i).next, rfl⟩⟩
theorem Alike.trans {G H I : List Nd} (h : Alike G H) (k : Alike H I) : Alike G I := ⟨k.1.trans h.1, fun i hi => by
  obtain ⟨a, ha⟩ := h.2 i hi
  obtain ⟨b, hb⟩ := k.2 i (by rw [h.1]; exact hi)
  exact ⟨b, by rw [hb, ha]⟩⟩
theorem Alike.set {G : List Nd} {i : Nat} (hi : i < G.length) (k : Nat) : Alike G (G.set i { nd G i with next := k }) := ⟨by simp, fun j hj => by
  rw [nd_set _ _ _ _ hi]
  split
  · rename_i h; exact ⟨k, by rw [h]⟩
  · exact ⟨(nd G j).next, rfl⟩⟩
theorem Alike.tm {G H : List Nd} (h : Alike G H) {i : Nat} (hi : i < G.length) : (nd H i).tm = (nd G i).tm ∧ (nd H i).kids = (nd G i).kids ∧ (nd H i).A = (nd G i).A ∧ (nd H i).cap = (nd G i).cap := by
  obtain ⟨k, hk⟩ := h.2 i hi
  rw [hk]
  exact ⟨rfl, rfl, rfl, rfl⟩
section
variable {G : List Nd} {root r : Nat → Nat}
theorem UF.root_lt (h : UF G root r) : ∀ i, i < G.length → root i < G.length ∧ root (root i) = root i := by
  suffices H : ∀ n i, i < G.length → r i < n → root i < G.length ∧ root (root i) = root i from fun i hi => H _ i hi (Nat.lt_succ_self _)
  intro n
  induction n with
  | zero => intro i _ h; omega
  | succ n ih =>
    intro i hi hn
    by_cases hk : (nd G i).next = i
    · have := (h.fix i hi).1 hk
      rw [this]; exact ⟨hi, this⟩
    · have h1 := h.dec i hi hk
      have h2 := ih _ (h.lt i hi) (by omega)
      rw [h.step i hi] at h2
      exact h2
theorem UF.halve (h : UF G root r) {i : Nat} (hi : i < G.length) (hk : (nd G i).next ≠ i) : UF (G.set i { nd G i with next := (nd G (nd G i).next).next }) root r := by
  have hl := h.lt i hi
  have hd := h.dec i hi hk
  have hle : r (nd G (nd G i).next).next ≤ r (nd G i).next := by
    by_cases h2 : (nd G (nd G i).next).next = (nd G i).next
    · rw [h2]; exact Nat.le_refl _
    · exact Nat.le_of_lt (h.dec _ hl h2)
  refine ⟨fun j hj => ?_, fun j hj => ?_, fun j hj => ?_, fun j hj hn => ?_⟩
  all_goals
    rw [List.length_set] at hj
    rw [nd_set _ _ _ _ hi] at *
  · rw [List.length_set]
    split
    · exact h.lt _ hl
    · exact h.lt j hj
  · split
    · rename_i e; subst e
      show root (nd G (nd G j).next).next = root j
      rw [h.step _ hl, h.step j hj]
    · exact h.step j hj
  · split
    · rename_i e; subst e
      show (nd G (nd G j).next).next = j ↔ root j = j
      constructor
      · intro e; rw [e] at hle; omega
      · intro e; exact absurd ((h.fix j hj).2 e) hk
    · exact h.fix j hj
  · by_cases e : j = i
    · subst e
      rw [if_pos rfl]
      show r (nd G (nd G j).next).next < r j
      omega
    · rw [if_neg e] at hn ⊢
      exact h.dec j hj hn
end
def Found (lo : Nat) (X : Nat → Prop) (p : Nat) (z : Value) (G : List Nd) (root r : Nat → Nat) (i : Nat) (w : World) (e : Ending) (w' : World) : Prop :=
  ∃ H, e = .returned (.int .i64 (root i : Nat)) ∧ Alike G H ∧ UF H root r ∧ Gph lo X w' p z H ∧ w.grownBy w' z.ownBlock ∧ w'.heap.size = w.heap.size
def Finding (lo : Nat) (X : Nat → Prop) (p q cap : Nat) (G : List Nd) (root r : Nat → Nat) (i j : Nat) (w wr : World) : Prop :=
  ∃ H, root j = root i ∧ Alike G H ∧ UF H root r ∧ Gph lo X wr p (.slice (some ⟨q, 0, none⟩) G.length cap) H ∧ w.grownBy wr (some q) ∧ wr.heap.size = w.heap.size
theorem Finding.drew {lo : Nat} {X : Nat → Prop} {p q cap : Nat} {G : List Nd} {root r : Nat → Nat} {i j : Nat} {w wr : World} (h : Finding lo X p q cap G root r i j w wr) : Finding lo X p q cap G root r i j w wr.drew := by
  obtain ⟨H, e1, e2, e3, e4, e5, e6⟩ := h
  exact ⟨H, e1, e2, e3, e4.drew, fr_drew e5, e6⟩
set_option maxHeartbeats 2000000 in
theorem ufind_at {lo : Nat} {X : Nat → Prop} {p : Nat} {z : Value} {G : List Nd} {root r : Nat → Nat} {i : Nat} {w : World} (h : Gph lo X w p z G) (hu : UF G root r) (hi : i < G.length) :
    Calls Tryz.prog 159 #[.pointer (some ⟨p, 0, none⟩), .int .i64 (i : Nat)] w (Found lo X p z G root r i w) := by
  obtain ⟨q, cap, rfl, _⟩ := h.form (by omega)
  have hsm := h.small
  have H0 := Lib.hid (show Finding lo X p q cap G root r i i w w from ⟨G, rfl, Alike.refl _, hu, h, fr_refl _ _, rfl⟩)
  clear h hu
  go_enter Tryz.func159, Tryz.ntmps159
  go_wp2_with fail
  go_loopw [1] (fun s1 wr => ∃ j : Nat, s1 = .int .i64 (j : Nat) ∧ j < G.length ∧ Hid (Finding lo X p q cap G root r i j w wr)) (fun s1 _ => r (intOf s1).toNat)
  case atStart => exact ⟨i, rfl, hi, H0⟩
  case round =>
    clear H0
    obtain ⟨j, rfl, hj, HF⟩ := hrel
    obtain ⟨H, e1, e2, e3, e4, e5, e6⟩ := HF.out
    have hjH : j < H.length := by rw [e2.1]; exact hj
    obtain ⟨k, hk⟩ : ∃ k, k = (nd H j).next := ⟨_, rfl⟩
    have hkl : k < H.length := by rw [hk]; exact e3.lt j hjH
    have hkn : k < G.length := by rw [← e2.1]; exact hkl
    have c0 := e4.hdr
    have c5 := (e4.cells hjH).2.2.2.2.2
    rw [← hk] at c5
    by_cases hkj : k = j
    · subst hkj
      have hne : ((k : Int) != (k : Int)) = false := by simp
      have hr : root k = k := (e3.fix k hjH).1 hk.symm
      have HE := Lib.hid (show Found lo X p (.slice (some ⟨q, 0, none⟩) G.length cap) G root r i w (.returned (.int .i64 (k : Nat))) wr from ⟨H, by rw [← e1, hr], e2, e3, e4, e5, e6⟩)
      clear e1 e2 e3 e4 e5 e6 hk HF hr hkl hjH
      go_wp2_with fail
      go_ret
      exact HE.out
    · have hne : ((k : Int) != (j : Int)) = true := by simp; omega
      have d5 := (e4.cells hkl).2.2.2.2.2
      obtain ⟨m, hm⟩ : ∃ m, m = (nd H k).next := ⟨_, rfl⟩
      rw [← hm] at d5
      have fz := e4.free (j * 6 + 5)
      have hml : m < G.length := by rw [← e2.1, hm]; exact e3.lt k hkl
      have hq : (⟨q, j * 6 + 5, none⟩ : Addr) ≠ ⟨q, k * 6 + 5, none⟩ := fun e => by injection e with _ e _; omega
      have hpq : p ≠ q := fun e => e4.np (by rw [e]; rfl)
      have hmr : r m < r j := by
        have a1 := e3.dec j hjH (by omega)
        by_cases h2 : m = k
        · rw [h2]; rw [← hk] at a1; exact a1
        · have a2 := e3.dec k hkl (by omega)
          rw [← hk] at a1; rw [← hm] at a2; omega
      have HE := Lib.hid (show Finding lo X p q cap G root r i m w (wr.setCell ⟨q, j * 6 + 5, none⟩ (.int .i64 (m : Nat))) from by
        have a1 := e3.halve hjH (by omega)
        rw [← hk, ← hm] at a1
        refine ⟨_, ?_, e2.trans (Alike.set hjH m), a1, e4.setNext hjH, fr_set e5 rfl _, by simpa [World.setCell] using e6⟩
        rw [← e1, hm, e3.step k hkl, hk, e3.step j hjH])
      have g0 : (wr.setCell ⟨q, j * 6 + 5, none⟩ (.int .i64 (m : Nat))).cell? ⟨p, 0, none⟩ = some (.slice (some ⟨q, 0, none⟩) G.length cap) := by
        obtain ⟨_, _, _, _, a, _⟩ := HE.out; exact a.hdr
      clear e1 e2 e3 e4 e5 e6 hk hm HF hkl hjH
      go_wp2_with fail
      go_region
      all_goals
        go_wp2_with fail
        go_roundw
        case rel => exact ⟨m, rfl, hml, Lib.hid HE.out.drew⟩
        case measure => simpa [intOf] using hmr
end Go.Proofs.YtgpglgehlnfggaaGreat
namespace Go.Proofs.YtgpglgehlnfggaaGreat
open Go
def Coarse (G : List Nd) (root : Nat → Nat) (op : List (Nat × Nat)) (q : Nat → Nat) : Prop := (∀ i j, i < G.length → j < G.length → root i = root j → q i = q j) ∧ ∀ p ∈ op, q p.1 = q p.2
def SameLab (G : List Nd) (i j : Nat) : Prop := ((nd G i).tm.kind = (nd G j).tm.kind ∧ (nd G i).tm.num = (nd G j).tm.num ∧ (nd G i).tm.name = (nd G j).tm.name) ∧ (nd G i).kids.length = (nd G j).kids.length
structure Mid (G : List Nd) (root : Nat → Nat) (op E : List (Nat × Nat)) : Prop where
  bd : ∀ p ∈ op, p.1 < G.length ∧ p.2 < G.length
  ebd : ∀ p ∈ E, p.1 < G.length ∧ p.2 < G.length
  sound : ∀ f, (∀ p ∈ E, ndv f G p.1 = ndv f G p.2) → (∀ i j, i < G.length → j < G.length → root i = root j → ndv f G i = ndv f G j) ∧ ∀ p ∈ op, ndv f G p.1 = ndv f G p.2
  lab : ∀ i j, i < G.length → j < G.length → (nd G i).tm.kind ≠ 1 → (nd G j).tm.kind ≠ 1 → root i = root j → SameLab G i j
  cong : ∀ q, Coarse G root op q → ∀ i j, i < G.length → j < G.length → (nd G i).tm.kind ≠ 1 → (nd G j).tm.kind ≠ 1 → root i = root j → (nd G i).kids.map q = (nd G j).kids.map q
  eqs : ∀ q, Coarse G root op q → ∀ p ∈ E, q p.1 = q p.2
structure Tops (G : List Nd) (root : Nat → Nat) : Prop where
  nonvar : ∀ i, i < G.length → (nd G i).tm.kind ≠ 1 → (nd G (root i)).tm.kind ≠ 1
  least : ∀ i, i < G.length → (nd G (root i)).tm.kind = 1 → (nd G (root i)).tm.num ≤ (nd G i).tm.num
section
variable {G : List Nd} {root : Nat → Nat} {op op' E : List (Nat × Nat)} {a b i k : Nat}
theorem Mid.pop (h : Mid G root op E) (h1 : ∀ p ∈ op, p = (a, b) ∨ p ∈ op') (h2 : ∀ p ∈ op', p ∈ op) (ha : a < G.length) (hb : b < G.length) (e : root a = root b) : Mid G root op' E := by
  have hc : ∀ q, Coarse G root op' q → Coarse G root op q := fun q hq => ⟨hq.1, fun p hp => by
    rcases h1 p hp with rfl | hp
    · exact hq.1 a b ha hb e
    · exact hq.2 p hp⟩
  exact ⟨fun p hp => h.bd p (h2 p hp), h.ebd, fun f hf => ⟨(h.sound f hf).1, fun p hp => (h.sound f hf).2 p (h2 p hp)⟩, h.lab, fun q hq => h.cong q (hc q hq), fun q hq => h.eqs q (hc q hq)⟩
theorem Mid.push (h : Mid G root op E) (ha : a < G.length) (hb : b < G.length) : Mid G root ((a, b) :: op) (E ++ [(a, b)]) := by
  have hc : ∀ q, Coarse G root ((a, b) :: op) q → Coarse G root op q ∧ q a = q b := fun q hq => ⟨⟨hq.1, fun p hp => hq.2 p (List.mem_cons_of_mem _ hp)⟩, hq.2 (a, b) (by simp)⟩
  refine ⟨fun p hp => ?_, fun p hp => ?_, fun f hf => ?_, h.lab, fun q hq => h.cong q (hc q hq).1, fun q hq p hp => ?_⟩
  · rcases List.mem_cons.1 hp with rfl | hp
    · exact ⟨ha, hb⟩
    · exact h.bd p hp
  · rcases List.mem_append.1 hp with hp | hp
    · exact h.ebd p hp
    · rw [List.mem_singleton.1 hp]; exact ⟨ha, hb⟩
  · have hs := h.sound f fun p hp => hf p (List.mem_append.2 (.inl hp))
    refine ⟨hs.1, fun p hp => ?_⟩
    rcases List.mem_cons.1 hp with rfl | hp
    · exact hf (a, b) (by simp)
    · exact hs.2 p hp
  · rcases List.mem_append.1 hp with hp | hp
    · exact h.eqs q (hc q hq).1 p hp
    · rw [List.mem_singleton.1 hp]; exact (hc q hq).2
def mergeR (root : Nat → Nat) (i k : Nat) : Nat → Nat := fun j => if root j = k then i else root j
theorem roots_eq (h : Mid G root op E) (hab : (a, b) ∈ op) (rl : ∀ j, j < G.length → root j < G.length ∧ root (root j) = root j) (hik : (i = root a ∧ k = root b) ∨ (i = root b ∧ k = root a)) {f : Int → Tm} (hf : ∀ p ∈ E, ndv f G p.1 = ndv f G p.2) : ndv f G i = ndv f G k := by
  obtain ⟨ha, hb⟩ := h.bd _ hab
  have hs := h.sound f hf
  have e : ndv f G a = ndv f G b := hs.2 _ hab
  have ea : ndv f G (root a) = ndv f G a := hs.1 _ _ (rl a ha).1 ha (rl a ha).2
  have eb : ndv f G (root b) = ndv f G b := hs.1 _ _ (rl b hb).1 hb (rl b hb).2
  rcases hik with ⟨rfl, rfl⟩ | ⟨rfl, rfl⟩
  · rw [ea, eb, e]
  · rw [ea, eb, e]
theorem Mid.clash (h : Mid G root op E) (hok : Ok G) (hab : (a, b) ∈ op) (rl : ∀ j, j < G.length → root j < G.length ∧ root (root j) = root j) (hik : (i = root a ∧ k = root b) ∨ (i = root b ∧ k = root a))
    (hi : i < G.length) (hk : k < G.length) (hki : (nd G i).tm.kind ≠ 1) (hkk : (nd G k).tm.kind ≠ 1) (hl : ¬ SameLab G i k) : ∀ f, ¬ ∀ p ∈ E, ndv f G p.1 = ndv f G p.2 := fun _ hf =>
  Go.Proofs.YtgpglgehlnfggaaGreat.clash (hok i hi) (hok k hk) hki hkk hl (roots_eq h hab rl hik hf)
theorem zip_map_eq {α β : Type} {q : α → β} : ∀ {l m : List α}, l.length = m.length → (∀ p ∈ l.zip m, q p.1 = q p.2) → l.map q = m.map q
  | [], [], _, _ => rfl
  | [], _ :: _, h, _ => by simp at h
  | _ :: _, [], h, _ => by simp at h
  | x :: l, y :: m, h, hq => by
    simp only [List.zip_cons_cons, List.mem_cons, forall_eq_or_imp] at hq
    rw [List.map_cons, List.map_cons, hq.1, zip_map_eq (by simpa using h) hq.2]
theorem map_zip_eq {α β : Type} {q : α → β} : ∀ {l m : List α}, l.map q = m.map q → ∀ p ∈ l.zip m, q p.1 = q p.2
  | [], _, _, p, hp => by simp at hp
  | _ :: _, [], _, p, hp => by simp at hp
  | x :: l, y :: m, h, p, hp => by
    simp only [List.map_cons, List.cons.injEq] at h
    rcases List.mem_cons.1 hp with rfl | hp
    · exact h.1
    · exact map_zip_eq h.2 p hp
theorem Mid.union (h : Mid G root op E) (hok : Ok G) (ht : Tops G root) (hab : (a, b) ∈ op) (rl : ∀ j, j < G.length → root j < G.length ∧ root (root j) = root j) (hik : (i = root a ∧ k = root b) ∨ (i = root b ∧ k = root a)) (hne : i ≠ k)
    (hrem : (nd G i).tm.kind = 1 → (nd G k).tm.kind = 1 ∧ (nd G i).tm.num ≤ (nd G k).tm.num)
    (h1 : ∀ p ∈ op, p = (a, b) ∨ p ∈ op') (h2 : ∀ p ∈ op', p ∈ op ∨ ((nd G k).tm.kind ≠ 1 ∧ p ∈ (nd G i).kids.zip (nd G k).kids)) (h3 : (nd G k).tm.kind ≠ 1 → SameLab G i k ∧ ∀ p ∈ (nd G i).kids.zip (nd G k).kids, p ∈ op') :
    Mid G (mergeR root i k) op' E ∧ Tops G (mergeR root i k) := by
  obtain ⟨ha, hb⟩ := h.bd _ hab
  have hi : i < G.length := by rcases hik with ⟨rfl, _⟩ | ⟨rfl, _⟩ <;> exact (rl _ (by assumption)).1
  have hk : k < G.length := by rcases hik with ⟨_, rfl⟩ | ⟨_, rfl⟩ <;> exact (rl _ (by assumption)).1
  have ri : root i = i := by rcases hik with ⟨rfl, _⟩ | ⟨rfl, _⟩ <;> exact (rl _ (by assumption)).2
  have rk : root k = k := by rcases hik with ⟨_, rfl⟩ | ⟨_, rfl⟩ <;> exact (rl _ (by assumption)).2
  have hmono : ∀ x y, root x = root y → mergeR root i k x = mergeR root i k y := fun x y e => by unfold mergeR; rw [e]
  have hmab : mergeR root i k a = mergeR root i k b := by
    unfold mergeR
    rcases hik with ⟨rfl, rfl⟩ | ⟨rfl, rfl⟩
    · rw [if_neg hne, if_pos rfl]
    · rw [if_pos rfl, if_neg hne]
  have hkv : (nd G k).tm.kind ≠ 1 → (nd G i).tm.kind ≠ 1 := fun hkk hki => hkk (hrem hki).1
  have hc : ∀ q, Coarse G (mergeR root i k) op' q → Coarse G root op q := fun q hq => ⟨fun x y hx hy e => hq.1 x y hx hy (hmono x y e), fun p hp => by
    rcases h1 p hp with rfl | hp
    · exact hq.1 a b ha hb hmab
    · exact hq.2 p hp⟩
  have hzip : ∀ q, Coarse G (mergeR root i k) op' q → (nd G k).tm.kind ≠ 1 → (nd G i).kids.map q = (nd G k).kids.map q := fun q hq hkk =>
    zip_map_eq (h3 hkk).1.2 fun p hp => hq.2 p ((h3 hkk).2 p hp)
  -- a node of a class that is no variable: its class's is none
  have hroot : ∀ x, x < G.length → (nd G x).tm.kind ≠ 1 → SameLab G x (root x) ∧ ∀ q, Coarse G root op q → (nd G x).kids.map q = (nd G (root x)).kids.map q := fun x hx hkx =>
    ⟨h.lab x (root x) hx (rl x hx).1 hkx (ht.nonvar x hx hkx) (rl x hx).2.symm, fun q hq => h.cong q hq x (root x) hx (rl x hx).1 hkx (ht.nonvar x hx hkx) (rl x hx).2.symm⟩
  have hlab' : ∀ x, x < G.length → (nd G x).tm.kind ≠ 1 → SameLab G x (mergeR root i k x) ∧ (nd G (mergeR root i k x)).tm.kind ≠ 1 ∧ ∀ q, Coarse G (mergeR root i k) op' q → (nd G x).kids.map q = (nd G (mergeR root i k x)).kids.map q := fun x hx hkx => by
    have hr := hroot x hx hkx
    have hn := ht.nonvar x hx hkx
    unfold mergeR
    split
    · rename_i e
      rw [e] at hr hn
      have h4 := (h3 hn).1
      refine ⟨⟨⟨hr.1.1.1.trans h4.1.1.symm, hr.1.1.2.1.trans h4.1.2.1.symm, hr.1.1.2.2.trans h4.1.2.2.symm⟩, hr.1.2.trans h4.2.symm⟩, hkv hn, fun q hq => ?_⟩
      rw [hr.2 q (hc q hq), hzip q hq hn]
    · exact ⟨hr.1, hn, fun q hq => hr.2 q (hc q hq)⟩
  refine ⟨⟨fun p hp => ?_, h.ebd, fun f hf => ?_, fun x y hx hy hkx hky e => ?_, fun q hq x y hx hy hkx hky e => ?_, fun q hq => h.eqs q (hc q hq)⟩, ⟨fun x hx hkx => (hlab' x hx hkx).2.1, fun x hx hv => ?_⟩⟩
  · rcases h2 p hp with hp | ⟨_, hp⟩
    · exact h.bd p hp
    · exact ⟨(hok i hi).mem (List.of_mem_zip hp).1, (hok k hk).mem (List.of_mem_zip hp).2⟩
  · have hs := h.sound f hf
    have hv := roots_eq h hab rl hik hf
    have hm : ∀ x, x < G.length → ndv f G x = ndv f G (mergeR root i k x) := fun x hx => by
      have e : ndv f G (root x) = ndv f G x := hs.1 _ _ (rl x hx).1 hx (rl x hx).2
      unfold mergeR
      split
      · rename_i e'; rw [hv, ← e', e]
      · exact e.symm
    refine ⟨fun x y hx hy e => by rw [hm x hx, hm y hy, e], fun p hp => ?_⟩
    rcases h2 p hp with hp | ⟨hkk, hp⟩
    · exact hs.2 p hp
    · exact map_zip_eq (kids_eq (hok i hi) (hok k hk) (hkv hkk) hkk hv) p hp
  · have h4 := (hlab' x hx hkx).1
    have h5 := (hlab' y hy hky).1
    rw [e] at h4
    exact ⟨⟨h4.1.1.trans h5.1.1.symm, h4.1.2.1.trans h5.1.2.1.symm, h4.1.2.2.trans h5.1.2.2.symm⟩, h4.2.trans h5.2.symm⟩
  · rw [(hlab' x hx hkx).2.2 q hq, e, ← (hlab' y hy hky).2.2 q hq]
  · unfold mergeR at hv ⊢
    split at hv
    · rename_i e
      rw [if_pos e]
      have hkk := hrem hv
      have := ht.least x hx (by rw [e]; exact hkk.1)
      rw [e] at this
      omega
    · rename_i e
      rw [if_neg e]
      exact ht.least x hx hv
theorem UF.union {r : Nat → Nat} (h : UF G root r) (hi : i < G.length) (hk : k < G.length) (ri : root i = i) (rk : root k = k) (hne : i ≠ k) :
    UF (G.set k { nd G k with next := i }) (mergeR root i k) (fun j => if root j = k then r j + r i + 1 else r j) := by
  have hl : ∀ j, j < G.length → root j < G.length ∧ root (root j) = root j := h.root_lt
  refine ⟨fun j hj => ?_, fun j hj => ?_, fun j hj => ?_, fun j hj hn => ?_⟩
  all_goals
    rw [List.length_set] at hj
    rw [nd_set _ _ _ _ hk] at *
  · rw [List.length_set]
    split
    · exact hi
    · exact h.lt j hj
  · by_cases e : j = k
    · subst e
      rw [if_pos rfl]
      show mergeR root i j i = mergeR root i j j
      unfold mergeR
      rw [if_pos rk, if_neg (by rw [ri]; exact hne), ri]
    · rw [if_neg e]
      unfold mergeR
      rw [h.step j hj]
  · by_cases e : j = k
    · subst e
      rw [if_pos rfl]
      show i = j ↔ mergeR root i j j = j
      unfold mergeR
      rw [if_pos rk]
    · rw [if_neg e]
      rw [h.fix j hj]
      unfold mergeR
      split
      · rename_i e1
        constructor
        · intro e2; rw [e1] at e2; exact absurd e2.symm e
        · intro e2; rw [← e2, ri] at e1; exact absurd e1 hne
      · exact Iff.rfl
  · by_cases e : j = k
    · subst e
      rw [if_pos rfl]
      show (if root i = j then r i + r i + 1 else r i) < if root j = j then r j + r i + 1 else r j
      rw [if_neg (by rw [ri]; exact hne), if_pos rk]
      omega
    · rw [if_neg e] at hn ⊢
      have h1 := h.dec j hj hn
      rw [h.step j hj]
      split <;> omega
end
def wtOf (G : List Nd) (root : Nat → Nat) : Nat → Nat
  | 0 => 0
  | n + 1 => wtOf G root n + if root n = n then 1 + (nd G n).kids.length else 0
theorem wt_union {G : List Nd} {root : Nat → Nat} {i k : Nat} (ri : root i = i) (rk : root k = k) (hne : i ≠ k) : ∀ n, wtOf G (mergeR root i k) n + (if k < n then 1 + (nd G k).kids.length else 0) = wtOf G root n := by
  intro n
  induction n with
  | zero => simp [wtOf]
  | succ n ih =>
    simp only [wtOf]
    by_cases e : n = k
    · subst e
      rw [if_neg (by omega)] at ih
      have : mergeR root i n n = i := by unfold mergeR; rw [if_pos rk]
      rw [if_pos rk, this, if_neg hne, if_pos (Nat.lt_succ_self n)]
      omega
    · have e1 : (mergeR root i k n = n) ↔ root n = n := by
        unfold mergeR
        split
        · rename_i e1
          constructor
          · intro e2; rw [← e2, ri] at e1; exact absurd e1 hne
          · intro e2; rw [e1] at e2; exact absurd e2.symm e
        · exact Iff.rfl
      have e2 : (if mergeR root i k n = n then 1 + (nd G n).kids.length else 0) = if root n = n then 1 + (nd G n).kids.length else 0 := by
        by_cases h : root n = n
        · rw [if_pos h, if_pos (e1.2 h)]
        · rw [if_neg h, if_neg fun h' => h (e1.1 h')]
      rw [e2]
      by_cases h : k < n
      · rw [if_pos h] at ih; rw [if_pos (show k < n + 1 by omega)]; omega
      · rw [if_neg h] at ih; rw [if_neg (show ¬ k < n + 1 by omega)]; omega
end Go.Proofs.YtgpglgehlnfggaaGreat
namespace Go.Proofs.YtgpglgehlnfggaaGreat
open Go.RowKit
theorem nd_left {G N : List Nd} {i : Nat} (h : i < G.length) : nd (G ++ N) i = nd G i := by simp [nd, List.getD, List.getElem?_append_left h]
theorem nd_new (G : List Nd) (x : Nd) : nd (G ++ [x]) G.length = x := by simp [nd, List.getD]
theorem ndv_left {f : Int → Tm} {G N : List Nd} {i : Nat} (h : i < G.length) : ndv f (G ++ N) i = ndv f G i := by unfold ndv; rw [nd_left h]
theorem OkAt.left {G N : List Nd} {i : Nat} (h : i < G.length) (k : OkAt G i) : OkAt (G ++ N) i := by
  refine ⟨by rw [nd_left h]; exact k.form, by rw [nd_left h]; exact k.len, fun j hj => ?_⟩
  rw [nd_left h] at hj ⊢
  have := k.kid j hj
  rw [nd_left this.1]
  exact ⟨by rw [List.length_append]; omega, this.2⟩
theorem OkAt.set {G : List Nd} {i j : Nat} (hi : i < G.length) (hne : j ≠ i) (k : OkAt G j) {x : Nd} (hx : x.tm = (nd G i).tm) : OkAt (G.set i x) j := by
  have ht : ∀ m, (nd (G.set i x) m).tm = (nd G m).tm := fun m => by
    rw [nd_set _ _ _ _ hi]
    split
    · rename_i e; rw [e]; exact hx
    · rfl
  have hk : nd (G.set i x) j = nd G j := by rw [nd_set _ _ _ _ hi, if_neg hne]
  refine ⟨by rw [hk]; exact k.form, by rw [hk]; exact k.len, fun m hm => ?_⟩
  rw [hk] at hm ⊢
  rw [ht, List.length_set]
  exact k.kid m hm
abbrev KL (v : Int) : Lit := .int .i64 v
def VMap (D : DataW Unit) (G : List Nd) : Prop :=
  Maps.IsMap D ∧ (∀ v, Maps.has D (KL v) = true → ∃ i, i < G.length ∧ (nd G i).tm.kind = 1 ∧ (nd G i).tm.num = v) ∧
    ∀ i, i < G.length → (nd G i).tm.kind = 1 → Maps.has D (KL (nd G i).tm.num) = true ∧ ∀ zd, D.atKey (KL (nd G i).tm.num) zd = .lit (KL (i : Nat))
theorem VMap.empty : VMap (.map []) [] := ⟨Maps.isMap_empty, fun v h => by simp [Maps.has] at h, fun i hi => by simp at hi⟩
theorem VMap.varu {D : DataW Unit} {G : List Nd} (h : VMap D G) : VarU G := fun i j hi hj hki hkj e => by
  have h1 := (h.2.2 i hi hki).2 (.lit (KL 0))
  have h2 := (h.2.2 j hj hkj).2 (.lit (KL 0))
  rw [e, h2] at h1
  simp only [DataW.lit.injEq, Lit.int.injEq, true_and] at h1
  omega
theorem VMap.like {D : DataW Unit} {G H : List Nd} (h : VMap D G) (hl : H.length = G.length) (ht : ∀ i, i < G.length → (nd H i).tm = (nd G i).tm) : VMap D H := by
  refine ⟨h.1, fun v hv => ?_, fun i hi hk => ?_⟩
  · obtain ⟨i, h1, h2, h3⟩ := h.2.1 v hv
    exact ⟨i, by omega, by rw [ht i h1]; exact h2, by rw [ht i h1]; exact h3⟩
  · rw [hl] at hi
    rw [ht i hi] at hk ⊢
    exact h.2.2 i hi hk
theorem VMap.nonvar {D : DataW Unit} {G : List Nd} (h : VMap D G) {x : Nd} (hx : x.tm.kind ≠ 1) : VMap D (G ++ [x]) := by
  refine ⟨h.1, fun v hv => ?_, fun i hi hk => ?_⟩
  · obtain ⟨i, h1, h2, h3⟩ := h.2.1 v hv
    exact ⟨i, by simp; omega, by rw [nd_left h1]; exact h2, by rw [nd_left h1]; exact h3⟩
  · by_cases h1 : i < G.length
    · rw [nd_left h1] at hk ⊢
      exact h.2.2 i h1 hk
    · obtain rfl : i = G.length := by simp at hi; omega
      rw [nd_new] at hk
      exact absurd hk hx
theorem VMap.put {D : DataW Unit} {G : List Nd} (h : VMap D G) {x : Nd} (hx : x.tm.kind = 1) (hf : Fits x.tm.num) (hn : Maps.has D (KL x.tm.num) = false) : VMap (D.put (KL x.tm.num) (.lit (KL (G.length : Nat)))) (G ++ [x]) := by
  have hkey : WideAt.IsKeyLit (KL x.tm.num) := keyed.key (Maps.keyOf_int_mk Tryz.underlying3 (fits_wf hf))
  have hold : ∀ i, i < G.length → (nd G i).tm.kind = 1 → (nd G i).tm.num ≠ x.tm.num := fun i hi hk e => by
    have := (h.2.2 i hi hk).1
    rw [e, hn] at this
    cases this
  refine ⟨h.1.put _ _, fun v hv => ?_, fun i hi hk => ?_⟩
  · by_cases e : v = x.tm.num
    · exact ⟨G.length, by simp, by rw [nd_new]; exact hx, by rw [nd_new]; exact e.symm⟩
    · rw [Maps.has_put_other (fun e' => e (by simpa using e'))] at hv
      obtain ⟨i, h1, h2, h3⟩ := h.2.1 v hv
      exact ⟨i, by simp; omega, by rw [nd_left h1]; exact h2, by rw [nd_left h1]; exact h3⟩
  · by_cases h1 : i < G.length
    · rw [nd_left h1] at hk ⊢
      have hne : KL (nd G i).tm.num ≠ KL x.tm.num := fun e => hold i h1 hk (by simpa using e)
      rw [Maps.has_put_other hne]
      refine ⟨(h.2.2 i h1 hk).1, fun zd => ?_⟩
      rw [Maps.atKey_put_other hne]
      exact (h.2.2 i h1 hk).2 zd
    · obtain rfl : i = G.length := by simp at hi; omega
      rw [nd_new]
      exact ⟨Maps.has_put_same h.1 hkey _, fun zd => Maps.atKey_put_same h.1 hkey _ _⟩
structure Gadd (lo : Nat) (Y : Nat → Prop) (w : World) (p mb : Nat) (z : Value) (G : List Nd) : Prop where
  g : Gph lo (fun k => k = p ∨ k = mb ∨ Y k) w p z G
  vc : w.cell? ⟨p, 1, none⟩ = some (.map (some mb))
  vm : ∃ D : DataW Unit, w.ownsMap Tryz.prog 3 (plainElem Tryz.prog 3) mb G.length D ∧ VMap D G
  pm : p ≠ mb
  zm : z.ownBlock ≠ some mb
  lp : lo ≤ p
  lm : lo ≤ mb
  fz : ∀ j, w.frozen? ⟨p, j, none⟩ = false
structure AddFr (p mb : Nat) (z : Value) (w w' : World) : Prop where
  os : w'.os = w.os
  tape : w'.tape = w.tape
  output : w'.output = w.output
  size : w.heap.size ≤ w'.heap.size
  block : ∀ k, k < w.heap.size → k ≠ p → k ≠ mb → z.ownBlock ≠ some k → w'.heap[k]? = w.heap[k]?
section
variable {lo p mb : Nat} {Y : Nat → Prop} {z z' : Value} {w w' w1 w2 : World} {G : List Nd}
theorem AddFr.of (h : Below w.heap.size w w') : AddFr p mb z w w' := ⟨h.os, h.tape, h.output, h.size, fun k hk _ _ _ => h.block k hk⟩
theorem AddFr.refl (p mb : Nat) (z : Value) (w : World) : AddFr p mb z w w := AddFr.of (Below.refl _ _)
theorem AddFr.trans (h : AddFr p mb z w w1) (k : AddFr p mb z' w1 w2) (hz : z'.ownBlock = z.ownBlock ∨ ∀ b, z'.ownBlock = some b → w.heap.size ≤ b) : AddFr p mb z w w2 :=
  ⟨k.os.trans h.os, k.tape.trans h.tape, k.output.trans h.output, Nat.le_trans h.size k.size, fun b hb h1 h2 h3 =>
    (k.block b (Nat.lt_of_lt_of_le hb h.size) h1 h2 (fun e => by
      rcases hz with hz | hz
      · exact h3 (hz ▸ e)
      · have := hz b e; omega)).trans (h.block b hb h1 h2 h3)⟩
theorem AddFr.cell (h : AddFr p mb z w w') {a : Addr} (hb : a.block < w.heap.size) (h1 : a.block ≠ p) (h2 : a.block ≠ mb) (h3 : z.ownBlock ≠ some a.block) : w'.cell? a = w.cell? a := World.cell?_of_block (h.block _ hb h1 h2 h3)
theorem AddFr.frozen (h : AddFr p mb z w w') {a : Addr} (hb : a.block < w.heap.size) (h1 : a.block ≠ p) (h2 : a.block ≠ mb) (h3 : z.ownBlock ≠ some a.block) : w'.frozen? a = w.frozen? a := World.frozen?_of_block (h.block _ hb h1 h2 h3)
theorem AddFr.below {a : World} (h : AddFr p mb z w w') (hb : Below a.heap.size a w) (h1 : a.heap.size ≤ p) (h2 : a.heap.size ≤ mb) (h3 : ∀ b, z.ownBlock = some b → a.heap.size ≤ b) : Below a.heap.size a w' :=
  hb.trans ⟨h.os, h.tape, h.output, h.size, fun k hk => h.block k (Nat.lt_of_lt_of_le hk hb.size) (by omega) (by omega) (fun e => by have := h3 k e; omega)⟩
theorem AddFr.drew (h : AddFr p mb z w w') : AddFr p mb z w w'.drew := ⟨h.os, h.tape, h.output, h.size, h.block⟩
theorem AddFr.drewN (h : AddFr p mb z w w') (n : Nat) : AddFr p mb z w (w'.drewN n) := ⟨h.os, h.tape, h.output, h.size, h.block⟩
theorem AddFr.row {base : Nat} {e : TypeId} {size n : Nat} {v : Value} {xs : List Value} (h : AddFr p mb z w w') (hr : w.ownsRow base e size v n xs) (hv : ∀ b, v.ownBlock = some b → b ≠ p ∧ b ≠ mb ∧ z.ownBlock ≠ some b) : w'.ownsRow base e size v n xs := by
  refine ⟨hr.1, ?_⟩
  rcases hr.2 with hn | ⟨g, cap, cur, rfl, hb, hgg, rest⟩
  · exact .inl hn
  · obtain ⟨h1, h2, h3⟩ := hv g rfl
    refine .inr ⟨g, cap, cur, rfl, hb, ?_, rest⟩
    rw [h.block g (Array.getElem?_eq_some_iff.1 hgg).1 h1 h2 h3]
    exact hgg
theorem Gadd.below (h : Gadd lo Y w p mb z G) (hb : Below w.heap.size w w') : Gadd lo Y w' p mb z G := by
  refine ⟨h.g.below hb, keepv hb h.vc, ?_, h.pm, h.zm, h.lp, h.lm, fun j => (hb.frozen (p := ⟨p, j, none⟩) h.g.lt).trans (h.fz j)⟩
  obtain ⟨D, h1, h2⟩ := h.vm
  exact ⟨D, h1.kept (row := none) (fr_below hb none) (by simp), h2⟩
theorem Gadd.alloc (h : Gadd lo Y w p mb z G) (o : Obj) : Gadd lo Y (w.alloc o) p mb z G := h.below ((Below.refl _ _).alloc (Nat.le_refl _) o)
theorem Gadd.drewN (h : Gadd lo Y w p mb z G) (n : Nat) : Gadd lo Y (w.drewN n) p mb z G := h.below (below_drewN (Below.refl _ _) n)
theorem Gadd.drew (h : Gadd lo Y w p mb z G) : Gadd lo Y w.drew p mb z G := h.drewN 1
theorem Gadd.zlo (h : Gadd lo Y w p mb z G) : ∀ b, z.ownBlock = some b → lo ≤ b ∧ b < w.heap.size := own_lt h.g.row
theorem kids_of {X : Nat → Prop} {g n c base : Nat} {e : TypeId} {l : List Nat} (h : w.ownsRow base e 1 (.slice (some ⟨g, 0, none⟩) n c) n (l.map fun i => .int .i64 (i : Nat))) (hl : lo ≤ g) (hX : ¬ X g) (x : Nd) (h1 : x.A = some ⟨g, 0, none⟩) (h2 : x.kids = l) (h3 : x.cap = c) : KidsAt lo X w x := by
  intro W hW
  have hlen : l.length = n := by have := h.1; simpa using this
  have hlt := own_lt h g rfl
  rcases h.2 with ⟨e1, _⟩ | ⟨g', cap', cur, e1, _, _, hle, hcm, _, _⟩
  · injection e1 with e1; cases e1
  · injection e1 with _ _ e3
    subst e3
    rw [h1, h2, h3]
    refine ⟨by omega, hcm, fun _ => ⟨g, rfl, fun j hj => ?_⟩⟩
    rw [hW.cell (p := ⟨g, j, none⟩) hl hlt.2 hX, World.ownsRow.cellAt h j (by omega)]
    simp [List.getD, hj]
theorem Gadd.more (h : Gadd lo Y w p mb z G) {g : Nat} (hg : w.heap.size ≤ g) : Gadd lo (fun k => Y k ∨ k = g) w p mb z G :=
  ⟨h.g.out fun b _ h2 h3 => by
    rcases h3 with h3 | h3 | h3 | h3
    · exact .inl h3
    · exact .inr (.inl h3)
    · exact .inr (.inr h3)
    · omega, h.vc, h.vm, h.pm, h.zm, h.lp, h.lm, h.fz⟩
theorem Gadd.less {g : Nat} (h : Gadd lo (fun k => Y k ∨ k = g) w p mb z G) : Gadd lo Y w p mb z G :=
  ⟨h.g.out fun b _ _ h3 => by
    rcases h3 with h3 | h3 | h3
    · exact .inl h3
    · exact .inr (.inl h3)
    · exact .inr (.inr (.inl h3)), h.vc, h.vm, h.pm, h.zm, h.lp, h.lm, h.fz⟩
theorem Gadd.fill (h : Gadd lo Y w p mb z G) {g j : Nat} (hY : Y g) (hp : g ≠ p) (hm : g ≠ mb) (hz : z.ownBlock ≠ some g) (v : Value) : Gadd lo Y (w.setCell ⟨g, j, none⟩ v) p mb z G := by
  have hf : w.grownBy (w.setCell ⟨g, j, none⟩ v) (some g) := fr_set (fr_refl _ _) rfl _
  refine ⟨h.g.fr hf (by simpa using hp) (.inr hz) (fun b e _ => .inr (.inr (by injection e with e; exact e ▸ hY))), ?_, ?_, h.pm, h.zm, h.lp, h.lm, fun j' => by rw [World.frozen?_setCell]; exact h.fz j'⟩
  · rw [World.cell?_setCell_other _ _ _ _ (fun e => hp (by injection e))]
    exact h.vc
  · obtain ⟨D, h1, h2⟩ := h.vm
    exact ⟨D, h1.kept hf (by simpa using Ne.symm hm), h2⟩
theorem gadd_append {x : Nd} {o : Obj} {w3 : World} {g cap : Nat} {D : DataW Unit} (hg : Gph lo (fun k => k = p ∨ k = mb ∨ Y k) w1 p z G) (hvc : w1.cell? ⟨p, 1, none⟩ = some (.map (some mb))) (hD : w1.ownsMap Tryz.prog 3 (plainElem Tryz.prog 3) mb (G.length + 1) D) (hV : VMap D (G ++ [x]))
    (pm : p ≠ mb) (zm : z.ownBlock ≠ some mb) (lp : lo ≤ p) (lm : lo ≤ mb) (fz : ∀ j, w1.frozen? ⟨p, j, none⟩ = false) (hx : Fine x) (hxA : x.A = none ∧ x.kids = [] ∧ x.cap = 0) (hsm : G.length + 1 ≤ 1000000)
    (hown : w3.ownsRow lo 140 6 (.slice (some ⟨g, 0, none⟩) (G.length + 1) cap) (G.length + 1) (gcells G ++ ncells x)) (hgr : (w1.alloc o).grownBy w3 z.ownBlock) (hat : z.ownBlock = some g ∨ g = w1.heap.size + 1) :
    Gadd lo Y (w3.setCell ⟨p, 0, none⟩ (.slice (some ⟨g, 0, none⟩) (G.length + 1) cap)) p mb (.slice (some ⟨g, 0, none⟩) (G.length + 1) cap) (G ++ [x]) ∧ AddFr p mb z w1 (w3.setCell ⟨p, 0, none⟩ (.slice (some ⟨g, 0, none⟩) (G.length + 1) cap)) ∧
      ((Value.slice (some ⟨g, 0, none⟩) (G.length + 1) cap).ownBlock = z.ownBlock ∨ ∀ b, (Value.slice (some ⟨g, 0, none⟩) (G.length + 1) cap).ownBlock = some b → w1.heap.size ≤ b) := by
  have hpl := hg.lt
  have hml : mb < w1.heap.size := hD.lt
  have hgp : g ≠ p := by
    rcases hat with h | h
    · intro e; exact hg.np (by rw [h, e])
    · omega
  have hgm : g ≠ mb := by
    rcases hat with h | h
    · intro e; exact zm (by rw [h, e])
    · omega
  have hfr1 : w1.grownBy w3 z.ownBlock := fr_trans (World.grownBy_alloc w1 o _) hgr
  have hp3 : ∀ j, w3.cell? ⟨p, j, none⟩ = w1.cell? ⟨p, j, none⟩ := fun j => fr_cell hfr1 (p := ⟨p, j, none⟩) hpl (fun e => hg.np e.symm)
  have hs : w3.grownBy (w3.setCell ⟨p, 0, none⟩ (.slice (some ⟨g, 0, none⟩) (G.length + 1) cap)) (some p) := fr_set (fr_refl _ _) rfl _
  have hheap : ∀ b, b < w1.heap.size → z.ownBlock ≠ some b → b ≠ p → (w3.setCell ⟨p, 0, none⟩ (.slice (some ⟨g, 0, none⟩) (G.length + 1) cap)).heap[b]? = w1.heap[b]? := fun b h1 h2 h3 => by
    rw [Below.heap_setCell _ _ _ _ h3]
    exact hfr1.block b h1 (fun e => h2 e.symm)
  have hss : w1.heap.size ≤ (w3.setCell ⟨p, 0, none⟩ (.slice (some ⟨g, 0, none⟩) (G.length + 1) cap)).heap.size := by simpa [World.setCell] using hfr1.size
  refine ⟨⟨⟨?_, ?_, fun i hi => ?_, ?_, fun i hi => ?_, by simpa using hsm⟩, ?_, ⟨D, ?_, hV⟩, pm, ?_, lp, lm, fun j => ?_⟩, ⟨hfr1.os, hfr1.tape, hfr1.output, hss, fun k hk h1 h2 h3 => hheap k hk h3 h1⟩, ?_⟩
  · exact World.cell?_setCell_same' _ _ _ (by rw [hp3, hg.hdr]; rfl)
  · have := World.ownsRow.kept hown hs (.inr (by simpa [Value.ownBlock] using hgp))
    rw [gcells_append]
    simpa [gcells] using this
  · by_cases h1 : i < G.length
    · rw [nd_left h1]
      refine (hg.kids i h1).less hss fun b h2 h3 h4 => ⟨h2, fun h5 => ?_, hheap b h3 (fun e => h4 (.inl e)) (fun e => h4 (.inr (.inl e)))⟩
      rcases h5 with h5 | h5
      · rcases hat with h | h
        · exact h4 (.inl (h.trans h5))
        · have : g = b := by simpa [Value.ownBlock] using h5
          omega
      · exact h4 (.inr h5)
    · obtain rfl : i = G.length := by simp at hi; omega
      rw [nd_new]
      intro W _
      rw [hxA.1, hxA.2.1, hxA.2.2]
      exact ⟨Nat.le_refl _, Nat.zero_le _, fun h => by simp at h⟩
  · simpa [Value.ownBlock] using hgp
  · by_cases h1 : i < G.length
    · rw [nd_left h1]; exact hg.fine i h1
    · obtain rfl : i = G.length := by simp at hi; omega
      rw [nd_new]; exact hx
  · rw [World.cell?_setCell_other _ _ _ _ (fun e => by injection e with _ e _; omega), hp3]
    exact hvc
  · have h1 := hD.kept hfr1 (fun e => zm e.symm)
    have := h1.kept hs (by simpa using Ne.symm pm)
    simpa using this
  · simpa [Value.ownBlock] using hgm
  · rw [World.frozen?_setCell, fr_frozen hfr1 (p := ⟨p, j, none⟩) hpl (fun e => hg.np e.symm)]
    exact fz j
  · rcases hat with h | h
    · exact .inl h.symm
    · refine .inr fun b hb => ?_
      have : g = b := by simpa [Value.ownBlock] using hb
      omega
theorem gadd_args {q cap n g i c : Nat} {ks : List Nat} {L : Nat} (h : Gadd lo Y w p mb (.slice (some ⟨q, 0, none⟩) n cap) G) (hi : i < G.length) (hrow : w.ownsRow lo 3 1 (.slice (some ⟨g, 0, none⟩) L c) L (ks.map fun i => .int .i64 (i : Nat))) (hks : L = ks.length) (hkl : ks.length ≤ 1000000)
    (hgl : lo ≤ g) (hgY : ¬ Y g) (hgp : g ≠ p) (hgm : g ≠ mb) (hgq : q ≠ g) : Gadd lo Y (w.setCell ⟨q, i * 6 + 4, none⟩ (.slice (some ⟨g, 0, none⟩) L c)) p mb (.slice (some ⟨q, 0, none⟩) n cap) (G.set i { nd G i with A := some ⟨g, 0, none⟩, cap := c, kids := ks }) := by
  have hpq : p ≠ q := fun e => h.g.np (by rw [e]; rfl)
  have hmq : mb ≠ q := fun e => h.zm (by rw [e]; rfl)
  have hf : w.grownBy (w.setCell ⟨q, i * 6 + 4, none⟩ (.slice (some ⟨g, 0, none⟩) L c)) (some q) := fr_set (fr_refl _ _) rfl _
  have hn : n = G.length := by
    rcases h.g.row.2 with ⟨e, _⟩ | ⟨_, _, _, e, _⟩
    · injection e with e; cases e
    · injection e
  have hK := kids_of (X := fun k => (Value.slice (some ⟨q, 0, none⟩) n cap).ownBlock = some k ∨ k = p ∨ k = mb ∨ Y k) hrow hgl (fun hx => by
    rcases hx with hx | hx | hx | hx
    · exact hgq (by simpa [Value.ownBlock] using hx)
    · exact hgp hx
    · exact hgm hx
    · exact hgY hx) { nd G i with A := some ⟨g, 0, none⟩, cap := c, kids := ks } rfl rfl rfl
  subst hn
  refine ⟨⟨(fr_cell hf h.g.lt (by simpa using hpq)).trans h.g.hdr, ?_, fun j hj => ?_, h.g.np, fun j hj => ?_, by rw [List.length_set]; exact h.g.small⟩, ?_, ?_, h.pm, h.zm, h.lp, h.lm, fun j => by rw [World.frozen?_setCell]; exact h.fz j⟩
  · have hs := (World.ownsRow.stored h.g.row (i * 6 + 4) (.slice (some ⟨g, 0, none⟩) L c)).1
    rw [gcells_set hi (by omega) (x := { nd G i with A := some ⟨g, 0, none⟩, cap := c, kids := ks }) (by rw [hks]; rfl)] at hs
    rw [List.length_set]
    exact hs
  · rw [List.length_set] at hj
    rw [nd_set _ _ _ _ hi]
    split
    · exact hK.fr hf fun b e _ => .inl e
    · exact (h.g.kids j hj).fr hf fun b e _ => .inl e
  · rw [List.length_set] at hj
    rw [nd_set _ _ _ _ hi]
    split
    · exact ⟨(h.g.fine i hi).kind, (h.g.fine i hi).num, (h.g.fine i hi).name, (h.g.fine i hi).args, hkl⟩
    · exact h.g.fine j hj
  · rw [World.cell?_setCell_other _ _ _ _ (fun e => hpq (by injection e with e _ _; exact e.symm))]
    exact h.vc
  · obtain ⟨D, h1, h2⟩ := h.vm
    refine ⟨D, by rw [List.length_set]; exact h1.kept hf (by simpa using hmq), h2.like (by simp) fun j hj => ?_⟩
    rw [nd_set _ _ _ _ hi]
    split
    · rename_i e; rw [e]
    · rfl
end
end Go.Proofs.YtgpglgehlnfggaaGreat
namespace Go.Proofs.YtgpglgehlnfggaaGreat
open Go.RowKit
def headB (a b : Tm) : Bool := decide (a.kind = b.kind) && (decide (a.num = b.num) && (decide (a.name = b.name) && decide (a.args.length = b.args.length)))
theorem headB_iff (a b : Tm) : headB a b = true ↔ a.kind = b.kind ∧ a.num = b.num ∧ a.name = b.name ∧ a.args.length = b.args.length := by simp [headB]
theorem below2b (w : World) (o p : Obj) : Below w.heap.size w ((w.alloc o).alloc p) := ((Below.refl _ _).alloc (Nat.le_refl _) _).alloc (by simp) _
set_option maxHeartbeats 1000000 in
theorem same_functor_at (a b : Tm) (w : World) : Calls Tryz.prog 161 #[a.val, b.val] w fun e w' => e = .returned (.bool (headB a b)) ∧ Below w.heap.size w w' := by
  obtain ⟨k, n, s, A, c, l⟩ := a
  obtain ⟨k', n', s', A', c', l'⟩ := b
  obtain ⟨r, hr⟩ : ∃ r, r = headB (.mk k n s A c l) (.mk k' n' s' A' c' l') := ⟨_, rfl⟩
  rw [← hr]
  have HR := Lib.hid (show r = (decide (k = k') && (decide (n = n') && (decide (s = s') && decide (l.length = l'.length)))) from hr)
  have HB := Lib.hid (fun o p => below2b w o p)
  clear hr
  show Calls Tryz.prog 161 #[.agg #[.int .i64 k, .int .i64 n, .string s, .slice A l.length c], .agg #[.int .i64 k', .int .i64 n', .string s', .slice A' l'.length c']] w _
  by_cases h1 : k = k'
  · have g1 : (k == k') = true := by simpa using h1
    by_cases h2 : n = n'
    · have g2 : (n == n') = true := by simpa using h2
      by_cases h3 : s = s'
      · subst h3
        by_cases h4 : l.length = l'.length
        · have g4 : ((l.length : Int) == (l'.length : Int)) = true := by rw [h4]; simp
          have HE := Lib.hid (show r = true by rw [HR.out]; simp [h1, h2, h4])
          clear h1 h2 h4 HR
          go_enter Tryz.func161, Tryz.ntmps161
          go_wp2_with fail
          go_ret
          exact ⟨by rw [HE.out]; rfl, HB.out _ _⟩
        · have g4 : ((l.length : Int) == (l'.length : Int)) = false := by simp; omega
          have HE := Lib.hid (show r = false by rw [HR.out]; simp [h4])
          clear h1 h2 h4 HR
          go_enter Tryz.func161, Tryz.ntmps161
          go_wp2_with fail
          go_ret
          exact ⟨by rw [HE.out]; rfl, HB.out _ _⟩
      · have g3 : (s.toList == s'.toList) = false := by
          rw [ByteArray.toList_eq, ByteArray.toList_eq, beq_eq_false_iff_ne]
          intro e
          apply h3
          obtain ⟨d⟩ := s
          obtain ⟨d'⟩ := s'
          have : d = d' := Array.toList_inj.1 e
          rw [this]
        have HE := Lib.hid (show r = false by rw [HR.out]; simp [h3])
        clear h1 h2 h3 HR
        go_enter Tryz.func161, Tryz.ntmps161
        go_wp2_with fail
        go_ret
        exact ⟨by rw [HE.out]; rfl, HB.out _ _⟩
    · have g2 : (n == n') = false := by simpa using h2
      have HE := Lib.hid (show r = false by rw [HR.out]; simp [h2])
      clear h1 h2 HR
      go_enter Tryz.func161, Tryz.ntmps161
      go_wp2_with fail
      go_ret
      exact ⟨by rw [HE.out]; rfl, HB.out _ _⟩
  · have g1 : (k == k') = false := by simpa using h1
    have HE := Lib.hid (show r = false by rw [HR.out]; simp [h1])
    clear h1 HR
    go_enter Tryz.func161, Tryz.ntmps161
    go_wp2_with fail
    go_ret
    exact ⟨by rw [HE.out]; rfl, HB.out _ _⟩
theorem al1 {w : World} {a : Addr} {v : Value} (h : w.cell? a = some v) : ∀ o, (w.alloc o).cell? a = some v := fun o => keepv ((Below.refl _ _).alloc (Nat.le_refl _) o) h
theorem al2 {w : World} {a : Addr} {v : Value} (h : w.cell? a = some v) : ∀ o o', ((w.alloc o).alloc o').cell? a = some v := fun o o' => al1 (al1 h o) o'
def remB (a b : Tm) : Bool := if a.kind = 1 ∧ b.kind = 1 then decide (a.num < b.num) else decide (a.kind ≠ 1)
set_option maxHeartbeats 2000000 in
theorem remains_at {lo : Nat} {X : Nat → Prop} {p : Nat} {z : Value} {G : List Nd} {i k : Nat} {w : World} (h : Gph lo X w p z G) (hi : i < G.length) (hk : k < G.length) :
    Calls Tryz.prog 160 #[.pointer (some ⟨p, 0, none⟩), .int .i64 (i : Nat), .int .i64 (k : Nat)] w fun e w' => e = .returned (.bool (remB (nd G i).tm (nd G k).tm)) ∧ Below w.heap.size w w' := by
  obtain ⟨q, cap, rfl, _⟩ := h.form (by omega)
  have hsm := h.small
  have c0 := h.hdr
  obtain ⟨a0, a1, a2, a3, _, _⟩ := h.cells hi
  obtain ⟨b0, b1, b2, b3, _, _⟩ := h.cells hk
  have HB := Lib.hid (fun o p => below2b w o p)
  clear h
  generalize (nd G i).tm = x at *
  generalize (nd G k).tm = y at *
  obtain ⟨r, hr⟩ : ∃ r, r = remB x y := ⟨_, rfl⟩
  rw [← hr]
  have HR := Lib.hid hr
  clear hr
  obtain ⟨kx, nx, sx, Ax, cx, lx⟩ := x
  obtain ⟨ky, ny, sy, Ay, cy, ly⟩ := y
  simp only [Tm.kind, Tm.num, Tm.name, Tm.at_, Tm.args, Tm.cap] at a0 a1 a2 a3 b0 b1 b2 b3
  have c0x := al1 c0
  have c0y := al2 c0
  have a0x := al1 a0
  have a0y := al2 a0
  have a1x := al1 a1
  have a1y := al2 a1
  have a2x := al1 a2
  have a2y := al2 a2
  have a3x := al1 a3
  have a3y := al2 a3
  have b0x := al1 b0
  have b0y := al2 b0
  have b1x := al1 b1
  have b1y := al2 b1
  have b2x := al1 b2
  have b2y := al2 b2
  have b3x := al1 b3
  have b3y := al2 b3
  by_cases h1 : kx = 1
  · subst h1
    by_cases h2 : ky = 1
    · subst h2
      have HE := Lib.hid (show r = decide (nx < ny) by rw [HR.out]; unfold remB; rw [if_pos ⟨rfl, rfl⟩]; rfl)
      clear HR
      go_enter Tryz.func160, Tryz.ntmps160
      go_wp2_with fail
      go_region
      all_goals
        go_wp2_with fail
        go_ret
        exact ⟨by rw [HE.out]; rfl, (HB.out _ _).drew⟩
    · have g2 : (ky == 1) = false := by simpa using h2
      have HE := Lib.hid (show r = false by rw [HR.out]; unfold remB; rw [if_neg (fun h => h2 h.2)]; rfl)
      clear HR h2
      go_enter Tryz.func160, Tryz.ntmps160
      go_wp2_with fail
      go_region
      all_goals
        go_wp2_with fail
        go_ret
        exact ⟨by rw [HE.out]; rfl, (HB.out _ _).drew⟩
  · have g1 : (kx == 1) = false := by simpa using h1
    have g2 : (kx != 1) = true := by simpa using h1
    have HE := Lib.hid (show r = true by rw [HR.out]; unfold remB; rw [if_neg (fun h => h1 h.1)]; exact decide_eq_true h1)
    clear HR h1
    go_enter Tryz.func160, Tryz.ntmps160
    go_wp2_with fail
    go_region
    all_goals
      go_wp2_with fail
      go_ret
      exact ⟨by rw [HE.out]; rfl, (HB.out _ _).drew⟩
end Go.Proofs.YtgpglgehlnfggaaGreat
