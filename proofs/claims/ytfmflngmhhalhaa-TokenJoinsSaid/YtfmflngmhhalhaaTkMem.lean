/-
  Tokens in memory: a list that lies in a world; a row of the call's own to which tokens are appended.
-/
import Derived.Test.YtfmflngmhhalhaaTkNext
import Derived.Deep.AppendLies
import Derived.Deep.Draws
import Derived.Deep.Slices
namespace Go.Proofs.Ytfmflngmhhalhaa
open Go.RowKit

theorem add_plain (b o k : Nat) : (⟨b, o, none⟩ : Addr).add k = ⟨b, o + k, none⟩ := by unfold Addr.add; split <;> simp_all
theorem below_drewN {B : Nat} {a w : World} (h : Below B a w) (n : Nat) : Below B a (w.drewN n) := ⟨h.os, h.tape, h.output, h.size, h.block⟩
theorem keepv {w w' : World} (hb : Below w.heap.size w w') {p : Addr} {v : Value} (h : w.cell? p = some v) : w'.cell? p = some v := by
  have hp : p.block < w.heap.size := by
    rcases Nat.lt_or_ge p.block w.heap.size with h1 | h1
    · exact h1
    · simp [World.cell?, Array.getElem?_eq_none h1] at h
  rw [hb.cell hp, h]
theorem below1 (w : World) (o : Obj) : Below w.heap.size w (w.alloc o) := (Below.refl _ _).alloc (Nat.le_refl _) _
theorem box3 {w w' : World} {v0 v1 v2 : Value} {T : TypeId} (hb : Below (w.alloc (.cells #[v0, v1, v2] T)).heap.size (w.alloc (.cells #[v0, v1, v2] T)) w') :
    w'.cell? ⟨w.heap.size, 0, none⟩ = some v0 ∧ w'.cell? ⟨w.heap.size, 1, none⟩ = some v1 ∧ w'.cell? ⟨w.heap.size, 2, none⟩ = some v2 ∧ Below w.heap.size w w' := by
  have h : ∀ j, w'.cell? ⟨w.heap.size, j, none⟩ = (#[v0, v1, v2] : Array Value)[j]? := fun j => by
    rw [hb.cell (p := ⟨w.heap.size, j, none⟩) (by simp), World.cell?_alloc_at _ _ _ _ rfl]
  exact ⟨h 0, h 1, h 2, ((Below.refl _ _).alloc (Nat.le_refl _) _).trans (hb.mono (by simp))⟩

def kcells (l : List Tk) : List Value := l.flatMap tokC
theorem kcells_len (l : List Tk) : (kcells l).length = l.length * 3 := by
  induction l with
  | nil => rfl
  | cons t r ih => simp only [kcells, List.flatMap_cons, List.length_append, List.length_cons] at *; simp only [tokC, List.length_cons, List.length_nil]; omega
theorem kcells_append (l m : List Tk) : kcells (l ++ m) = kcells l ++ kcells m := by simp [kcells]
theorem kcells_one (x : Tk) : ∀ v ∈ tokC x, v.oneCell' = true := by
  intro v hv
  simp only [tokC, List.mem_cons, List.not_mem_nil, or_false] at hv
  rcases hv with rfl | rfl | rfl <;> rfl
theorem kcells_get (l : List Tk) {i j : Nat} (hi : i < l.length) (hj : j < 3) : (kcells l)[i * 3 + j]? = (tokC (l.getD i default))[j]? := by
  induction l generalizing i with
  | nil => simp at hi
  | cons t r ih =>
    have hl : (tokC t).length = 3 := rfl
    simp only [kcells, List.flatMap_cons]
    cases i with
    | zero =>
      rw [List.getElem?_append_left (by rw [hl]; omega)]
      simp
    | succ i =>
      rw [List.getElem?_append_right (by rw [hl]; omega), hl, show (i + 1) * 3 + j - 3 = i * 3 + j by omega]
      simpa [kcells] using ih (by simpa using hi)
theorem token_info : (Try.prog.info? 24).map (fun i => (i.zero, i.size, i.bytes)) = some (some (.agg #[.int .i64 0, .int .i64 0, .string ⟨#[]⟩]), 3, 32) := by kernel_rfl
theorem info_parts {P : Program} {T : TypeId} {z : Value} {n m : Nat} (h : (P.info? T).map (fun i => (i.zero, i.size, i.bytes)) = some (some z, n, m)) : ∃ i, P.info? T = some i ∧ i.zero = some z ∧ i.size = n ∧ i.bytes = m := by
  obtain ⟨i, hi, e⟩ := Option.map_eq_some_iff.1 h
  simp only [Prod.mk.injEq] at e
  exact ⟨i, hi, e.1, e.2.1, e.2.2⟩

/-- The slice at A of capacity c holds the tokens l. -/
def TLst (w : World) (A : Option Addr) (l : List Tk) (c : Nat) : Prop := l.length ≤ c ∧ c ≤ maxLen ∧ (0 < l.length → ∃ g, A = some ⟨g, 0, none⟩ ∧ ∀ i, i < l.length → ∀ j u, (tokC (l.getD i default))[j]? = some u → w.cell? ⟨g, i * 3 + j, none⟩ = some u)
section
variable {w w' : World} {A : Option Addr} {l : List Tk} {c : Nat}
theorem TLst.nil (w : World) : TLst w none [] 0 := ⟨Nat.le_refl _, Nat.zero_le _, fun h => absurd h (by simp)⟩
theorem TLst.below (h : TLst w A l c) (hb : Below w.heap.size w w') : TLst w' A l c := ⟨h.1, h.2.1, fun hn => by
  obtain ⟨g, e, hr⟩ := h.2.2 hn
  exact ⟨g, e, fun i hi j u hu => keepv hb (hr i hi j u hu)⟩⟩
theorem TLst.get (h : TLst w A l c) {i : Nat} (hi : i < l.length) : ∃ g, A = some ⟨g, 0, none⟩ ∧
    w.cell? ⟨g, i * 3, none⟩ = some (.int .i64 (l.getD i default).1) ∧ w.cell? ⟨g, i * 3 + 1, none⟩ = some (.int .i64 ((l.getD i default).2.1 : Int)) ∧ w.cell? ⟨g, i * 3 + 2, none⟩ = some (.string (S (l.getD i default).2.2)) := by
  obtain ⟨g, e, hr⟩ := h.2.2 (by omega)
  exact ⟨g, e, hr i hi 0 _ rfl, hr i hi 1 _ rfl, hr i hi 2 _ rfl⟩
end

/-! ### A row of the call's own -/
theorem own_lt {w : World} {base : Nat} {e : TypeId} {size : Nat} {v : Value} {n : Nat} {xs : List Value} (h : w.ownsRow base e size v n xs) : ∀ k, v.ownBlock = some k → base ≤ k ∧ k < w.heap.size := by
  intro k hk
  rcases h.2 with ⟨rfl, _⟩ | ⟨g, cap, cur, rfl, hb, hg, _⟩
  · simp [Value.ownBlock] at hk
  · simp only [Value.ownBlock, Option.some.injEq] at hk
    subst hk
    refine ⟨hb, ?_⟩
    rcases Nat.lt_or_ge g w.heap.size with h | h
    · exact h
    · rw [Array.getElem?_eq_none h] at hg; cases hg
theorem own_below {w w' : World} {base : Nat} {e : TypeId} {size : Nat} {v : Value} {n : Nat} {xs : List Value} (h : w.ownsRow base e size v n xs) (hb : Below w.heap.size w w') : w'.ownsRow base e size v n xs :=
  World.ownsRow.kept (row := none) h ⟨hb.os, hb.tape, hb.output, hb.size, fun k hk _ => hb.block k hk⟩ (by
    rcases h.2 with ⟨rfl, _⟩ | ⟨g, cap, cur, rfl, _⟩
    · exact .inl rfl
    · exact .inr (by simp [Value.ownBlock]))
def RowK (lo : Nat) (w : World) (z : Value) (acc : List Tk) : Prop := w.ownsRow lo 24 3 z acc.length (kcells acc)
section
variable {lo : Nat} {w w' : World} {z : Value} {acc : List Tk}
theorem RowK.nil (lo : Nat) (w : World) : RowK lo w (.slice none 0 0) [] := ⟨rfl, .inl ⟨rfl, rfl⟩⟩
theorem RowK.below (h : RowK lo w z acc) (hb : Below w.heap.size w w') : RowK lo w' z acc := own_below h hb
theorem RowK.next {g cap : Nat} {w4 : World} {u : Tk}
    (hown : w4.ownsRow lo 24 3 (.slice (some ⟨g, 0, none⟩) (acc.length + 1) cap) (acc.length + 1) (kcells acc ++ tokC u)) :
    RowK lo w4 (.slice (some ⟨g, 0, none⟩) (acc.length + 1) cap) (acc ++ [u]) := by
  unfold RowK
  rw [List.length_append, kcells_append]
  simpa [kcells] using hown
theorem RowK.form (h : RowK lo w z acc) : ∃ A c, z = .slice A acc.length c ∧ acc.length ≤ c := by
  rcases h.2 with ⟨rfl, h1⟩ | ⟨g, cap, cur, rfl, hb, hg, hle, _⟩
  · exact ⟨none, 0, by rw [h1], by omega⟩
  · exact ⟨_, cap, rfl, hle⟩
theorem RowK.lies {A : Option Addr} {c n : Nat} (h : RowK lo w (.slice A n c) acc) : TLst w A acc c := by
  have hl := kcells_len acc
  rcases h.2 with ⟨e, h1⟩ | ⟨g, cap, cur, e, hb, hg, hle, hcap, hcs, hcur⟩
  · injection e with e1 _ e3
    obtain rfl : acc = [] := List.length_eq_zero_iff.1 h1
    rw [e1, e3]; exact TLst.nil w
  · injection e with e1 e2 e3
    subst e1 e2 e3
    refine ⟨hle, hcap, fun _ => ⟨g, rfl, fun i hi j u hu => ?_⟩⟩
    have hj : j < 3 := by
      have := (List.getElem?_eq_some_iff.1 hu).1
      simpa [tokC] using this
    have hc := World.ownsRow.cellAt h (i * 3 + j) (by omega)
    rw [hc]
    exact (kcells_get acc hi hj).trans hu
end
theorem knews1 (w : World) (u : Tk) (T : TypeId) : ∀ j v, (tokC u)[j]? = some v → (w.alloc (.cells #[.int .i64 u.1, .int .i64 (u.2.1 : Int), .string (S u.2.2)] T)).cell? ((⟨w.heap.size, 0, none⟩ : Addr).add j) = some v := by
  intro j v hv
  rw [add_plain, Nat.zero_add, World.cell?_alloc_at _ _ _ _ rfl, ← hv, show (#[Value.int .i64 u.1, .int .i64 (u.2.1 : Int), .string (S u.2.2)] : Array Value) = (tokC u).toArray from rfl, List.getElem?_toArray]

/-! ### All tokens, with those that were found -/
/-- What the call answers, when it has found acc and the tokens from here on are r. -/
def fin (acc : List Tk) (r : List Tk × Nat × Int) : List Tk × Nat × Int := if r.2.2 ≠ 0 then r else (acc ++ r.1, 0, 0)
theorem fin_nil (s : ByteArray) : ∀ (n p : Nat), fin [] (toksAt s n p) = toksAt s n p
  | 0, p => rfl
  | n + 1, p => by
    unfold fin
    split
    · rfl
    · rename_i h
      unfold toksAt at h ⊢
      split at h
      · rename_i h1; exact absurd h1 h
      · rename_i h1
        rw [if_neg h1]
        split at h
        · rename_i h2; rw [if_pos h2]; rfl
        · rename_i h2
          rw [if_neg h2]
          split at h
          · rename_i h3; exact absurd h3 h
          · rename_i h3; rw [if_neg h3]; rfl
theorem toks_err {s : ByteArray} {n p : Nat} (h : (tokAt s p).2.2 ≠ 0) : toksAt s (n + 1) p = ([], (tokAt s p).2.1, (tokAt s p).2.2) := by
  unfold toksAt
  rw [if_pos h]
theorem toks_end {s : ByteArray} {n p : Nat} (h : (tokAt s p).2.2 = 0) (hk : (tokAt s p).1.1 = 0) : toksAt s (n + 1) p = ([(tokAt s p).1], 0, 0) := by
  unfold toksAt
  rw [if_neg (fun h' => h' h), if_pos hk]
theorem toks_next {s : ByteArray} {n p : Nat} (h : (tokAt s p).2.2 = 0) (hk : (tokAt s p).1.1 ≠ 0) : toksAt s (n + 1) p = if (toksAt s n (tokAt s p).2.1).2.2 ≠ 0 then toksAt s n (tokAt s p).2.1 else ((tokAt s p).1 :: (toksAt s n (tokAt s p).2.1).1, 0, 0) := by
  conv => lhs; unfold toksAt
  rw [if_neg (fun h' => h' h), if_neg hk]
theorem fin_err {s : ByteArray} {n p : Nat} (acc : List Tk) (h : (tokAt s p).2.2 ≠ 0) : fin acc (toksAt s (n + 1) p) = ([], (tokAt s p).2.1, (tokAt s p).2.2) := by
  rw [toks_err h, fin, if_pos h]
theorem fin_end {s : ByteArray} {n p : Nat} (acc : List Tk) (h : (tokAt s p).2.2 = 0) (hk : (tokAt s p).1.1 = 0) : fin acc (toksAt s (n + 1) p) = (acc ++ [(tokAt s p).1], 0, 0) := by
  rw [toks_end h hk]; rfl
theorem fin_next {s : ByteArray} {n p : Nat} (acc : List Tk) (h : (tokAt s p).2.2 = 0) (hk : (tokAt s p).1.1 ≠ 0) : fin acc (toksAt s (n + 1) p) = fin (acc ++ [(tokAt s p).1]) (toksAt s n (tokAt s p).2.1) := by
  rw [toks_next h hk]
  unfold fin
  by_cases h3 : (toksAt s n (tokAt s p).2.1).2.2 ≠ 0
  · simp [h3]
  · simp [h3]
/-- A token without error. -/
theorem tokAt_facts {s : ByteArray} {p : Nat} (hp : p ≤ s.size) (h : (tokAt s p).2.2 = 0) :
    (tokAt s p).1.2.1 = skipP s p ∧ (tokAt s p).2.1 = skipP s p + (tokAt s p).1.2.2.length ∧ p ≤ skipP s p ∧ (tokAt s p).2.1 ≤ s.size ∧ ((tokAt s p).1.1 ≠ 0 → 0 < (tokAt s p).1.2.2.length) ∧ ((tokAt s p).1.1 = 0 → (tokAt s p).1.2.2 = [] ∧ skipP s p = s.size) ∧ (tokAt s p).1.2.2 <+: rest s (skipP s p) := by
  obtain ⟨f1, f2, f3⟩ := skipP_facts hp
  by_cases he : (tokL (gap false (rest s p))).2.2 ≠ 0
  · unfold tokAt at h; rw [if_pos he] at h; exact absurd h he
  · have e : tokAt s p = (((tokL (gap false (rest s p))).1, skipP s p, (tokL (gap false (rest s p))).2.1), skipP s p + (tokL (gap false (rest s p))).2.1.length, 0) := by unfold tokAt; rw [if_neg he]
    have he' : (tokL (gap false (rest s p))).2.2 = 0 := Classical.not_not.1 he
    have ht : tokL (gap false (rest s p)) = ((tokL (gap false (rest s p))).1, (tokL (gap false (rest s p))).2.1, 0) := by rw [← he']
    obtain ⟨t1, t2, t3⟩ := tok_head ht
    rw [e]
    refine ⟨rfl, rfl, f1, ?_, t2, fun hk => ⟨(t3 hk).2, ?_⟩, by rw [f3]; exact t1⟩
    · have := t1.length_le
      rw [← f3, rest_len] at this
      simp only
      rw [← f3]
      omega
    · have := (t3 hk).1
      rw [← f3] at this
      have h5 := rest_len s (skipP s p)
      rw [this] at h5
      simp only [List.length_nil] at h5
      omega
/-- An offset with an error is within the text. -/
theorem tokAt_in {s : ByteArray} {p : Nat} (hp : p ≤ s.size) : (tokAt s p).2.1 ≤ s.size := by
  by_cases h : (tokAt s p).2.2 = 0
  · exact (tokAt_facts hp h).2.2.2.1
  · unfold tokAt
    split
    · exact (skipP_facts hp).2.1
    · rename_i h1; unfold tokAt at h; rw [if_neg h1] at h; exact absurd rfl h
end Go.Proofs.Ytfmflngmhhalhaa
