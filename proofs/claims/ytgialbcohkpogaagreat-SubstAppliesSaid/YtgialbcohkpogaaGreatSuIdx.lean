/-
  Contracts of slices.IndexFunc over bindings (with the method bindsVarIn, and with the closure of Lookup), slices.ContainsFunc over bindings, the closure of Lookup.
-/
import Derived.Test.YtgialbcohkpogaaGreatSuVarIn
namespace Go.Proofs.YtgialbcohkpogaaGreat
open Go.RowKit

/-- Where the first binding with a property stands, or -1. -/
def FirstIdx (l : List Bd) (p : Bd → Bool) (w : World) (e : Ending) (w' : World) : Prop :=
  ∃ m : Int, ((m = -1 ∧ l.any p = false) ∨ ∃ i : Nat, i < l.length ∧ m = i ∧ p (l.getD i default) = true ∧ (l.take i).any p = false) ∧ e = .returned (.int .i64 m) ∧ Below w.heap.size w w'
theorem bany_next {l : List Bd} {k : Nat} (p : Bd → Bool) (h : k < l.length) : (l.take (k + 1)).any p = ((l.take k).any p || p (l.getD k default)) := by
  rw [btake_next h]; simp

set_option maxHeartbeats 2000000 in
theorem index_m_at (l : List Bd) (A : Option Addr) (c : Nat) (A0 : Option Addr) (n0 c0 : Nat) (p : Bd → Bool) (w : World) (hl : BLst w A l c)
    (Q0 : ∀ W, ∀ x ∈ l, Below w.heap.size w W → Calls Tryz.prog 29 #[.slice A0 n0 c0, x.val] W fun e w' => e = .returned (.bool (p x)) ∧ Below W.heap.size W w') :
    Calls Tryz.prog 38 #[.slice A l.length c, .func (.func 29) #[.slice A0 n0 c0] #[]] w (FirstIdx l p w) := by
  have hlen := hl.len
  have HL := Lib.hid hl
  have Q := Lib.hid Q0
  clear hl Q0
  go_enter Tryz.func38, Tryz.ntmps38
  go_wp2_with fail
  go_loopw [8] (fun i wr => ∃ j : Nat, j ≤ l.length ∧ i = .int .i64 j ∧ Hid ((l.take j).any p = false) ∧ Below w.heap.size w wr) (fun i _ => l.length - (intOf i).toNat)
  case atStart => exact ⟨0, Nat.zero_le _, rfl, Lib.hid rfl, Below.refl _ _⟩
  case round =>
    obtain ⟨j, hj, rfl, HF, hbw⟩ := hrel
    by_cases hlt : j < l.length
    · obtain ⟨b, o, rfl, ⟨c0, c1, c2, c3, c4⟩, _⟩ := (HL.out.below hbw).get hlt
      have HN := Lib.hid (bany_next p hlt)
      rw [HF.out, Bool.false_or] at HN
      have Q1 := Lib.hid (Q.out wr _ (bgetD_mem hlt) hbw)
      have HX := Lib.hid (show p (l.getD j default) = p (l.getD j default) from rfl)
      obtain ⟨x, hx⟩ : ∃ x, l.getD j default = x := ⟨_, rfl⟩
      rw [hx] at c0 c1 c2 c3 c4 Q1 HN
      have HE := Lib.hid hx
      clear HX hx
      obtain ⟨N, hN⟩ : ∃ N, p x = N := ⟨_, rfl⟩
      rw [hN] at Q1 HN
      have HP := Lib.hid (show p (l.getD j default) = N by rw [HE.out, hN])
      clear hN
      obtain ⟨v', k', n', s', A', c', a'⟩ := x
      simp only [Tm.kind, Tm.num, Tm.name, Tm.at_, Tm.args, Tm.cap] at c0 c1 c2 c3 c4
      cases N
      · go_wp2_with fail
        refine (Q1.out).mono ?_
        rintro e w2 ⟨rfl, hb3⟩
        go_wp2_with fail
        go_roundw
        case rel => exact ⟨j + 1, by omega, by go_num, HN, hbw.trans (hb3.mono hbw.size)⟩
        case measure => simp [intOf]; omega
      · go_wp2_with fail
        refine (Q1.out).mono ?_
        rintro e w2 ⟨rfl, hb3⟩
        go_wp2_with fail
        go_ret
        exact ⟨j, .inr ⟨j, hlt, rfl, HP.out, HF.out⟩, rfl, hbw.trans (hb3.mono hbw.size)⟩
    · obtain rfl : j = l.length := by omega
      have HE := Lib.hid (show l.any p = false by rw [← HF.out, List.take_length])
      go_wp2_with fail
      go_ret
      exact ⟨-1, .inl ⟨rfl, HE.out⟩, rfl, hbw⟩

set_option maxHeartbeats 2000000 in
theorem index_l_at (l : List Bd) (A : Option Addr) (c : Nat) (B : Nat) (p : Bd → Bool) (w : World) (hl : BLst w A l c)
    (Q0 : ∀ W, ∀ x ∈ l, Below w.heap.size w W → Calls Tryz.prog 39 #[x.val, .pointer (some ⟨B, 0, none⟩)] W fun e w' => e = .returned (.bool (p x)) ∧ Below W.heap.size W w') :
    Calls Tryz.prog 38 #[.slice A l.length c, .func (.func 39) #[] #[.pointer (some ⟨B, 0, none⟩)]] w (FirstIdx l p w) := by
  have hlen := hl.len
  have HL := Lib.hid hl
  have Q := Lib.hid Q0
  clear hl Q0
  go_enter Tryz.func38, Tryz.ntmps38
  go_wp2_with fail
  go_loopw [8] (fun i wr => ∃ j : Nat, j ≤ l.length ∧ i = .int .i64 j ∧ Hid ((l.take j).any p = false) ∧ Below w.heap.size w wr) (fun i _ => l.length - (intOf i).toNat)
  case atStart => exact ⟨0, Nat.zero_le _, rfl, Lib.hid rfl, Below.refl _ _⟩
  case round =>
    obtain ⟨j, hj, rfl, HF, hbw⟩ := hrel
    by_cases hlt : j < l.length
    · obtain ⟨b, o, rfl, ⟨c0, c1, c2, c3, c4⟩, _⟩ := (HL.out.below hbw).get hlt
      have HN := Lib.hid (bany_next p hlt)
      rw [HF.out, Bool.false_or] at HN
      have Q1 := Lib.hid (Q.out wr _ (bgetD_mem hlt) hbw)
      have HX := Lib.hid (show p (l.getD j default) = p (l.getD j default) from rfl)
      obtain ⟨x, hx⟩ : ∃ x, l.getD j default = x := ⟨_, rfl⟩
      rw [hx] at c0 c1 c2 c3 c4 Q1 HN
      have HE := Lib.hid hx
      clear HX hx
      obtain ⟨N, hN⟩ : ∃ N, p x = N := ⟨_, rfl⟩
      rw [hN] at Q1 HN
      have HP := Lib.hid (show p (l.getD j default) = N by rw [HE.out, hN])
      clear hN
      obtain ⟨v', k', n', s', A', c', a'⟩ := x
      simp only [Tm.kind, Tm.num, Tm.name, Tm.at_, Tm.args, Tm.cap] at c0 c1 c2 c3 c4
      cases N
      · go_wp2_with fail
        refine (Q1.out).mono ?_
        rintro e w2 ⟨rfl, hb3⟩
        go_wp2_with fail
        go_roundw
        case rel => exact ⟨j + 1, by omega, by go_num, HN, hbw.trans (hb3.mono hbw.size)⟩
        case measure => simp [intOf]; omega
      · go_wp2_with fail
        refine (Q1.out).mono ?_
        rintro e w2 ⟨rfl, hb3⟩
        go_wp2_with fail
        go_ret
        exact ⟨j, .inr ⟨j, hlt, rfl, HP.out, HF.out⟩, rfl, hbw.trans (hb3.mono hbw.size)⟩
    · obtain rfl : j = l.length := by omega
      have HE := Lib.hid (show l.any p = false by rw [← HF.out, List.take_length])
      go_wp2_with fail
      go_ret
      exact ⟨-1, .inl ⟨rfl, HE.out⟩, rfl, hbw⟩

theorem contains_m_at (l : List Bd) (A : Option Addr) (c : Nat) (A0 : Option Addr) (n0 c0 : Nat) (p : Bd → Bool) (w : World) (hl : BLst w A l c)
    (Q0 : ∀ W, ∀ x ∈ l, Below w.heap.size w W → Calls Tryz.prog 29 #[.slice A0 n0 c0, x.val] W fun e w' => e = .returned (.bool (p x)) ∧ Below W.heap.size W w') :
    Calls Tryz.prog 28 #[.slice A l.length c, .func (.func 29) #[.slice A0 n0 c0] #[]] w fun e w' => e = .returned (.bool (l.any p)) ∧ Below w.heap.size w w' := by
  have Q := Lib.hid (index_m_at l A c A0 n0 c0 p w hl Q0)
  have HP : ∀ m : Int, ((m = -1 ∧ l.any p = false) ∨ ∃ i : Nat, i < l.length ∧ m = i ∧ p (l.getD i default) = true ∧ (l.take i).any p = false) → decide (0 ≤ m) = l.any p := by
    rintro m (⟨rfl, h⟩ | ⟨i, hi, rfl, h, _⟩)
    · rw [h]; rfl
    · rw [List.any_eq_true.2 ⟨_, bgetD_mem hi, h⟩]; simp
  have HQ := Lib.hid HP
  clear hl Q0 HP
  go_enter Tryz.func28, Tryz.ntmps28
  go_wp2_with fail
  refine (Q.out).mono ?_
  rintro e w2 ⟨m, hm, rfl, hb⟩
  have HM := Lib.hid (HQ.out m hm)
  clear hm
  go_wp2_with fail
  go_ret
  exact ⟨by rw [← HM.out]; rfl, hb⟩

/-- The closure of Lookup. -/
theorem lookup_is_at (x : Bd) (B : Nat) (v : Int) (w : World) (hB : w.cell? ⟨B, 0, none⟩ = some (.int .i64 v)) :
    Calls Tryz.prog 39 #[x.val, .pointer (some ⟨B, 0, none⟩)] w fun e w' => e = .returned (.bool (decide (x.var = v))) ∧ Below w.heap.size w w' := by
  obtain ⟨v', k', n', s', A', c', a'⟩ := x
  show Calls Tryz.prog 39 #[.agg #[.int .i64 v', .int .i64 k', .int .i64 n', .string s', .slice A' a'.length c'], .pointer (some ⟨B, 0, none⟩)] w _
  have hB1 : ∀ o, (w.alloc o).cell? ⟨B, 0, none⟩ = some (.int .i64 v) := fun o => keepv (below1 w o) hB
  go_enter Tryz.func39, Tryz.ntmps39
  go_wp2_with fail
  go_ret
  exact ⟨by congr 2, below1 _ _⟩
end Go.Proofs.YtgialbcohkpogaaGreat
