/-
  The contract of Symbol of the program.
-/
import Derived.Test.YtfmflngmhhalhaaTkSymB
import Derived.WalkSpells
namespace Go.Proofs.Ytfmflngmhhalhaa
open Go.RowKit

theorem sym_len : ∀ y ∈ syms, 1 ≤ y.length ∧ y.length ≤ 3 := by decide
/-- None of the lengths above k is that of a symbol. -/
def NoneUp (l : List UInt8) (k : Nat) : Prop := ∀ j, k < j → j ≤ 3 → j ≤ l.length → l.take j ∉ syms
theorem sym_none {l : List UInt8} (h : NoneUp l 0) : symP l = [] := by
  obtain ⟨h1, h2, _⟩ := symP_facts l
  rcases h1 with h1 | h1
  · exact h1
  · obtain ⟨h3, h4⟩ := sym_len _ h1
    exact absurd (by rw [← List.prefix_iff_eq_take.1 h2]; exact h1) (h _ h3 h4 h2.length_le)
theorem sym_found {l : List UInt8} {k : Nat} (h : NoneUp l k) (hk : k ≤ l.length) (hm : l.take k ∈ syms) : symP l = l.take k := by
  refine symP_unique hm (List.take_prefix _ _) fun y hy hp => ?_
  rw [List.length_take, Nat.min_eq_left hk]
  rcases Nat.lt_or_ge k y.length with h1 | h1
  · exact absurd (by rw [← List.prefix_iff_eq_take.1 hp]; exact hy) (h _ h1 (sym_len y hy).2 hp.length_le)
  · exact h1
theorem none_next {l : List UInt8} {k : Nat} (h : NoneUp l k) (hk : l.take k ∉ syms) : NoneUp l (k - 1) := fun j h1 h2 h3 => by
  by_cases e : j = k
  · rw [e]; exact hk
  · exact h j (by omega) h2 h3

set_option maxHeartbeats 1000000 in
theorem symbol_loop (s : ByteArray) (q : Nat) (w : World) (hs : s.size ≤ 100000) (hq : q ≤ s.size) :
    Calls Try.prog 17 #[.string s, .int .i64 (q : Int)] w fun e w' => e = .returned (.string (S (symP (rest s q)))) ∧ w = w' := by
  have QB := Lib.hid symb_at
  have h1 : ¬ s.size < q := by omega
  have hl := rest_len s q
  have HS : Hid (∀ k : Nat, (s.extract q (q + k)).data.toList = (rest s q).take k) := Lib.hid fun k => by rw [extract_list, Nat.add_sub_cancel_left]
  by_cases h3 : (s.size : Int) - (q : Int) < 3
  all_goals
    go_enter Try.func17, Try.ntmps17
    go_wp2
    go_loop [5] (fun i => ∃ k : Nat, k ≤ 3 ∧ q + k ≤ s.size ∧ i = .int .i64 (k : Int) ∧ Hid (NoneUp (rest s q) k)) (fun i => (intOf i).toNat)
    case atStart => first | exact ⟨3, Nat.le_refl _, by omega, rfl, fun j h1 h2 _ => by omega⟩ | exact ⟨s.size - q, by omega, by omega, (by rw [show ((s.size - q : Nat) : Int) = (s.size : Int) - (q : Int) by omega]), fun j h1 _ h2 => by omega⟩
    case round =>
      obtain ⟨k, hk3, hkq, rfl, hk⟩ := hrel
      by_cases h0 : k = 0
      · subst h0
        have HV := Lib.hid (sym_none hk.out)
        go_wp2
        go_ret
        exact ⟨by rw [HV.out]; rfl, rfl⟩
      · have h0' : 0 < k := by omega
        have h63 : ¬ (9223372036854775807 < (q : Int) + (k : Int)) := by omega
        have hqk : (q : Int) ≤ (q : Int) + (k : Int) := by omega
        have hsz : (q : Int) + (k : Int) ≤ (s.size : Int) := by omega
        have hX := HS.out k
        have eN : ((q : Int) + (k : Int)).toNat = q + k := by omega
        obtain ⟨b, hb⟩ : ∃ b, symB (s.extract q (q + k)).data.toList = b := ⟨_, rfl⟩
        have Q1 := Lib.hid (fun W => QB.out (s.extract q (q + k)) W hb)
        rw [hX] at hb
        have HB := Lib.hid hb
        have HX := Lib.hid hX
        clear hb hX
        cases b
        · have HN := Lib.hid (none_next hk.out (by simpa [symB] using HB.out))
          go_wp2_with (go_at_call 27; refine (Q1.out _).mono ?_; rintro e w' ⟨rfl, rfl⟩)
          go_round
          case rel => exact ⟨k - 1, by omega, by omega, by go_num, HN.out⟩
          case measure => simp [intOf]; omega
        · have HN := Lib.hid (sym_found hk.out (by omega) (by simpa [symB] using HB.out))
          go_wp2_with (go_at_call 27; refine (Q1.out _).mono ?_; rintro e w' ⟨rfl, rfl⟩)
          go_ret
          exact ⟨by rw [HN.out, ← S_of HX.out]; rfl, rfl⟩
theorem symbol_at (s : ByteArray) (a : Int) (w : World) (hs : s.size ≤ 100000) :
    Calls Try.prog 17 #[.string s, .int .i64 a] w fun e w' => e = .returned (.string (S (symAt s a))) ∧ w = w' := by
  by_cases h0 : a < 0
  · have HV := Lib.hid (show symAt s a = [] by unfold symAt; rw [if_pos (.inl h0)])
    go_enter Try.func17, Try.ntmps17
    go_wp2
    go_ret
    exact ⟨by rw [HV.out]; rfl, rfl⟩
  · obtain ⟨q, rfl⟩ : ∃ q : Nat, a = (q : Int) := ⟨a.toNat, by omega⟩
    by_cases h1 : (s.size : Int) < (q : Int)
    · have HV := Lib.hid (show symAt s (q : Int) = [] by unfold symAt; rw [if_pos (.inr h1)])
      have h1' : s.size < q := by omega
      clear h0 h1
      go_enter Try.func17, Try.ntmps17
      go_wp2
      go_ret
      exact ⟨by rw [HV.out]; rfl, rfl⟩
    · have e : symAt s (q : Int) = symP (rest s q) := by unfold symAt; rw [if_neg (by omega)]; rfl
      rw [e]
      exact symbol_loop s q w hs (by omega)
end Go.Proofs.Ytfmflngmhhalhaa
