/-
  Contracts of left, Small and variable of the statements.
-/
import Derived.Test.YtponcbnghiaclaaArEval
namespace Go.Proofs.Ytponcbnghiaclaa
open Go.RowKit

set_option maxHeartbeats 2000000 in
theorem left_at (t : Tm) : ∀ (n d : Int) (w : World), t.At w → -1 ≤ n → n ≤ 1000 → -1 ≤ d → d ≤ 1000 →
    Calls Try.prog 28 #[t.val, .int .i64 n, .int .i64 d] w fun e w' => e = .returned (.int .i64 (t.lft n d)) ∧ Below w.heap.size w w' := by
  induction t using Tm.induct with
  | h k m s A c a ih =>
    intro n d w hat hn1 hn2 hd1 hd2
    have B0 := Lib.hid (show ∀ o, Below w.heap.size w (w.alloc o) from fun o => (Below.refl _ _).alloc (Nat.le_refl _) o)
    have hl : Lst w A a c := hat.lst
    have hlen : a.length ≤ 9223372036854775807 := by have := hl.1; have := hl.2.1; unfold maxLen at *; omega
    have HV := Lib.hid (show (Tm.mk k m s A c a).lft n d = if d < 1 ∨ n - 1 < 0 then -1 else lftL a (n - 1) (d - 1) by simp only [Tm.lft])
    show Calls Try.prog 28 #[.agg #[.int .i64 k, .int .i64 m, .string s, .slice A a.length c], .int .i64 n, .int .i64 d] w _
    by_cases h1 : d < 1
    · have HU := Lib.hid (show (Tm.mk k m s A c a).lft n d = -1 by rw [HV.out, if_pos (.inl h1)])
      clear HV hat hl ih
      go_enter Try.func28, Try.ntmps28
      go_wp2_with fail
      go_ret
      exact ⟨by rw [HU.out]; rfl, B0.out _⟩
    by_cases h2 : n - 1 < 0
    · have HU := Lib.hid (show (Tm.mk k m s A c a).lft n d = -1 by rw [HV.out, if_pos (.inr h2)])
      have h1' : decide (d < 1) = false := by simpa using h1
      clear HV hat hl ih
      go_enter Try.func28, Try.ntmps28
      go_wp2_with fail
      go_ret
      exact ⟨by rw [HU.out]; rfl, B0.out _⟩
    have HU := Lib.hid (show (Tm.mk k m s A c a).lft n d = lftL a (n - 1) (d - 1) by rw [HV.out, if_neg (by omega)])
    have h1' : decide (d < 1) = false := by simpa using h1
    have h2' : decide (n - 1 < 0) = false := by simpa using h2
    have g1 : 1 ≤ d := by omega
    have g2 : 0 ≤ n - 1 := by omega
    have HL := Lib.hid hl
    have QI := Lib.hid ih
    clear HV hat hl ih h1 h2
    go_enter Try.func28, Try.ntmps28
    go_wp2_with fail
    go_loopw [1, 19] (fun z i wr => ∃ j : Nat, j ≤ a.length ∧ i = .int .i64 j ∧ z = .int .i64 (lftL (a.take j) (n - 1) (d - 1)) ∧ Hid (0 ≤ lftL (a.take j) (n - 1) (d - 1)) ∧ Below (w.alloc (.cells #[.int .i64 k, .int .i64 m, .string s, .slice A a.length c] 30)).heap.size (w.alloc (.cells #[.int .i64 k, .int .i64 m, .string s, .slice A a.length c] 30)) wr) (fun _ i _ => a.length - (intOf i).toNat)
    case atStart => exact ⟨0, Nat.zero_le _, rfl, by simp [lftL], Lib.hid (by simpa [lftL] using g2), Below.refl _ _⟩
    case round =>
      obtain ⟨j, hj, rfl, rfl, HF, hbb⟩ := hrel
      obtain ⟨d0, _, _, d3, hbw⟩ := box4 hbb
      clear d0
      by_cases hlt : j < a.length
      · obtain ⟨b, o, rfl, ⟨c0, c1, c2, c3⟩, hx⟩ := (HL.out.below hbw).get hlt
        have HN := Lib.hid (lftL_next hlt (n - 1) (d - 1) HF.out)
        have HS := Lib.hid (lftL_stop hlt (n - 1) (d - 1) HF.out)
        have b1 : 0 ≤ lftL (a.take j) (n - 1) (d - 1) := HF.out
        have b2 : lftL (a.take j) (n - 1) (d - 1) ≤ 1000 := by
          have := (lft_facts.2 (a.take j) (n - 1) (d - 1) g2).2 b1
          omega
        have hm := getD_mem hlt
        have q1 := QI.out _ hm (lftL (a.take j) (n - 1) (d - 1)) (d - 1) wr hx (by omega) b2 (by omega) (by omega)
        have l1 := (lft_facts.1 (a.getD j default) (lftL (a.take j) (n - 1) (d - 1)) (d - 1)).1
        generalize a.getD j default = x at *
        have Q := Lib.hid q1
        clear q1 hm hx QI
        generalize lftL (a.take j) (n - 1) (d - 1) = L at *
        generalize x.lft L (d - 1) = N at *
        obtain ⟨k', n', s', A', c', a'⟩ := x
        simp only [Tm.kind, Tm.num, Tm.name, Tm.at_, Tm.args, Tm.cap] at c0 c1 c2 c3
        go_wp2_with fail
        refine (Q.out).mono ?_
        rintro e w2 ⟨rfl, hb3⟩
        by_cases hN : N < 0
        · have HE := Lib.hid (HS.out hN)
          clear HN HS
          go_wp2_with fail
          go_ret
          exact ⟨by rw [HU.out, HE.out]; rfl, hbw.trans (hb3.mono hbw.size)⟩
        · have hN' : 0 ≤ N := by omega
          have HE := Lib.hid HN.out
          rw [if_neg hN] at HE
          clear HN HS hN
          go_wp2_with fail
          go_roundw
          case rel => exact ⟨j + 1, by omega, by go_num, by rw [HE.out], Lib.hid (by rw [HE.out]; exact hN'), hbb.trans (hb3.mono hbb.size)⟩
          case measure => simp [intOf]; omega
      · obtain rfl : j = a.length := by omega
        clear QI
        have HE := Lib.hid (show lftL (a.take a.length) (n - 1) (d - 1) = lftL a (n - 1) (d - 1) by rw [List.take_length])
        rw [HE.out]
        go_wp2_with fail
        go_ret
        exact ⟨by rw [HU.out]; rfl, hbw⟩

theorem small_at (t : Tm) (w : World) (hat : t.At w) {r : Bool} (hr : decide (0 ≤ t.lft 1000 100) = r) :
    Calls Try.prog 12 #[t.val] w fun e w' => e = .returned (.bool r) ∧ Below w.heap.size w w' := by
  have B0 := Lib.hid (show ∀ o, Below w.heap.size w (w.alloc o) from fun o => (Below.refl _ _).alloc (Nat.le_refl _) o)
  have Q := Lib.hid (fun W (h : Below w.heap.size w W) => left_at t 1000 100 W (hat.below h) (by omega) (by omega) (by omega) (by omega))
  have HR := Lib.hid hr
  clear hat hr
  generalize t.lft 1000 100 = L at *
  obtain ⟨k, n, s, A, c, a⟩ := t
  show Calls Try.prog 12 #[.agg #[.int .i64 k, .int .i64 n, .string s, .slice A a.length c]] w _
  go_enter Try.func12, Try.ntmps12
  go_wp2_with fail
  refine (Q.out _ (B0.out _)).mono ?_
  rintro e w1 ⟨rfl, hb⟩
  go_wp2_with fail
  go_ret
  exact ⟨by rw [← HR.out]; rfl, (B0.out _).trans (hb.mono (by simp))⟩

theorem vary_next {l : List Tm} {k : Nat} (h : k < l.length) : varyL (l.take (k + 1)) = (varyL (l.take k) || (l.getD k default).vary) := by
  rw [ttake_next h]; simp [varyL_any]
theorem vary_stop {l : List Tm} {k : Nat} (h : k < l.length) (hv : (l.getD k default).vary = true) : varyL l = true := by
  rw [varyL_any, List.any_eq_true]
  exact ⟨_, getD_mem h, hv⟩

set_option maxHeartbeats 2000000 in
theorem variable_at (t : Tm) : ∀ w : World, t.At w → Calls Try.prog 20 #[t.val] w fun e w' => e = .returned (.bool t.vary) ∧ Below w.heap.size w w' := by
  induction t using Tm.induct with
  | h k m s A c a ih =>
    intro w hat
    have B0 := Lib.hid (show ∀ o, Below w.heap.size w (w.alloc o) from fun o => (Below.refl _ _).alloc (Nat.le_refl _) o)
    have hl : Lst w A a c := hat.lst
    have hlen : a.length ≤ 9223372036854775807 := by have := hl.1; have := hl.2.1; unfold maxLen at *; omega
    show Calls Try.prog 20 #[.agg #[.int .i64 k, .int .i64 m, .string s, .slice A a.length c]] w _
    by_cases h1 : k = 1
    · subst h1
      have HU := Lib.hid (show (Tm.mk 1 m s A c a).vary = true by simp [Tm.vary])
      clear hat hl ih
      go_enter Try.func20, Try.ntmps20
      go_wp2_with fail
      go_ret
      exact ⟨by rw [HU.out]; rfl, B0.out _⟩
    have HU := Lib.hid (show (Tm.mk k m s A c a).vary = varyL a by simp [Tm.vary, h1])
    have h1' : (k == 1) = false := by simpa using h1
    have HL := Lib.hid hl
    have QI := Lib.hid ih
    clear hat hl ih h1
    go_enter Try.func20, Try.ntmps20
    go_wp2_with fail
    go_loopw [10] (fun i wr => ∃ j : Nat, j ≤ a.length ∧ i = .int .i64 j ∧ Hid (varyL (a.take j) = false) ∧ Below (w.alloc (.cells #[.int .i64 k, .int .i64 m, .string s, .slice A a.length c] 30)).heap.size (w.alloc (.cells #[.int .i64 k, .int .i64 m, .string s, .slice A a.length c] 30)) wr) (fun i _ => a.length - (intOf i).toNat)
    case atStart => exact ⟨0, Nat.zero_le _, rfl, Lib.hid rfl, Below.refl _ _⟩
    case round =>
      obtain ⟨j, hj, rfl, HF, hbb⟩ := hrel
      obtain ⟨d0, _, _, d3, hbw⟩ := box4 hbb
      clear d0
      by_cases hlt : j < a.length
      · obtain ⟨b, o, rfl, ⟨c0, c1, c2, c3⟩, hx⟩ := (HL.out.below hbw).get hlt
        have HN := Lib.hid (vary_next hlt)
        rw [HF.out, Bool.false_or] at HN
        have HS := Lib.hid (vary_stop hlt)
        have hm := getD_mem hlt
        have q1 := QI.out _ hm wr hx
        generalize a.getD j default = x at *
        have Q := Lib.hid q1
        clear q1 hm hx QI
        generalize x.vary = N at *
        obtain ⟨k', n', s', A', c', a'⟩ := x
        simp only [Tm.kind, Tm.num, Tm.name, Tm.at_, Tm.args, Tm.cap] at c0 c1 c2 c3
        cases N
        · go_wp2_with fail
          refine (Q.out).mono ?_
          rintro e w2 ⟨rfl, hb3⟩
          go_wp2_with fail
          go_roundw
          case rel => exact ⟨j + 1, by omega, by go_num, HN, hbb.trans (hb3.mono hbb.size)⟩
          case measure => simp [intOf]; omega
        · go_wp2_with fail
          refine (Q.out).mono ?_
          rintro e w2 ⟨rfl, hb3⟩
          go_wp2_with fail
          go_ret
          exact ⟨by rw [HU.out, HS.out trivial]; rfl, hbw.trans (hb3.mono hbw.size)⟩
      · obtain rfl : j = a.length := by omega
        have HE := Lib.hid (show varyL a = false by rw [← HF.out, List.take_length])
        clear QI
        go_wp2_with fail
        go_ret
        exact ⟨by rw [HU.out, HE.out]; rfl, hbw⟩
end Go.Proofs.Ytponcbnghiaclaa
