/-
  Contracts of the codec's functions that read encodings.
-/
import Derived.Test.YtogbanblmhpecaaProg
import Derived.Test.YtogbanblmhpecaaWords
import Derived.Outline
import Derived.IntWalk
namespace Go.Proofs.Ytogbanblmhpecaa
open Go.RowKit

theorem offset_yes (A : Option Addr) (n c k : Nat) (w : World) (hk : k ≤ n) :
    Calls Try.prog 22 #[.slice A n c, .int .i64 (k : Int)] w fun e w' => e = .returned (.bool true) ∧ w = w' := by
  have h1 : ((k : Nat) : Int) ≤ (n : Int) := by omega
  go_enter Try.func22, Try.ntmps22
  go_wp2
  go_ret
  exact ⟨rfl, rfl⟩
theorem offset_low (A : Option Addr) (n c : Nat) (k : Int) (w : World) (hk : k < 0) :
    Calls Try.prog 22 #[.slice A n c, .int .i64 k] w fun e w' => e = .returned (.bool false) ∧ w = w' := by
  have h1 : decide ((0 : Int) ≤ k) = false := by simpa using hk
  go_enter Try.func22, Try.ntmps22
  go_wp2
  go_ret
  exact ⟨rfl, rfl⟩
theorem offset_high (A : Option Addr) (n c : Nat) (k : Int) (w : World) (hk : (n : Int) < k) :
    Calls Try.prog 22 #[.slice A n c, .int .i64 k] w fun e w' => e = .returned (.bool false) ∧ w = w' := by
  have h0 : (0 : Int) ≤ k := by omega
  have h1 : decide (k ≤ (n : Int)) = false := by simpa using hk
  go_enter Try.func22, Try.ntmps22
  go_wp2
  go_ret
  exact ⟨rfl, rfl⟩

theorem signed_any (u : Nat) (w : World) (h : Hid (u < 18446744073709551616)) :
    Calls Try.prog 24 #[.int .u64 (u : Int)] w fun e w' => e = .returned (.int .i64 (zag u)) ∧ w = w' := by
  have hb : ((u : Nat) : Int) / 2 ≤ 9223372036854775807 := by have := h.out; omega
  by_cases h0 : u % 2 = 0
  · have HZ := Lib.hid (zag_even h0)
    have h0' : (((u : Nat) : Int) % 2 == 0) = true := by simp; omega
    clear h0
    go_enter Try.func24, Try.ntmps24
    go_wp2
    go_ret
    exact ⟨ret_int (by rw [HZ.out]; omega), rfl⟩
  · have HZ := Lib.hid (zag_odd h0)
    have h0' : (((u : Nat) : Int) % 2 == 0) = false := by simp; omega
    clear h0
    go_enter Try.func24, Try.ntmps24
    go_wp2
    go_ret
    exact ⟨ret_int (by rw [HZ.out]; omega), rfl⟩

theorem drop_cons {l : List UInt8} {k : Nat} (h : k < l.length) : l.drop k = l.getD k 0 :: l.drop (k + 1) := by
  rw [List.drop_eq_getElem_cons h]
  simp [List.getD, h]

/-- The head of the loop in readGroups: k groups are read, and make a. -/
def Read (l : List UInt8) (k a : Nat) : Prop := k ≤ 9 ∧ k ≤ l.length ∧ a < 128 ^ k ∧ rd 0 0 l = rd k a (l.drop k)
def groupsV (l : List UInt8) : Value := .tuple #[.int .u64 ((rd 0 0 l).1 : Int), .int .i64 ((rd 0 0 l).2.1 : Int), .int .i64 (rd 0 0 l).2.2]
theorem groupsV_eq {l : List UInt8} {u s : Nat} {e : Int} (h : rd 0 0 l = (u, s, e)) : groupsV l = .tuple #[.int .u64 (u : Int), .int .i64 (s : Int), .int .i64 e] := by unfold groupsV; rw [h]

section
variable {l : List UInt8} {k a : Nat}
theorem read_bad9 (h : Read l k a) (hk : k < l.length) (h9 : k = 9 ∧ 1 < (l.getD k 0).toNat) : rd 0 0 l = (0, 0, 3) := by
  rw [h.2.2.2, drop_cons hk, rd, if_pos h9]
theorem read_bad0 (h : Read l k a) (hk : k < l.length) (h9 : ¬ (k = 9 ∧ 1 < (l.getD k 0).toNat)) (h1 : (l.getD k 0).toNat < 128) (h0 : 0 < k ∧ (l.getD k 0).toNat = 0) : rd 0 0 l = (0, 0, 3) := by
  rw [h.2.2.2, drop_cons hk, rd, if_neg h9, if_pos h1, if_pos h0]
theorem read_end (h : Read l k a) (hk : k < l.length) (h9 : ¬ (k = 9 ∧ 1 < (l.getD k 0).toNat)) (h1 : (l.getD k 0).toNat < 128) (h0 : ¬ (0 < k ∧ (l.getD k 0).toNat = 0)) :
    rd 0 0 l = (a + (l.getD k 0).toNat % 128 * 128 ^ k, k + 1, 0) := by
  rw [h.2.2.2, drop_cons hk, rd, if_neg h9, if_pos h1, if_neg h0]
theorem read_short (h : Read l k a) (hk : ¬ k < l.length) : rd 0 0 l = (0, 0, 4) := by
  rw [h.2.2.2, List.drop_eq_nil_of_le (by omega), rd]
theorem read_next (h : Read l k a) (hk : k < l.length) (h9 : ¬ (k = 9 ∧ 1 < (l.getD k 0).toNat)) (h1 : ¬ (l.getD k 0).toNat < 128) : Read l (k + 1) (a + (l.getD k 0).toNat % 128 * 128 ^ k) := by
  refine ⟨by have := h.1; omega, by omega, ?_, ?_⟩
  · have h2 : (l.getD k 0).toNat % 128 * 128 ^ k ≤ 127 * 128 ^ k := Nat.mul_le_mul_right _ (by omega)
    have h3 := h.2.2.1
    rw [Nat.pow_succ]
    omega
  · rw [h.2.2.2, drop_cons hk, rd, if_neg h9, if_neg h1]
theorem read_acc {x : Nat} (h : Read l k a) (h9 : ¬ (k = 9 ∧ 1 < x)) (hx : x < 256) : IntKind.u64.wrap ((a : Int) + IntKind.u64.wrap ((x : Int) % 128 * 2 ^ (7 * k))) = ((a + x % 128 * 128 ^ k : Nat) : Int) := by
  have e : (2 : Int) ^ (7 * k) = ((128 ^ k : Nat) : Int) := by
    rw [show (128 : Nat) = 2 ^ 7 from rfl, ← Nat.pow_mul]
    simp
  have h2 : a + x % 128 * 128 ^ k < 18446744073709551616 := by
    have h3 := h.2.2.1
    rcases Nat.lt_or_ge k 9 with hk | hk
    · have h4 : x % 128 * 128 ^ k ≤ 127 * 128 ^ k := Nat.mul_le_mul_right _ (by omega)
      have h5 : 128 ^ k ≤ 128 ^ 8 := Nat.pow_le_pow_right (by omega) (by omega)
      omega
    · obtain rfl : k = 9 := by have := h.1; omega
      omega
  rw [e]
  have e2 : (x : Int) % 128 * ((128 ^ k : Nat) : Int) = ((x % 128 * 128 ^ k : Nat) : Int) := by simp
  have e3 : IntKind.u64.wrap ((x % 128 * 128 ^ k : Nat) : Int) = ((x % 128 * 128 ^ k : Nat) : Int) := IntWalk.u64_in _ ⟨by omega, by omega⟩
  rw [e2, e3, IntWalk.u64_in _ ⟨by omega, by omega⟩]
  simp
end

set_option maxRecDepth 100000 in
set_option maxHeartbeats 1000000 in
theorem groups_any (A : Option Addr) (l : List UInt8) (c : Nat) (w : World) (hl : Lies w A l) (hb : l.length ≤ 140737488355328) :
    Calls Try.prog 23 #[.slice A l.length c] w fun e w' => e = .returned (groupsV l) ∧ w = w' := by
  go_enter Try.func23, Try.ntmps23
  go_wp2
  go_loop [2, 9] (fun u i => ∃ k a : Nat, u = .int .u64 (a : Int) ∧ i = .int .i64 (k : Int) ∧ Hid (Read l k a)) (fun _ i => l.length - (intOf i).toNat)
  case atStart => exact ⟨0, 0, rfl, rfl, by omega, by omega, by simp, by simp⟩
  case round =>
    obtain ⟨k, a, rfl, rfl, hr⟩ := hrel
    have hk9 : k ≤ 9 := hr.out.1
    by_cases hk : k < l.length
    · obtain ⟨b, o, rfl, hc⟩ := hl.cell hk
      obtain ⟨x, hx⟩ : ∃ x, x = l.getD k 0 := ⟨_, rfl⟩
      rw [← hx] at hc
      have hx256 : x.toNat < 256 := x.toNat_lt
      have HX := Lib.hid hx
      clear hx hl
      by_cases ha : k = 9 ∧ 1 < x.toNat
      · have h1' : (1 : Int) < (x.toNat : Int) := by omega
        have hv := Lib.hid (groupsV_eq (read_bad9 hr.out hk (HX.out ▸ ha)))
        obtain ⟨rfl, h1⟩ := ha
        go_wp2
        go_ret3
        exact ⟨by rw [hv.out]; rfl, rfl⟩
      · have hacc := Lib.hid (read_acc hr.out ha hx256)
        have h9 : ((k : Int) == 9) = false ∨ (((k : Int) == 9) = true ∧ decide ((1 : Int) < (x.toNat : Int)) = false) := by
          by_cases h : k = 9
          · right
            refine ⟨by simp; omega, by simp; omega⟩
          · left
            simp; omega
        by_cases h128 : x.toNat < 128
        · have h128' : (x.toNat : Int) < 128 := by omega
          by_cases h0 : 0 < k ∧ x.toNat = 0
          · have hv := Lib.hid (groupsV_eq (read_bad0 hr.out hk (HX.out ▸ ha) (HX.out ▸ h128) (HX.out ▸ h0)))
            have e0 : ((x.toNat : Int) == 0) = true := by simp; omega
            have hk0 : 0 < k := h0.1
            clear h0 ha
            rcases h9 with h9 | ⟨h9, h9'⟩
            all_goals
              go_wp2
              go_ret3
              exact ⟨by rw [hv.out]; rfl, rfl⟩
          · have hv := Lib.hid (groupsV_eq (read_end hr.out hk (HX.out ▸ ha) (HX.out ▸ h128) (HX.out ▸ h0)))
            clear ha
            by_cases hk0 : 0 < k
            · have e0 : ((x.toNat : Int) == 0) = false := by simp; omega
              clear h0
              rcases h9 with h9 | ⟨h9, h9'⟩
              all_goals
                go_wp2
                go_ret3
                exact ⟨by rw [hv.out, ← HX.out]; simp [hacc.out], rfl⟩
            · have hd : decide ((0 : Int) < (k : Int)) = false := by simpa using hk0
              clear h0
              have h9 : ((k : Int) == 9) = false := by simp; omega
              go_wp2
              go_ret3
              exact ⟨by rw [hv.out, ← HX.out]; simp [hacc.out], rfl⟩
        · have hn := Lib.hid (read_next hr.out hk (HX.out ▸ ha) (HX.out ▸ h128))
          have hk' : ((k : Int) == 9) = false := by simp; omega
          clear ha
          go_wp2
          go_round
          case rel => exact ⟨k + 1, _, by rw [hacc.out], by go_num, HX.out ▸ hn.out⟩
          case measure => simp [intOf]; omega
    · have hv := Lib.hid (groupsV_eq (read_short hr.out hk))
      go_wp2
      go_ret3
      exact ⟨by rw [hv.out]; rfl, rfl⟩

theorem groups_at (A : Option Addr) (l : List UInt8) (m c : Nat) (w : World) (hm : l.length = m) (hl : Lies w A l) (hb : l.length ≤ 140737488355328) {u s : Nat} {e0 : Int} (hr : rd 0 0 l = (u, s, e0)) :
    Calls Try.prog 23 #[.slice A m c] w fun e w' => e = .returned (.tuple #[.int .u64 (u : Int), .int .i64 (s : Int), .int .i64 e0]) ∧ w = w' := by
  subst hm
  refine (groups_any A l c w hl hb).mono fun e w' h => ?_
  rw [groupsV_eq hr] at h
  exact h

/-- What Int answers: the integer, the offset behind it, the code of the error. -/
def intE (l : List UInt8) (at_ low high : Int) : Int × Int × Int :=
  if at_ < 0 ∨ (l.length : Int) < at_ ∨ high < low then (0, 0, 2)
  else if (rd 0 0 (l.drop at_.toNat)).2.2 ≠ 0 then (0, 0, (rd 0 0 (l.drop at_.toNat)).2.2)
  else if zag (rd 0 0 (l.drop at_.toNat)).1 < low ∨ high < zag (rd 0 0 (l.drop at_.toNat)).1 then (0, 0, 5)
  else (zag (rd 0 0 (l.drop at_.toNat)).1, at_ + ((rd 0 0 (l.drop at_.toNat)).2.1 : Int), 0)
def tupleV (r : Int × Int × Int) : Value := .tuple #[.int .i64 r.1, .int .i64 r.2.1, .int .i64 r.2.2]

set_option maxHeartbeats 1000000 in
set_option maxRecDepth 100000 in
theorem int_any (A : Option Addr) (l : List UInt8) (c : Nat) (at_ low high : Int) (w : World) (hl : Lies w A l) (hb : l.length ≤ 140737488355328) (hcap : l.length ≤ c) :
    Calls Try.prog 15 #[.slice A l.length c, .int .i64 at_, .int .i64 low, .int .i64 high] w fun e w' => e = .returned (tupleV (intE l at_ low high)) ∧ w = w' := by
  by_cases h0 : at_ < 0
  · have hv : intE l at_ low high = (0, 0, 2) := by unfold intE; rw [if_pos (.inl h0)]
    go_enter Try.func15, Try.ntmps15
    go_wp2_with (go_at_call 22; refine (offset_low _ _ _ _ _ h0).mono ?_; rintro e w' ⟨rfl, rfl⟩)
    go_ret3
    exact ⟨by rw [hv]; rfl, rfl⟩
  by_cases h1 : (l.length : Int) < at_
  · have hv : intE l at_ low high = (0, 0, 2) := by unfold intE; rw [if_pos (.inr (.inl h1))]
    go_enter Try.func15, Try.ntmps15
    go_wp2_with (go_at_call 22; refine (offset_high _ _ _ _ _ h1).mono ?_; rintro e w' ⟨rfl, rfl⟩)
    go_ret3
    exact ⟨by rw [hv]; rfl, rfl⟩
  obtain ⟨k, rfl⟩ : ∃ k : Nat, at_ = (k : Int) := ⟨at_.toNat, by omega⟩
  have hk : k ≤ l.length := by omega
  by_cases h2 : high < low
  · have hv : intE l k low high = (0, 0, 2) := by unfold intE; rw [if_pos (.inr (.inr h2))]
    go_enter Try.func15, Try.ntmps15
    go_wp2_with (go_at_call 22; refine (offset_yes _ _ _ _ _ hk).mono ?_; rintro e w' ⟨rfl, rfl⟩)
    go_ret3
    exact ⟨by rw [hv]; rfl, rfl⟩
  have h2' : low ≤ high := by omega
  obtain ⟨u, s, e0, hr⟩ : ∃ u s e0, rd 0 0 (l.drop k) = (u, s, e0) := ⟨_, _, _, rfl⟩
  have hin : intE l k low high = if e0 ≠ 0 then (0, 0, e0) else if zag u < low ∨ high < zag u then (0, 0, 5) else (zag u, (k : Int) + (s : Int), 0) := by
    unfold intE
    rw [if_neg (by omega), Int.toNat_natCast, hr]
  have HIN := Lib.hid hin
  have hg := fun A' m c' w' hm hl' => groups_at A' (l.drop k) m c' w' hm hl' (by simp; omega) hr
  have HG := Lib.hid hg
  have hdl : (l.drop k).length = l.length - k := List.length_drop
  have HDL := Lib.hid hdl
  clear h0 h1 h2 hin hg hdl
  by_cases h3 : e0 = 0
  · subst h3
    obtain ⟨-, -, hu, -, hs⟩ := rd_ok0 hr
    rw [HDL.out] at hs
    have HU := Lib.hid hu
    have HR := Lib.hid hr
    clear hr hu
    by_cases h4 : zag u < low
    · go_enter Try.func15, Try.ntmps15
      go_wp2_with (go_at_call 22; refine (offset_yes _ _ _ _ _ hk).mono ?_; rintro e w' ⟨rfl, rfl⟩)
      all_goals
        refine (HG.out _ _ _ _ HDL.out (by first | exact hl.cut2 _ | exact Lies.cut1 (by omega))).mono ?_
        rintro e w' ⟨rfl, rfl⟩
        go_wp2_with (go_at_call 24; refine (signed_any _ _ HU).mono ?_; rintro e w' ⟨rfl, rfl⟩)
        go_ret3
        exact ⟨by rw [HIN.out, if_neg (by simp), if_pos (.inl h4)]; rfl, rfl⟩
    have h4' : decide (zag u < low) = false := by simpa using h4
    by_cases h5 : high < zag u
    · go_enter Try.func15, Try.ntmps15
      go_wp2_with (go_at_call 22; refine (offset_yes _ _ _ _ _ hk).mono ?_; rintro e w' ⟨rfl, rfl⟩)
      all_goals
        refine (HG.out _ _ _ _ HDL.out (by first | exact hl.cut2 _ | exact Lies.cut1 (by omega))).mono ?_
        rintro e w' ⟨rfl, rfl⟩
        go_wp2_with (go_at_call 24; refine (signed_any _ _ HU).mono ?_; rintro e w' ⟨rfl, rfl⟩)
        go_ret3
        exact ⟨by rw [HIN.out, if_neg (by simp), if_pos (.inr h5)]; rfl, rfl⟩
    have h5' : decide (high < zag u) = false := by simpa using h5
    have h45 : ¬ (zag u < low ∨ high < zag u) := by omega
    have H45 := Lib.hid h45
    clear h4 h5 h45
    go_enter Try.func15, Try.ntmps15
    go_wp2_with (go_at_call 22; refine (offset_yes _ _ _ _ _ hk).mono ?_; rintro e w' ⟨rfl, rfl⟩)
    all_goals
      refine (HG.out _ _ _ _ HDL.out (by first | exact hl.cut2 _ | exact Lies.cut1 (by omega))).mono ?_
      rintro e w' ⟨rfl, rfl⟩
      go_wp2_with (go_at_call 24; refine (signed_any _ _ HU).mono ?_; rintro e w' ⟨rfl, rfl⟩)
      go_ret3
      exact ⟨by rw [HIN.out, if_neg (by simp), if_neg H45.out]; rfl, rfl⟩
  · have h3' : (e0 != 0) = true := by simpa using h3
    have H3 := Lib.hid h3
    have HR := Lib.hid hr
    clear hr h3
    go_enter Try.func15, Try.ntmps15
    go_wp2_with (go_at_call 22; refine (offset_yes _ _ _ _ _ hk).mono ?_; rintro e w' ⟨rfl, rfl⟩)
    all_goals
      refine (HG.out _ _ _ _ HDL.out (by first | exact hl.cut2 _ | exact Lies.cut1 (by omega))).mono ?_
      rintro e w' ⟨rfl, rfl⟩
      go_wp2_with fail
      go_ret3
      exact ⟨by rw [HIN.out, if_pos H3.out]; rfl, rfl⟩
end Go.Proofs.Ytogbanblmhpecaa
