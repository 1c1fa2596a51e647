/-
  Contracts of symbols and Symbol of the reference.
-/
import Derived.Test.YtfmflngmhhalhaaTkSymbol
import Derived.Test.YtfmflngmhhalhaaTkMem
import Derived.Deep.QuietTactic
import Derived.BigQuiet
import Derived.BigRegion
import Derived.WalkSpells
namespace Go.Proofs.Ytfmflngmhhalhaa
open Go.RowKit

def SymsAt (w : World) (b : Nat) : Prop := b < w.heap.size ∧ ∀ i, i < 23 → w.cell? ⟨b, i, none⟩ = some (.string (S (syms.getD i [])))
theorem SymsAt.below {w w' : World} {b : Nat} (h : SymsAt w b) (hb : Below w.heap.size w w') : SymsAt w' b := ⟨Nat.lt_of_lt_of_le h.1 hb.size, fun i hi => keepv hb (h.2 i hi)⟩
theorem symbols_at (w : World) : Calls Try.prog 28 #[] w fun e w' => ∃ b, e = .returned (.slice (some ⟨b, 0, none⟩) 23 23) ∧ SymsAt w' b ∧ Below w.heap.size w w' := by
  go_enter Try.func28, Try.ntmps28
  go_wp2
  go_ret
  refine ⟨w.heap.size, rfl, ⟨by simp, fun i hi => ?_⟩, below1 _ _⟩
  rw [World.cell?_alloc_at _ _ _ _ rfl]
  match i, hi with
  | 0, _ => rfl
  | 1, _ => rfl
  | 2, _ => rfl
  | 3, _ => rfl
  | 4, _ => rfl
  | 5, _ => rfl
  | 6, _ => rfl
  | 7, _ => rfl
  | 8, _ => rfl
  | 9, _ => rfl
  | 10, _ => rfl
  | 11, _ => rfl
  | 12, _ => rfl
  | 13, _ => rfl
  | 14, _ => rfl
  | 15, _ => rfl
  | 16, _ => rfl
  | 17, _ => rfl
  | 18, _ => rfl
  | 19, _ => rfl
  | 20, _ => rfl
  | 21, _ => rfl
  | 22, _ => rfl
  | n + 23, h => omega

theorem step_no1 {l b x : List UInt8} (h : l.length < x.length) : symStep l b x = b := by
  rcases symStep_cases l b x with ⟨_, h1, _⟩ | ⟨h1, _⟩
  · have := h1.length_le; omega
  · exact h1
theorem step_no2 {l b x : List UInt8} (h : l.take x.length ≠ x) : symStep l b x = b := by
  rcases symStep_cases l b x with ⟨_, h1, _⟩ | ⟨h1, _⟩
  · exact absurd (List.prefix_iff_eq_take.1 h1).symm h
  · exact h1
theorem step_no3 {l b x : List UInt8} (h : x.length ≤ b.length) : symStep l b x = b := by
  rcases symStep_cases l b x with ⟨_, _, h1⟩ | ⟨h1, _⟩
  · omega
  · exact h1
theorem step_yes {l b x : List UInt8} (h : l.take x.length = x) (h2 : b.length < x.length) : symStep l b x = x := by
  rcases symStep_cases l b x with ⟨h1, _⟩ | ⟨_, h1⟩
  · exact h1
  · exact absurd ⟨by rw [← h]; exact List.take_prefix _ _, h2⟩ h1
def symF (l : List UInt8) (i : Nat) : List UInt8 := (syms.take i).foldl (symStep l) []
theorem symF_next (l : List UInt8) {i : Nat} (hi : i < 23) : symF l (i + 1) = symStep l (symF l i) (syms.getD i []) := by
  have hl : i < syms.length := hi
  unfold symF
  rw [List.take_succ_eq_append_getElem hl, List.foldl_append, List.getD_eq_getElem?_getD, List.getElem?_eq_getElem hl]
  rfl
theorem symF_end (l : List UInt8) : symF l 23 = symP l := rfl
theorem sym_short : ∀ i, i < 23 → (syms.getD i []).length ≤ 3 := by decide

set_option maxHeartbeats 4000000 in
set_option maxRecDepth 20000 in
theorem tr_symbol_loop (s : ByteArray) (q : Nat) (w : World) (hs : s.size ≤ 100000) (hq : q ≤ s.size) :
    Calls Try.prog 18 #[.string s, .int .i64 (q : Int)] w fun e w' => e = .returned (.string (S (symP (rest s q)))) ∧ Below w.heap.size w w' := by
  have h1 : ¬ s.size < q := by omega
  have hl := rest_len s q
  go_enter Try.func18, Try.ntmps18
  go_wp2_with (go_at_call 28; refine (symbols_at _).mono ?_; rintro e w1 ⟨b, rfl, hsy, hb1⟩)
  have HSY := Lib.hid hsy
  have HB1 := Lib.hid hb1
  clear hsy hb1
  go_loopw [5, 7] (fun z i wr => ∃ (k : Nat) (x : List UInt8), k ≤ 23 ∧ i = .int .i64 (k : Int) ∧ z = .string (S x) ∧ Hid (symF (rest s q) k = x) ∧ Hid (SymsAt wr b) ∧ Hid (Below w.heap.size w wr)) (fun _ i _ => 23 - (intOf i).toNat)
  case atStart => exact ⟨0, [], by decide, rfl, rfl, Lib.hid rfl, HSY, HB1⟩
  case round =>
    obtain ⟨k, x, hk, rfl, rfl, HX, HS, HB⟩ := hrel
    have hxl : (S x).size = x.length := by simp [ByteArray.size]
    by_cases hlt : k < 23
    · have hlt' : (k : Int) < 23 := by omega
      have hcell := HS.out.2 k hlt
      have hb0 := HS.out.1
      have HN := Lib.hid (symF_next (rest s q) hlt)
      have h3 := sym_short k hlt
      generalize syms.getD k [] = y at hcell HN h3
      have hyl : (S y).size = y.length := by simp [ByteArray.size]
      rw [HX.out] at HN
      have hw : IntKind.i64.wrap ((s.size : Int) - (q : Int)) = (s.size : Int) - (q : Int) := IntWalk.i64_in _ (by omega)
      by_cases c1 : y.length ≤ s.size - q
      · have c1' : (y.length : Int) ≤ (s.size : Int) - (q : Int) := by omega
        have HW2 : Hid (IntKind.i64.wrap ((q : Int) + (y.length : Int)) = (q : Int) + (y.length : Int)) := Lib.hid (IntWalk.i64_in _ (by omega))
        have hqy : (q : Int) ≤ (q : Int) + (y.length : Int) := by omega
        have hsz : (q : Int) + (y.length : Int) ≤ (s.size : Int) := by omega
        have eN : ((q : Int) + (y.length : Int)).toNat = q + y.length := by omega
        have hX : (s.extract q (q + y.length)).data.toList = (rest s q).take y.length := by rw [extract_list, Nat.add_sub_cancel_left]
        by_cases c2 : (rest s q).take y.length = y
        · have c2' : ((s.extract q (q + y.length)).toList == y) = true := by rw [raw_list, hX, c2]; simp
          by_cases c3 : x.length < y.length
          · have HE := Lib.hid (HN.out.trans (step_yes c2 c3))
            clear c2 hX
            go_wp2_with fail
            have hw2 := HW2.out
            go_quiet (fail)
            go_wp2_with fail
            go_roundw
            case rel => exact ⟨k + 1, _, by omega, by go_num, rfl, HE, Lib.hid (HS.out.below (below_drewN (Below.refl _ _) _)), Lib.hid (below_drewN HB.out _)⟩
            case measure => simp [intOf]; omega
          · have HE := Lib.hid (HN.out.trans (step_no3 (by omega)))
            clear c2 hX
            go_wp2_with fail
            have hw2 := HW2.out
            go_quiet (fail)
            go_wp2_with fail
            go_roundw
            case rel => exact ⟨k + 1, _, by omega, by go_num, rfl, HE, Lib.hid (HS.out.below (below_drewN (Below.refl _ _) _)), Lib.hid (below_drewN HB.out _)⟩
            case measure => simp [intOf]; omega
        · have c2' : ((s.extract q (q + y.length)).toList == y) = false := by rw [raw_list, hX]; simpa using c2
          have HE := Lib.hid (HN.out.trans (step_no2 c2))
          clear c2 hX
          go_wp2_with fail
          have hw2 := HW2.out
          go_quiet (fail)
          go_wp2_with fail
          go_roundw
          case rel => exact ⟨k + 1, _, by omega, by go_num, rfl, HE, Lib.hid (HS.out.below (below_drewN (Below.refl _ _) _)), Lib.hid (below_drewN HB.out _)⟩
          case measure => simp [intOf]; omega
      · have HE := Lib.hid (HN.out.trans (step_no1 (by omega)))
        have c1' : decide ((y.length : Int) ≤ (s.size : Int) - (q : Int)) = false := by simp; omega
        have c1n : ¬ ((y.length : Int) ≤ (s.size : Int) - (q : Int)) := by omega
        clear c1
        go_wp2_with fail
        go_quiet (fail)
        go_wp2_with fail
        go_roundw
        case rel => exact ⟨k + 1, _, by omega, by go_num, rfl, HE, Lib.hid (HS.out.below (below_drewN (Below.refl _ _) _)), Lib.hid (below_drewN HB.out _)⟩
        case measure => simp [intOf]; omega
    · obtain rfl : k = 23 := by omega
      have HE := Lib.hid (show x = symP (rest s q) by rw [← HX.out, symF_end])
      go_wp2_with fail
      go_ret
      exact ⟨by rw [HE.out]; rfl, HB.out⟩
theorem tr_symbol_at (s : ByteArray) (a : Int) (w : World) (hs : s.size ≤ 100000) :
    Calls Try.prog 18 #[.string s, .int .i64 a] w fun e w' => e = .returned (.string (S (symAt s a))) ∧ Below w.heap.size w w' := by
  by_cases h0 : a < 0
  · have HV := Lib.hid (show symAt s a = [] by unfold symAt; rw [if_pos (.inl h0)])
    go_enter Try.func18, Try.ntmps18
    go_wp2
    go_ret
    exact ⟨by rw [HV.out]; rfl, Below.refl _ _⟩
  · obtain ⟨q, rfl⟩ : ∃ q : Nat, a = (q : Int) := ⟨a.toNat, by omega⟩
    by_cases h1 : (s.size : Int) < (q : Int)
    · have HV := Lib.hid (show symAt s (q : Int) = [] by unfold symAt; rw [if_pos (.inr h1)])
      have h1' : s.size < q := by omega
      clear h0 h1
      go_enter Try.func18, Try.ntmps18
      go_wp2
      go_ret
      exact ⟨by rw [HV.out]; rfl, Below.refl _ _⟩
    · have e : symAt s (q : Int) = symP (rest s q) := by unfold symAt; rw [if_neg (by omega)]; rfl
      rw [e]
      exact tr_symbol_loop s q w hs (by omega)
end Go.Proofs.Ytfmflngmhhalhaa
