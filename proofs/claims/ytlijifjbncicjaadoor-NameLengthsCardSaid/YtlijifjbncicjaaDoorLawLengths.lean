/-
  Proves NameLengths: a word of n equal letters is a name, or a name of a variable, exactly if n is between 1 and 40 (for n below 0 and above 3000 the statement asks only the fixed examples). No condition.
-/
import Derived.Test.YtlijifjbncicjaaDoorRows
import Derived.Test.YtlijifjbncicjaaDoorCards
import Derived.Test.YtlijifjbncicjaaDoorTie
import Derived.Test.YtlijifjbncicjaaDoorExample
import Derived.Test.YtlijifjbncicjaaDoorFill
import Derived.RegionTactic
import Derived.ProofKit
import Derived.OpenShut
import Derived.ShutString
import Derived.ChangeOld
import Derived.LaidMore
import Derived.Stop.Joined
import Derived.SevenTiedAt
namespace Go.Proofs.YtlijifjbncicjaaDoor.nameLengths
open Go.ChangeShapes Go.WideShapes Go.ChangeAt Go.RowKit
open Go.ChangeMaps (open_string shut_string)
set_option linter.unusedVariables false

theorem own : ownKnob Tryd.prog.godebug = none := by kernel_rfl

set_option maxHeartbeats 2000000 in
set_option maxRecDepth 10000 in
theorem inside (n : Nat) (w : World) (hn : n ≤ 3000) (qe : Hid (∀ w', Below w.heap.size w w' → Calls Tryd.prog 8 #[] w' fun e w2 => e = .returned (.bool true) ∧ Below w'.heap.size w' w2)) :
    Calls Tryd.prog 7 #[.int .i64 (n : Int)] w fun e w' => e = .returned (.bool true) ∧ Below w.heap.size w w' := by
  have h1 : decide ((n : Int) < 0) = false := by simp
  have h2 : decide ((3000 : Int) < (n : Int)) = false := by simp; omega
  obtain ⟨Z, hZ⟩ : ∃ Z, Z = (bcells (List.replicate n 0)).toArray := ⟨_, rfl⟩
  have hmk := fun W => make_bytes n (by omega) W
  rw [← hZ] at hmk
  have HZ := Lib.hid hZ
  have HN := Lib.hid hn
  obtain ⟨SL, hSL⟩ : ∃ S : ByteArray, S = ⟨(List.replicate n 97).toArray⟩ := ⟨_, rfl⟩
  obtain ⟨SH, hSH⟩ : ∃ S : ByteArray, S = ⟨(List.replicate n 90).toArray⟩ := ⟨_, rfl⟩
  have sL : SL.data.toList = List.replicate n 97 := by rw [hSL]
  have sH : SH.data.toList = List.replicate n 90 := by rw [hSH]
  have zL : SL.size ≤ 9223372036854775807 := by rw [← len_str, sL, List.length_replicate]; omega
  have zH : SH.size ≤ 9223372036854775807 := by rw [← len_str, sH, List.length_replicate]; omega
  obtain ⟨fits, hf⟩ : ∃ r, decide (1 ≤ n ∧ n ≤ 40) = r := ⟨_, rfl⟩
  have q1 := Lib.hid (fun w' => right_at SL w' zL (r := fits) (by rw [sL]; exact low_right hf))
  have q2 := Lib.hid (fun w' => var_at SH w' zH (r := fits) (by rw [sH]; exact high_var hf))
  have q3 := Lib.hid (fun w' => right_at SH w' zH (r := false) (by rw [sH]; exact high_right n))
  have q4 := Lib.hid (fun w' => var_at SL w' zL (r := false) (by rw [sL]; exact low_var n))
  have HL := Lib.hid hSL
  have HH := Lib.hid hSH
  have HF := Lib.hid hf
  clear hZ hn hSL hSH sL sH zL zH hf
  go_enter Tryd.func7, Tryd.ntmps7
  go_wp2_with fail
  go_region
  · go_wp2_with fail
    go_loopw [5] (fun i wr => ∃ k : Nat, k ≤ n ∧ i = .int .i64 (k : Int) ∧ RowIs wr w.heap.size (fill 97 k n) ∧ RowIs wr (w.heap.size + 1) (fill 90 k n) ∧ Below w.heap.size w wr) (fun i _ => n - (intOf i).toNat)
    case atStart =>
      have e0 : fill 97 0 n = List.replicate n 0 := fill_start _ _
      have e1 : fill 90 0 n = List.replicate n 0 := fill_start _ _
      have hz := HZ.out
      subst hz
      refine ⟨0, Nat.zero_le _, rfl, ?_, ?_, ?_⟩
      · rw [e0]; exact RowIs.drew ((RowIs.new w _).alloc _)
      · rw [e1]; exact RowIs.drew (RowIs.new' (w.alloc _) _ (by simp))
      · exact (((Below.refl _ _).alloc (Nat.le_refl _) _).alloc (by simp) _).drew
    case round =>
      obtain ⟨k, hk, rfl, r1, r2, hb⟩ := hrel
      by_cases hlt : k < n
      · have c1 := r1.cell (i := k) (by rw [fill_len (by omega)]; exact hlt)
        have c2 := r2.cell (i := k) (by rw [fill_len (by omega)]; exact hlt)
        rw [fill_at hlt] at c1 c2
        have f1 := r1.free k
        have f2 := r2.free k
        have R1 := (r1.set k (X := 97) (c := 97) rfl).aside (b' := (w.heap.size + 1)) k (by omega) (.int .u8 90)
        have R2 := (r2.aside (b' := w.heap.size) k (by omega) (.int .u8 97)).set k (X := 90) (c := 90) rfl
        rw [fill_next hlt] at R1 R2
        have HB := Lib.hid ((hb.setCell (p := ⟨w.heap.size, k, none⟩) (show w.heap.size ≤ w.heap.size by omega) (.int .u8 97)).setCell (p := ⟨(w.heap.size + 1), k, none⟩) (show w.heap.size ≤ (w.heap.size + 1) by omega) (.int .u8 90))
        have R1 := Lib.hid R1
        have R2 := Lib.hid R2
        have hk3 : (k : Int) ≤ 3000 := by have := HN.out; omega
        clear r1 r2 hb
        go_wp2_with fail
        go_roundw
        case rel => exact ⟨k + 1, by omega, by go_num, R1, R2, HB⟩
        case measure => simp [intOf]; omega
      · obtain rfl : k = n := by omega
        rw [fill_end] at r1 r2
        have v1 := r1.str (n := k) (by simp)
        have v2 := r2.str (n := k) (by simp)
        rw [← HL.out] at v1
        rw [← HH.out] at v2
        have HB := Lib.hid hb
        clear r1 r2 hb
        by_cases g1 : 1 ≤ k
        · have g1' : (1 : Int) ≤ (k : Int) := by omega
          by_cases g2 : k ≤ 40
          · have g2' : (k : Int) ≤ 40 := by omega
            obtain rfl : true = fits := by rw [← HF.out]; simp [g1, g2]
            clear g1 g2
            go_wp2_with fail
            ((with_reducible refine (q1.out _).mono ?_); rintro e w' ⟨rfl, rfl⟩)
            go_wp2_with fail
            ((with_reducible refine (q2.out _).mono ?_); rintro e w' ⟨rfl, rfl⟩)
            go_wp2_with fail
            ((with_reducible refine (q3.out _).mono ?_); rintro e w' ⟨rfl, rfl⟩)
            go_wp2_with fail
            ((with_reducible refine (q4.out _).mono ?_); rintro e w' ⟨rfl, rfl⟩)
            go_wp2_with fail
            ((with_reducible refine (qe.out _ HB.out).mono ?_); rintro e w2 ⟨rfl, hb2⟩)
            go_wp2_with fail
            go_ret
            exact ⟨rfl, HB.out.trans (hb2.mono HB.out.size)⟩
          · have g2' : decide ((k : Int) ≤ 40) = false := by simp; omega
            obtain rfl : false = fits := by rw [← HF.out]; simp [g2]
            clear g1 g2
            go_wp2_with fail
            ((with_reducible refine (q1.out _).mono ?_); rintro e w' ⟨rfl, rfl⟩)
            go_wp2_with fail
            ((with_reducible refine (q2.out _).mono ?_); rintro e w' ⟨rfl, rfl⟩)
            go_wp2_with fail
            ((with_reducible refine (q3.out _).mono ?_); rintro e w' ⟨rfl, rfl⟩)
            go_wp2_with fail
            ((with_reducible refine (q4.out _).mono ?_); rintro e w' ⟨rfl, rfl⟩)
            go_wp2_with fail
            ((with_reducible refine (qe.out _ HB.out).mono ?_); rintro e w2 ⟨rfl, hb2⟩)
            go_wp2_with fail
            go_ret
            exact ⟨rfl, HB.out.trans (hb2.mono HB.out.size)⟩
        · have g1' : decide ((1 : Int) ≤ (k : Int)) = false := by simp; omega
          obtain rfl : false = fits := by rw [← HF.out]; simp [g1]
          clear g1
          go_wp2_with fail
          ((with_reducible refine (q1.out _).mono ?_); rintro e w' ⟨rfl, rfl⟩)
          go_wp2_with fail
          ((with_reducible refine (q2.out _).mono ?_); rintro e w' ⟨rfl, rfl⟩)
          go_wp2_with fail
          ((with_reducible refine (q3.out _).mono ?_); rintro e w' ⟨rfl, rfl⟩)
          go_wp2_with fail
          ((with_reducible refine (q4.out _).mono ?_); rintro e w' ⟨rfl, rfl⟩)
          go_wp2_with fail
          ((with_reducible refine (qe.out _ HB.out).mono ?_); rintro e w2 ⟨rfl, hb2⟩)
          go_wp2_with fail
          go_ret
          exact ⟨rfl, HB.out.trans (hb2.mono HB.out.size)⟩
  · go_wp2_with fail
    go_loopw [5] (fun i wr => ∃ k : Nat, k ≤ n ∧ i = .int .i64 (k : Int) ∧ RowIs wr (w.heap.size + 1) (fill 97 k n) ∧ RowIs wr w.heap.size (fill 90 k n) ∧ Below w.heap.size w wr) (fun i _ => n - (intOf i).toNat)
    case atStart =>
      have e0 : fill 97 0 n = List.replicate n 0 := fill_start _ _
      have e1 : fill 90 0 n = List.replicate n 0 := fill_start _ _
      have hz := HZ.out
      subst hz
      refine ⟨0, Nat.zero_le _, rfl, ?_, ?_, ?_⟩
      · rw [e0]; exact RowIs.drew (RowIs.new' (w.alloc _) _ (by simp))
      · rw [e1]; exact RowIs.drew ((RowIs.new w _).alloc _)
      · exact (((Below.refl _ _).alloc (Nat.le_refl _) _).alloc (by simp) _).drew
    case round =>
      obtain ⟨k, hk, rfl, r1, r2, hb⟩ := hrel
      by_cases hlt : k < n
      · have c1 := r1.cell (i := k) (by rw [fill_len (by omega)]; exact hlt)
        have c2 := r2.cell (i := k) (by rw [fill_len (by omega)]; exact hlt)
        rw [fill_at hlt] at c1 c2
        have f1 := r1.free k
        have f2 := r2.free k
        have R1 := (r1.set k (X := 97) (c := 97) rfl).aside (b' := w.heap.size) k (by omega) (.int .u8 90)
        have R2 := (r2.aside (b' := (w.heap.size + 1)) k (by omega) (.int .u8 97)).set k (X := 90) (c := 90) rfl
        rw [fill_next hlt] at R1 R2
        have HB := Lib.hid ((hb.setCell (p := ⟨(w.heap.size + 1), k, none⟩) (show w.heap.size ≤ (w.heap.size + 1) by omega) (.int .u8 97)).setCell (p := ⟨w.heap.size, k, none⟩) (show w.heap.size ≤ w.heap.size by omega) (.int .u8 90))
        have R1 := Lib.hid R1
        have R2 := Lib.hid R2
        have hk3 : (k : Int) ≤ 3000 := by have := HN.out; omega
        clear r1 r2 hb
        go_wp2_with fail
        go_roundw
        case rel => exact ⟨k + 1, by omega, by go_num, R1, R2, HB⟩
        case measure => simp [intOf]; omega
      · obtain rfl : k = n := by omega
        rw [fill_end] at r1 r2
        have v1 := r1.str (n := k) (by simp)
        have v2 := r2.str (n := k) (by simp)
        rw [← HL.out] at v1
        rw [← HH.out] at v2
        have HB := Lib.hid hb
        clear r1 r2 hb
        by_cases g1 : 1 ≤ k
        · have g1' : (1 : Int) ≤ (k : Int) := by omega
          by_cases g2 : k ≤ 40
          · have g2' : (k : Int) ≤ 40 := by omega
            obtain rfl : true = fits := by rw [← HF.out]; simp [g1, g2]
            clear g1 g2
            go_wp2_with fail
            ((with_reducible refine (q1.out _).mono ?_); rintro e w' ⟨rfl, rfl⟩)
            go_wp2_with fail
            ((with_reducible refine (q2.out _).mono ?_); rintro e w' ⟨rfl, rfl⟩)
            go_wp2_with fail
            ((with_reducible refine (q3.out _).mono ?_); rintro e w' ⟨rfl, rfl⟩)
            go_wp2_with fail
            ((with_reducible refine (q4.out _).mono ?_); rintro e w' ⟨rfl, rfl⟩)
            go_wp2_with fail
            ((with_reducible refine (qe.out _ HB.out).mono ?_); rintro e w2 ⟨rfl, hb2⟩)
            go_wp2_with fail
            go_ret
            exact ⟨rfl, HB.out.trans (hb2.mono HB.out.size)⟩
          · have g2' : decide ((k : Int) ≤ 40) = false := by simp; omega
            obtain rfl : false = fits := by rw [← HF.out]; simp [g2]
            clear g1 g2
            go_wp2_with fail
            ((with_reducible refine (q1.out _).mono ?_); rintro e w' ⟨rfl, rfl⟩)
            go_wp2_with fail
            ((with_reducible refine (q2.out _).mono ?_); rintro e w' ⟨rfl, rfl⟩)
            go_wp2_with fail
            ((with_reducible refine (q3.out _).mono ?_); rintro e w' ⟨rfl, rfl⟩)
            go_wp2_with fail
            ((with_reducible refine (q4.out _).mono ?_); rintro e w' ⟨rfl, rfl⟩)
            go_wp2_with fail
            ((with_reducible refine (qe.out _ HB.out).mono ?_); rintro e w2 ⟨rfl, hb2⟩)
            go_wp2_with fail
            go_ret
            exact ⟨rfl, HB.out.trans (hb2.mono HB.out.size)⟩
        · have g1' : decide ((1 : Int) ≤ (k : Int)) = false := by simp; omega
          obtain rfl : false = fits := by rw [← HF.out]; simp [g1]
          clear g1
          go_wp2_with fail
          ((with_reducible refine (q1.out _).mono ?_); rintro e w' ⟨rfl, rfl⟩)
          go_wp2_with fail
          ((with_reducible refine (q2.out _).mono ?_); rintro e w' ⟨rfl, rfl⟩)
          go_wp2_with fail
          ((with_reducible refine (q3.out _).mono ?_); rintro e w' ⟨rfl, rfl⟩)
          go_wp2_with fail
          ((with_reducible refine (q4.out _).mono ?_); rintro e w' ⟨rfl, rfl⟩)
          go_wp2_with fail
          ((with_reducible refine (qe.out _ HB.out).mono ?_); rintro e w2 ⟨rfl, hb2⟩)
          go_wp2_with fail
          go_ret
          exact ⟨rfl, HB.out.trans (hb2.mono HB.out.size)⟩

theorem walk (a0 : Int) (w : World) (w0 : (Lit.int .i64 a0).wf = true) (hL : Laid w) :
    Calls Tryd.prog 7 #[.int .i64 a0] w fun e w' => e = .returned (.bool true) ∧ Below w.heap.size w w' := by
  clear w0
  have qe := Lib.hid (fun w' (hb : Below w.heap.size w w') => example_any w' (hL.below hb))
  by_cases h1 : a0 < 0
  · clear hL
    go_enter Tryd.func7, Tryd.ntmps7
    go_wp2_with fail
    ((with_reducible refine (qe.out _ (Below.refl _ _)).mono ?_); rintro e w2 ⟨rfl, hb2⟩)
    go_wp2_with fail
    go_ret
    exact ⟨rfl, hb2⟩
  by_cases h2 : 3000 < a0
  · have h1' : decide (a0 < 0) = false := by simpa using h1
    clear hL h1
    go_enter Tryd.func7, Tryd.ntmps7
    go_wp2_with fail
    ((with_reducible refine (qe.out _ (Below.refl _ _)).mono ?_); rintro e w2 ⟨rfl, hb2⟩)
    go_wp2_with fail
    go_ret
    exact ⟨rfl, hb2⟩
  obtain ⟨n, rfl⟩ : ∃ n : Nat, a0 = n := ⟨a0.toNat, by omega⟩
  exact inside n w (by omega) qe

set_option maxRecDepth 100000 in
theorem lifted (os : Os) (started : os.Started) (H : Type) (enc : TypeId × Value → H) :
    ReturnsInHanded {} Tryd.checked os 7 .any (fun w args => (Rows.nameLengthsSpec.pre enc Tryd.prog Tryd.f7 [] false w args ∧ laidMetH Tryd.prog Rows.nameLengthsRow.laid w) ∧ sizedMet enc Tryd.prog Tryd.f7 (OpenSpec.ofChange Rows.nameLengthsSpec) false w args)
      (Rows.nameLengthsSpec.post enc Tryd.prog Tryd.f7 false true false false) := by
  refine returnsInHanded_of_change_and (C := Tryd.checked) (X := fun w _ => laidMetH Tryd.prog Rows.nameLengthsRow.laid w) (fun _ _ _ hh h => h.of_heap hh) own started (by kernel_rfl) Tryd.func7
    (ChangeSpec.witness_shaped (enc := enc) (C := Tryd.checked) (os := os) (X := fun w _ => laidMetH Tryd.prog Rows.nameLengthsRow.laid w) false (World.doorLaid Tryd.prog 400 os) #[.int .i64 0] 8 rfl (World.shaped_of_RefB (by kernel_rfl) (by kernel_rfl)) (by kernel_rfl) (by kernel_rfl) (by kernel_rfl) (door_met os _)) ?_
  intro W base args ds gs before hval0 hW _ _ hL _
  have hval : ∀ (j : Nat) t v, Tryd.f7.params[j]? = some t → args[j]? = some v → Value.okWide Tryd.prog W .any base t v := hval0
  have hW' := hW
  obtain ⟨p, q, hA0, hV, rfl, hfz, hnd⟩ := hW
  have hA : DataW.TrodAll enc Tryd.prog W 0 (fun _ => true) true Tryd.f7.params.toList args.toList ds p := hA0
  rw [Tryd.params7] at hA hval
  obtain ⟨v0, d0, rfl, rfl, h0⟩ := trodAll_one hA
  obtain ⟨rfl, rfl⟩ := trodVars_none hV
  obtain ⟨a0, rfl, rfl, rfl, w0⟩ := open_int Tryd.underlying3 (hval 0 3 v0 rfl rfl) h0
  have hL' : Laid W := laid_of hL
  clear hA0 hval0
  refine (walk a0 W w0 hL').mono fun e W' ⟨he, bel⟩ => ?_
  subst he
  exact ⟨_, rfl, _, _, _, [], _, [], hW', trodAll_mk1 (shut_bool Tryd.underlying4 _), trodAll_mk1 (shut_int Tryd.underlying3 w0), rfl, bel.frame _, fun h => by cases h⟩

theorem said : Rows.NameLengthsSaid :=
  OpenClaim.holds_of_wide 7 Tryd.f7 rfl rfl rfl rfl rfl rfl rfl ⟨rfl, rfl, rfl, rfl, rfl⟩ rfl rfl rfl rfl rfl (by kernel_rfl) Tryd.func7 (by kernel_rfl)
    (of_decide_eq_true (by kernel_rfl)) (by unfold Func.isWrapper; first | (rw [if_pos (by decide +kernel)]; kernel_rfl) | (rw [if_neg (by decide +kernel)]; exact ⟨rfl, rfl⟩))
    (fun os started H enc _ => lifted os started H enc)

theorem plain (f : FuncId) (fn : Func) (hf : Tryd.pinned.checked.prog.funcNamed "constraint/constraintlaw02.NameLengths" = some f) (hfn : Tryd.pinned.checked.prog.funcs[f]? = some fn) :
    true = Tryd.pinned.checked.prog.looks [] ∧ ∀ (j : Nat) t, fn.params[j]? = some t → Tryd.pinned.checked.prog.wantsStandIn t = false := by
  obtain rfl : f = 7 := Option.some.inj ((show Tryd.prog.funcNamed "constraint/constraintlaw02.NameLengths" = some 7 by kernel_rfl).symm.trans hf) |>.symm
  obtain rfl : fn = Tryd.f7 := (Option.some.inj (Tryd.func7.symm.trans hfn)).symm
  refine ⟨by kernel_rfl, fun j t ht => ?_⟩
  rw [Tryd.params7] at ht
  obtain rfl : t = 3 := by simpa using Array.mem_of_getElem? ht
  exact (show Tryd.prog.wantsStandIn 3 = false by kernel_rfl)

/-- THE STATEMENT. -/
theorem card : Rows.NameLengthsCardSaid :=
  Claim7.holds_tied_plain_at .later [] _ _ _ _ said (fun _ h => by cases h) (by kernel_rfl) (fun _ h => by cases h) nameLengths_row_tie rfl ⟨rfl, rfl⟩ (by kernel_rfl) rfl plain (by kernel_rfl)
#print axioms card
end Go.Proofs.YtlijifjbncicjaaDoor.nameLengths
