/-
  Proves NameLabels: for every integer Label of the program gives what the reference gives; a label is a name of a variable and no name, and Number inverts it; no other number has a label. No condition.
-/
import Derived.Test.YtlijifjbncicjaaDoorRows
import Derived.Test.YtlijifjbncicjaaDoorCards
import Derived.Test.YtlijifjbncicjaaDoorTie
import Derived.Test.YtlijifjbncicjaaDoorExample
import Derived.Test.YtlijifjbncicjaaDoorRefLabel
import Derived.ProofKit
import Derived.OpenShut
import Derived.ShutString
import Derived.ChangeOld
import Derived.LaidMore
import Derived.Stop.Joined
import Derived.SevenTiedAt
namespace Go.Proofs.YtlijifjbncicjaaDoor.nameLabels
open Go.ChangeShapes Go.WideShapes Go.ChangeAt Go.RowKit
open Go.ChangeMaps (open_string shut_string)
set_option linter.unusedVariables false

theorem own : ownKnob Tryd.prog.godebug = none := by kernel_rfl

theorem nil_no : NoLabel (⟨#[]⟩ : ByteArray).data.toList := noLabel_nil

set_option maxHeartbeats 2000000 in
set_option maxRecDepth 10000 in
theorem walk (a0 : Int) (w : World) (w0 : (Lit.int .i64 a0).wf = true) (hL : Laid w) :
    Calls Tryd.prog 5 #[.int .i64 a0] w fun e w' => e = .returned (.bool true) ∧ Below w.heap.size w w' := by
  clear w0
  have qe := Lib.hid (fun w' (hb : Below w.heap.size w w') => example_any w' (hL.below hb))
  by_cases hr : 0 ≤ a0 ∧ a0 ≤ 1048576
  · obtain ⟨n, rfl⟩ : ∃ n : Nat, a0 = n := ⟨a0.toNat, by omega⟩
    have hn : n ≤ 1048576 := by omega
    obtain ⟨S, hS⟩ : ∃ S : ByteArray, S = ⟨(label n).toArray⟩ := ⟨_, rfl⟩
    have hSl : S.data.toList = label n := by rw [hS]
    have hSs : S.size ≤ 9223372036854775807 := by rw [← len_str, hSl]; have := label_len hn; omega
    have q1 := label_in n w hn hL
    have q2 := fun w' => ref_label_in n w' hn
    rw [← hS] at q1 q2
    have q1 := Lib.hid q1
    have q2 := Lib.hid q2
    have q3 := Lib.hid (fun w' (hb : Below w.heap.size w w') => number_yes S n w' ⟨hn, hSl⟩ (hL.below hb))
    have q4 := Lib.hid (fun w' => var_at S w' hSs (r := true) (by rw [hSl]; exact label_var hn))
    have q5 := Lib.hid (fun w' => right_at S w' hSs (r := false) (by rw [hSl]; exact label_right hn))
    have h1 : decide ((n : Int) < 0) = false := by simp
    have h2 : decide ((1048576 : Int) < (n : Int)) = false := by simp; omega
    clear hr hL hn hSl hSs hS
    go_enter Tryd.func5, Tryd.ntmps5
    go_wp2_with fail
    ((with_reducible refine q1.out.mono ?_); rintro e w1 ⟨rfl, hb1⟩)
    go_wp2_with fail
    ((with_reducible refine (q2.out w1).mono ?_); rintro e w2 ⟨rfl, hb2⟩)
    have hb3 := hb1.trans (hb2.mono hb1.size)
    clear hb1 hb2
    go_wp2_with fail
    ((with_reducible refine (q3.out w2 hb3).mono ?_); rintro e w3 ⟨rfl, hb4⟩)
    have hb5 := hb3.trans (hb4.mono hb3.size)
    clear hb3 hb4
    go_wp2_with fail
    ((with_reducible refine (q4.out w3).mono ?_); rintro e w' ⟨rfl, rfl⟩)
    go_wp2_with fail
    ((with_reducible refine (q5.out w3).mono ?_); rintro e w' ⟨rfl, rfl⟩)
    go_wp2_with fail
    ((with_reducible refine (qe.out w3 hb5).mono ?_); rintro e w4 ⟨rfl, hb6⟩)
    go_wp2_with fail
    go_ret
    exact ⟨rfl, hb5.trans (hb6.mono hb5.size)⟩
  · have q1 := Lib.hid (label_out a0 w (by omega))
    have q2 := Lib.hid (ref_label_out a0 w (by omega))
    have q3 := Lib.hid (number_no ⟨#[]⟩ w (by decide) nil_no hL)
    by_cases h1 : a0 < 0
    · clear hr hL
      go_enter Tryd.func5, Tryd.ntmps5
      go_wp2_with fail
      ((with_reducible refine q1.out.mono ?_); rintro e w1 ⟨rfl, rfl⟩)
      go_wp2_with fail
      ((with_reducible refine q2.out.mono ?_); rintro e w1 ⟨rfl, rfl⟩)
      go_wp2_with fail
      ((with_reducible refine q3.out.mono ?_); rintro e w3 ⟨rfl, hb3⟩)
      go_wp2_with fail
      ((with_reducible refine (qe.out w3 hb3).mono ?_); rintro e w4 ⟨rfl, hb6⟩)
      go_wp2_with fail
      go_ret
      exact ⟨rfl, hb3.trans (hb6.mono hb3.size)⟩
    · have h1' : decide (a0 < 0) = false := by simpa using h1
      have h2 : 1048576 < a0 := by omega
      clear hr hL h1
      go_enter Tryd.func5, Tryd.ntmps5
      go_wp2_with fail
      ((with_reducible refine q1.out.mono ?_); rintro e w1 ⟨rfl, rfl⟩)
      go_wp2_with fail
      ((with_reducible refine q2.out.mono ?_); rintro e w1 ⟨rfl, rfl⟩)
      go_wp2_with fail
      ((with_reducible refine q3.out.mono ?_); rintro e w3 ⟨rfl, hb3⟩)
      go_wp2_with fail
      ((with_reducible refine (qe.out w3 hb3).mono ?_); rintro e w4 ⟨rfl, hb6⟩)
      go_wp2_with fail
      go_ret
      exact ⟨rfl, hb3.trans (hb6.mono hb3.size)⟩

set_option maxRecDepth 100000 in
theorem lifted (os : Os) (started : os.Started) (H : Type) (enc : TypeId × Value → H) :
    ReturnsInHanded {} Tryd.checked os 5 .any (fun w args => (Rows.nameLabelsSpec.pre enc Tryd.prog Tryd.f5 [] false w args ∧ laidMetH Tryd.prog Rows.nameLabelsRow.laid w) ∧ sizedMet enc Tryd.prog Tryd.f5 (OpenSpec.ofChange Rows.nameLabelsSpec) false w args)
      (Rows.nameLabelsSpec.post enc Tryd.prog Tryd.f5 false true false false) := by
  refine returnsInHanded_of_change_and (C := Tryd.checked) (X := fun w _ => laidMetH Tryd.prog Rows.nameLabelsRow.laid w) (fun _ _ _ hh h => h.of_heap hh) own started (by kernel_rfl) Tryd.func5
    (ChangeSpec.witness_shaped (enc := enc) (C := Tryd.checked) (os := os) (X := fun w _ => laidMetH Tryd.prog Rows.nameLabelsRow.laid w) false (World.doorLaid Tryd.prog 400 os) #[.int .i64 0] 8 rfl (World.shaped_of_RefB (by kernel_rfl) (by kernel_rfl)) (by kernel_rfl) (by kernel_rfl) (by kernel_rfl) (door_met os _)) ?_
  intro W base args ds gs before hval0 hW _ _ hL _
  have hval : ∀ (j : Nat) t v, Tryd.f5.params[j]? = some t → args[j]? = some v → Value.okWide Tryd.prog W .any base t v := hval0
  have hW' := hW
  obtain ⟨p, q, hA0, hV, rfl, hfz, hnd⟩ := hW
  have hA : DataW.TrodAll enc Tryd.prog W 0 (fun _ => true) true Tryd.f5.params.toList args.toList ds p := hA0
  rw [Tryd.params5] at hA hval
  obtain ⟨v0, d0, rfl, rfl, h0⟩ := trodAll_one hA
  obtain ⟨rfl, rfl⟩ := trodVars_none hV
  obtain ⟨a0, rfl, rfl, rfl, w0⟩ := open_int Tryd.underlying3 (hval 0 3 v0 rfl rfl) h0
  have hL' : Laid W := laid_of hL
  clear hA0 hval0
  refine (walk a0 W w0 hL').mono fun e W' ⟨he, bel⟩ => ?_
  subst he
  exact ⟨_, rfl, _, _, _, [], _, [], hW', trodAll_mk1 (shut_bool Tryd.underlying4 _), trodAll_mk1 (shut_int Tryd.underlying3 w0), rfl, bel.frame _, fun h => by cases h⟩

theorem said : Rows.NameLabelsSaid :=
  OpenClaim.holds_of_wide 5 Tryd.f5 rfl rfl rfl rfl rfl rfl rfl ⟨rfl, rfl, rfl, rfl, rfl⟩ rfl rfl rfl rfl rfl (by kernel_rfl) Tryd.func5 (by kernel_rfl)
    (of_decide_eq_true (by kernel_rfl)) (by unfold Func.isWrapper; first | (rw [if_pos (by decide +kernel)]; kernel_rfl) | (rw [if_neg (by decide +kernel)]; exact ⟨rfl, rfl⟩))
    (fun os started H enc _ => lifted os started H enc)

theorem plain (f : FuncId) (fn : Func) (hf : Tryd.pinned.checked.prog.funcNamed "constraint/constraintlaw02.NameLabels" = some f) (hfn : Tryd.pinned.checked.prog.funcs[f]? = some fn) :
    true = Tryd.pinned.checked.prog.looks [] ∧ ∀ (j : Nat) t, fn.params[j]? = some t → Tryd.pinned.checked.prog.wantsStandIn t = false := by
  obtain rfl : f = 5 := Option.some.inj ((show Tryd.prog.funcNamed "constraint/constraintlaw02.NameLabels" = some 5 by kernel_rfl).symm.trans hf) |>.symm
  obtain rfl : fn = Tryd.f5 := (Option.some.inj (Tryd.func5.symm.trans hfn)).symm
  refine ⟨by kernel_rfl, fun j t ht => ?_⟩
  rw [Tryd.params5] at ht
  obtain rfl : t = 3 := by simpa using Array.mem_of_getElem? ht
  exact (show Tryd.prog.wantsStandIn 3 = false by kernel_rfl)

/-- THE STATEMENT. -/
theorem card : Rows.NameLabelsCardSaid :=
  Claim7.holds_tied_plain_at .later [] _ _ _ _ said (fun _ h => by cases h) (by kernel_rfl) (fun _ h => by cases h) nameLabels_row_tie rfl ⟨rfl, rfl⟩ (by kernel_rfl) rfl plain (by kernel_rfl)
#print axioms card
end Go.Proofs.YtlijifjbncicjaaDoor.nameLabels
