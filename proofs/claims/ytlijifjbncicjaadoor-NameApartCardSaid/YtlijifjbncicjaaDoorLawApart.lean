/-
  Proves NameApart: no string is two of a name, a name of a variable, an operator and a reserved word, and what becomes of them with an underscore behind (for a string of more than 5000 bytes the statement asks only the fixed examples). No condition.
-/
import Derived.Test.YtlijifjbncicjaaDoorRows
import Derived.Test.YtlijifjbncicjaaDoorCards
import Derived.Test.YtlijifjbncicjaaDoorTie
import Derived.Test.YtlijifjbncicjaaDoorExample
import Derived.ProofKit
import Derived.OpenShut
import Derived.ShutString
import Derived.ChangeOld
import Derived.LaidMore
import Derived.Stop.Joined
import Derived.SevenTiedAt
namespace Go.Proofs.YtlijifjbncicjaaDoor.nameApart
open Go.ChangeShapes Go.WideShapes Go.ChangeAt Go.RowKit
open Go.ChangeMaps (open_string shut_string)
set_option linter.unusedVariables false

theorem own : ownKnob Tryd.prog.godebug = none := by kernel_rfl

theorem und_data (s : ByteArray) : (s ++ ⟨#[95]⟩ : ByteArray).data.toList = s.data.toList ++ [95] := by simp

set_option maxHeartbeats 1000000 in
set_option maxRecDepth 10000 in
theorem wayNshort (a0 : ByteArray) (w : World) (hs : a0.size ≤ 9223372036854775807) (hz : ¬ 9223372036854775807 < a0.size + 1) (h1' : decide ((5000 : Int) < ((a0.size : Nat) : Int)) = false)
    (qe : Hid (∀ w', Below w.heap.size w w' → Calls Tryd.prog 8 #[] w' fun e w2 => e = .returned (.bool true) ∧ Below w'.heap.size w' w2))
    (qR : Hid (rightB a0.data.toList = false)) (qV : Hid (varB a0.data.toList = false)) (qO : Hid (opB a0.data.toList = false)) (qS : Hid (resB a0.data.toList = false))
    (qsu : Hid ((a0 ++ ⟨#[95]⟩ : ByteArray).size ≤ 9223372036854775807)) (quO : Hid (opB (a0 ++ ⟨#[95]⟩ : ByteArray).data.toList = false)) (quS : Hid (resB (a0 ++ ⟨#[95]⟩ : ByteArray).data.toList = false)) (h2' : ((a0.size : Nat) : Int) < 40) :
    Calls Tryd.prog 4 #[.string a0] w fun e w' => e = .returned (.bool true) ∧ Below w.heap.size w w' := by
  go_enter Tryd.func4, Tryd.ntmps4
  go_wp2_with fail
  ((with_reducible refine (right_at a0 w hs qR.out).mono ?_); rintro e w' ⟨rfl, rfl⟩)
  go_wp2_with fail
  ((with_reducible refine (var_at a0 w hs qV.out).mono ?_); rintro e w' ⟨rfl, rfl⟩)
  go_wp2_with fail
  ((with_reducible refine (op_at a0 w qO.out).mono ?_); rintro e w' ⟨rfl, rfl⟩)
  go_wp2_with fail
  ((with_reducible refine (res_at a0 w qS.out).mono ?_); rintro e w' ⟨rfl, rfl⟩)
  go_wp2_with fail
  ((with_reducible refine (right_at a0 w hs qR.out).mono ?_); rintro e w' ⟨rfl, rfl⟩)
  go_wp2_with fail
  ((with_reducible refine (res_at a0 w qS.out).mono ?_); rintro e w' ⟨rfl, rfl⟩)
  go_wp2_with fail
  ((with_reducible refine (var_at a0 w hs qV.out).mono ?_); rintro e w' ⟨rfl, rfl⟩)
  go_wp2_with fail
  ((with_reducible refine (op_at _ w quO.out).mono ?_); rintro e w' ⟨rfl, rfl⟩)
  go_wp2_with fail
  ((with_reducible refine (res_at _ w quS.out).mono ?_); rintro e w' ⟨rfl, rfl⟩)
  go_wp2_with fail
  ((with_reducible refine (qe.out w (Below.refl _ _)).mono ?_); rintro e w' ⟨rfl, hb⟩)
  go_wp2_with fail
  go_ret
  exact ⟨rfl, hb⟩

set_option maxHeartbeats 1000000 in
set_option maxRecDepth 10000 in
theorem wayNlong (a0 : ByteArray) (w : World) (hs : a0.size ≤ 9223372036854775807) (hz : ¬ 9223372036854775807 < a0.size + 1) (h1' : decide ((5000 : Int) < ((a0.size : Nat) : Int)) = false)
    (qe : Hid (∀ w', Below w.heap.size w w' → Calls Tryd.prog 8 #[] w' fun e w2 => e = .returned (.bool true) ∧ Below w'.heap.size w' w2))
    (qR : Hid (rightB a0.data.toList = false)) (qV : Hid (varB a0.data.toList = false)) (qO : Hid (opB a0.data.toList = false)) (qS : Hid (resB a0.data.toList = false))
    (qsu : Hid ((a0 ++ ⟨#[95]⟩ : ByteArray).size ≤ 9223372036854775807)) (quO : Hid (opB (a0 ++ ⟨#[95]⟩ : ByteArray).data.toList = false)) (quS : Hid (resB (a0 ++ ⟨#[95]⟩ : ByteArray).data.toList = false)) (h2' : decide (((a0.size : Nat) : Int) < 40) = false) :
    Calls Tryd.prog 4 #[.string a0] w fun e w' => e = .returned (.bool true) ∧ Below w.heap.size w w' := by
  go_enter Tryd.func4, Tryd.ntmps4
  go_wp2_with fail
  ((with_reducible refine (right_at a0 w hs qR.out).mono ?_); rintro e w' ⟨rfl, rfl⟩)
  go_wp2_with fail
  ((with_reducible refine (var_at a0 w hs qV.out).mono ?_); rintro e w' ⟨rfl, rfl⟩)
  go_wp2_with fail
  ((with_reducible refine (op_at a0 w qO.out).mono ?_); rintro e w' ⟨rfl, rfl⟩)
  go_wp2_with fail
  ((with_reducible refine (res_at a0 w qS.out).mono ?_); rintro e w' ⟨rfl, rfl⟩)
  go_wp2_with fail
  ((with_reducible refine (op_at _ w quO.out).mono ?_); rintro e w' ⟨rfl, rfl⟩)
  go_wp2_with fail
  ((with_reducible refine (res_at _ w quS.out).mono ?_); rintro e w' ⟨rfl, rfl⟩)
  go_wp2_with fail
  ((with_reducible refine (qe.out w (Below.refl _ _)).mono ?_); rintro e w' ⟨rfl, hb⟩)
  go_wp2_with fail
  go_ret
  exact ⟨rfl, hb⟩

set_option maxHeartbeats 1000000 in
set_option maxRecDepth 10000 in
theorem waySshort (a0 : ByteArray) (w : World) (hs : a0.size ≤ 9223372036854775807) (hz : ¬ 9223372036854775807 < a0.size + 1) (h1' : decide ((5000 : Int) < ((a0.size : Nat) : Int)) = false)
    (qe : Hid (∀ w', Below w.heap.size w w' → Calls Tryd.prog 8 #[] w' fun e w2 => e = .returned (.bool true) ∧ Below w'.heap.size w' w2))
    (qR : Hid (rightB a0.data.toList = false)) (qV : Hid (varB a0.data.toList = false)) (qO : Hid (opB a0.data.toList = false)) (qS : Hid (resB a0.data.toList = true))
    (qsu : Hid ((a0 ++ ⟨#[95]⟩ : ByteArray).size ≤ 9223372036854775807)) (quO : Hid (opB (a0 ++ ⟨#[95]⟩ : ByteArray).data.toList = false)) (quS : Hid (resB (a0 ++ ⟨#[95]⟩ : ByteArray).data.toList = false)) (qu : Hid (rightB (a0 ++ ⟨#[95]⟩ : ByteArray).data.toList = true)) (h2' : ((a0.size : Nat) : Int) < 40) :
    Calls Tryd.prog 4 #[.string a0] w fun e w' => e = .returned (.bool true) ∧ Below w.heap.size w w' := by
  go_enter Tryd.func4, Tryd.ntmps4
  go_wp2_with fail
  ((with_reducible refine (right_at a0 w hs qR.out).mono ?_); rintro e w' ⟨rfl, rfl⟩)
  go_wp2_with fail
  ((with_reducible refine (var_at a0 w hs qV.out).mono ?_); rintro e w' ⟨rfl, rfl⟩)
  go_wp2_with fail
  ((with_reducible refine (op_at a0 w qO.out).mono ?_); rintro e w' ⟨rfl, rfl⟩)
  go_wp2_with fail
  ((with_reducible refine (res_at a0 w qS.out).mono ?_); rintro e w' ⟨rfl, rfl⟩)
  go_wp2_with fail
  ((with_reducible refine (right_at a0 w hs qR.out).mono ?_); rintro e w' ⟨rfl, rfl⟩)
  go_wp2_with fail
  ((with_reducible refine (res_at a0 w qS.out).mono ?_); rintro e w' ⟨rfl, rfl⟩)
  go_wp2_with fail
  ((with_reducible refine (right_at _ w qsu.out qu.out).mono ?_); rintro e w' ⟨rfl, rfl⟩)
  go_wp2_with fail
  ((with_reducible refine (var_at a0 w hs qV.out).mono ?_); rintro e w' ⟨rfl, rfl⟩)
  go_wp2_with fail
  ((with_reducible refine (op_at _ w quO.out).mono ?_); rintro e w' ⟨rfl, rfl⟩)
  go_wp2_with fail
  ((with_reducible refine (res_at _ w quS.out).mono ?_); rintro e w' ⟨rfl, rfl⟩)
  go_wp2_with fail
  ((with_reducible refine (qe.out w (Below.refl _ _)).mono ?_); rintro e w' ⟨rfl, hb⟩)
  go_wp2_with fail
  go_ret
  exact ⟨rfl, hb⟩

set_option maxHeartbeats 1000000 in
set_option maxRecDepth 10000 in
theorem waySlong (a0 : ByteArray) (w : World) (hs : a0.size ≤ 9223372036854775807) (hz : ¬ 9223372036854775807 < a0.size + 1) (h1' : decide ((5000 : Int) < ((a0.size : Nat) : Int)) = false)
    (qe : Hid (∀ w', Below w.heap.size w w' → Calls Tryd.prog 8 #[] w' fun e w2 => e = .returned (.bool true) ∧ Below w'.heap.size w' w2))
    (qR : Hid (rightB a0.data.toList = false)) (qV : Hid (varB a0.data.toList = false)) (qO : Hid (opB a0.data.toList = false)) (qS : Hid (resB a0.data.toList = true))
    (qsu : Hid ((a0 ++ ⟨#[95]⟩ : ByteArray).size ≤ 9223372036854775807)) (quO : Hid (opB (a0 ++ ⟨#[95]⟩ : ByteArray).data.toList = false)) (quS : Hid (resB (a0 ++ ⟨#[95]⟩ : ByteArray).data.toList = false)) (h2' : decide (((a0.size : Nat) : Int) < 40) = false) :
    Calls Tryd.prog 4 #[.string a0] w fun e w' => e = .returned (.bool true) ∧ Below w.heap.size w w' := by
  go_enter Tryd.func4, Tryd.ntmps4
  go_wp2_with fail
  ((with_reducible refine (right_at a0 w hs qR.out).mono ?_); rintro e w' ⟨rfl, rfl⟩)
  go_wp2_with fail
  ((with_reducible refine (var_at a0 w hs qV.out).mono ?_); rintro e w' ⟨rfl, rfl⟩)
  go_wp2_with fail
  ((with_reducible refine (op_at a0 w qO.out).mono ?_); rintro e w' ⟨rfl, rfl⟩)
  go_wp2_with fail
  ((with_reducible refine (res_at a0 w qS.out).mono ?_); rintro e w' ⟨rfl, rfl⟩)
  go_wp2_with fail
  ((with_reducible refine (op_at _ w quO.out).mono ?_); rintro e w' ⟨rfl, rfl⟩)
  go_wp2_with fail
  ((with_reducible refine (res_at _ w quS.out).mono ?_); rintro e w' ⟨rfl, rfl⟩)
  go_wp2_with fail
  ((with_reducible refine (qe.out w (Below.refl _ _)).mono ?_); rintro e w' ⟨rfl, hb⟩)
  go_wp2_with fail
  go_ret
  exact ⟨rfl, hb⟩

set_option maxHeartbeats 1000000 in
set_option maxRecDepth 10000 in
theorem wayOshort (a0 : ByteArray) (w : World) (hs : a0.size ≤ 9223372036854775807) (hz : ¬ 9223372036854775807 < a0.size + 1) (h1' : decide ((5000 : Int) < ((a0.size : Nat) : Int)) = false)
    (qe : Hid (∀ w', Below w.heap.size w w' → Calls Tryd.prog 8 #[] w' fun e w2 => e = .returned (.bool true) ∧ Below w'.heap.size w' w2))
    (qR : Hid (rightB a0.data.toList = false)) (qV : Hid (varB a0.data.toList = false)) (qO : Hid (opB a0.data.toList = true)) (qS : Hid (resB a0.data.toList = false))
    (qsu : Hid ((a0 ++ ⟨#[95]⟩ : ByteArray).size ≤ 9223372036854775807)) (quO : Hid (opB (a0 ++ ⟨#[95]⟩ : ByteArray).data.toList = false)) (quS : Hid (resB (a0 ++ ⟨#[95]⟩ : ByteArray).data.toList = false)) (h2' : ((a0.size : Nat) : Int) < 40) :
    Calls Tryd.prog 4 #[.string a0] w fun e w' => e = .returned (.bool true) ∧ Below w.heap.size w w' := by
  go_enter Tryd.func4, Tryd.ntmps4
  go_wp2_with fail
  ((with_reducible refine (right_at a0 w hs qR.out).mono ?_); rintro e w' ⟨rfl, rfl⟩)
  go_wp2_with fail
  ((with_reducible refine (var_at a0 w hs qV.out).mono ?_); rintro e w' ⟨rfl, rfl⟩)
  go_wp2_with fail
  ((with_reducible refine (op_at a0 w qO.out).mono ?_); rintro e w' ⟨rfl, rfl⟩)
  go_wp2_with fail
  ((with_reducible refine (res_at a0 w qS.out).mono ?_); rintro e w' ⟨rfl, rfl⟩)
  go_wp2_with fail
  ((with_reducible refine (right_at a0 w hs qR.out).mono ?_); rintro e w' ⟨rfl, rfl⟩)
  go_wp2_with fail
  ((with_reducible refine (res_at a0 w qS.out).mono ?_); rintro e w' ⟨rfl, rfl⟩)
  go_wp2_with fail
  ((with_reducible refine (var_at a0 w hs qV.out).mono ?_); rintro e w' ⟨rfl, rfl⟩)
  go_wp2_with fail
  ((with_reducible refine (op_at _ w quO.out).mono ?_); rintro e w' ⟨rfl, rfl⟩)
  go_wp2_with fail
  ((with_reducible refine (res_at _ w quS.out).mono ?_); rintro e w' ⟨rfl, rfl⟩)
  go_wp2_with fail
  ((with_reducible refine (qe.out w (Below.refl _ _)).mono ?_); rintro e w' ⟨rfl, hb⟩)
  go_wp2_with fail
  go_ret
  exact ⟨rfl, hb⟩

set_option maxHeartbeats 1000000 in
set_option maxRecDepth 10000 in
theorem wayOlong (a0 : ByteArray) (w : World) (hs : a0.size ≤ 9223372036854775807) (hz : ¬ 9223372036854775807 < a0.size + 1) (h1' : decide ((5000 : Int) < ((a0.size : Nat) : Int)) = false)
    (qe : Hid (∀ w', Below w.heap.size w w' → Calls Tryd.prog 8 #[] w' fun e w2 => e = .returned (.bool true) ∧ Below w'.heap.size w' w2))
    (qR : Hid (rightB a0.data.toList = false)) (qV : Hid (varB a0.data.toList = false)) (qO : Hid (opB a0.data.toList = true)) (qS : Hid (resB a0.data.toList = false))
    (qsu : Hid ((a0 ++ ⟨#[95]⟩ : ByteArray).size ≤ 9223372036854775807)) (quO : Hid (opB (a0 ++ ⟨#[95]⟩ : ByteArray).data.toList = false)) (quS : Hid (resB (a0 ++ ⟨#[95]⟩ : ByteArray).data.toList = false)) (h2' : decide (((a0.size : Nat) : Int) < 40) = false) :
    Calls Tryd.prog 4 #[.string a0] w fun e w' => e = .returned (.bool true) ∧ Below w.heap.size w w' := by
  go_enter Tryd.func4, Tryd.ntmps4
  go_wp2_with fail
  ((with_reducible refine (right_at a0 w hs qR.out).mono ?_); rintro e w' ⟨rfl, rfl⟩)
  go_wp2_with fail
  ((with_reducible refine (var_at a0 w hs qV.out).mono ?_); rintro e w' ⟨rfl, rfl⟩)
  go_wp2_with fail
  ((with_reducible refine (op_at a0 w qO.out).mono ?_); rintro e w' ⟨rfl, rfl⟩)
  go_wp2_with fail
  ((with_reducible refine (res_at a0 w qS.out).mono ?_); rintro e w' ⟨rfl, rfl⟩)
  go_wp2_with fail
  ((with_reducible refine (op_at _ w quO.out).mono ?_); rintro e w' ⟨rfl, rfl⟩)
  go_wp2_with fail
  ((with_reducible refine (res_at _ w quS.out).mono ?_); rintro e w' ⟨rfl, rfl⟩)
  go_wp2_with fail
  ((with_reducible refine (qe.out w (Below.refl _ _)).mono ?_); rintro e w' ⟨rfl, hb⟩)
  go_wp2_with fail
  go_ret
  exact ⟨rfl, hb⟩

set_option maxHeartbeats 1000000 in
set_option maxRecDepth 10000 in
theorem wayVshort (a0 : ByteArray) (w : World) (hs : a0.size ≤ 9223372036854775807) (hz : ¬ 9223372036854775807 < a0.size + 1) (h1' : decide ((5000 : Int) < ((a0.size : Nat) : Int)) = false)
    (qe : Hid (∀ w', Below w.heap.size w w' → Calls Tryd.prog 8 #[] w' fun e w2 => e = .returned (.bool true) ∧ Below w'.heap.size w' w2))
    (qR : Hid (rightB a0.data.toList = false)) (qV : Hid (varB a0.data.toList = true)) (qO : Hid (opB a0.data.toList = false)) (qS : Hid (resB a0.data.toList = false))
    (qsu : Hid ((a0 ++ ⟨#[95]⟩ : ByteArray).size ≤ 9223372036854775807)) (quO : Hid (opB (a0 ++ ⟨#[95]⟩ : ByteArray).data.toList = false)) (quS : Hid (resB (a0 ++ ⟨#[95]⟩ : ByteArray).data.toList = false)) (qu : Hid (varB (a0 ++ ⟨#[95]⟩ : ByteArray).data.toList = true)) (h2' : ((a0.size : Nat) : Int) < 40) :
    Calls Tryd.prog 4 #[.string a0] w fun e w' => e = .returned (.bool true) ∧ Below w.heap.size w w' := by
  go_enter Tryd.func4, Tryd.ntmps4
  go_wp2_with fail
  ((with_reducible refine (right_at a0 w hs qR.out).mono ?_); rintro e w' ⟨rfl, rfl⟩)
  go_wp2_with fail
  ((with_reducible refine (var_at a0 w hs qV.out).mono ?_); rintro e w' ⟨rfl, rfl⟩)
  go_wp2_with fail
  ((with_reducible refine (op_at a0 w qO.out).mono ?_); rintro e w' ⟨rfl, rfl⟩)
  go_wp2_with fail
  ((with_reducible refine (res_at a0 w qS.out).mono ?_); rintro e w' ⟨rfl, rfl⟩)
  go_wp2_with fail
  ((with_reducible refine (right_at a0 w hs qR.out).mono ?_); rintro e w' ⟨rfl, rfl⟩)
  go_wp2_with fail
  ((with_reducible refine (res_at a0 w qS.out).mono ?_); rintro e w' ⟨rfl, rfl⟩)
  go_wp2_with fail
  ((with_reducible refine (var_at a0 w hs qV.out).mono ?_); rintro e w' ⟨rfl, rfl⟩)
  go_wp2_with fail
  ((with_reducible refine (var_at _ w qsu.out qu.out).mono ?_); rintro e w' ⟨rfl, rfl⟩)
  go_wp2_with fail
  ((with_reducible refine (op_at _ w quO.out).mono ?_); rintro e w' ⟨rfl, rfl⟩)
  go_wp2_with fail
  ((with_reducible refine (res_at _ w quS.out).mono ?_); rintro e w' ⟨rfl, rfl⟩)
  go_wp2_with fail
  ((with_reducible refine (qe.out w (Below.refl _ _)).mono ?_); rintro e w' ⟨rfl, hb⟩)
  go_wp2_with fail
  go_ret
  exact ⟨rfl, hb⟩

set_option maxHeartbeats 1000000 in
set_option maxRecDepth 10000 in
theorem wayVlong (a0 : ByteArray) (w : World) (hs : a0.size ≤ 9223372036854775807) (hz : ¬ 9223372036854775807 < a0.size + 1) (h1' : decide ((5000 : Int) < ((a0.size : Nat) : Int)) = false)
    (qe : Hid (∀ w', Below w.heap.size w w' → Calls Tryd.prog 8 #[] w' fun e w2 => e = .returned (.bool true) ∧ Below w'.heap.size w' w2))
    (qR : Hid (rightB a0.data.toList = false)) (qV : Hid (varB a0.data.toList = true)) (qO : Hid (opB a0.data.toList = false)) (qS : Hid (resB a0.data.toList = false))
    (qsu : Hid ((a0 ++ ⟨#[95]⟩ : ByteArray).size ≤ 9223372036854775807)) (quO : Hid (opB (a0 ++ ⟨#[95]⟩ : ByteArray).data.toList = false)) (quS : Hid (resB (a0 ++ ⟨#[95]⟩ : ByteArray).data.toList = false)) (h2' : decide (((a0.size : Nat) : Int) < 40) = false) :
    Calls Tryd.prog 4 #[.string a0] w fun e w' => e = .returned (.bool true) ∧ Below w.heap.size w w' := by
  go_enter Tryd.func4, Tryd.ntmps4
  go_wp2_with fail
  ((with_reducible refine (right_at a0 w hs qR.out).mono ?_); rintro e w' ⟨rfl, rfl⟩)
  go_wp2_with fail
  ((with_reducible refine (var_at a0 w hs qV.out).mono ?_); rintro e w' ⟨rfl, rfl⟩)
  go_wp2_with fail
  ((with_reducible refine (op_at a0 w qO.out).mono ?_); rintro e w' ⟨rfl, rfl⟩)
  go_wp2_with fail
  ((with_reducible refine (res_at a0 w qS.out).mono ?_); rintro e w' ⟨rfl, rfl⟩)
  go_wp2_with fail
  ((with_reducible refine (op_at _ w quO.out).mono ?_); rintro e w' ⟨rfl, rfl⟩)
  go_wp2_with fail
  ((with_reducible refine (res_at _ w quS.out).mono ?_); rintro e w' ⟨rfl, rfl⟩)
  go_wp2_with fail
  ((with_reducible refine (qe.out w (Below.refl _ _)).mono ?_); rintro e w' ⟨rfl, hb⟩)
  go_wp2_with fail
  go_ret
  exact ⟨rfl, hb⟩

set_option maxHeartbeats 1000000 in
set_option maxRecDepth 10000 in
theorem wayRshort (a0 : ByteArray) (w : World) (hs : a0.size ≤ 9223372036854775807) (hz : ¬ 9223372036854775807 < a0.size + 1) (h1' : decide ((5000 : Int) < ((a0.size : Nat) : Int)) = false)
    (qe : Hid (∀ w', Below w.heap.size w w' → Calls Tryd.prog 8 #[] w' fun e w2 => e = .returned (.bool true) ∧ Below w'.heap.size w' w2))
    (qR : Hid (rightB a0.data.toList = true)) (qV : Hid (varB a0.data.toList = false)) (qO : Hid (opB a0.data.toList = false)) (qS : Hid (resB a0.data.toList = false))
    (qsu : Hid ((a0 ++ ⟨#[95]⟩ : ByteArray).size ≤ 9223372036854775807)) (quO : Hid (opB (a0 ++ ⟨#[95]⟩ : ByteArray).data.toList = false)) (quS : Hid (resB (a0 ++ ⟨#[95]⟩ : ByteArray).data.toList = false)) (qu : Hid (rightB (a0 ++ ⟨#[95]⟩ : ByteArray).data.toList = true)) (h2' : ((a0.size : Nat) : Int) < 40) :
    Calls Tryd.prog 4 #[.string a0] w fun e w' => e = .returned (.bool true) ∧ Below w.heap.size w w' := by
  go_enter Tryd.func4, Tryd.ntmps4
  go_wp2_with fail
  ((with_reducible refine (right_at a0 w hs qR.out).mono ?_); rintro e w' ⟨rfl, rfl⟩)
  go_wp2_with fail
  ((with_reducible refine (var_at a0 w hs qV.out).mono ?_); rintro e w' ⟨rfl, rfl⟩)
  go_wp2_with fail
  ((with_reducible refine (op_at a0 w qO.out).mono ?_); rintro e w' ⟨rfl, rfl⟩)
  go_wp2_with fail
  ((with_reducible refine (res_at a0 w qS.out).mono ?_); rintro e w' ⟨rfl, rfl⟩)
  go_wp2_with fail
  ((with_reducible refine (right_at a0 w hs qR.out).mono ?_); rintro e w' ⟨rfl, rfl⟩)
  go_wp2_with fail
  ((with_reducible refine (right_at _ w qsu.out qu.out).mono ?_); rintro e w' ⟨rfl, rfl⟩)
  go_wp2_with fail
  ((with_reducible refine (var_at a0 w hs qV.out).mono ?_); rintro e w' ⟨rfl, rfl⟩)
  go_wp2_with fail
  ((with_reducible refine (op_at _ w quO.out).mono ?_); rintro e w' ⟨rfl, rfl⟩)
  go_wp2_with fail
  ((with_reducible refine (res_at _ w quS.out).mono ?_); rintro e w' ⟨rfl, rfl⟩)
  go_wp2_with fail
  ((with_reducible refine (qe.out w (Below.refl _ _)).mono ?_); rintro e w' ⟨rfl, hb⟩)
  go_wp2_with fail
  go_ret
  exact ⟨rfl, hb⟩

set_option maxHeartbeats 1000000 in
set_option maxRecDepth 10000 in
theorem wayRlong (a0 : ByteArray) (w : World) (hs : a0.size ≤ 9223372036854775807) (hz : ¬ 9223372036854775807 < a0.size + 1) (h1' : decide ((5000 : Int) < ((a0.size : Nat) : Int)) = false)
    (qe : Hid (∀ w', Below w.heap.size w w' → Calls Tryd.prog 8 #[] w' fun e w2 => e = .returned (.bool true) ∧ Below w'.heap.size w' w2))
    (qR : Hid (rightB a0.data.toList = true)) (qV : Hid (varB a0.data.toList = false)) (qO : Hid (opB a0.data.toList = false)) (qS : Hid (resB a0.data.toList = false))
    (qsu : Hid ((a0 ++ ⟨#[95]⟩ : ByteArray).size ≤ 9223372036854775807)) (quO : Hid (opB (a0 ++ ⟨#[95]⟩ : ByteArray).data.toList = false)) (quS : Hid (resB (a0 ++ ⟨#[95]⟩ : ByteArray).data.toList = false)) (h2' : decide (((a0.size : Nat) : Int) < 40) = false) :
    Calls Tryd.prog 4 #[.string a0] w fun e w' => e = .returned (.bool true) ∧ Below w.heap.size w w' := by
  go_enter Tryd.func4, Tryd.ntmps4
  go_wp2_with fail
  ((with_reducible refine (right_at a0 w hs qR.out).mono ?_); rintro e w' ⟨rfl, rfl⟩)
  go_wp2_with fail
  ((with_reducible refine (var_at a0 w hs qV.out).mono ?_); rintro e w' ⟨rfl, rfl⟩)
  go_wp2_with fail
  ((with_reducible refine (op_at a0 w qO.out).mono ?_); rintro e w' ⟨rfl, rfl⟩)
  go_wp2_with fail
  ((with_reducible refine (res_at a0 w qS.out).mono ?_); rintro e w' ⟨rfl, rfl⟩)
  go_wp2_with fail
  ((with_reducible refine (op_at _ w quO.out).mono ?_); rintro e w' ⟨rfl, rfl⟩)
  go_wp2_with fail
  ((with_reducible refine (res_at _ w quS.out).mono ?_); rintro e w' ⟨rfl, rfl⟩)
  go_wp2_with fail
  ((with_reducible refine (qe.out w (Below.refl _ _)).mono ?_); rintro e w' ⟨rfl, hb⟩)
  go_wp2_with fail
  go_ret
  exact ⟨rfl, hb⟩

theorem walk (a0 : ByteArray) (w : World) (w0 : a0.size ≤ maxLen) (hL : Laid w) :
    Calls Tryd.prog 4 #[.string a0] w fun e w' => e = .returned (.bool true) ∧ Below w.heap.size w w' := by
  have hs : a0.size ≤ 9223372036854775807 := by unfold maxLen at w0; exact w0
  clear w0
  have qe := Lib.hid (fun w' (hb : Below w.heap.size w w') => example_any w' (hL.below hb))
  by_cases h1 : 5000 < a0.size
  · have h1' : (5000 : Int) < ((a0.size : Nat) : Int) := by omega
    clear h1 hL
    go_enter Tryd.func4, Tryd.ntmps4
    go_wp2_with (go_at_call 8; refine (qe.out w (Below.refl _ _)).mono ?_; rintro e x1 ⟨rfl, hb⟩)
    go_ret
    exact ⟨rfl, hb⟩
  have h1' : decide ((5000 : Int) < ((a0.size : Nat) : Int)) = false := by simp; omega
  have hz : ¬ 9223372036854775807 < a0.size + 1 := by omega
  have qsu := Lib.hid (show (a0 ++ ⟨#[95]⟩ : ByteArray).size ≤ 9223372036854775807 by rw [← len_str, und_data, List.length_append, len_str]; simp; omega)
  have quO := Lib.hid (show opB (a0 ++ ⟨#[95]⟩ : ByteArray).data.toList = false by rw [und_data]; exact op_und _)
  have quS := Lib.hid (show resB (a0 ++ ⟨#[95]⟩ : ByteArray).data.toList = false by rw [und_data]; exact res_und _)
  cases hR : rightB a0.data.toList
  · cases hV : varB a0.data.toList
    · cases hO : opB a0.data.toList
      · cases hS : resB a0.data.toList
        · by_cases h2 : a0.size < 40
          · exact wayNshort a0 w hs hz h1' qe (Lib.hid hR) (Lib.hid hV) (Lib.hid hO) (Lib.hid hS) qsu quO quS (by omega)
          · exact wayNlong a0 w hs hz h1' qe (Lib.hid hR) (Lib.hid hV) (Lib.hid hO) (Lib.hid hS) qsu quO quS (by simp; omega)
        · by_cases h2 : a0.size < 40
          · exact waySshort a0 w hs hz h1' qe (Lib.hid hR) (Lib.hid hV) (Lib.hid hO) (Lib.hid hS) qsu quO quS (Lib.hid (by rw [und_data]; exact res_right_und hS)) (by omega)
          · exact waySlong a0 w hs hz h1' qe (Lib.hid hR) (Lib.hid hV) (Lib.hid hO) (Lib.hid hS) qsu quO quS (by simp; omega)
      · have hS := (op_word hO).2
        by_cases h2 : a0.size < 40
        · exact wayOshort a0 w hs hz h1' qe (Lib.hid hR) (Lib.hid hV) (Lib.hid hO) (Lib.hid hS) qsu quO quS (by omega)
        · exact wayOlong a0 w hs hz h1' qe (Lib.hid hR) (Lib.hid hV) (Lib.hid hO) (Lib.hid hS) qsu quO quS (by simp; omega)
    · have hO := var_op hV
      have hS := var_res hV
      by_cases h2 : a0.size < 40
      · exact wayVshort a0 w hs hz h1' qe (Lib.hid hR) (Lib.hid hV) (Lib.hid hO) (Lib.hid hS) qsu quO quS (Lib.hid (by rw [und_data]; exact var_und hV (by rw [len_str]; exact h2))) (by omega)
      · exact wayVlong a0 w hs hz h1' qe (Lib.hid hR) (Lib.hid hV) (Lib.hid hO) (Lib.hid hS) qsu quO quS (by simp; omega)
  · have hV := right_var hR
    have hO := right_op hR
    have hS := right_res hR
    by_cases h2 : a0.size < 40
    · exact wayRshort a0 w hs hz h1' qe (Lib.hid hR) (Lib.hid hV) (Lib.hid hO) (Lib.hid hS) qsu quO quS (Lib.hid (by rw [und_data]; exact right_und hR (by rw [len_str]; exact h2))) (by omega)
    · exact wayRlong a0 w hs hz h1' qe (Lib.hid hR) (Lib.hid hV) (Lib.hid hO) (Lib.hid hS) qsu quO quS (by simp; omega)

set_option maxRecDepth 100000 in
theorem lifted (os : Os) (started : os.Started) (H : Type) (enc : TypeId × Value → H) :
    ReturnsInHanded {} Tryd.checked os 4 .any (fun w args => (Rows.nameApartSpec.pre enc Tryd.prog Tryd.f4 [] false w args ∧ laidMetH Tryd.prog Rows.nameApartRow.laid w) ∧ sizedMet enc Tryd.prog Tryd.f4 (OpenSpec.ofChange Rows.nameApartSpec) false w args)
      (Rows.nameApartSpec.post enc Tryd.prog Tryd.f4 false true false false) := by
  refine returnsInHanded_of_change_and (C := Tryd.checked) (X := fun w _ => laidMetH Tryd.prog Rows.nameApartRow.laid w) (fun _ _ _ hh h => h.of_heap hh) own started (by kernel_rfl) Tryd.func4
    (ChangeSpec.witness_shaped (enc := enc) (C := Tryd.checked) (os := os) (X := fun w _ => laidMetH Tryd.prog Rows.nameApartRow.laid w) false (World.doorLaid Tryd.prog 400 os) #[.string ByteArray.empty] 8 rfl (World.shaped_of_RefB (by kernel_rfl) (by kernel_rfl)) (by kernel_rfl) (by kernel_rfl) (by kernel_rfl) (door_met os _)) ?_
  intro W base args ds gs before hval0 hW _ _ hL _
  have hval : ∀ (j : Nat) t v, Tryd.f4.params[j]? = some t → args[j]? = some v → Value.okWide Tryd.prog W .any base t v := hval0
  have hW' := hW
  obtain ⟨p, q, hA0, hV, rfl, hfz, hnd⟩ := hW
  have hA : DataW.TrodAll enc Tryd.prog W 0 (fun _ => true) true Tryd.f4.params.toList args.toList ds p := hA0
  rw [Tryd.params4] at hA hval
  obtain ⟨v0, d0, rfl, rfl, h0⟩ := trodAll_one hA
  obtain ⟨rfl, rfl⟩ := trodVars_none hV
  obtain ⟨a0, rfl, rfl, rfl, w0⟩ := open_string Tryd.underlying9 (hval 0 9 v0 rfl rfl) h0
  have hL' : Laid W := laid_of hL
  clear hA0 hval0
  refine (walk a0 W w0 hL').mono fun e W' ⟨he, bel⟩ => ?_
  subst he
  exact ⟨_, rfl, _, _, _, [], _, [], hW', trodAll_mk1 (shut_bool Tryd.underlying4 _), trodAll_mk1 (shut_string Tryd.underlying9 w0), rfl, bel.frame _, fun h => by cases h⟩

theorem said : Rows.NameApartSaid :=
  OpenClaim.holds_of_wide 4 Tryd.f4 rfl rfl rfl rfl rfl rfl rfl ⟨rfl, rfl, rfl, rfl, rfl⟩ rfl rfl rfl rfl rfl (by kernel_rfl) Tryd.func4 (by kernel_rfl)
    (of_decide_eq_true (by kernel_rfl)) (by unfold Func.isWrapper; first | (rw [if_pos (by decide +kernel)]; kernel_rfl) | (rw [if_neg (by decide +kernel)]; exact ⟨rfl, rfl⟩))
    (fun os started H enc _ => lifted os started H enc)

theorem plain (f : FuncId) (fn : Func) (hf : Tryd.pinned.checked.prog.funcNamed "constraint/constraintlaw02.NameApart" = some f) (hfn : Tryd.pinned.checked.prog.funcs[f]? = some fn) :
    true = Tryd.pinned.checked.prog.looks [] ∧ ∀ (j : Nat) t, fn.params[j]? = some t → Tryd.pinned.checked.prog.wantsStandIn t = false := by
  obtain rfl : f = 4 := Option.some.inj ((show Tryd.prog.funcNamed "constraint/constraintlaw02.NameApart" = some 4 by kernel_rfl).symm.trans hf) |>.symm
  obtain rfl : fn = Tryd.f4 := (Option.some.inj (Tryd.func4.symm.trans hfn)).symm
  refine ⟨by kernel_rfl, fun j t ht => ?_⟩
  rw [Tryd.params4] at ht
  obtain rfl : t = 9 := by simpa using Array.mem_of_getElem? ht
  exact (show Tryd.prog.wantsStandIn 9 = false by kernel_rfl)

/-- THE STATEMENT. -/
theorem card : Rows.NameApartCardSaid :=
  Claim7.holds_tied_plain_at .later [] _ _ _ _ said (fun _ h => by cases h) (by kernel_rfl) (fun _ h => by cases h) nameApart_row_tie rfl ⟨rfl, rfl⟩ (by kernel_rfl) rfl plain (by kernel_rfl)
#print axioms card
end Go.Proofs.YtlijifjbncicjaaDoor.nameApart
