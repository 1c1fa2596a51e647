/-
  Contracts of arguments, Size and Depth of the program, and of the reference's own.
-/
import Derived.Test.YtgialbcohkpogaaProg
import Derived.Test.YtgialbcohkpogaaTmMem
import Derived.Outline
import Derived.WalkLawsBesides
namespace Go.Proofs.Ytgialbcohkpogaa
open Go.RowKit

theorem arguments_at (t : Tm) (w : World) :
    Calls Try.prog 59 #[t.val] w fun e w' => e = .returned (.slice t.uat t.used.length t.ucap) ∧ Below w.heap.size w w' := by
  obtain ⟨k, n, s, A, c, a⟩ := t
  show Calls Try.prog 59 #[.agg #[.int .i64 k, .int .i64 n, .string s, .slice A a.length c]] w _
  by_cases hk : k = 2
  · have HV := Lib.hid (show (Tm.mk k n s A c a).uat = A ∧ (Tm.mk k n s A c a).used = a ∧ (Tm.mk k n s A c a).ucap = c by simp [Tm.uat, Tm.used, Tm.ucap, Tm.kind, Tm.at_, Tm.args, Tm.cap, hk])
    have hk' : (k != 2) = false := by simp [hk]
    clear hk
    go_enter Try.func59, Try.ntmps59
    go_wp2
    go_ret
    obtain ⟨h1, h2, h3⟩ := HV.out
    exact ⟨by rw [h1, h2, h3]; rfl, (Below.refl _ _).alloc (Nat.le_refl _) _⟩
  · have HV := Lib.hid (show (Tm.mk k n s A c a).uat = none ∧ (Tm.mk k n s A c a).used = [] ∧ (Tm.mk k n s A c a).ucap = 0 by simp [Tm.uat, Tm.used, Tm.ucap, Tm.kind, hk])
    have hk' : (k != 2) = true := by simp [hk]
    clear hk
    go_enter Try.func59, Try.ntmps59
    go_wp2
    go_ret
    obtain ⟨h1, h2, h3⟩ := HV.out
    exact ⟨by rw [h1, h2, h3]; rfl, (Below.refl _ _).alloc (Nat.le_refl _) _⟩

end Go.Proofs.Ytgialbcohkpogaa
