/-
  The chapter's examples, plainly.
-/
import Derived.Test.YtlpibnbabgfiiaaGreatDoorTtGoal
namespace Go.Proofs.YtlpibnbabgfiiaaGreatDoor
open Go

theorem txt_strip (σ : Sty) : (∀ t : Tm, t.strip.txt σ = t.txt σ) ∧ (∀ l, txtL σ (stripL l) = txtL σ l) := by
  refine Tm.induct2 (fun k n s A c a ih => ?_) rfl (fun t r h1 h2 => by simp only [stripL, txtL, h1, h2])
  have hp : ∀ i, ((stripL a).getD i default).pw = (a.getD i default).pw := fun i => by
    rw [stripL_map, List.getD_eq_getElem?_getD, List.getD_eq_getElem?_getD, List.getElem?_map]
    cases a[i]? with
    | none => rfl
    | some t => obtain ⟨k, n, s, A, c, a⟩ := t; rfl
  simp only [Tm.strip, Tm.txt, ih, hp]
theorem termT_strip (t : Tm) : termT t.strip = termT t := by
  unfold termT Tm.right
  rw [form_strip.1, size_strip.1, depth_strip.1, (txt_strip plain).1]
theorem atomT_strip (s : ByteArray) (l : List Tm) : atomT s (stripL l) = atomT s l := by
  unfold atomT atomB rightL
  rw [form_strip.2, size_strip.2, depth_strip.2, (txt_strip plain).2, stripL_len]

theorem exA : parseP [102, 40, 86, 49, 44, 50, 41, 42, 51] = .ok (binT 42 (funT [102] [varT 1, intT 2]) (intT 3)) [] := by kernel_rfl
theorem exB : parseP [102, 40, 88, 41] = .err 7 := by kernel_rfl
theorem exC : parseA [108, 101, 113, 40, 32, 86, 48, 32, 44, 32, 97, 32, 41] = .ok ([108, 101, 113], [varT 0, funT [97] []]) [] := by kernel_rfl
theorem exD : parseP [49, 32, 50] = .err 16 := by kernel_rfl
theorem exE : termT (binT 45 (intT 7) (binT 45 (intT 2) (intT 1))) = [55, 32, 45, 32, 40, 50, 32, 45, 32, 49, 41] := by kernel_rfl
theorem exF : termT (binT 42 (funT [102] [varT 1, intT 2]) (intT 3)) = [102, 40, 86, 49, 44, 32, 50, 41, 32, 42, 32, 51] := by kernel_rfl
theorem exG : atomT ⟨#[108, 101, 113]⟩ [varT 0, funT [97] []] = [108, 101, 113, 40, 86, 48, 44, 32, 97, 41] := by kernel_rfl
theorem exH (A : Option Addr) (c : Nat) : goalT 11 ⟨#[]⟩ [.mk 1 0 ⟨#[]⟩ A c []] = [105, 110, 116, 40, 86, 48, 41] := by kernel_rfl
end Go.Proofs.YtlpibnbabgfiiaaGreatDoor
