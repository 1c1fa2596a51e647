/-
  Terms with the same fields (without addresses and capacities): measures, validity and comparison are the same. No program.
-/
import Derived.Test.YtgialbcohkpogaaGreatTmPlain
namespace Go.Proofs.YtgialbcohkpogaaGreat
open Go

/-! ### The same fields -/
mutual
def Tm.strip : Tm → Tm
  | .mk k n s _ _ a => .mk k n s none 0 (stripL a)
def stripL : List Tm → List Tm
  | [] => []
  | t :: r => t.strip :: stripL r
end
theorem stripL_map (l : List Tm) : stripL l = l.map Tm.strip := by
  induction l with
  | nil => rfl
  | cons t r ih => simp [stripL, ih]
theorem stripL_len (l : List Tm) : (stripL l).length = l.length := by rw [stripL_map, List.length_map]
theorem stripL_append (l m : List Tm) : stripL (l ++ m) = stripL l ++ stripL m := by simp [stripL_map]
theorem strip_parts {t u : Tm} (h : t.strip = u.strip) : t.kind = u.kind ∧ t.num = u.num ∧ t.name = u.name ∧ t.args.length = u.args.length ∧ stripL t.args = stripL u.args := by
  obtain ⟨k, n, s, A, c, a⟩ := t
  obtain ⟨k', n', s', A', c', a'⟩ := u
  simp only [Tm.strip, Tm.mk.injEq, true_and] at h
  obtain ⟨h1, h2, h3, h4⟩ := h
  have h5 := congrArg List.length h4
  simp only [stripL_map, List.length_map] at h5
  exact ⟨h1, h2, h3, h5, h4⟩
theorem strip_strip : (∀ t : Tm, t.strip.strip = t.strip) ∧ (∀ l, stripL (stripL l) = stripL l) := by
  refine Tm.induct2 (fun k n s A c a ih => ?_) rfl (fun t r h1 h2 => ?_)
  · simp only [Tm.strip, ih]
  · simp only [stripL, h1, h2]
theorem form_strip : (∀ t : Tm, t.strip.form = t.form) ∧ (∀ l, formL (stripL l) = formL l) := by
  refine Tm.induct2 (fun k n s A c a ih => ?_) rfl (fun t r h1 h2 => ?_)
  · simp only [Tm.strip, Tm.form, ih, stripL_len]
  · simp only [stripL, formL, h1, h2]
theorem size_strip : (∀ t : Tm, t.strip.size = t.size) ∧ (∀ l, sizeL (stripL l) = sizeL l) := by
  refine Tm.induct2 (fun k n s A c a ih => ?_) rfl (fun t r h1 h2 => ?_)
  · simp only [Tm.strip, Tm.size, ih]
  · simp only [stripL, sizeL, h1, h2]
theorem depth_strip : (∀ t : Tm, t.strip.depth = t.depth) ∧ (∀ l, depthL (stripL l) = depthL l) := by
  refine Tm.induct2 (fun k n s A c a ih => ?_) rfl (fun t r h1 h2 => ?_)
  · simp only [Tm.strip, Tm.depth, ih]
  · simp only [stripL, depthL, h1, h2]
theorem right_strip (t : Tm) : t.strip.right = t.right := by
  unfold Tm.right
  rw [form_strip.1, size_strip.1, depth_strip.1]
theorem right_same {t u : Tm} (h : t.strip = u.strip) : t.right = u.right := by rw [← right_strip t, h, right_strip]

theorem cmp_strip : (∀ t u : Tm, cmpT t.strip u.strip = cmpT t u) ∧ (∀ l m, cmpL (stripL l) (stripL m) = cmpL l m) := by
  suffices H : (∀ t : Tm, ∀ u : Tm, cmpT t.strip u.strip = cmpT t u) ∧ (∀ l, ∀ m, cmpL (stripL l) (stripL m) = cmpL l m) from ⟨H.1, H.2⟩
  refine Tm.induct2 (fun k n s A c a ih u => ?_) (fun m => ?_) (fun t r h1 h2 m => ?_)
  · obtain ⟨k', n', s', A', c', a'⟩ := u
    simp only [Tm.strip, cmpT, Tm.kind, Tm.num, Tm.name, Tm.args, ih, stripL_len]
  · cases m <;> simp [stripL, cmpL]
  · cases m with
    | nil => simp [stripL, cmpL]
    | cons u q => simp only [stripL, cmpL, h1, h2]
theorem same_strip {t u : Tm} (h : t.strip = u.strip) : (cmpT t u == 0) = true := by
  rw [← cmp_strip.1, h, cmp_self.1]; rfl
end Go.Proofs.YtgialbcohkpogaaGreat
