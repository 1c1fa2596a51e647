/-
  How many nodes terms have; what a bound on the weight of a list of bindings says.
-/
import Derived.Test.YtgialbcohkpogaaGreatSuGreat
import Derived.Test.YtgialbcohkpogaaGreatSuOrder
import Derived.Test.YtgialbcohkpogaaGreatSuMath
namespace Go.Proofs.YtgialbcohkpogaaGreat
open Go

theorem nodes_strip : (∀ t : Tm, t.strip.nodes = t.nodes) ∧ (∀ l, nodesL (stripL l) = nodesL l) :=
  Tm.induct2 (fun k n s A c a ih => by simp only [Tm.strip, Tm.nodes, ih]) rfl (fun t r h1 h2 => by simp only [stripL, nodesL, h1, h2])
theorem nodes_same {t u : Tm} (h : t.strip = u.strip) : t.nodes = u.nodes := by rw [← nodes_strip.1, h, nodes_strip.1]
theorem form_nodes : (∀ t : Tm, t.form = true → t.nodes = t.size) ∧ (∀ l, formL l = true → nodesL l = sizeL l) := by
  refine Tm.induct2 (fun k n s A c a ih h => ?_) (fun _ => rfl) (fun t r h1 h2 h => ?_)
  · simp only [Tm.form] at h
    simp only [Tm.nodes, Tm.size]
    by_cases k0 : k = 0
    · subst k0
      simp only [if_true, Bool.and_eq_true, decide_eq_true_eq] at h
      obtain rfl : a = [] := List.length_eq_zero_iff.1 h.2.2.2
      simp [nodesL]
    · by_cases k1 : k = 1
      · subst k1
        simp only [if_true, show ¬ ((1 : Int) = 0) by omega, if_false, Bool.and_eq_true, decide_eq_true_eq] at h
        obtain rfl : a = [] := List.length_eq_zero_iff.1 h.2.2.2
        simp [nodesL]
      · by_cases k2 : k = 2
        · subst k2
          simp only [show ¬ ((2 : Int) = 0) by omega, show ¬ ((2 : Int) = 1) by omega, if_true, if_false, Bool.and_eq_true] at h
          rw [if_pos rfl, ih h.2.2]
        · simp [k0, k1, k2] at h
  · simp only [formL, Bool.and_eq_true] at h
    simp only [nodesL, sizeL, h1 h.1, h2 h.2]
theorem right_nodes {t : Tm} (h : t.right = true) : t.nodes ≤ 200 := by
  unfold Tm.right at h
  simp only [Bool.and_eq_true, decide_eq_true_eq] at h
  rw [form_nodes.1 t h.1]
  exact h.2.1
theorem nodes_pos (t : Tm) : 1 ≤ t.nodes := by cases t; simp [Tm.nodes]
theorem nodes_app {b : List Bd} {N : Nat} (hN : ∀ x ∈ b, x.tm.nodes ≤ N) : (∀ t : Tm, (t.app b).nodes ≤ t.nodes * (1 + N)) ∧ (∀ l, nodesL (appL b l) ≤ nodesL l * (1 + N)) := by
  refine Tm.induct2 (fun k n s A c a ih => ?_) (by simp [appL, nodesL]) (fun t r h1 h2 => ?_)
  · simp only [Tm.app]
    have hp : ∀ m : Nat, m ≤ m * (1 + N) := fun m => Nat.le_mul_of_pos_right m (by omega)
    split
    · cases hl : look b n with
      | none => exact hp _
      | some t =>
        obtain ⟨x, hx, _, rfl⟩ := look_some hl
        have h1 := hN x hx
        have h2 : 1 * (1 + N) ≤ (Tm.mk k n s A c a).nodes * (1 + N) := Nat.mul_le_mul_right _ (nodes_pos _)
        simp only [Option.getD_some]
        omega
    · split
      · simp only [Tm.nodes]
        rw [Nat.add_mul]
        omega
      · exact hp _
  · simp only [appL, nodesL]
    rw [Nat.add_mul]
    omega
theorem nodes_mem_b {b : List Bd} {most : Int} (h : (nodesL (b.map Bd.tm) : Int) ≤ most) : ∀ x ∈ b, (x.tm.nodes : Int) ≤ most := fun x hx => by
  have := nodes_mem (t := x.tm) (l := b.map Bd.tm) (List.mem_map_of_mem hx)
  omega
theorem len_nodes_b {b : List Bd} {most : Int} (h : (nodesL (b.map Bd.tm) : Int) ≤ most) : (b.length : Int) ≤ most := by
  have := length_le_nodes (b.map Bd.tm)
  simp at this
  omega
theorem right_good {b : List Bd} (h : rightS b = true) (hl : b.length ≤ 1000000) : Good b :=
  ⟨hl, ((rightS_iff b).1 h).1.2.srt, fun x hx => Nat.le_trans (right_nodes (((rightS_iff b).1 h).1.1 x hx).2.2) (by omega)⟩
theorem comp_err {a c : List Bd} (h : (comp a c).2 ≠ 0) : (comp a c).1 = [] := by
  unfold comp at *
  split
  · rfl
  · split
    · rfl
    · split
      · rfl
      · rename_i h1 h2 h3
        rw [if_neg h1, if_neg h2, if_neg h3] at h
        exact absurd rfl h
theorem comp_code (a c : List Bd) : (comp a c).2 = 0 ∨ (comp a c).2 = 2 ∨ (comp a c).2 = 6 := by
  unfold comp
  split
  · simp
  · split
    · simp
    · split <;> simp
theorem comp_length {a c o : List Bd} (h : comp a c = (o, 0)) : o.length ≤ a.length + c.length := by
  obtain ⟨_, _, rfl, _⟩ := comp_ok h
  rw [(sortB_perm _).length_eq]
  unfold compL
  rw [List.length_append]
  have h1 : (compA a c).length ≤ a.length := List.length_filterMap_le _ _
  have h2 : (compC a c).length ≤ c.length := List.length_filter_le _ _
  omega
/-- What the statement on one after the other asks. -/
theorem then_same {a c o l : List Bd} {t x y z : Tm} (h : comp a c = (o, 0)) (hl : stripB l = stripB o) (hx : x.strip = (t.app l).strip) (hy : y.strip = (t.app a).strip) (hz : z.strip = (y.app c).strip) : (cmpT x z == 0) = true := by
  have h1 := comp_then h t
  rw [← cmp_strip.1] at h1 ⊢
  rw [hx, hz, app_like hl rfl, app_like (b := c) (b' := c) rfl hy, h1]
  rfl
end Go.Proofs.YtgialbcohkpogaaGreat
