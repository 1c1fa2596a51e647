/-
  Plain facts for the laws of matching: lists of bindings that differ in places only, sizes of what comes out.
-/
import Derived.Test.YtceekaodhmncgaaMl8x15
import Derived.Test.YtceekaodhmncgaaMl8x10
import Derived.Test.YtceekaodhmncgaaMl8x12
namespace Go.Proofs.Ytceekaodhmncgaa
open Go.RowKit

theorem strip_len {l m : List Bd} (h : stripB l = stripB m) : l.length = m.length := by rw [← stripB_len l, h, stripB_len]
theorem strip_sameE {l m : List Bd} (h : stripB l = stripB m) : sameE l m := sameB_sameE.1 (sameB_strip h)
theorem strip_asc {l m : List Bd} (h : stripB l = stripB m) (ha : Asc m) : Asc l := sameE_asc (strip_sameE h.symm) ha
theorem varsE_strip (l : List Bd) : varsE (stripB l) = varsE l := by simp [varsE, stripB, Bd.strip]
theorem strip_covers {l m : List Bd} (h : stripB l = stripB m) (ha : Asc m) {t : Tm} (hc : coversB m t = true) : coversB l t = true := by
  rw [covers_iff (strip_asc h ha)]
  rw [covers_iff ha] at hc
  intro v
  rw [← varsE_strip, h, varsE_strip]
  exact hc v
/-- Instances do not see places. -/
theorem inst_strip {l m : List Bd} (f : Int) (h : stripB l = stripB m) : (∀ t : Tm, (t.inst l f).strip = (t.inst m f).strip) ∧ (∀ ts, stripL (instL l f ts) = stripL (instL m f ts)) := by
  have hl : ∀ v, (look l v).map Tm.strip = (look m v).map Tm.strip := fun v => by rw [← look_strip, ← look_strip, h]
  refine Tm.induct2 (fun k n s A c a ih => ?_) rfl (fun t r h1 h2 => ?_)
  · simp only [Tm.inst]
    split
    · simp only [Tm.strip, ih]
    · split
      · have := hl n
        cases h1 : look l n with
        | none =>
          rw [h1] at this
          cases h2 : look m n with
          | none => rfl
          | some _ => rw [h2] at this; cases this
        | some x =>
          rw [h1] at this
          cases h2 : look m n with
          | none => rw [h2] at this; cases this
          | some y => rw [h2] at this; simpa using this
      · rfl
  · simp only [instL, stripL, h1, h2]
theorem inst_nodes {b : List Bd} {N : Nat} (f : Int) (hN : ∀ x ∈ b, x.tm.nodes ≤ N) : (∀ t : Tm, (t.inst b f).nodes ≤ t.nodes * (1 + N)) ∧ (∀ l, nodesL (instL b f l) ≤ nodesL l * (1 + N)) := by
  refine Tm.induct2 (fun k n s A c a ih => ?_) (by simp [instL, nodesL]) (fun t r h1 h2 => ?_)
  · have hp : ∀ m : Nat, m ≤ m * (1 + N) := fun m => Nat.le_mul_of_pos_right m (by omega)
    have h2 : 1 * (1 + N) ≤ (Tm.mk k n s A c a).nodes * (1 + N) := Nat.mul_le_mul_right _ (nodes_pos _)
    simp only [Tm.inst]
    split
    · simp only [Tm.nodes]
      rw [Nat.add_mul]
      omega
    · split
      · cases hl : look b n with
        | none =>
          simp only [Option.getD_none, Tm.nodes, nodesL]
          simp only [Tm.nodes] at h2
          omega
        | some t =>
          obtain ⟨x, hx, _, rfl⟩ := look_some hl
          have h1 := hN x hx
          simp only [Option.getD_some]
          omega
      · split
        · simp only [Tm.nodes, nodesL]
          simp only [Tm.nodes] at h2
          omega
        · exact hp _
  · simp only [instL, nodesL]
    rw [Nat.add_mul]
    omega
/-- What was matched holds parts of the term. -/
theorem mat_nodes : (∀ p : Tm, ∀ e t e', matT e p t = some e' → ∀ x ∈ e', x ∈ e ∨ x.tm.nodes ≤ t.nodes) ∧ (∀ ps : List Tm, ∀ e ts e', matL e ps ts = some e' → ∀ x ∈ e', x ∈ e ∨ x.tm.nodes ≤ nodesL ts) := by
  refine Tm.induct2 (fun k n s A c a ih e t e' h x hx => ?_) (fun e ts e' h x hx => ?_) (fun p ps h1 h2 e ts e' h x hx => ?_)
  · simp only [matT] at h
    by_cases h2 : k = 2
    · rw [if_pos h2] at h
      split at h
      · obtain ⟨k', n', s', A', c', a'⟩ := t
        rcases ih e _ e' h x hx with h3 | h3
        · exact .inl h3
        · exact .inr (by simp only [Tm.nodes]; simp only [Tm.args] at h3; omega)
      · cases h
    · rw [if_neg h2] at h
      by_cases h1 : k = 1
      · rw [if_pos h1] at h
        cases hl : look e n with
        | some u =>
          rw [hl] at h
          simp only at h
          split at h
          · injection h with h; subst h; exact .inl hx
          · cases h
        | none =>
          rw [hl] at h
          simp only at h
          injection h with h
          subst h
          rcases insE_mem.1 hx with rfl | hx
          · exact .inr (Nat.le_refl _)
          · exact .inl hx
      · rw [if_neg h1] at h
        split at h
        · injection h with h; subst h; exact .inl hx
        · cases h
  · cases ts with
    | nil => simp only [matL, Option.some.injEq] at h; subst h; exact .inl hx
    | cons _ _ => simp [matL] at h
  · cases ts with
    | nil => simp [matL] at h
    | cons t r =>
      simp only [matL] at h
      split at h
      · rename_i e1 he1
        simp only [nodesL]
        rcases h2 e1 r e' h x hx with h3 | h3
        · rcases h1 e t e1 he1 x h3 with h4 | h4
          · exact .inl h4
          · exact .inr (by omega)
        · exact .inr (by omega)
      · cases h
theorem strip_nodes {l m : List Bd} (h : stripB l = stripB m) {N : Nat} (hN : ∀ x ∈ m, x.tm.nodes ≤ N) : ∀ x ∈ l, x.tm.nodes ≤ N := by
  intro x hx
  have hm : x.strip ∈ stripB m := by rw [← h]; exact List.mem_map_of_mem hx
  obtain ⟨y, hy, e⟩ := List.mem_map.1 hm
  have : y.tm.strip = x.tm.strip := congrArg Bd.tm e
  rw [← nodes_same this]
  exact hN y hy
/-- A result like a term that is identical to another one. -/
theorem cmp_via {u t v : Tm} (h1 : u.strip = t.strip) (h2 : cmpT t v = 0) : (cmpT u v == 0) = true := by
  have h3 : cmpT u t = 0 := by simpa using same_strip h1
  rw [cmp_trans h3 h2]
  rfl
/-- The match of a term like the instance. -/
theorem mat_like {p t u : Tm} {env : List Bd} (h : matT [] p t = some env) (hs : u.strip = t.strip) : ∃ e, matT [] p u = some e ∧ sameE e env := by
  have h3 : cmpT t u = 0 := by simpa using same_strip hs.symm
  have := mat_same.1 p [] [] t u (sameE_refl []) h3
  rw [h] at this
  cases h4 : matT [] p u with
  | none => rw [h4] at this; exact this.elim
  | some e => rw [h4] at this; exact ⟨e, rfl, sameE_symm this⟩
theorem sameB_of {l m e : List Bd} (h1 : stripB l = stripB e) (h2 : sameE e m) : sameB l m = true := sameB_sameE.2 (sameE_trans (strip_sameE h1) h2)
/-- Matched again in an environment like the result. -/
theorem mat_twice {p t : Tm} {env e l : List Bd} (ha : Asc env) (h : matT env p t = some e) (hl : stripB l = stripB e) : ∃ e2, matT l p t = some e2 ∧ sameE e2 l := by
  have h2 := (keeps_law ha h).2.2
  have := mat_same.1 p e l t t (strip_sameE hl.symm) (cmp_self.1 t)
  rw [h2] at this
  cases h4 : matT l p t with
  | none => rw [h4] at this; exact this.elim
  | some e2 => rw [h4] at this; exact ⟨e2, rfl, sameE_trans (sameE_symm this) (strip_sameE hl.symm)⟩
theorem same_am {a b : Am} (h : a.name = b.name) (hl : stripL a.args = stripL b.args) : (cmpA a b == 0) = true := by
  have h1 : cmpL a.args b.args = 0 := by rw [← cmp_strip.2, hl, cmp_self.2]
  have h2 : a.args.length = b.args.length := by rw [← stripL_len, hl, stripL_len]
  unfold cmpA
  rw [h, h1, h2, texts_self, ints_self]
  rfl
theorem same_gl {a b : Gl} (ho : a.op = b.op) (h : a.name = b.name) (hl : stripL a.args = stripL b.args) : sameG a b = true := by
  have h1 : cmpL a.args b.args = 0 := by rw [← cmp_strip.2, hl, cmp_self.2]
  unfold sameG
  rw [ho, h, h1]
  simp
end Go.Proofs.Ytceekaodhmncgaa
