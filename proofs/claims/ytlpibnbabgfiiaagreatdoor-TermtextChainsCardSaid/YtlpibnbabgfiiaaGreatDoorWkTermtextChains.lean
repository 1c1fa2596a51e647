/-
  The walk of TermtextChains.
-/
import Derived.Test.YtlpibnbabgfiiaaGreatDoorTtWalkCh
import Derived.Test.YtlpibnbabgfiiaaGreatDoorTtChainP
import Derived.Test.YtlpibnbabgfiiaaGreatDoorTtNew
import Derived.Test.YtlpibnbabgfiiaaGreatDoorTtSame
import Derived.Test.YtlpibnbabgfiiaaGreatDoorTtExH
namespace Go.Proofs.YtlpibnbabgfiiaaGreatDoor.termtextChains
open Go.ChangeShapes Go.WideShapes Go.ChangeAt Go.RowKit Go.Sort
set_option linter.unusedVariables false

theorem sg_kind {n : Nat} (h4 : n ≤ 4) : ostr [sgB n] = if n < 2 then 0 else 1 := by
  have : n = 0 ∨ n = 1 ∨ n = 2 ∨ n = 3 ∨ n = 4 := by omega
  rcases this with rfl | rfl | rfl | rfl | rfl <;> decide
theorem want_strip {m1 m2 : Nat} (h1 : m1 ≤ 4) (h2 : m2 ≤ 4) (x y z : Tm) : (wantT m1 m2 x y z).strip = chainV (sgB m1) (sgB m2) x.strip y.strip z.strip := by
  unfold wantT chainV
  rw [sg_kind h1, sg_kind h2, Int.toNat_natCast, Int.toNat_natCast]
  by_cases c1 : m1 < 2 <;> by_cases c2 : m2 < 2
  · have e2 : ¬ (2 : Int) ≤ (m2 : Int) := by omega
    simp [c1, c2, e2, funS, binT, Tm.strip, stripL]
  · have e1 : (m1 : Int) < 2 := by omega
    have e2 : (2 : Int) ≤ (m2 : Int) := by omega
    simp [c1, c2, e1, e2, funS, binT, Tm.strip, stripL]
  · have e1 : ¬ (m1 : Int) < 2 := by omega
    simp [c1, c2, e1, funS, binT, Tm.strip, stripL]
  · have e1 : ¬ (m1 : Int) < 2 := by omega
    simp [c1, c2, e1, funS, binT, Tm.strip, stripL]
theorem want_size (o1 o2 : Int) (x y z : Tm) : (wantT o1 o2 x y z).size = 2 + x.size + y.size + z.size := by
  unfold wantT
  split <;> simp [funS, Tm.size, sizeL] <;> omega
theorem txt_small (t : Tm) : (S (termT t)).size ≤ 10200 := by
  rw [← len_str]
  show (termT t).length ≤ 10200
  unfold termT
  cases h : t.right
  · simp
  · simp only [if_true]
    exact txt_short slim_plain h
theorem big_list {x y z : Tm} (hx : x.right = true) (hy : y.right = true) (hz : z.right = true) (a b : UInt8) : (bigS (S (termT x)) (S (termT y)) (S (termT z)) ⟨#[a]⟩ ⟨#[b]⟩).data.toList = chainT a b (x.txt plain) (y.txt plain) (z.txt plain) := by
  simp [bigS, chainT, termT, hx, hy, hz]

set_option maxHeartbeats 4000000 in
theorem walk (a0 : Ch) (w : World) (w0 : a0.At w) (hL : Laid w) :
    Calls Tryz.prog 8 #[a0.val] w fun e w' => e = .returned (.bool true) ∧ Below w.heap.size w w' := by
  obtain ⟨o1, o2, x, y, z⟩ := a0
  obtain ⟨hf1, hf2, hx, hy, hz⟩ := w0
  simp only at hf1 hf2 hx hy hz
  obtain ⟨g, hg⟩ : ∃ g, decide (weigh [x, y, z] 150 64 < 0) = g := ⟨_, rfl⟩
  have hsm : g = false → x.size + y.size + z.size ≤ 150 := fun h => by
    subst h
    have hn := not_great hg
    have h1 := (size_nodes.1 x).1
    have h2 := (size_nodes.1 y).1
    have h3 := (size_nodes.1 z).1
    simp only [nodesL] at hn
    omega
  have hok : badC o1 o2 g x.right y.right z.right = false → (∃ m1 m2 : Nat, o1 = m1 ∧ o2 = m2 ∧ m1 ≤ 4 ∧ m2 ≤ 4) ∧ x.right = true ∧ y.right = true ∧ z.right = true ∧ g = false := fun h => by
    simp only [badC, Bool.or_eq_false_iff, decide_eq_false_iff_not, Bool.not_eq_false'] at h
    obtain ⟨⟨⟨⟨⟨⟨⟨h1, h2⟩, h3⟩, h4⟩, h5⟩, h6⟩, h7⟩, h8⟩ := h
    exact ⟨⟨o1.toNat, o2.toNat, by omega, by omega, by omega, by omega⟩, h6, h7, h8, h5⟩
  have tx := txt_small x
  have ty := txt_small y
  have tz := txt_small z
  refine walkC o1 o2 x y z w g x.right y.right z.right (wantT o1 o2 x y z).right (S (termT x)) (S (termT y)) (S (termT z))
    (fun W h => example_at W (hL.below h))
    (fun W b hb h => great_three x y z 150 W b hb (hx.below h) (hy.below h) (hz.below h) (by omega) (by omega) hg)
    (fun h0 W h => ref_right_tm_at x W (hx.below h) (by have := hsm h0; omega) rfl)
    (fun h0 W h => ref_right_tm_at y W (hy.below h) (by have := hsm h0; omega) rfl)
    (fun h0 W h => ref_right_tm_at z W (hz.below h) (by have := hsm h0; omega) rfl)
    (fun t u s W b hr hs => fun_two t u s W b hr hs)
    (fun W h => tt_text x W (hx.below h) (hL.below h))
    (fun W h => tt_text y W (hy.below h) (hL.below h))
    (fun W h => tt_text z W (hz.below h) (hL.below h))
    ?_ ?_ (fun t u W ht hu h => ref_same_at t u W ht hu (same_strip h)) hf1 hf2 (by omega) (by omega) (by omega) (fun W h => hx.below h) (fun W h => hy.below h) (fun W h => hz.below h)
  · intro hb W h
    obtain ⟨⟨m1, m2, rfl, rfl, h1, h2⟩, rx, ry, rz, hg0⟩ := hok hb
    have hs := hsm hg0
    rw [Int.toNat_natCast, Int.toNat_natCast]
    have hlist := big_list rx ry rz (sgB m1) (sgB m2)
    have form : ∀ t : Tm, t.right = true → t.form = true := fun t h => by simp only [Tm.right, Bool.and_eq_true] at h; exact h.1
    have l1 := (txt_len slim_plain).1 x (form x rx)
    have l2 := (txt_len slim_plain).1 y (form y ry)
    have l3 := (txt_len slim_plain).1 z (form z rz)
    have hlen : (chainT (sgB m1) (sgB m2) (x.txt plain) (y.txt plain) (z.txt plain)).length ≤ 16384 := by
      simp only [chainT, List.length_cons, List.length_append, List.length_nil]; omega
    have ho1 : ostr [sgB m1] < 2 := by rw [sg_kind h1]; split <;> omega
    have ho2 : ostr [sgB m2] < 2 := by rw [sg_kind h2]; split <;> omega
    refine (parse_new _ W (by rw [← len_str, hlist]; unfold maxLen; omega) (hL.below h)).mono ?_
    rintro e w' ⟨u, a1, a2, ho⟩
    rw [hlist, chain_text _ _ x y z rx ry rz ho1 ho2 hlen, ← want_strip h1 h2 x y z, right_strip] at ho
    rcases ho with ⟨t, b1, b2, b3⟩ | ⟨c, b0, b1, b2, b3⟩
    · refine ⟨u, 0, b3, a1, a2, ?_⟩
      by_cases hr : (wantT m1 m2 x y z).right = true
      · rw [if_pos hr] at b1
        injection b1 with b1 _
        exact .inl ⟨hr, rfl, by rw [b2, b1]⟩
      · rw [if_neg hr] at b1; cases b1
    · refine ⟨u, c, b3, a1, a2, ?_⟩
      by_cases hr : (wantT m1 m2 x y z).right = true
      · rw [if_pos hr] at b1; cases b1
      · rw [if_neg hr] at b1
        injection b1 with b1
        exact .inr ⟨by simpa using hr, b1.symm⟩
  · intro hb u W hu hs
    obtain ⟨⟨m1, m2, rfl, rfl, h1, h2⟩, rx, ry, rz, hg0⟩ := hok hb
    have s1 := hsm hg0
    have hsz : u.size = (wantT m1 m2 x y z).size := by rw [← size_strip.1 u, hs, size_strip.1]
    refine ref_right_tm_at u W hu (by rw [hsz, want_size]; omega) (by rw [← right_strip u, hs, right_strip])
end Go.Proofs.YtlpibnbabgfiiaaGreatDoor.termtextChains
