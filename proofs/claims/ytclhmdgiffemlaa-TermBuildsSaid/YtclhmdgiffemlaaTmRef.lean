/-
  Contracts of Right and rightArgs of the reference.
-/
import Derived.Test.YtclhmdgiffemlaaTmForm
namespace Go.Proofs.Ytclhmdgiffemlaa
open Go.RowKit Go.Sort

set_option maxHeartbeats 1000000 in
theorem ref_right_tm_at (t : Tm) (w : World) (ht : t.At w) (hs : t.size ≤ 1000000) {r : Bool} (hr : t.right = r) :
    Calls Try.prog 12 #[t.val] w fun e w' => e = .returned (.bool r) ∧ Below w.heap.size w w' := by
  have hd := depth_size.1 t
  obtain ⟨b1, h1⟩ : ∃ b, t.form = b := ⟨_, rfl⟩
  have Q1 := Lib.hid (fun W (h : Below w.heap.size w W) => form_at t W (ht.below h))
  rw [h1] at Q1
  have Q2 := Lib.hid (fun W (h : Below w.heap.size w W) => ref_size_at t W (ht.below h) hs)
  have Q3 := Lib.hid (fun W (h : Below w.heap.size w W) => ref_depth_at t W (ht.below h) (by omega))
  have HV := Lib.hid (show (b1 && (decide (t.size ≤ 200) && decide (t.depth ≤ 20))) = r by rw [← hr, ← h1]; rfl)
  clear hr ht h1
  generalize t.size = m at *
  generalize t.depth = q at *
  have B0 := Lib.hid (show ∀ o, Below w.heap.size w (w.alloc o) from fun o => (Below.refl _ _).alloc (Nat.le_refl _) o)
  obtain ⟨k, n, s, A, c, a⟩ := t
  show Calls Try.prog 12 #[.agg #[.int .i64 k, .int .i64 n, .string s, .slice A a.length c]] w _
  cases b1
  · go_enter Try.func12, Try.ntmps12
    go_wp2_with fail
    refine (Q1.out _ (B0.out _)).mono ?_
    rintro e w1 ⟨rfl, hb⟩
    go_wp2_with fail
    go_ret
    exact ⟨by rw [← HV.out]; rfl, (B0.out _).trans (hb.mono (by simp))⟩
  · by_cases h2 : m ≤ 200
    · obtain ⟨b3, e3⟩ : ∃ b, decide ((q : Int) ≤ 20) = b := ⟨_, rfl⟩
      have h2' : (m : Int) ≤ 200 := by omega
      have HV' := Lib.hid (show b3 = r by rw [← HV.out, ← e3, Bool.eq_iff_iff]; simp [h2]; omega)
      clear HV h2
      cases b3
      all_goals
        go_enter Try.func12, Try.ntmps12
        go_wp2_with fail
        refine (Q1.out _ (B0.out _)).mono ?_
        rintro e w1 ⟨rfl, hb⟩
        obtain ⟨d0, d1, d2, d3, hb1⟩ := box4 hb
        go_wp2_with fail
        refine (Q2.out _ hb1).mono ?_
        rintro e w2 ⟨rfl, hb2⟩
        have k0 := (hb2.cell (World.block_lt_of_cell? _ _ d0)).trans d0
        have k1 := (hb2.cell (World.block_lt_of_cell? _ _ d1)).trans d1
        have k2 := (hb2.cell (World.block_lt_of_cell? _ _ d2)).trans d2
        have k3 := (hb2.cell (World.block_lt_of_cell? _ _ d3)).trans d3
        have hb3 := hb1.trans (hb2.mono hb1.size)
        go_wp2_with fail
        refine (Q3.out _ hb3).mono ?_
        rintro e w3 ⟨rfl, hb4⟩
        go_wp2_with fail
        go_ret
        exact ⟨by rw [← HV'.out]; rfl, hb3.trans (hb4.mono hb3.size)⟩
    · have h2' : decide ((m : Int) ≤ 200) = false := by simp; omega
      have HV' := Lib.hid (show false = r by rw [← HV.out]; simp [h2])
      clear HV h2
      go_enter Try.func12, Try.ntmps12
      go_wp2_with fail
      refine (Q1.out _ (B0.out _)).mono ?_
      rintro e w1 ⟨rfl, hb⟩
      obtain ⟨d0, d1, d2, d3, hb1⟩ := box4 hb
      go_wp2_with fail
      refine (Q2.out _ hb1).mono ?_
      rintro e w2 ⟨rfl, hb2⟩
      go_wp2_with fail
      go_ret
      exact ⟨by rw [← HV'.out]; rfl, hb1.trans (hb2.mono hb1.size)⟩

theorem rights_all (l : List Tm) : (l.all Tm.right && decide (sizeL l ≤ 200)) = rightL l := by
  have key : ∀ m : List Tm, sizeL m ≤ 200 → m.all Tm.right = (formL m && decide (depthL m ≤ 20)) := by
    intro m
    induction m with
    | nil => intro _; rfl
    | cons t r ih =>
      intro h
      simp only [sizeL] at h
      rw [List.all_cons, ih (by omega), Bool.eq_iff_iff]
      have e : depthL (t :: r) = max t.depth (depthL r) := by simp [depthL]
      simp only [Tm.right, formL, Bool.and_eq_true, decide_eq_true_eq]
      constructor
      · rintro ⟨⟨h1, h2, h3⟩, h4, h5⟩
        exact ⟨⟨h1, h4⟩, by omega⟩
      · rintro ⟨⟨h1, h4⟩, h5⟩
        exact ⟨⟨h1, by omega, by omega⟩, h4, by omega⟩
  unfold rightL
  by_cases h : sizeL l ≤ 200
  · rw [key l h]; simp [h]
  · simp [h]
theorem rights_next {l : List Tm} {k : Nat} (h : k < l.length) : (l.take (k + 1)).all Tm.right = ((l.take k).all Tm.right && (l.getD k default).right) := by
  rw [ttake_next h]; simp
theorem rights_false {l : List Tm} {k : Nat} (h : (l.take k).all Tm.right = false) : rightL l = false := by
  rw [← rights_all]
  have e : l.all Tm.right = ((l.take k).all Tm.right && (l.drop k).all Tm.right) := by rw [← List.all_append, List.take_append_drop]
  rw [e, h]; rfl

set_option maxHeartbeats 1000000 in
theorem right_args_at (l : List Tm) (A : Option Addr) (c : Nat) (w : World) (hl : Lst w A l c) (hs : sizeL l ≤ 1000000) {r : Bool} (hr : rightL l = r) :
    Calls Try.prog 73 #[.slice A l.length c] w fun e w' => e = .returned (.bool r) ∧ Below w.heap.size w w' := by
  have hlen : l.length ≤ 9223372036854775807 := by have := hl.1; have := hl.2.1; unfold maxLen at *; omega
  have HR := Lib.hid hr
  clear hr
  go_enter Try.func73, Try.ntmps73
  go_wp2_with fail
  go_loopw [3, 4] (fun z i wr => ∃ j : Nat, j ≤ l.length ∧ i = .int .i64 j ∧ z = .int .i64 ((sizeL (l.take j) : Nat) : Int) ∧ Hid ((l.take j).all Tm.right = true) ∧ Below w.heap.size w wr) (fun _ i _ => l.length - (intOf i).toNat)
  case atStart => exact ⟨0, Nat.zero_le _, rfl, rfl, Lib.hid rfl, Below.refl _ _⟩
  case round =>
    obtain ⟨j, hj, rfl, rfl, HF, hb⟩ := hrel
    by_cases hlt : j < l.length
    · obtain ⟨b, o, rfl, ⟨c0, c1, c2, c3⟩, hx⟩ := (hl.below hb).get hlt
      have hm := getD_mem hlt
      have hn := sizeL_next hlt
      have ht := sizeL_take l (j + 1)
      have ht' := sizeL_take l j
      have HN := Lib.hid (rights_next hlt)
      have HS := Lib.hid (fun h => rights_false (l := l) (k := j + 1) h)
      rw [HF.out, Bool.true_and] at HN
      rw [HN.out] at HS
      generalize l.getD j default = x at *
      have hxs : x.size ≤ 1000000 := by omega
      have hB : sizeL (l.take j) + x.size ≤ sizeL l := by omega
      obtain ⟨bx, hbx⟩ : ∃ b, x.right = b := ⟨_, rfl⟩
      have Q1 := Lib.hid (fun W (h : Below wr.heap.size wr W) => ref_right_tm_at x W (hx.below h) hxs hbx)
      have Q2 := Lib.hid (fun W (h : Below wr.heap.size wr W) => ref_size_at x W (hx.below h) hxs)
      rw [hbx] at HN HS
      have HZ := Lib.hid hn
      clear hbx hx hn
      obtain ⟨m, HM⟩ : ∃ m, Hid (x.size = m) := ⟨_, Lib.hid rfl⟩
      rw [HM.out] at Q2 hB HZ
      obtain ⟨k', n', s', A', c', a'⟩ := x
      simp only [Tm.kind, Tm.num, Tm.name, Tm.at_, Tm.args, Tm.cap] at c0 c1 c2 c3
      cases bx
      · go_wp2_with fail
        refine (Q1.out _ (Below.refl _ _)).mono ?_
        rintro e w2 ⟨rfl, hb3⟩
        go_wp2_with fail
        go_ret
        refine ⟨?_, hb.trans (hb3.mono hb.size)⟩
        rw [← HR.out, HS.out True.intro]
        rfl
      · go_wp2_with fail
        refine (Q1.out _ (Below.refl _ _)).mono ?_
        rintro e w2 ⟨rfl, hb3⟩
        have k0 := (hb3.cell (World.block_lt_of_cell? _ _ c0)).trans c0
        have k1 := (hb3.cell (World.block_lt_of_cell? _ _ c1)).trans c1
        have k2 := (hb3.cell (World.block_lt_of_cell? _ _ c2)).trans c2
        have k3 := (hb3.cell (World.block_lt_of_cell? _ _ c3)).trans c3
        go_wp2_with fail
        refine (Q2.out _ hb3).mono ?_
        rintro e w3 ⟨rfl, hb4⟩
        have hb5 := hb.trans (hb3.mono hb.size)
        go_wp2_with fail
        go_roundw
        case rel => exact ⟨j + 1, by omega, by go_num, by rw [HZ.out]; go_num, HN, hb5.trans (hb4.mono hb5.size)⟩
        case measure => simp [intOf]; omega
    · obtain rfl : j = l.length := by omega
      have HE := Lib.hid (show decide ((sizeL l : Int) ≤ 200) = r by
        have h1 := rights_all l
        have h2 := HF.out
        rw [List.take_length] at h2
        rw [h2, Bool.true_and, HR.out] at h1
        rw [← h1, Bool.eq_iff_iff]; simp; omega)
      have hz := sizeL_take l l.length
      go_wp2_with fail
      go_ret
      refine ⟨?_, hb⟩
      rw [← HE.out]
      simp only [List.take_length]
      rfl
end Go.Proofs.Ytclhmdgiffemlaa
