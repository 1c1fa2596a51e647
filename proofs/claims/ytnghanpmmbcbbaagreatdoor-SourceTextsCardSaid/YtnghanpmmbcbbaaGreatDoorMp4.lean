/-
  TmForm.
  TmRef.
  TmAtom.
-/
import Derived.Test.YtnghanpmmbcbbaaGreatDoorMp3
namespace Go.Proofs.YtnghanpmmbcbbaaGreatDoor
open Go.RowKit Go.Sort
def rightL (l : List Tm) : Bool := formL l && (decide (sizeL l ≤ 200) && decide (depthL l ≤ 20))
theorem together_at (l : List Tm) (A : Option Addr) (c : Nat) (w : World) (hl : Lst w A l c) {r : Bool} (hr : rightL l = r) :
    Calls Tryz.prog 153 #[.slice A l.length c] w fun e w' => e = .returned (.bool r) ∧ Below w.heap.size w w' := by
  have Q := Lib.hid (fitL_at l (fun x _ => fit_at x) A c 200 20 w hl (by omega) (by omega))
  have HR := Lib.hid (show (fitL l ((200 : Nat) : Int) ((20 : Nat) : Int)).2 = r from ((fit_form.2 l 200 20).1).trans hr)
  generalize fitL l ((200 : Nat) : Int) ((20 : Nat) : Int) = p at *
  clear hr
  obtain ⟨z, b⟩ := p
  go_enter Tryz.func153, Tryz.ntmps153
  go_wp2_with fail
  refine (Q.out).mono ?_
  rintro e w1 ⟨rfl, hb⟩
  go_wp2_with fail
  go_ret
  exact ⟨by rw [← HR.out]; rfl, hb⟩
set_option maxHeartbeats 1000000 in
theorem form_at (t : Tm) : ∀ w : World, t.At w → Calls Tryz.prog 184 #[t.val] w fun e w' => e = .returned (.bool t.form) ∧ Below w.heap.size w w' := by
  induction t using Tm.induct with
  | h k n s A c a ih0 =>
    intro w hat
    have hl : Lst w A a c := hat.lst
    have hsz : s.size ≤ 9223372036854775807 := by have := ((At_iff _ _).1 hat).1.2.2; unfold maxLen at this; exact this
    have hlen : a.length ≤ 9223372036854775807 := by have := hl.1; have := hl.2.1; unfold maxLen at *; omega
    clear hat
    show Calls Tryz.prog 184 #[.agg #[.int .i64 k, .int .i64 n, .string s, .slice A a.length c]] w _
    by_cases hk0 : k = 0
    · subst hk0
      obtain ⟨b1, e1⟩ : ∃ b, decide (-2147483648 ≤ n) = b := ⟨_, rfl⟩
      obtain ⟨b2, e2⟩ : ∃ b, decide (n ≤ 2147483648) = b := ⟨_, rfl⟩
      obtain ⟨b3, h3⟩ : ∃ b, decide (s.size = 0) = b := ⟨_, rfl⟩
      obtain ⟨b4, h4⟩ : ∃ b, decide (a.length = 0) = b := ⟨_, rfl⟩
      have HV := Lib.hid (show (Tm.mk 0 n s A c a).form = (b1 && (b2 && (b3 && b4))) by simp only [Tm.form, e1, e2, h3, h4]; simp)
      have e3 : s.toList.isEmpty = b3 := by rw [empty_iff, h3]
      have e4 : ((a.length : Int) == 0) = b4 := by rw [← h4, Bool.eq_iff_iff]; simp
      clear h3 h4 ih0 hl
      cases b1
      · clear e2 e3 e4
        go_enter Tryz.func184, Tryz.ntmps184
        go_wp2_with fail
        go_ret
        exact ⟨by rw [HV.out]; rfl, (Below.refl _ _).alloc (Nat.le_refl _) _⟩
      · cases b2
        · clear e3 e4
          go_enter Tryz.func184, Tryz.ntmps184
          go_wp2_with fail
          go_ret
          exact ⟨by rw [HV.out]; rfl, (Below.refl _ _).alloc (Nat.le_refl _) _⟩
        · cases b3
          · clear e4
            go_enter Tryz.func184, Tryz.ntmps184
            go_wp2_with fail
            go_ret
            exact ⟨by rw [HV.out]; rfl, (Below.refl _ _).alloc (Nat.le_refl _) _⟩
          · cases b4
            all_goals
              go_enter Tryz.func184, Tryz.ntmps184
              go_wp2_with fail
              go_ret
              exact ⟨by rw [HV.out]; rfl, (Below.refl _ _).alloc (Nat.le_refl _) _⟩
    have k0 : (k == 0) = false := by simp [hk0]
    by_cases hk1 : k = 1
    · subst hk1
      obtain ⟨b1, e1⟩ : ∃ b, decide (0 ≤ n) = b := ⟨_, rfl⟩
      obtain ⟨b2, e2⟩ : ∃ b, decide (n ≤ 1048576) = b := ⟨_, rfl⟩
      obtain ⟨b3, h3⟩ : ∃ b, decide (s.size = 0) = b := ⟨_, rfl⟩
      obtain ⟨b4, h4⟩ : ∃ b, decide (a.length = 0) = b := ⟨_, rfl⟩
      have HV := Lib.hid (show (Tm.mk 1 n s A c a).form = (b1 && (b2 && (b3 && b4))) by simp only [Tm.form, e1, e2, h3, h4]; simp)
      have e3 : s.toList.isEmpty = b3 := by rw [empty_iff, h3]
      have e4 : ((a.length : Int) == 0) = b4 := by rw [← h4, Bool.eq_iff_iff]; simp
      clear h3 h4 ih0 hl
      cases b1
      · clear e2 e3 e4
        go_enter Tryz.func184, Tryz.ntmps184
        go_wp2_with fail
        go_ret
        exact ⟨by rw [HV.out]; rfl, (Below.refl _ _).alloc (Nat.le_refl _) _⟩
      · cases b2
        · clear e3 e4
          go_enter Tryz.func184, Tryz.ntmps184
          go_wp2_with fail
          go_ret
          exact ⟨by rw [HV.out]; rfl, (Below.refl _ _).alloc (Nat.le_refl _) _⟩
        · cases b3
          · clear e4
            go_enter Tryz.func184, Tryz.ntmps184
            go_wp2_with fail
            go_ret
            exact ⟨by rw [HV.out]; rfl, (Below.refl _ _).alloc (Nat.le_refl _) _⟩
          · cases b4
            all_goals
              go_enter Tryz.func184, Tryz.ntmps184
              go_wp2_with fail
              go_ret
              exact ⟨by rw [HV.out]; rfl, (Below.refl _ _).alloc (Nat.le_refl _) _⟩
    have k1 : (k == 1) = false := by simp [hk1]
    by_cases hk2 : k = 2
    · subst hk2
      by_cases hn1 : n = 0
      · subst hn1
        have QI := Lib.hid ih0
        clear ih0
        obtain ⟨b1, h1⟩ : ∃ b, opB s.data.toList = b := ⟨_, rfl⟩
        obtain ⟨b2, h2⟩ : ∃ b, decide (a.length = 2) = b := ⟨_, rfl⟩
        obtain ⟨b3, h3⟩ : ∃ b, rightB s.data.toList = b := ⟨_, rfl⟩
        obtain ⟨b4, h4⟩ : ∃ b, decide (a.length ≤ 6) = b := ⟨_, rfl⟩
        have HX := Lib.hid (fun h => (op_right (l := s.data.toList) h).1)
        rw [h1, h3] at HX
        have q1 := Lib.hid (fun W => ref_op_at s W h1)
        have q2 := Lib.hid (fun W => ref_right_at s W hsz h3)
        have HV := Lib.hid (show (Tm.mk 2 0 s A c a).form = (((b1 && b2) || (b3 && b4)) && formL a) by simp only [Tm.form, h1, h2, h3, h4]; simp)
        have e2 : ((a.length : Int) == 2) = b2 := by rw [← h2, Bool.eq_iff_iff]; simp; omega
        have e4 : decide (6 < (a.length : Int)) = !b4 := by rw [← h4, Bool.eq_iff_iff]; simp; omega
        clear h1 h2 h3 h4
        cases b1
        · clear e2
          cases b3
          · clear e4
            go_enter Tryz.func184, Tryz.ntmps184
            go_wp2_with fail
            refine (q1.out _).mono ?_
            rintro e w' ⟨rfl, rfl⟩
            go_wp2_with fail
            refine (q2.out _).mono ?_
            rintro e w' ⟨rfl, rfl⟩
            go_wp2_with fail
            go_ret
            exact ⟨by rw [HV.out]; rfl, (Below.refl _ _).alloc (Nat.le_refl _) _⟩
          · cases b4
            · have e4' : decide (6 < (a.length : Int)) = true := e4
              clear e4
              go_enter Tryz.func184, Tryz.ntmps184
              go_wp2_with fail
              refine (q1.out _).mono ?_
              rintro e w' ⟨rfl, rfl⟩
              go_wp2_with fail
              refine (q2.out _).mono ?_
              rintro e w' ⟨rfl, rfl⟩
              go_wp2_with fail
              go_ret
              exact ⟨by rw [HV.out]; rfl, (Below.refl _ _).alloc (Nat.le_refl _) _⟩
            · have e4' : decide (6 < (a.length : Int)) = false := e4
              clear e4
              go_enter Tryz.func184, Tryz.ntmps184
              go_wp2_with fail
              refine (q1.out _).mono ?_
              rintro e w' ⟨rfl, rfl⟩
              go_wp2_with fail
              refine (q2.out _).mono ?_
              rintro e w' ⟨rfl, rfl⟩
              go_wp2_with fail
              go_loopw [4] (fun i wr => ∃ j : Nat, j ≤ a.length ∧ i = .int .i64 j ∧ Hid (formL (a.take j) = true) ∧ Below (w.alloc (.cells #[.int .i64 2, .int .i64 0, .string s, .slice A a.length c] 69)).heap.size (w.alloc (.cells #[.int .i64 2, .int .i64 0, .string s, .slice A a.length c] 69)) wr) (fun i _ => a.length - (intOf i).toNat)
              case atStart => exact ⟨0, Nat.zero_le _, rfl, Lib.hid rfl, Below.refl _ _⟩
              case round =>
                obtain ⟨j, hj, rfl, HF, hb⟩ := hrel
                obtain ⟨d0, d1, d2, d3, hb2⟩ := box4 hb
                have HB := Lib.hid hb
                clear hb
                by_cases hlt : j < a.length
                · obtain ⟨b, o, rfl, ⟨c0, c1, c2, c3⟩, hx⟩ := (hl.below hb2).get hlt
                  have hmem := getD_mem hlt
                  have HN := Lib.hid (formL_next hlt)
                  have HS := Lib.hid (fun h => formL_false (l := a) (k := j + 1) h)
                  rw [HF.out, Bool.true_and] at HN
                  rw [HN.out] at HS
                  generalize a.getD j default = x at *
                  have Q1 := Lib.hid (QI.out x hmem)
                  have HX := Lib.hid hx
                  clear hx QI hmem
                  obtain ⟨bx, hbx⟩ : ∃ b, x.form = b := ⟨_, rfl⟩
                  rw [hbx] at HN HS Q1
                  clear hbx
                  obtain ⟨k', n', s', A', c', a'⟩ := x
                  simp only [Tm.kind, Tm.num, Tm.name, Tm.at_, Tm.args, Tm.cap] at c0 c1 c2 c3
                  cases bx
                  · go_wp2_with fail
                    refine (Q1.out _ HX.out).mono ?_
                    rintro e w2 ⟨rfl, hb3⟩
                    go_wp2_with fail
                    go_ret
                    refine ⟨?_, hb2.trans (hb3.mono hb2.size)⟩
                    rw [HV.out, HS.out True.intro]
                    rfl
                  · go_wp2_with fail
                    refine (Q1.out _ HX.out).mono ?_
                    rintro e w2 ⟨rfl, hb3⟩
                    go_wp2_with fail
                    go_roundw
                    case rel => exact ⟨j + 1, by omega, by go_num, HN, HB.out.trans (hb3.mono HB.out.size)⟩
                    case measure => simp [intOf]; omega
                · obtain rfl : j = a.length := by omega
                  have HE := Lib.hid (show formL a = true by rw [← HF.out, List.take_length])
                  clear HF
                  go_wp2_with fail
                  go_ret
                  refine ⟨?_, hb2⟩
                  rw [HV.out, HE.out]
                  rfl
        · have h3f : b3 = false := by cases b2 <;> exact HX.out rfl
          subst h3f
          clear e4
          cases b2
          · go_enter Tryz.func184, Tryz.ntmps184
            go_wp2_with fail
            refine (q1.out _).mono ?_
            rintro e w' ⟨rfl, rfl⟩
            go_wp2_with fail
            refine (q2.out _).mono ?_
            rintro e w' ⟨rfl, rfl⟩
            go_wp2_with fail
            go_ret
            exact ⟨by rw [HV.out]; rfl, (Below.refl _ _).alloc (Nat.le_refl _) _⟩
          · go_enter Tryz.func184, Tryz.ntmps184
            go_wp2_with fail
            refine (q1.out _).mono ?_
            rintro e w' ⟨rfl, rfl⟩
            go_wp2_with fail
            go_loopw [4] (fun i wr => ∃ j : Nat, j ≤ a.length ∧ i = .int .i64 j ∧ Hid (formL (a.take j) = true) ∧ Below (w.alloc (.cells #[.int .i64 2, .int .i64 0, .string s, .slice A a.length c] 69)).heap.size (w.alloc (.cells #[.int .i64 2, .int .i64 0, .string s, .slice A a.length c] 69)) wr) (fun i _ => a.length - (intOf i).toNat)
            case atStart => exact ⟨0, Nat.zero_le _, rfl, Lib.hid rfl, Below.refl _ _⟩
            case round =>
              obtain ⟨j, hj, rfl, HF, hb⟩ := hrel
              obtain ⟨d0, d1, d2, d3, hb2⟩ := box4 hb
              have HB := Lib.hid hb
              clear hb
              by_cases hlt : j < a.length
              · obtain ⟨b, o, rfl, ⟨c0, c1, c2, c3⟩, hx⟩ := (hl.below hb2).get hlt
                have hmem := getD_mem hlt
                have HN := Lib.hid (formL_next hlt)
                have HS := Lib.hid (fun h => formL_false (l := a) (k := j + 1) h)
                rw [HF.out, Bool.true_and] at HN
                rw [HN.out] at HS
                generalize a.getD j default = x at *
                have Q1 := Lib.hid (QI.out x hmem)
                have HX := Lib.hid hx
                clear hx QI hmem
                obtain ⟨bx, hbx⟩ : ∃ b, x.form = b := ⟨_, rfl⟩
                rw [hbx] at HN HS Q1
                clear hbx
                obtain ⟨k', n', s', A', c', a'⟩ := x
                simp only [Tm.kind, Tm.num, Tm.name, Tm.at_, Tm.args, Tm.cap] at c0 c1 c2 c3
                cases bx
                · go_wp2_with fail
                  refine (Q1.out _ HX.out).mono ?_
                  rintro e w2 ⟨rfl, hb3⟩
                  go_wp2_with fail
                  go_ret
                  refine ⟨?_, hb2.trans (hb3.mono hb2.size)⟩
                  rw [HV.out, HS.out True.intro]
                  rfl
                · go_wp2_with fail
                  refine (Q1.out _ HX.out).mono ?_
                  rintro e w2 ⟨rfl, hb3⟩
                  go_wp2_with fail
                  go_roundw
                  case rel => exact ⟨j + 1, by omega, by go_num, HN, HB.out.trans (hb3.mono HB.out.size)⟩
                  case measure => simp [intOf]; omega
              · obtain rfl : j = a.length := by omega
                have HE := Lib.hid (show formL a = true by rw [← HF.out, List.take_length])
                clear HF
                go_wp2_with fail
                go_ret
                refine ⟨?_, hb2⟩
                rw [HV.out, HE.out]
                rfl
      · have HV := Lib.hid (show (Tm.mk 2 n s A c a).form = false by simp [Tm.form, hn1])
        have hn1' : (n != 0) = true := by simp [hn1]
        obtain ⟨b1, h1⟩ : ∃ b, opB s.data.toList = b := ⟨_, rfl⟩
        obtain ⟨b2, e2⟩ : ∃ b, ((a.length : Int) == 2) = b := ⟨_, rfl⟩
        have q1 := Lib.hid (fun W => ref_op_at s W h1)
        clear ih0 hl h1
        cases b1
        · clear e2
          go_enter Tryz.func184, Tryz.ntmps184
          go_wp2_with fail
          refine (q1.out _).mono ?_
          rintro e w' ⟨rfl, rfl⟩
          go_wp2_with fail
          go_ret
          exact ⟨by rw [HV.out]; rfl, (Below.refl _ _).alloc (Nat.le_refl _) _⟩
        · cases b2
          all_goals
            go_enter Tryz.func184, Tryz.ntmps184
            go_wp2_with fail
            refine (q1.out _).mono ?_
            rintro e w' ⟨rfl, rfl⟩
            go_wp2_with fail
            go_ret
            exact ⟨by rw [HV.out]; rfl, (Below.refl _ _).alloc (Nat.le_refl _) _⟩
    · have HV := Lib.hid (show (Tm.mk k n s A c a).form = false by simp [Tm.form, hk0, hk1, hk2])
      have k2 : (k == 2) = false := by simp [hk2]
      clear ih0 hl
      go_enter Tryz.func184, Tryz.ntmps184
      go_wp2_with fail
      go_ret
      exact ⟨by rw [HV.out]; rfl, (Below.refl _ _).alloc (Nat.le_refl _) _⟩
end Go.Proofs.YtnghanpmmbcbbaaGreatDoor
namespace Go.Proofs.YtnghanpmmbcbbaaGreatDoor
open Go.RowKit Go.Sort
set_option maxHeartbeats 1000000 in
theorem ref_right_tm_at (t : Tm) (w : World) (ht : t.At w) (hs : t.size ≤ 1000000) {r : Bool} (hr : t.right = r) :
    Calls Tryz.prog 154 #[t.val] w fun e w' => e = .returned (.bool r) ∧ Below w.heap.size w w' := by
  have hd := depth_size.1 t
  obtain ⟨b1, h1⟩ : ∃ b, t.form = b := ⟨_, rfl⟩
  have Q1 := Lib.hid (fun W (h : Below w.heap.size w W) => form_at t W (ht.below h))
  rw [h1] at Q1
  have Q2 := Lib.hid (fun W (h : Below w.heap.size w W) => ref_size_at t W (ht.below h) hs)
  have Q3 := Lib.hid (fun W (h : Below w.heap.size w W) => ref_depth_at t W (ht.below h) (by omega))
  have HV := Lib.hid (show (b1 && (decide (t.size ≤ 200) && decide (t.depth ≤ 20))) = r by rw [← hr, ← h1]; rfl)
  clear hr ht h1
  generalize t.size = m at *
  generalize t.depth = q at *
  have B0 := Lib.hid (show ∀ o, Below w.heap.size w (w.alloc o) from fun o => (Below.refl _ _).alloc (Nat.le_refl _) o)
  obtain ⟨k, n, s, A, c, a⟩ := t
  show Calls Tryz.prog 154 #[.agg #[.int .i64 k, .int .i64 n, .string s, .slice A a.length c]] w _
  cases b1
  · go_enter Tryz.func154, Tryz.ntmps154
    go_wp2_with fail
    refine (Q1.out _ (B0.out _)).mono ?_
    rintro e w1 ⟨rfl, hb⟩
    go_wp2_with fail
    go_ret
    exact ⟨by rw [← HV.out]; rfl, (B0.out _).trans (hb.mono (by simp))⟩
  · by_cases h2 : m ≤ 200
    · obtain ⟨b3, e3⟩ : ∃ b, decide ((q : Int) ≤ 20) = b := ⟨_, rfl⟩
      have h2' : (m : Int) ≤ 200 := by omega
      have HV' := Lib.hid (show b3 = r by rw [← HV.out, ← e3, Bool.eq_iff_iff]; simp [h2]; omega)
      clear HV h2
      cases b3
      all_goals
        go_enter Tryz.func154, Tryz.ntmps154
        go_wp2_with fail
        refine (Q1.out _ (B0.out _)).mono ?_
        rintro e w1 ⟨rfl, hb⟩
        obtain ⟨d0, d1, d2, d3, hb1⟩ := box4 hb
        go_wp2_with fail
        refine (Q2.out _ hb1).mono ?_
        rintro e w2 ⟨rfl, hb2⟩
        have k0 := (hb2.cell (World.block_lt_of_cell? _ _ d0)).trans d0
        have k1 := (hb2.cell (World.block_lt_of_cell? _ _ d1)).trans d1
        have k2 := (hb2.cell (World.block_lt_of_cell? _ _ d2)).trans d2
        have k3 := (hb2.cell (World.block_lt_of_cell? _ _ d3)).trans d3
        have hb3 := hb1.trans (hb2.mono hb1.size)
        go_wp2_with fail
        refine (Q3.out _ hb3).mono ?_
        rintro e w3 ⟨rfl, hb4⟩
        go_wp2_with fail
        go_ret
        exact ⟨by rw [← HV'.out]; rfl, hb3.trans (hb4.mono hb3.size)⟩
    · have h2' : decide ((m : Int) ≤ 200) = false := by simp; omega
      have HV' := Lib.hid (show false = r by rw [← HV.out]; simp [h2])
      clear HV h2
      go_enter Tryz.func154, Tryz.ntmps154
      go_wp2_with fail
      refine (Q1.out _ (B0.out _)).mono ?_
      rintro e w1 ⟨rfl, hb⟩
      obtain ⟨d0, d1, d2, d3, hb1⟩ := box4 hb
      go_wp2_with fail
      refine (Q2.out _ hb1).mono ?_
      rintro e w2 ⟨rfl, hb2⟩
      go_wp2_with fail
      go_ret
      exact ⟨by rw [← HV'.out]; rfl, hb1.trans (hb2.mono hb1.size)⟩
theorem rights_all (l : List Tm) : (l.all Tm.right && decide (sizeL l ≤ 200)) = rightL l := by
  have key : ∀ m : List Tm, sizeL m ≤ 200 → m.all Tm.right = (formL m && decide (depthL m ≤ 20)) := by
    intro m
    induction m with
    | nil => intro _; rfl
    | cons t r ih =>
      intro h
      simp only [sizeL] at h
      rw [List.all_cons, ih (by omega), Bool.eq_iff_iff]
      have e : depthL (t :: r) = max t.depth (depthL r) := by simp [depthL]
      simp only [Tm.right, formL, Bool.and_eq_true, decide_eq_true_eq]
      constructor
      · rintro ⟨⟨h1, h2, h3⟩, h4, h5⟩
        exact ⟨⟨h1, h4⟩, by omega⟩
      · rintro ⟨⟨h1, h4⟩, h5⟩
        exact ⟨⟨h1, by omega, by omega⟩, h4, by omega⟩
  unfold rightL
  by_cases h : sizeL l ≤ 200
  · rw [key l h]; simp [h]
  · simp [h]
theorem rights_next {l : List Tm} {k : Nat} (h : k < l.length) : (l.take (k + 1)).all Tm.right = ((l.take k).all Tm.right && (l.getD k default).right) := by
  rw [ttake_next h]; simp
theorem rights_false {l : List Tm} {k : Nat} (h : (l.take k).all Tm.right = false) : rightL l = false := by
  rw [← rights_all]
  have e : l.all Tm.right = ((l.take k).all Tm.right && (l.drop k).all Tm.right) := by rw [← List.all_append, List.take_append_drop]
  rw [e, h]; rfl
set_option maxHeartbeats 1000000 in
theorem right_args_at (l : List Tm) (A : Option Addr) (c : Nat) (w : World) (hl : Lst w A l c) (hs : sizeL l ≤ 1000000) {r : Bool} (hr : rightL l = r) :
    Calls Tryz.prog 117 #[.slice A l.length c] w fun e w' => e = .returned (.bool r) ∧ Below w.heap.size w w' := by
  have hlen : l.length ≤ 9223372036854775807 := by have := hl.1; have := hl.2.1; unfold maxLen at *; omega
  have HR := Lib.hid hr
  clear hr
  go_enter Tryz.func117, Tryz.ntmps117
  go_wp2_with fail
  go_loopw [3, 4] (fun z i wr => ∃ j : Nat, j ≤ l.length ∧ i = .int .i64 j ∧ z = .int .i64 ((sizeL (l.take j) : Nat) : Int) ∧ Hid ((l.take j).all Tm.right = true) ∧ Below w.heap.size w wr) (fun _ i _ => l.length - (intOf i).toNat)
  case atStart => exact ⟨0, Nat.zero_le _, rfl, rfl, Lib.hid rfl, Below.refl _ _⟩
  case round =>
    obtain ⟨j, hj, rfl, rfl, HF, hb⟩ := hrel
    by_cases hlt : j < l.length
    · obtain ⟨b, o, rfl, ⟨c0, c1, c2, c3⟩, hx⟩ := (hl.below hb).get hlt
      have hm := getD_mem hlt
      have hn := sizeL_next hlt
      have ht := sizeL_take l (j + 1)
      have ht' := sizeL_take l j
      have HN := Lib.hid (rights_next hlt)
      have HS := Lib.hid (fun h => rights_false (l := l) (k := j + 1) h)
      rw [HF.out, Bool.true_and] at HN
      rw [HN.out] at HS
      generalize l.getD j default = x at *
      have hxs : x.size ≤ 1000000 := by omega
      have hB : sizeL (l.take j) + x.size ≤ sizeL l := by omega
      obtain ⟨bx, hbx⟩ : ∃ b, x.right = b := ⟨_, rfl⟩
      have Q1 := Lib.hid (fun W (h : Below wr.heap.size wr W) => ref_right_tm_at x W (hx.below h) hxs hbx)
      have Q2 := Lib.hid (fun W (h : Below wr.heap.size wr W) => ref_size_at x W (hx.below h) hxs)
      rw [hbx] at HN HS
      have HZ := Lib.hid hn
      clear hbx hx hn
      obtain ⟨m, HM⟩ : ∃ m, Hid (x.size = m) := ⟨_, Lib.hid rfl⟩
      rw [HM.out] at Q2 hB HZ
      obtain ⟨k', n', s', A', c', a'⟩ := x
      simp only [Tm.kind, Tm.num, Tm.name, Tm.at_, Tm.args, Tm.cap] at c0 c1 c2 c3
      cases bx
      · go_wp2_with fail
        refine (Q1.out _ (Below.refl _ _)).mono ?_
        rintro e w2 ⟨rfl, hb3⟩
        go_wp2_with fail
        go_ret
        refine ⟨?_, hb.trans (hb3.mono hb.size)⟩
        rw [← HR.out, HS.out True.intro]
        rfl
      · go_wp2_with fail
        refine (Q1.out _ (Below.refl _ _)).mono ?_
        rintro e w2 ⟨rfl, hb3⟩
        have k0 := (hb3.cell (World.block_lt_of_cell? _ _ c0)).trans c0
        have k1 := (hb3.cell (World.block_lt_of_cell? _ _ c1)).trans c1
        have k2 := (hb3.cell (World.block_lt_of_cell? _ _ c2)).trans c2
        have k3 := (hb3.cell (World.block_lt_of_cell? _ _ c3)).trans c3
        go_wp2_with fail
        refine (Q2.out _ hb3).mono ?_
        rintro e w3 ⟨rfl, hb4⟩
        have hb5 := hb.trans (hb3.mono hb.size)
        go_wp2_with fail
        go_roundw
        case rel => exact ⟨j + 1, by omega, by go_num, by rw [HZ.out]; go_num, HN, hb5.trans (hb4.mono hb5.size)⟩
        case measure => simp [intOf]; omega
    · obtain rfl : j = l.length := by omega
      have HE := Lib.hid (show decide ((sizeL l : Int) ≤ 200) = r by
        have h1 := rights_all l
        have h2 := HF.out
        rw [List.take_length] at h2
        rw [h2, Bool.true_and, HR.out] at h1
        rw [← h1, Bool.eq_iff_iff]; simp; omega)
      have hz := sizeL_take l l.length
      go_wp2_with fail
      go_ret
      refine ⟨?_, hb⟩
      rw [← HE.out]
      simp only [List.take_length]
      rfl
end Go.Proofs.YtnghanpmmbcbbaaGreatDoor
namespace Go.Proofs.YtnghanpmmbcbbaaGreatDoor
open Go.RowKit Go.Sort
structure Am where
  name : ByteArray
  at_ : Option Addr
  cap : Nat
  args : List Tm
abbrev Am.val (a : Am) : Value := .agg #[.string a.name, .slice a.at_ a.args.length a.cap]
def Am.At (w : World) (a : Am) : Prop := a.name.size ≤ maxLen ∧ Lst w a.at_ a.args a.cap
structure Gl where
  op : Int
  name : ByteArray
  at_ : Option Addr
  cap : Nat
  args : List Tm
abbrev Gl.val (g : Gl) : Value := .agg #[.int .i64 g.op, .string g.name, .slice g.at_ g.args.length g.cap]
def Gl.At (w : World) (g : Gl) : Prop := Fits g.op ∧ g.name.size ≤ maxLen ∧ Lst w g.at_ g.args g.cap
theorem Am.At.below {w w' : World} {a : Am} (h : a.At w) (hb : Below w.heap.size w w') : a.At w' := ⟨h.1, h.2.below hb⟩
theorem Gl.At.below {w w' : World} {g : Gl} (h : g.At w) (hb : Below w.heap.size w w') : g.At w' := ⟨h.1, h.2.1, h.2.2.below hb⟩
instance : Inhabited Am := ⟨⟨ByteArray.empty, none, 0, []⟩⟩
instance : Inhabited Gl := ⟨⟨0, ByteArray.empty, none, 0, []⟩⟩
def atomB (s : List UInt8) (l : List Tm) : Bool := rightB s && (decide (l.length ≤ 6) && rightL l)
def arity (op : Int) : Int := if op = 1 ∨ op = 2 then 0 else if op = 11 ∨ op = 12 then 1 else if 2 < op ∧ op < 11 then 2 else -1
def builtinB (s : ByteArray) (l : List Tm) (n : Int) : Bool := decide (s.size = 0) && (decide ((l.length : Int) = n) && rightL l)
def goalB (op : Int) (s : ByteArray) (l : List Tm) : Bool := if op = 0 then atomB s.data.toList l else builtinB s l (arity op)
theorem Lst.len {w : World} {A : Option Addr} {l : List Tm} {c : Nat} (h : Lst w A l c) : l.length ≤ 9223372036854775807 := by have := h.1; have := h.2.1; unfold maxLen at *; omega
theorem right_atom_at (a : Am) (w : World) (ha : a.At w) {r : Bool} (hr : atomB a.name.data.toList a.args = r) :
    Calls Tryz.prog 114 #[a.val] w fun e w' => e = .returned (.bool r) ∧ Below w.heap.size w w' := by
  obtain ⟨s, A, c, l⟩ := a
  have hl : Lst w A l c := ha.2
  have hs : s.size ≤ 9223372036854775807 := by have h := ha.1; unfold maxLen at h; exact h
  have hlen := hl.len
  show Calls Tryz.prog 114 #[.agg #[.string s, .slice A l.length c]] w _
  obtain ⟨b1, h1⟩ : ∃ b, rightB s.data.toList = b := ⟨_, rfl⟩
  obtain ⟨b3, h3⟩ : ∃ b, rightL l = b := ⟨_, rfl⟩
  have q1 := Lib.hid (fun W => right_at s W hs h1)
  have q3 := Lib.hid (fun W (h : Below w.heap.size w W) => together_at l A c W (hl.below h) h3)
  have HV := Lib.hid (show (b1 && (decide (l.length ≤ 6) && b3)) = r by rw [← hr, ← h1, ← h3]; rfl)
  clear h1 h3 hr ha hl
  cases b1
  · go_enter Tryz.func114, Tryz.ntmps114
    go_wp2_with fail
    refine (q1.out _).mono ?_
    rintro e w' ⟨rfl, rfl⟩
    go_wp2_with fail
    go_ret
    exact ⟨by rw [← HV.out]; rfl, below1 _ _⟩
  · by_cases h6 : l.length ≤ 6
    · have h6' : (l.length : Int) ≤ 6 := by omega
      have HV' := Lib.hid (show b3 = r by rw [← HV.out]; simp [h6])
      clear HV h6
      go_enter Tryz.func114, Tryz.ntmps114
      go_wp2_with fail
      refine (q1.out _).mono ?_
      rintro e w' ⟨rfl, rfl⟩
      go_wp2_with fail
      refine (q3.out _ (below1 _ _)).mono ?_
      rintro e w' ⟨rfl, hb⟩
      go_wp2_with fail
      go_ret
      exact ⟨by rw [← HV'.out]; rfl, (below1 _ _).trans (hb.mono (by simp))⟩
    · have h6' : decide ((l.length : Int) ≤ 6) = false := by simp; omega
      have HV' := Lib.hid (show false = r by rw [← HV.out]; simp [h6])
      clear HV h6
      go_enter Tryz.func114, Tryz.ntmps114
      go_wp2_with fail
      refine (q1.out _).mono ?_
      rintro e w' ⟨rfl, rfl⟩
      go_wp2_with fail
      go_ret
      exact ⟨by rw [← HV'.out]; rfl, below1 _ _⟩
theorem ref_right_atom_at (a : Am) (w : World) (ha : a.At w) (hz : sizeL a.args ≤ 1000000) {r : Bool} (hr : atomB a.name.data.toList a.args = r) :
    Calls Tryz.prog 73 #[a.val] w fun e w' => e = .returned (.bool r) ∧ Below w.heap.size w w' := by
  obtain ⟨s, A, c, l⟩ := a
  simp only at hz
  have hl : Lst w A l c := ha.2
  have hs : s.size ≤ 9223372036854775807 := by have h := ha.1; unfold maxLen at h; exact h
  have hlen := hl.len
  show Calls Tryz.prog 73 #[.agg #[.string s, .slice A l.length c]] w _
  obtain ⟨b1, h1⟩ : ∃ b, rightB s.data.toList = b := ⟨_, rfl⟩
  obtain ⟨b3, h3⟩ : ∃ b, rightL l = b := ⟨_, rfl⟩
  have q1 := Lib.hid (fun W => ref_right_at s W hs h1)
  have q3 := Lib.hid (fun W (h : Below w.heap.size w W) => right_args_at l A c W (hl.below h) hz h3)
  have HV := Lib.hid (show (b1 && (decide (l.length ≤ 6) && b3)) = r by rw [← hr, ← h1, ← h3]; rfl)
  clear h1 h3 hr ha hl hz
  cases b1
  · go_enter Tryz.func73, Tryz.ntmps73
    go_wp2_with fail
    refine (q1.out _).mono ?_
    rintro e w' ⟨rfl, rfl⟩
    go_wp2_with fail
    go_ret
    exact ⟨by rw [← HV.out]; rfl, below1 _ _⟩
  · by_cases h6 : l.length ≤ 6
    · have h6' : (l.length : Int) ≤ 6 := by omega
      have HV' := Lib.hid (show b3 = r by rw [← HV.out]; simp [h6])
      clear HV h6
      go_enter Tryz.func73, Tryz.ntmps73
      go_wp2_with fail
      refine (q1.out _).mono ?_
      rintro e w' ⟨rfl, rfl⟩
      go_wp2_with fail
      refine (q3.out _ (below1 _ _)).mono ?_
      rintro e w' ⟨rfl, hb⟩
      go_wp2_with fail
      go_ret
      exact ⟨by rw [← HV'.out]; rfl, (below1 _ _).trans (hb.mono (by simp))⟩
    · have h6' : decide ((l.length : Int) ≤ 6) = false := by simp; omega
      have HV' := Lib.hid (show false = r by rw [← HV.out]; simp [h6])
      clear HV h6
      go_enter Tryz.func73, Tryz.ntmps73
      go_wp2_with fail
      refine (q1.out _).mono ?_
      rintro e w' ⟨rfl, rfl⟩
      go_wp2_with fail
      go_ret
      exact ⟨by rw [← HV'.out]; rfl, below1 _ _⟩
theorem builtin_at (g : Gl) (n : Int) (w : World) (ha : g.At w) {r : Bool} (hr : builtinB g.name g.args n = r) :
    Calls Tryz.prog 132 #[g.val, .int .i64 n] w fun e w' => e = .returned (.bool r) ∧ Below w.heap.size w w' := by
  obtain ⟨op, s, A, c, l⟩ := g
  have hl : Lst w A l c := ha.2.2
  have hlen := hl.len
  show Calls Tryz.prog 132 #[.agg #[.int .i64 op, .string s, .slice A l.length c], .int .i64 n] w _
  obtain ⟨b1, h1⟩ : ∃ b, decide (s.size = 0) = b := ⟨_, rfl⟩
  obtain ⟨b2, h2⟩ : ∃ b, decide ((l.length : Int) = n) = b := ⟨_, rfl⟩
  obtain ⟨b3, h3⟩ : ∃ b, rightL l = b := ⟨_, rfl⟩
  have q3 := Lib.hid (fun W (h : Below w.heap.size w W) => together_at l A c W (hl.below h) h3)
  have HV := Lib.hid (show (b1 && (b2 && b3)) = r by rw [← hr, ← h1, ← h2, ← h3]; rfl)
  have e1 : s.toList.isEmpty = b1 := by rw [empty_iff, h1]
  have e2 : ((l.length : Int) == n) = b2 := by rw [← h2, Bool.eq_iff_iff]; simp
  clear h1 h2 h3 hr ha hl
  cases b1
  · clear e2
    go_enter Tryz.func132, Tryz.ntmps132
    go_wp2_with fail
    go_ret
    exact ⟨by rw [← HV.out]; rfl, below1 _ _⟩
  · cases b2
    · go_enter Tryz.func132, Tryz.ntmps132
      go_wp2_with fail
      go_ret
      exact ⟨by rw [← HV.out]; rfl, below1 _ _⟩
    · go_enter Tryz.func132, Tryz.ntmps132
      go_wp2_with fail
      refine (q3.out _ (below1 _ _)).mono ?_
      rintro e w' ⟨rfl, hb⟩
      go_wp2_with fail
      go_ret
      exact ⟨by rw [← HV.out]; rfl, (below1 _ _).trans (hb.mono (by simp))⟩
set_option maxHeartbeats 1000000 in
theorem right_goal_at (g : Gl) (w : World) (ha : g.At w) {r : Bool} (hr : goalB g.op g.name g.args = r) :
    Calls Tryz.prog 90 #[g.val] w fun e w' => e = .returned (.bool r) ∧ Below w.heap.size w w' := by
  obtain ⟨op, s, A, c, l⟩ := g
  have hlen := Lst.len ha.2.2
  simp only at hr
  have q1 := Lib.hid (fun W (h : Below w.heap.size w W) {r : Bool} => right_atom_at ⟨s, A, c, l⟩ W ⟨ha.2.1, ha.2.2.below h⟩ (r := r))
  have q2 := Lib.hid (fun n W (h : Below w.heap.size w W) {r : Bool} => builtin_at ⟨op, s, A, c, l⟩ n W (ha.below h) (r := r))
  have HR := Lib.hid hr
  clear ha hr
  show Calls Tryz.prog 90 #[.agg #[.int .i64 op, .string s, .slice A l.length c]] w _
  by_cases h0 : op = 0
  · subst h0
    have HV := Lib.hid (show atomB s.data.toList l = r by rw [← HR.out]; rfl)
    go_enter Tryz.func90, Tryz.ntmps90
    go_wp2_with fail
    refine (q1.out _ (below1 _ _) HV.out).mono ?_
    rintro e w' ⟨rfl, hb⟩
    go_wp2_with fail
    go_ret
    exact ⟨rfl, (below1 _ _).trans (hb.mono (by simp))⟩
  have e0 : (op == 0) = false := by simp [h0]
  by_cases h1 : op = 1
  · subst h1
    have HV := Lib.hid (show builtinB s l 0 = r by rw [← HR.out]; simp [goalB, arity])
    go_enter Tryz.func90, Tryz.ntmps90
    go_wp2_with fail
    refine (q2.out _ _ (below1 _ _) HV.out).mono ?_
    rintro e w' ⟨rfl, hb⟩
    go_wp2_with fail
    go_ret
    exact ⟨rfl, (below1 _ _).trans (hb.mono (by simp))⟩
  have e1 : (op == 1) = false := by simp [h1]
  by_cases h2 : op = 2
  · subst h2
    have HV := Lib.hid (show builtinB s l 0 = r by rw [← HR.out]; simp [goalB, arity])
    go_enter Tryz.func90, Tryz.ntmps90
    go_wp2_with fail
    refine (q2.out _ _ (below1 _ _) HV.out).mono ?_
    rintro e w' ⟨rfl, hb⟩
    go_wp2_with fail
    go_ret
    exact ⟨rfl, (below1 _ _).trans (hb.mono (by simp))⟩
  have e2 : (op == 2) = false := by simp [h2]
  by_cases h11 : op = 11
  · subst h11
    have HV := Lib.hid (show builtinB s l 1 = r by rw [← HR.out]; simp [goalB, arity])
    go_enter Tryz.func90, Tryz.ntmps90
    go_wp2_with fail
    refine (q2.out _ _ (below1 _ _) HV.out).mono ?_
    rintro e w' ⟨rfl, hb⟩
    go_wp2_with fail
    go_ret
    exact ⟨rfl, (below1 _ _).trans (hb.mono (by simp))⟩
  have e11 : (op == 11) = false := by simp [h11]
  by_cases h12 : op = 12
  · subst h12
    have HV := Lib.hid (show builtinB s l 1 = r by rw [← HR.out]; simp [goalB, arity])
    go_enter Tryz.func90, Tryz.ntmps90
    go_wp2_with fail
    refine (q2.out _ _ (below1 _ _) HV.out).mono ?_
    rintro e w' ⟨rfl, hb⟩
    go_wp2_with fail
    go_ret
    exact ⟨rfl, (below1 _ _).trans (hb.mono (by simp))⟩
  have e12 : (op == 12) = false := by simp [h12]
  by_cases h3 : op = 3
  · subst h3
    have HV := Lib.hid (show builtinB s l 2 = r by rw [← HR.out]; simp [goalB, arity])
    go_enter Tryz.func90, Tryz.ntmps90
    go_wp2_with fail
    refine (q2.out _ _ (below1 _ _) HV.out).mono ?_
    rintro e w' ⟨rfl, hb⟩
    go_wp2_with fail
    go_ret
    exact ⟨rfl, (below1 _ _).trans (hb.mono (by simp))⟩
  have e3 : (op == 3) = false := by simp [h3]
  by_cases h4 : op = 4
  · subst h4
    have HV := Lib.hid (show builtinB s l 2 = r by rw [← HR.out]; simp [goalB, arity])
    go_enter Tryz.func90, Tryz.ntmps90
    go_wp2_with fail
    refine (q2.out _ _ (below1 _ _) HV.out).mono ?_
    rintro e w' ⟨rfl, hb⟩
    go_wp2_with fail
    go_ret
    exact ⟨rfl, (below1 _ _).trans (hb.mono (by simp))⟩
  have e4 : (op == 4) = false := by simp [h4]
  by_cases h5 : op = 5
  · subst h5
    have HV := Lib.hid (show builtinB s l 2 = r by rw [← HR.out]; simp [goalB, arity])
    go_enter Tryz.func90, Tryz.ntmps90
    go_wp2_with fail
    refine (q2.out _ _ (below1 _ _) HV.out).mono ?_
    rintro e w' ⟨rfl, hb⟩
    go_wp2_with fail
    go_ret
    exact ⟨rfl, (below1 _ _).trans (hb.mono (by simp))⟩
  have e5 : (op == 5) = false := by simp [h5]
  by_cases h6 : op = 6
  · subst h6
    have HV := Lib.hid (show builtinB s l 2 = r by rw [← HR.out]; simp [goalB, arity])
    go_enter Tryz.func90, Tryz.ntmps90
    go_wp2_with fail
    refine (q2.out _ _ (below1 _ _) HV.out).mono ?_
    rintro e w' ⟨rfl, hb⟩
    go_wp2_with fail
    go_ret
    exact ⟨rfl, (below1 _ _).trans (hb.mono (by simp))⟩
  have e6 : (op == 6) = false := by simp [h6]
  by_cases h7 : op = 7
  · subst h7
    have HV := Lib.hid (show builtinB s l 2 = r by rw [← HR.out]; simp [goalB, arity])
    go_enter Tryz.func90, Tryz.ntmps90
    go_wp2_with fail
    refine (q2.out _ _ (below1 _ _) HV.out).mono ?_
    rintro e w' ⟨rfl, hb⟩
    go_wp2_with fail
    go_ret
    exact ⟨rfl, (below1 _ _).trans (hb.mono (by simp))⟩
  have e7 : (op == 7) = false := by simp [h7]
  by_cases h8 : op = 8
  · subst h8
    have HV := Lib.hid (show builtinB s l 2 = r by rw [← HR.out]; simp [goalB, arity])
    go_enter Tryz.func90, Tryz.ntmps90
    go_wp2_with fail
    refine (q2.out _ _ (below1 _ _) HV.out).mono ?_
    rintro e w' ⟨rfl, hb⟩
    go_wp2_with fail
    go_ret
    exact ⟨rfl, (below1 _ _).trans (hb.mono (by simp))⟩
  have e8 : (op == 8) = false := by simp [h8]
  by_cases h9 : op = 9
  · subst h9
    have HV := Lib.hid (show builtinB s l 2 = r by rw [← HR.out]; simp [goalB, arity])
    go_enter Tryz.func90, Tryz.ntmps90
    go_wp2_with fail
    refine (q2.out _ _ (below1 _ _) HV.out).mono ?_
    rintro e w' ⟨rfl, hb⟩
    go_wp2_with fail
    go_ret
    exact ⟨rfl, (below1 _ _).trans (hb.mono (by simp))⟩
  have e9 : (op == 9) = false := by simp [h9]
  by_cases h10 : op = 10
  · subst h10
    have HV := Lib.hid (show builtinB s l 2 = r by rw [← HR.out]; simp [goalB, arity])
    go_enter Tryz.func90, Tryz.ntmps90
    go_wp2_with fail
    refine (q2.out _ _ (below1 _ _) HV.out).mono ?_
    rintro e w' ⟨rfl, hb⟩
    go_wp2_with fail
    go_ret
    exact ⟨rfl, (below1 _ _).trans (hb.mono (by simp))⟩
  have e10 : (op == 10) = false := by simp [h10]
  have HV := Lib.hid (show false = r by
    have : arity op = -1 := by unfold arity; rw [if_neg (by omega), if_neg (by omega), if_neg (by omega)]
    rw [← HR.out]
    simp only [goalB, h0, if_false, this, builtinB]
    have : decide ((l.length : Int) = -1) = false := by simp
    rw [this]
    simp)
  clear h0 h1 h2 h3 h4 h5 h6 h7 h8 h9 h10 h11 h12 q1 q2
  go_enter Tryz.func90, Tryz.ntmps90
  go_wp2_with fail
  go_ret
  exact ⟨by rw [← HV.out]; rfl, below1 _ _⟩
theorem arity_at (op : Int) (w : World) : Calls Tryz.prog 119 #[.int .i64 op] w fun e w' => e = .returned (.int .i64 (arity op)) ∧ w = w' := by
  by_cases h1 : op = 1
  · subst h1
    have HV := Lib.hid (show arity 1 = 0 by simp [arity])
    go_enter Tryz.func119, Tryz.ntmps119
    go_wp2_with fail
    go_ret
    exact ⟨by rw [HV.out]; rfl, rfl⟩
  have e1 : (op == 1) = false := by simp [h1]
  by_cases h2 : op = 2
  · subst h2
    have HV := Lib.hid (show arity 2 = 0 by simp [arity])
    go_enter Tryz.func119, Tryz.ntmps119
    go_wp2_with fail
    go_ret
    exact ⟨by rw [HV.out]; rfl, rfl⟩
  have e2 : (op == 2) = false := by simp [h2]
  by_cases h3 : op = 11
  · subst h3
    have HV := Lib.hid (show arity 11 = 1 by simp [arity])
    go_enter Tryz.func119, Tryz.ntmps119
    go_wp2_with fail
    go_ret
    exact ⟨by rw [HV.out]; rfl, rfl⟩
  have e3 : (op == 11) = false := by simp [h3]
  by_cases h4 : op = 12
  · subst h4
    have HV := Lib.hid (show arity 12 = 1 by simp [arity])
    go_enter Tryz.func119, Tryz.ntmps119
    go_wp2_with fail
    go_ret
    exact ⟨by rw [HV.out]; rfl, rfl⟩
  have e4 : (op == 12) = false := by simp [h4]
  by_cases h5 : 2 < op
  · by_cases h6 : op < 11
    · have HV := Lib.hid (show arity op = 2 by unfold arity; rw [if_neg (by omega), if_neg (by omega), if_pos ⟨h5, h6⟩])
      clear h1 h2 h3 h4
      go_enter Tryz.func119, Tryz.ntmps119
      go_wp2_with fail
      go_ret
      exact ⟨by rw [HV.out]; rfl, rfl⟩
    · have HV := Lib.hid (show arity op = -1 by unfold arity; rw [if_neg (by omega), if_neg (by omega), if_neg (by omega)])
      have e6 : decide (op < 11) = false := by simpa using h6
      clear h1 h2 h3 h4 h6
      go_enter Tryz.func119, Tryz.ntmps119
      go_wp2_with fail
      go_ret
      exact ⟨by rw [HV.out]; rfl, rfl⟩
  · have HV := Lib.hid (show arity op = -1 by unfold arity; rw [if_neg (by omega), if_neg (by omega), if_neg (by omega)])
    have e5 : decide (2 < op) = false := by simpa using h5
    clear h1 h2 h3 h4 h5
    go_enter Tryz.func119, Tryz.ntmps119
    go_wp2_with fail
    go_ret
    exact ⟨by rw [HV.out]; rfl, rfl⟩
set_option maxHeartbeats 1000000 in
theorem ref_right_goal_at (g : Gl) (w : World) (ha : g.At w) (hz : sizeL g.args ≤ 1000000) {r : Bool} (hr : goalB g.op g.name g.args = r) :
    Calls Tryz.prog 75 #[g.val] w fun e w' => e = .returned (.bool r) ∧ Below w.heap.size w w' := by
  obtain ⟨op, s, A, c, l⟩ := g
  have hl : Lst w A l c := ha.2.2
  have hlen := hl.len
  simp only at hr hz
  show Calls Tryz.prog 75 #[.agg #[.int .i64 op, .string s, .slice A l.length c]] w _
  by_cases h0 : op = 0
  · subst h0
    have q1 := Lib.hid (fun W (h : Below w.heap.size w W) => ref_right_atom_at ⟨s, A, c, l⟩ W ⟨ha.2.1, hl.below h⟩ hz (r := r) hr)
    clear ha hl hr
    go_enter Tryz.func75, Tryz.ntmps75
    go_wp2_with fail
    refine (q1.out _ (below1 _ _)).mono ?_
    rintro e w' ⟨rfl, hb⟩
    go_wp2_with fail
    go_ret
    exact ⟨rfl, (below1 _ _).trans (hb.mono (by simp))⟩
  have e0 : (op == 0) = false := by simp [h0]
  obtain ⟨b1, h1⟩ : ∃ b, decide (s.size = 0) = b := ⟨_, rfl⟩
  obtain ⟨n, hn⟩ : ∃ n, arity op = n := ⟨_, rfl⟩
  obtain ⟨b2, h2⟩ : ∃ b, decide ((l.length : Int) = n) = b := ⟨_, rfl⟩
  obtain ⟨b3, h3⟩ : ∃ b, rightL l = b := ⟨_, rfl⟩
  have q3 := Lib.hid (fun W (h : Below w.heap.size w W) => right_args_at l A c W (hl.below h) hz h3)
  have q4 := Lib.hid (fun W => arity_at op W)
  rw [hn] at q4
  have HV := Lib.hid (show (b1 && (b2 && b3)) = r by rw [← hr, ← h1, ← h2, ← h3, ← hn]; simp only [goalB, h0, if_false]; rfl)
  have e1 : s.toList.isEmpty = b1 := by rw [empty_iff, h1]
  have e2 : (n == (l.length : Int)) = b2 := by rw [← h2, Bool.eq_iff_iff]; simp; omega
  have kb0 := boxedN w #[.int .i64 op, .string s, .slice A l.length c] 59 0 _ rfl
  have kb1 := boxedN w #[.int .i64 op, .string s, .slice A l.length c] 59 1 _ rfl
  have kb2 := boxedN w #[.int .i64 op, .string s, .slice A l.length c] 59 2 _ rfl
  clear h1 h2 h3 hr ha hl hn h0
  cases b1
  · clear e2
    go_enter Tryz.func75, Tryz.ntmps75
    go_wp2_with fail
    refine wp_region_quiet_below (by kernel_rfl) (by kernel_rfl) ?_
    repeat (go_big_quiet_step (first | (go_at_call 119; exact Calls.regrown_of (withBelow (q4.out _))) | (go_at_call 117; exact Calls.regrown_of (q3.out _ ((below1 _ _).trans ((below_regrown _ _ _).mono (by simp)))))))
    refine wpQuiet_nil ?_
    intro w1 hw'
    have hb1 := (below1 _ _).trans ((regrown_below hw').mono (by simp))
    go_wp2_with fail
    go_ret
    exact ⟨by rw [← HV.out]; rfl, hb1⟩
  · cases b2
    · go_enter Tryz.func75, Tryz.ntmps75
      go_wp2_with fail
      refine wp_region_quiet_below (by kernel_rfl) (by kernel_rfl) ?_
      repeat (go_big_quiet_step (first | (go_at_call 119; exact Calls.regrown_of (withBelow (q4.out _))) | (go_at_call 117; exact Calls.regrown_of (q3.out _ ((below1 _ _).trans ((below_regrown _ _ _).mono (by simp)))))))
      refine wpQuiet_nil ?_
      intro w1 hw'
      have hb1 := (below1 _ _).trans ((regrown_below hw').mono (by simp))
      go_wp2_with fail
      go_ret
      exact ⟨by rw [← HV.out]; rfl, hb1⟩
    · go_enter Tryz.func75, Tryz.ntmps75
      go_wp2_with fail
      refine wp_region_quiet_below (by kernel_rfl) (by kernel_rfl) ?_
      repeat (go_big_quiet_step (first | (go_at_call 119; exact Calls.regrown_of (withBelow (q4.out _))) | (go_at_call 117; exact Calls.regrown_of (q3.out _ ((below1 _ _).trans ((below_regrown _ _ _).mono (by simp)))))))
      refine wpQuiet_nil ?_
      intro w1 hw'
      have hb1 := (below1 _ _).trans ((regrown_below hw').mono (by simp))
      go_wp2_with fail
      go_ret
      exact ⟨by rw [← HV.out]; rfl, hb1⟩
end Go.Proofs.YtnghanpmmbcbbaaGreatDoor
