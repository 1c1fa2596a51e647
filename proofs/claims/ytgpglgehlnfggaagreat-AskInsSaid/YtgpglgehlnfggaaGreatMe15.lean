/-
  AkExpr.
  AkLaw.
  AkTestP.
-/
import Derived.Test.YtgpglgehlnfggaaGreatMe10
import Derived.Test.YtgpglgehlnfggaaGreatMe14
import Derived.Test.YtgpglgehlnfggaaGreatMe6
import Derived.Test.YtgpglgehlnfggaaGreatMe4
import Derived.Test.YtgpglgehlnfggaaGreatMe3
namespace Go.Proofs.YtgpglgehlnfggaaGreat
open Go.RowKit
mutual
def Tm.expr : Tm → Bool
  | .mk k _ s _ _ a => decide (k = 0) || (decide (k = 2) && (decide (a.length = 2) && opB s.data.toList) && opndL a)
def opndL : List Tm → Bool
  | [] => true
  | t :: r => (decide (t.kind = 1) || t.expr) && opndL r
end
def Tm.opnd (t : Tm) : Bool := decide (t.kind = 1) || t.expr
theorem expr_two {n : Int} {s : ByteArray} {A : Option Addr} {c : Nat} {x y : Tm} (h : opB s.data.toList = true) : (Tm.mk 2 n s A c [x, y]).expr = (x.opnd && y.opnd) := by
  simp [Tm.expr, opndL, h, Tm.opnd]
theorem expr_not {k n : Int} {s : ByteArray} {A : Option Addr} {c : Nat} {a : List Tm} (h0 : k ≠ 0) (ho : (Tm.mk k n s A c a).opt = false) : (Tm.mk k n s A c a).expr = false := by
  rw [opt_mk] at ho
  simp only [Tm.expr, h0, decide_false, Bool.false_or]
  rw [ho]; rfl
set_option maxHeartbeats 2000000 in
theorem opnd_of (t : Tm) (w : World) (h : ∀ W, Below w.heap.size w W → Calls Tryz.prog 91 #[t.val] W fun e w' => e = .returned (.bool t.expr) ∧ Below W.heap.size W w') :
    Calls Tryz.prog 136 #[t.val] w fun e w' => e = .returned (.bool t.opnd) ∧ Below w.heap.size w w' := by
  have B0 := Lib.hid (show ∀ o, Below w.heap.size w (w.alloc o) from fun o => (Below.refl _ _).alloc (Nat.le_refl _) o)
  have Q := Lib.hid h
  have HV := Lib.hid (show t.opnd = (decide (t.kind = 1) || t.expr) from rfl)
  clear h
  generalize t.opnd = v at *
  generalize t.expr = u at *
  obtain ⟨k, n, s, A, c, a⟩ := t
  simp only [Tm.kind] at HV
  show Calls Tryz.prog 136 #[.agg #[.int .i64 k, .int .i64 n, .string s, .slice A a.length c]] w _
  by_cases hk : k = 1
  · subst hk
    go_enter Tryz.func136, Tryz.ntmps136
    go_wp2_with fail
    go_ret
    exact ⟨by rw [HV.out]; rfl, B0.out _⟩
  · have h1 : (k == 1) = false := by simpa using hk
    have HU := Lib.hid (show v = u by rw [HV.out]; simp [hk])
    clear hk HV
    go_enter Tryz.func136, Tryz.ntmps136
    go_wp2_with fail
    refine (Q.out _ (B0.out _)).mono ?_
    rintro e w1 ⟨rfl, hb⟩
    go_wp2_with fail
    go_ret
    exact ⟨by rw [HU.out]; rfl, (B0.out _).trans (hb.mono (by simp))⟩
set_option maxHeartbeats 2000000 in
theorem expr_at (t : Tm) : ∀ w : World, t.At w → Calls Tryz.prog 91 #[t.val] w fun e w' => e = .returned (.bool t.expr) ∧ Below w.heap.size w w' := by
  induction t using Tm.induct with
  | h k n s A c a ih =>
    intro w hat
    have B0 := Lib.hid (show ∀ o, Below w.heap.size w (w.alloc o) from fun o => (Below.refl _ _).alloc (Nat.le_refl _) o)
    show Calls Tryz.prog 91 #[.agg #[.int .i64 k, .int .i64 n, .string s, .slice A a.length c]] w _
    by_cases hk0 : k = 0
    · subst hk0
      have HV := Lib.hid (show (Tm.mk 0 n s A c a).expr = true by simp [Tm.expr])
      clear hat ih
      go_enter Tryz.func91, Tryz.ntmps91
      go_wp2_with fail
      go_ret
      exact ⟨by rw [HV.out]; rfl, B0.out _⟩
    have n0 : (k == 0) = false := by simpa using hk0
    obtain ⟨p, hp⟩ : ∃ p, (Tm.mk k n s A c a).opt = p := ⟨_, rfl⟩
    have Q1 := Lib.hid (fun W => is_opt_at (Tm.mk k n s A c a) W hp)
    cases p
    · have HV := Lib.hid (expr_not hk0 hp)
      clear hat ih hk0 hp
      go_enter Tryz.func91, Tryz.ntmps91
      go_wp2_with fail
      refine (Q1.out _).mono ?_
      rintro e w1 ⟨rfl, hb⟩
      go_wp2_with fail
      go_ret
      exact ⟨by rw [HV.out]; rfl, (B0.out _).trans (hb.mono (by simp))⟩
    · obtain ⟨rfl, ⟨x, y, rfl⟩, ho⟩ := opt_parts hp
      have HV := Lib.hid (expr_two (n := n) (A := A) (c := c) (x := x) (y := y) ho)
      have Q2 := Lib.hid (fun W (h : Below w.heap.size w W) => opnd_of x W (fun W' h' => ih x (by simp) W' ((hat.below (h.trans (h'.mono h.size))).lst.mem (by simp [Tm.args]))))
      have Q3 := Lib.hid (fun W (h : Below w.heap.size w W) => opnd_of y W (fun W' h' => ih y (by simp) W' ((hat.below (h.trans (h'.mono h.size))).lst.mem (by simp [Tm.args]))))
      obtain ⟨b, o, rfl, ⟨c0, c1, c2, c3⟩, ⟨g0, g1, g2, g3⟩, _, _⟩ := two_cells hat
      clear hat ih hk0 hp n0
      generalize x.opnd = p at *
      generalize y.opnd = q at *
      go_enter Tryz.func91, Tryz.ntmps91
      go_wp2_with fail
      refine (Q1.out _).mono ?_
      rintro e w1 ⟨rfl, hb⟩
      obtain ⟨d0, d1, d2, d3, hb1⟩ := box4 hb
      have k0 := akeepc hb1 c0
      have k1 := akeepc hb1 c1
      have k2 := akeepc hb1 c2
      have k3 := akeepc hb1 c3
      clear c0 c1 c2 c3 hb
      go_wp2_with fail
      refine (Q2.out _ hb1).mono ?_
      rintro e w2 ⟨rfl, hb2⟩
      replace d3 := akeepc hb2 d3
      clear d0 d1 d2 k0 k1 k2 k3
      have hb3 := hb1.trans (hb2.mono hb1.size)
      have k0 := akeepc hb3 g0
      have k1 := akeepc hb3 g1
      have k2 := akeepc hb3 g2
      have k3 := akeepc hb3 g3
      clear g0 g1 g2 g3 hb1 hb2
      cases p
      · go_wp2_with fail
        go_ret
        exact ⟨by rw [HV.out]; rfl, hb3⟩
      · go_wp2_with fail
        refine (Q3.out _ hb3).mono ?_
        rintro e w4 ⟨rfl, hb4⟩
        have hb5 := hb3.trans (hb4.mono hb3.size)
        go_wp2_with fail
        go_ret
        exact ⟨by rw [HV.out]; rfl, hb5⟩
theorem num_opnd : (∀ t : Tm, t.numB = (decide (t.kind = 1) || t.expr)) ∧ ∀ l : List Tm, numL l = opndL l := by
  refine Tm.induct2 (fun k n s A c a ih => ?_) rfl (fun t r h1 h2 => ?_)
  · simp only [Tm.numB, Tm.expr, Tm.kind, ih]
    by_cases h0 : k = 0
    · simp [h0]
    · by_cases h1 : k = 1
      · simp [h1]
      · rw [if_neg (by omega)]
        rw [Bool.eq_iff_iff]
        simp only [Bool.and_eq_true, Bool.or_eq_true, decide_eq_true_eq]
        constructor
        · rintro ⟨a1, a2, a3, a4⟩
          exact .inr (.inr ⟨⟨a1, a3, a2⟩, a4⟩)
        · rintro (h | h | ⟨⟨a1, a3, a2⟩, a4⟩)
          · exact absurd (of_decide_eq_true h) h1
          · exact absurd h h0
          · exact ⟨a1, a2, a3, a4⟩
  · simp only [numL, opndL, h1, h2]
end Go.Proofs.YtgpglgehlnfggaaGreat
namespace Go.Proofs.YtgpglgehlnfggaaGreat
open Go
theorem cmp_swap {a b : Tm} (ha : a.form = true) (hb : b.form = true) : (cmpT a b == 0) = (cmpT b a == 0) := by
  rw [Bool.eq_iff_iff]
  constructor
  · intro h; exact same_strip (cmp_zero.1 a ha b hb (by simpa using h)).symm
  · intro h; exact same_strip (cmp_zero.1 b hb a ha (by simpa using h)).symm
theorem can_swap {can : Tm → Tm → Bool} (hc : Cans can) (a b : Tm) : can a b = can b a := by
  rw [Bool.eq_iff_iff, hc, hc]
  exact ⟨fun ⟨f, h⟩ => ⟨f, h.symm⟩, fun ⟨f, h⟩ => ⟨f, h.symm⟩⟩
theorem sameV_swap {can : Tm → Tm → Bool} (hc : Cans can) {a b : Tm} (ha : a.form = true) (hb : b.form = true) (op : Int) : sameV can op a b = sameV can op b a := by
  unfold sameV
  rw [cmp_swap ha hb, can_swap hc]
theorem hold_one (b : Bool) : holdV b = 1 ↔ b = true := by cases b <;> simp [holdV]
theorem val_one {op : Int} {a b : Tm} : valT op a b = 1 ↔ (a.numB = true ∧ b.numB = true) ∧ (a.occ = [] ∧ b.occ = []) ∧ (a.eval.2 = 0 ∧ b.eval.2 = 0) ∧ cmpV op a.eval.1 b.eval.1 = true := by
  unfold valT
  by_cases h1 : (a.numB && b.numB) = false
  · rw [if_pos h1]
    refine ⟨fun h => absurd h (by decide), fun h => ?_⟩
    rw [h.1.1, h.1.2] at h1; cases h1
  · rw [if_neg h1]
    have h1' : a.numB = true ∧ b.numB = true := by simpa using h1
    by_cases h2 : (decide (a.occ = []) && decide (b.occ = [])) = false
    · rw [if_pos h2]
      refine ⟨fun h => absurd h (by decide), fun h => ?_⟩
      rw [decide_eq_true h.2.1.1, decide_eq_true h.2.1.2] at h2; cases h2
    · rw [if_neg h2]
      have h2' : a.occ = [] ∧ b.occ = [] := by simpa using h2
      by_cases h3 : a.eval.2 ≠ 0 ∨ b.eval.2 ≠ 0
      · rw [if_pos h3]
        refine ⟨fun h => absurd h (by decide), fun h => ?_⟩
        rcases h3 with h3 | h3
        · exact absurd h.2.2.1.1 h3
        · exact absurd h.2.2.1.2 h3
      · rw [if_neg h3, hold_one]
        have h3' : a.eval.2 = 0 ∧ b.eval.2 = 0 := by simpa using h3
        exact ⟨fun h => ⟨h1', h2', h3', h⟩, fun h => h.2.2.2⟩
theorem val_swap {op op' : Int} {a b : Tm} (h : valT op a b = 1) (hc : ∀ m n, cmpV op m n = true → cmpV op' n m = true) : valT op' b a = 1 := by
  obtain ⟨⟨a1, a2⟩, ⟨b1, b2⟩, ⟨c1, c2⟩, d⟩ := val_one.1 h
  exact val_one.2 ⟨⟨a2, a1⟩, ⟨b2, b1⟩, ⟨c2, c1⟩, hc _ _ d⟩
theorem val_more {op op' : Int} {a b : Tm} (h : valT op a b = 1) (hc : ∀ m n, cmpV op m n = true → cmpV op' m n = true) : valT op' a b = 1 := by
  obtain ⟨h1, h2, h3, d⟩ := val_one.1 h
  exact val_one.2 ⟨h1, h2, h3, hc _ _ d⟩
def folL (op : Int) : List Tm → List (Int × List Tm)
  | [x, y] => if op = 7 then [(8, [x, y]), (10, [x, y]), (10, [y, x])] else if op = 9 then [(8, [x, y]), (8, [y, x]), (9, [y, x])] else if op = 10 ∨ op = 5 ∨ op = 6 then [(op, [y, x])] else []
  | _ => []
def sgB (op op' : Int) (s s' : ByteArray) (l m : List Tm) : Bool := decide (op = op') && (decide (s = s') && (cmpL l m == 0))
def folB (op op' : Int) (s s' : ByteArray) (l m : List Tm) : Bool := (isT op s l && isT op' s' m) && (sgB op op' s s' l m || (folL op l).any fun p => sgB p.1 op' ByteArray.empty s' p.2 m)
theorem sgB_like {op op' : Int} {s s' : ByteArray} {l m : List Tm} (hl : formL l = true) (hm : formL m = true) (h : sgB op op' s s' l m = true) : op = op' ∧ s = s' ∧ stripL l = stripL m := by
  simp only [sgB, Bool.and_eq_true, decide_eq_true_eq, beq_iff_eq] at h
  exact ⟨h.1, h.2.1, cmp_zero.2 l hl m hm h.2.2⟩
theorem rightL_form {l : List Tm} (h : rightL l = true) : formL l = true := by
  simp only [rightL, Bool.and_eq_true] at h; exact h.1
theorem testV_two {can : Tm → Tm → Bool} {op : Int} {s : ByteArray} {x y : Tm} (h : isT op s [x, y] = true) : testV can op s [x, y] = if op = 5 ∨ op = 6 then sameV can op x y else valT op x y := by
  unfold testV; rw [if_pos h]
theorem rightL_swap (x y : Tm) : rightL [y, x] = rightL [x, y] := by
  have h1 : sizeL [y, x] = sizeL [x, y] := by simp only [sizeL]; omega
  have h2 : depthL [y, x] = depthL [x, y] := by simp only [depthL]; omega
  have h3 : formL [y, x] = formL [x, y] := by simp only [formL, Bool.and_true]; exact Bool.and_comm _ _
  unfold rightL
  rw [h1, h2, h3]
theorem goalB_two {op op' : Int} (h : 5 ≤ op ∧ op ≤ 10) (h' : 5 ≤ op' ∧ op' ≤ 10) (s : ByteArray) (l : List Tm) : goalB op' s l = goalB op s l := by
  unfold goalB
  rw [if_neg (by omega), if_neg (by omega), arity_two h.1 h.2, arity_two h'.1 h'.2]
theorem isT_other {op op' : Int} (h : 5 ≤ op ∧ op ≤ 10) (h' : 5 ≤ op' ∧ op' ≤ 10) (s : ByteArray) (l : List Tm) : isT op' s l = isT op s l := by
  unfold isT
  rw [goalB_two h h', decide_eq_true h.1, decide_eq_true h'.1, decide_eq_true (show op ≤ 12 by omega), decide_eq_true (show op' ≤ 12 by omega)]
theorem isT_swap (op : Int) (s : ByteArray) (x y : Tm) (h : 5 ≤ op) : isT op s [y, x] = isT op s [x, y] := by
  unfold isT goalB
  rw [if_neg (by omega), if_neg (by omega)]
  unfold builtinB
  rw [rightL_swap]
  rfl
theorem follows {can : Tm → Tm → Bool} (hc : Cans can) {op op' : Int} {s s' : ByteArray} {l m : List Tm} (h : folB op op' s s' l m = true) (h1 : testV can op s l = 1) : testV can op' s' m = 1 := by
  simp only [folB, Bool.and_eq_true, Bool.or_eq_true, List.any_eq_true] at h
  obtain ⟨⟨ht, ht'⟩, h⟩ := h
  have hm := rightL_form (isT_built ht').2.2
  rcases h with h | ⟨p, hp, h⟩
  · obtain ⟨rfl, rfl, e⟩ := sgB_like (rightL_form (isT_built ht).2.2) hm h
    rw [← testV_like hc e]; exact h1
  · by_cases h10 : op ≤ 10
    · obtain ⟨x, y, rfl⟩ := isT_two ht h10
      have h5 := (isT_goal ht).1
      have hr := rightL_each (isT_built ht).2.2
      have hx := right_form (hr x (by simp))
      have hy := right_form (hr y (by simp))
      rw [testV_two ht] at h1
      have hs0 := (isT_built ht).1
      subst hs0
      have key : ∀ (o : Int) (u v : Tm), 5 ≤ o ∧ o ≤ 10 → (u = x ∧ v = y ∨ u = y ∧ v = x) → sgB o op' ByteArray.empty s' [u, v] m = true → (if o = 5 ∨ o = 6 then sameV can o u v else valT o u v) = 1 → testV can op' s' m = 1 := by
        intro o u v ho huv hsm hv
        have hT : isT o ByteArray.empty [u, v] = true := by
          rw [isT_other ⟨h5, h10⟩ ho]
          rcases huv with ⟨rfl, rfl⟩ | ⟨rfl, rfl⟩
          · exact ht
          · rw [isT_swap _ _ _ _ h5]; exact ht
        obtain ⟨rfl, rfl, e⟩ := sgB_like (rightL_form (isT_built hT).2.2) hm hsm
        rw [← testV_like hc e, testV_two hT]
        exact hv
      simp only [folL] at hp
      by_cases h7 : op = 7
      · subst h7
        rw [if_pos rfl] at hp
        rw [if_neg (by decide)] at h1
        simp only [List.mem_cons, List.not_mem_nil, or_false] at hp
        rcases hp with rfl | rfl | rfl
        · exact key 8 x y (by decide) (.inl ⟨rfl, rfl⟩) h (by rw [if_neg (by decide)]; exact val_more h1 fun m n h => by simp [cmpV] at h ⊢; omega)
        · exact key 10 x y (by decide) (.inl ⟨rfl, rfl⟩) h (by rw [if_neg (by decide)]; exact val_more h1 fun m n h => by simp [cmpV] at h ⊢; omega)
        · exact key 10 y x (by decide) (.inr ⟨rfl, rfl⟩) h (by rw [if_neg (by decide)]; exact val_swap h1 fun m n h => by simp [cmpV] at h ⊢; omega)
      · rw [if_neg h7] at hp
        by_cases h9 : op = 9
        · subst h9
          rw [if_pos rfl] at hp
          rw [if_neg (by decide)] at h1
          simp only [List.mem_cons, List.not_mem_nil, or_false] at hp
          rcases hp with rfl | rfl | rfl
          · exact key 8 x y (by decide) (.inl ⟨rfl, rfl⟩) h (by rw [if_neg (by decide)]; exact val_more h1 fun m n h => by simp [cmpV] at h ⊢; omega)
          · exact key 8 y x (by decide) (.inr ⟨rfl, rfl⟩) h (by rw [if_neg (by decide)]; exact val_swap h1 fun m n h => by simp [cmpV] at h ⊢; omega)
          · exact key 9 y x (by decide) (.inr ⟨rfl, rfl⟩) h (by rw [if_neg (by decide)]; exact val_swap h1 fun m n h => by simp [cmpV] at h ⊢; omega)
        · rw [if_neg h9] at hp
          by_cases ho : op = 10 ∨ op = 5 ∨ op = 6
          · rw [if_pos ho] at hp
            rw [List.mem_singleton] at hp
            subst hp
            refine key op y x ⟨h5, h10⟩ (.inr ⟨rfl, rfl⟩) h ?_
            by_cases h56 : op = 5 ∨ op = 6
            · rw [if_pos h56] at h1 ⊢
              rw [← sameV_swap hc hx hy]; exact h1
            · rw [if_neg h56] at h1 ⊢
              obtain rfl : op = 10 := by omega
              exact val_swap h1 fun m n h => by simp [cmpV] at h ⊢; omega
          · rw [if_neg ho] at hp; cases hp
    · obtain ⟨x, rfl⟩ := isT_one ht h10
      simp only [folL] at hp; cases hp
theorem int_facts {t : Tm} (hf : t.form = true) (hk : t.kind = 0) : t.numB = true ∧ t.occ = [] ∧ t.eval = (t.num, 0) := by
  obtain ⟨k, n, s, A, c, a⟩ := t
  simp only [Tm.kind] at hk
  subst hk
  simp only [Tm.form, if_pos, Bool.and_eq_true, decide_eq_true_eq] at hf
  have hr : inR n = true := by rw [inR_iff]; exact ⟨hf.1, hf.2.1⟩
  refine ⟨by simp [Tm.numB], by simp [Tm.occ], ?_⟩
  simp [Tm.eval, hr, Tm.num]
theorem val_ints {a b : Tm} (ha : a.form = true) (hb : b.form = true) (ka : a.kind = 0) (kb : b.kind = 0) (op : Int) : valT op a b = holdV (cmpV op a.num b.num) := by
  obtain ⟨a1, a2, a3⟩ := int_facts ha ka
  obtain ⟨b1, b2, b3⟩ := int_facts hb kb
  unfold valT
  rw [a1, b1, a2, b2, a3, b3]
  simp
end Go.Proofs.YtgpglgehlnfggaaGreat
namespace Go.Proofs.YtgpglgehlnfggaaGreat
open Go.RowKit
theorem holds_at (op m n : Int) (w : World) {r : Bool} (hr : cmpV op m n = r) : Calls Tryz.prog 65 #[.int .i64 op, .int .i64 m, .int .i64 n] w fun e w' => e = .returned (.bool r) ∧ w = w' := by
  have HR := Lib.hid hr
  clear hr
  by_cases h7 : op = 7
  · subst h7
    go_enter Tryz.func65, Tryz.ntmps65
    go_wp2_with fail
    go_ret
    exact ⟨by rw [← HR.out]; rfl, rfl⟩
  have e7 : (op == 7) = false := by simpa using h7
  by_cases h8 : op = 8
  · subst h8
    go_enter Tryz.func65, Tryz.ntmps65
    go_wp2_with fail
    go_ret
    exact ⟨by rw [← HR.out]; rfl, rfl⟩
  have e8 : (op == 8) = false := by simpa using h8
  by_cases h9 : op = 9
  · subst h9
    go_enter Tryz.func65, Tryz.ntmps65
    go_wp2_with fail
    go_ret
    exact ⟨by rw [← HR.out]; rfl, rfl⟩
  have e9 : (op == 9) = false := by simpa using h9
  have HE := Lib.hid (show r = (m != n) by rw [← HR.out]; simp only [cmpV, if_neg h7, if_neg h8, if_neg h9]; by_cases h : m = n <;> simp [h])
  clear h7 h8 h9 HR
  go_enter Tryz.func65, Tryz.ntmps65
  go_wp2_with fail
  go_ret
  exact ⟨by rw [HE.out]; try rfl, rfl⟩
set_option maxHeartbeats 1000000 in
theorem is_test_at (g : Gl) (w : World) (ha : g.At w) {r : Bool} (hr : isT g.op g.name g.args = r) :
    Calls Tryz.prog 45 #[g.val] w fun e w' => e = .returned (.bool r) ∧ Below w.heap.size w w' := by
  have B0 := Lib.hid (show ∀ o, Below w.heap.size w (w.alloc o) from fun o => (Below.refl _ _).alloc (Nat.le_refl _) o)
  have Q := Lib.hid (fun W (h : Below w.heap.size w W) => right_goal_at g W (ha.below h) rfl)
  have HR := Lib.hid (show (decide (5 ≤ g.op) && decide (g.op ≤ 12) && goalB g.op g.name g.args) = r from hr)
  obtain ⟨op, s, A, c, l⟩ := g
  simp only at HR Q
  generalize goalB op s l = b at *
  clear ha hr
  show Calls Tryz.prog 45 #[.agg #[.int .i64 op, .string s, .slice A l.length c]] w _
  by_cases h5 : 5 ≤ op
  · by_cases h12 : op ≤ 12
    · have d5 : decide (5 ≤ op) = true := decide_eq_true h5
      have d12 : decide (op ≤ 12) = true := decide_eq_true h12
      have HB := Lib.hid (show b = r by rw [← HR.out, d5, d12]; rfl)
      clear HR
      go_enter Tryz.func45, Tryz.ntmps45
      go_wp2_with fail
      refine (Q.out _ (B0.out _)).mono ?_
      rintro e w1 ⟨rfl, hb⟩
      go_wp2_with fail
      go_ret
      exact ⟨by rw [HB.out]; try rfl, (B0.out _).trans (hb.mono (by simp))⟩
    · have d12 : decide (op ≤ 12) = false := decide_eq_false h12
      have HB := Lib.hid (show false = r by rw [← HR.out, d12]; simp)
      clear HR
      go_enter Tryz.func45, Tryz.ntmps45
      go_wp2_with fail
      go_ret
      exact ⟨by rw [← HB.out]; rfl, B0.out _⟩
  · have d5 : decide (5 ≤ op) = false := decide_eq_false h5
    have HB := Lib.hid (show false = r by rw [← HR.out, d5]; simp)
    clear HR
    go_enter Tryz.func45, Tryz.ntmps45
    go_wp2_with fail
    go_ret
    exact ⟨by rw [← HB.out]; rfl, B0.out _⟩
set_option maxHeartbeats 1000000 in
theorem is_number_at (t : Tm) (w : World) (ht : t.At w) {r : Bool} (hr : t.numB = r) :
    Calls Tryz.prog 62 #[t.val] w fun e w' => e = .returned (.bool r) ∧ Below w.heap.size w w' := by
  have B0 := Lib.hid (show ∀ o, Below w.heap.size w (w.alloc o) from fun o => (Below.refl _ _).alloc (Nat.le_refl _) o)
  have Q := Lib.hid (fun W (h : Below w.heap.size w W) => expr_at t W (ht.below h))
  have HR := Lib.hid (show (decide (t.kind = 1) || t.expr) = r by rw [← num_opnd.1]; exact hr)
  generalize t.expr = b at *
  obtain ⟨k, n, s, A, c, a⟩ := t
  simp only [Tm.kind] at HR
  clear ht hr
  show Calls Tryz.prog 62 #[.agg #[.int .i64 k, .int .i64 n, .string s, .slice A a.length c]] w _
  by_cases h1 : k = 1
  · subst h1
    go_enter Tryz.func62, Tryz.ntmps62
    go_wp2_with fail
    go_ret
    exact ⟨by rw [← HR.out]; rfl, B0.out _⟩
  · have e1 : (k == 1) = false := by simpa using h1
    have HB := Lib.hid (show b = r by rw [← HR.out]; simp [h1])
    clear HR h1
    go_enter Tryz.func62, Tryz.ntmps62
    go_wp2_with fail
    refine (Q.out _ (B0.out _)).mono ?_
    rintro e w1 ⟨rfl, hb⟩
    go_wp2_with fail
    go_ret
    exact ⟨by rw [HB.out]; try rfl, (B0.out _).trans (hb.mono (by simp))⟩
theorem boxes_tm {w W : World} {v0 v1 v2 v3 u0 u1 u2 u3 : Value} {T : TypeId} (h : Below ((w.alloc (.cells #[v0, v1, v2, v3] T)).alloc (.cells #[u0, u1, u2, u3] T)).heap.size ((w.alloc (.cells #[v0, v1, v2, v3] T)).alloc (.cells #[u0, u1, u2, u3] T)) W) :
    (W.cell? ⟨w.heap.size, 0, none⟩ = some v0 ∧ W.cell? ⟨w.heap.size, 1, none⟩ = some v1 ∧ W.cell? ⟨w.heap.size, 2, none⟩ = some v2 ∧ W.cell? ⟨w.heap.size, 3, none⟩ = some v3) ∧
    (W.cell? ⟨w.heap.size + 1, 0, none⟩ = some u0 ∧ W.cell? ⟨w.heap.size + 1, 1, none⟩ = some u1 ∧ W.cell? ⟨w.heap.size + 1, 2, none⟩ = some u2 ∧ W.cell? ⟨w.heap.size + 1, 3, none⟩ = some u3) := by
  have h1 : ∀ j v, (#[v0, v1, v2, v3] : Array Value)[j]? = some v → W.cell? ⟨w.heap.size, j, none⟩ = some v := fun j v e => by
    rw [h.cell (p := ⟨w.heap.size, j, none⟩) (by simp; omega), World.cell?_alloc_past _ _ _ (by simp), World.cell?_alloc_at _ _ _ _ rfl]; exact e
  have h2 : ∀ j v, (#[u0, u1, u2, u3] : Array Value)[j]? = some v → W.cell? ⟨w.heap.size + 1, j, none⟩ = some v := fun j v e => by
    rw [h.cell (p := ⟨w.heap.size + 1, j, none⟩) (by simp), World.cell?_alloc_at _ _ _ _ (by simp)]; exact e
  exact ⟨⟨h1 0 _ rfl, h1 1 _ rfl, h1 2 _ rfl, h1 3 _ rfl⟩, ⟨h2 0 _ rfl, h2 1 _ rfl, h2 2 _ rfl, h2 3 _ rfl⟩⟩
theorem can_of {can : Tm → Tm → Bool} (hc : Cans can) {a b : Tm} {r : Bool} (ra : a.right = true) (rb : b.right = true) (h : CanR a b r) : r = can a b := by
  rw [Bool.eq_iff_iff]
  exact ⟨fun h1 => (hc _ _).2 (h.1 h1).2.2, fun h1 => h.2 ⟨ra, rb, (hc _ _).1 h1⟩⟩
set_option maxHeartbeats 1000000 in
theorem same_p_at {can : Tm → Tm → Bool} (hc : Cans can) (a b : Tm) (w : World) (ha : a.At w) (hb : b.At w) (ra : a.right = true) (rb : b.right = true) :
    Calls Tryz.prog 29 #[a.val, b.val] w fun e w' => e = .returned (.int .i64 (sameV can 5 a b)) ∧ Below w.heap.size w w' := by
  have Q1 := Lib.hid (fun W (h : Below w.heap.size w W) => same_at a b W (ha.below h) (hb.below h) rfl)
  have Q2 := Lib.hid (fun W (h : Below w.heap.size w W) => (unifiable_at a b W (ha.below h) (hb.below h)).mono fun e w' ⟨r, he, hr, h⟩ => (⟨by rw [he, can_of hc ra rb hr], h⟩ : e = Ending.returned (Value.bool (can a b)) ∧ Below W.heap.size W w'))
  have HV := Lib.hid (show sameV can 5 a b = if (cmpT a b == 0) = true then 1 else if can a b = true then 0 else 2 by unfold sameV holdV; simp)
  generalize sameV can 5 a b = v at *
  generalize (cmpT a b == 0) = p at *
  generalize can a b = q at *
  obtain ⟨k, n, s, A, c, l⟩ := a
  obtain ⟨k2, n2, s2, A2, c2, l2⟩ := b
  clear ha hb ra rb
  show Calls Tryz.prog 29 #[.agg #[.int .i64 k, .int .i64 n, .string s, .slice A l.length c], .agg #[.int .i64 k2, .int .i64 n2, .string s2, .slice A2 l2.length c2]] w _
  go_enter Tryz.func29, Tryz.ntmps29
  go_wp2_with fail
  refine (Q1.out _ (below2 _ _ _)).mono ?_
  rintro e w1 ⟨rfl, hb1⟩
  obtain ⟨⟨c0, c1, c2, c3⟩, d0, d1, d2, d3⟩ := boxes_tm hb1
  have H1 := Lib.hid ((below2 w _ _).trans (hb1.mono (by simp; omega)))
  clear hb1
  cases p
  · go_wp2_with fail
    refine (Q2.out _ H1.out).mono ?_
    rintro e w2 ⟨rfl, hb2⟩
    have H2 := Lib.hid (H1.out.trans (hb2.mono H1.out.size))
    clear hb2
    cases q
    · go_wp2_with fail
      go_ret
      exact ⟨by rw [HV.out]; rfl, H2.out⟩
    · go_wp2_with fail
      go_ret
      exact ⟨by rw [HV.out]; rfl, H2.out⟩
  · go_wp2_with fail
    go_ret
    exact ⟨by rw [HV.out]; rfl, H1.out⟩
theorem opp_two {can : Tm → Tm → Bool} (a b : Tm) : sameV can 6 a b = if sameV can 5 a b = 1 then 2 else if sameV can 5 a b = 2 then 1 else sameV can 5 a b := by
  unfold sameV holdV
  split
  · simp
  · split <;> simp
theorem opposite_at (n : Int) (w : World) {r : Int} (hr : (if n = 1 then 2 else if n = 2 then 1 else n) = r) : Calls Tryz.prog 30 #[.int .i64 n] w fun e w' => e = .returned (.int .i64 r) ∧ w = w' := by
  have HR := Lib.hid hr
  clear hr
  by_cases h1 : n = 1
  · subst h1
    go_enter Tryz.func30, Tryz.ntmps30
    go_wp2_with fail
    go_ret
    exact ⟨by rw [← HR.out]; rfl, rfl⟩
  have e1 : (n == 1) = false := by simpa using h1
  by_cases h2 : n = 2
  · subst h2
    go_enter Tryz.func30, Tryz.ntmps30
    go_wp2_with fail
    go_ret
    exact ⟨by rw [← HR.out]; rfl, rfl⟩
  have e2 : (n == 2) = false := by simpa using h2
  have HE := Lib.hid (show r = n by rw [← HR.out, if_neg h1, if_neg h2])
  clear h1 h2 HR
  go_enter Tryz.func30, Tryz.ntmps30
  go_wp2_with fail
  go_ret
  exact ⟨by rw [HE.out]; try rfl, rfl⟩
theorem integer_at (t : Tm) (w : World) : Calls Tryz.prog 32 #[t.val] w fun e w' => e = .returned (.int .i64 (intV t)) ∧ Below w.heap.size w w' := by
  have B0 := Lib.hid (show ∀ o, Below w.heap.size w (w.alloc o) from fun o => (Below.refl _ _).alloc (Nat.le_refl _) o)
  have HV := Lib.hid (show intV t = if t.kind = 1 then 0 else if t.kind = 0 then 1 else 2 by unfold intV holdV; simp)
  generalize intV t = v at *
  obtain ⟨k, n, s, A, c, a⟩ := t
  simp only [Tm.kind] at HV
  show Calls Tryz.prog 32 #[.agg #[.int .i64 k, .int .i64 n, .string s, .slice A a.length c]] w _
  by_cases h0 : k = 0
  · subst h0
    go_enter Tryz.func32, Tryz.ntmps32
    go_wp2_with fail
    go_ret
    exact ⟨by rw [HV.out]; rfl, B0.out _⟩
  have e0 : (k == 0) = false := by simpa using h0
  by_cases h1 : k = 1
  · subst h1
    go_enter Tryz.func32, Tryz.ntmps32
    go_wp2_with fail
    go_ret
    exact ⟨by rw [HV.out]; rfl, B0.out _⟩
  have e1 : (k == 1) = false := by simpa using h1
  have HE := Lib.hid (show v = 2 by rw [HV.out]; simp [h1, h0])
  clear h0 h1 HV
  go_enter Tryz.func32, Tryz.ntmps32
  go_wp2_with fail
  go_ret
  exact ⟨by rw [HE.out]; try rfl, B0.out _⟩
theorem ground_p_at (t : Tm) (w : World) (ht : t.At w) : Calls Tryz.prog 33 #[t.val] w fun e w' => e = .returned (.int .i64 (gndV t)) ∧ Below w.heap.size w w' := by
  have B0 := Lib.hid (show ∀ o, Below w.heap.size w (w.alloc o) from fun o => (Below.refl _ _).alloc (Nat.le_refl _) o)
  have Q := Lib.hid (fun W (h : Below w.heap.size w W) => ground_at t W (ht.below h) rfl)
  have HV := Lib.hid (show gndV t = if decide (t.occ = []) = true then 1 else 0 by unfold gndV; simp)
  generalize gndV t = v at *
  generalize decide (t.occ = []) = b at *
  obtain ⟨k, n, s, A, c, a⟩ := t
  clear ht
  show Calls Tryz.prog 33 #[.agg #[.int .i64 k, .int .i64 n, .string s, .slice A a.length c]] w _
  go_enter Tryz.func33, Tryz.ntmps33
  go_wp2_with fail
  refine (Q.out _ (B0.out _)).mono ?_
  rintro e w1 ⟨rfl, hb⟩
  have H1 := Lib.hid ((B0.out _).trans (hb.mono (by simp)))
  clear hb
  cases b
  · go_wp2_with fail
    go_ret
    exact ⟨by rw [HV.out]; rfl, H1.out⟩
  · go_wp2_with fail
    go_ret
    exact ⟨by rw [HV.out]; rfl, H1.out⟩
theorem valT_parts (op : Int) (a b : Tm) {pa pb ga gb : Bool} {ea eb : Int × Int} (h1 : a.numB = pa) (h2 : b.numB = pb) (h3 : decide (a.occ = []) = ga) (h4 : decide (b.occ = []) = gb) (h5 : a.eval = ea) (h6 : b.eval = eb) :
    valT op a b = if (pa && pb) = false then 2 else if (ga && gb) = false then 0 else if ea.2 ≠ 0 ∨ eb.2 ≠ 0 then 2 else holdV (cmpV op ea.1 eb.1) := by
  subst h1 h2 h3 h4 h5 h6; rfl
set_option maxHeartbeats 4000000 in
theorem values_p_at (op : Int) (a b : Tm) (w : World) (ha : a.At w) (hb : b.At w) :
    Calls Tryz.prog 31 #[.int .i64 op, a.val, b.val] w fun e w' => e = .returned (.int .i64 (valT op a b)) ∧ Below w.heap.size w w' := by
  have QA1 := Lib.hid (fun W (h : Below w.heap.size w W) => is_number_at a W (ha.below h) rfl)
  have QB1 := Lib.hid (fun W (h : Below w.heap.size w W) => is_number_at b W (hb.below h) rfl)
  have QA2 := Lib.hid (fun W (h : Below w.heap.size w W) => ground_at a W (ha.below h) rfl)
  have QB2 := Lib.hid (fun W (h : Below w.heap.size w W) => ground_at b W (hb.below h) rfl)
  have QA3 := Lib.hid (fun W (h : Below w.heap.size w W) => eval_at a W (ha.below h))
  have QB3 := Lib.hid (fun W (h : Below w.heap.size w W) => eval_at b W (hb.below h))
  have HV := Lib.hid (valT_parts op a b rfl rfl rfl rfl rfl rfl)
  generalize valT op a b = v at *
  generalize a.numB = pa at *
  generalize b.numB = pb at *
  generalize decide (a.occ = []) = ga at *
  generalize decide (b.occ = []) = gb at *
  generalize a.eval = ea at *
  generalize b.eval = eb at *
  obtain ⟨m, e1⟩ := ea
  obtain ⟨n, e2⟩ := eb
  have QH := Lib.hid (fun W => holds_at op m n W rfl)
  generalize cmpV op m n = hv at *
  obtain ⟨k1, n1, s1, A1, c1, l1⟩ := a
  obtain ⟨k2, n2, s2, A2, c2, l2⟩ := b
  clear ha hb
  show Calls Tryz.prog 31 #[.int .i64 op, .agg #[.int .i64 k1, .int .i64 n1, .string s1, .slice A1 l1.length c1], .agg #[.int .i64 k2, .int .i64 n2, .string s2, .slice A2 l2.length c2]] w _
  go_enter Tryz.func31, Tryz.ntmps31
  go_wp2_with fail
  refine (QA1.out _ (below2 _ _ _)).mono ?_
  rintro e w1 ⟨rfl, hb1⟩
  have HX := Lib.hid (fun W (h : Below w1.heap.size w1 W) => boxes_tm (hb1.trans (h.mono hb1.size)))
  have H1 := Lib.hid ((below2 w _ _).trans (hb1.mono (by simp; omega)))
  obtain ⟨⟨c0, c1, c2, c3⟩, d0, d1, d2, d3⟩ := HX.out _ (Below.refl _ _)
  clear hb1
  cases pa
  · go_wp2_with fail
    go_ret
    exact ⟨by rw [HV.out]; rfl, H1.out⟩
  go_wp2_with fail
  refine (QB1.out _ H1.out).mono ?_
  rintro e w2 ⟨rfl, hb2⟩
  have X2 := Lib.hid (fun W (h : Below w2.heap.size w2 W) => HX.out W (hb2.trans (h.mono hb2.size)))
  have H2 := Lib.hid (H1.out.trans (hb2.mono H1.out.size))
  clear c0 c1 c2 c3 d0 d1 d2 d3 hb2 HX H1
  obtain ⟨⟨c0, c1, c2, c3⟩, d0, d1, d2, d3⟩ := X2.out _ (Below.refl _ _)
  cases pb
  · go_wp2_with fail
    go_ret
    exact ⟨by rw [HV.out]; rfl, H2.out⟩
  go_wp2_with fail
  refine (QA2.out _ H2.out).mono ?_
  rintro e w3 ⟨rfl, hb3⟩
  have X3 := Lib.hid (fun W (h : Below w3.heap.size w3 W) => X2.out W (hb3.trans (h.mono hb3.size)))
  have H3 := Lib.hid (H2.out.trans (hb3.mono H2.out.size))
  clear c0 c1 c2 c3 d0 d1 d2 d3 hb3 X2 H2
  obtain ⟨⟨c0, c1, c2, c3⟩, d0, d1, d2, d3⟩ := X3.out _ (Below.refl _ _)
  cases ga
  · go_wp2_with fail
    go_ret
    exact ⟨by rw [HV.out]; rfl, H3.out⟩
  go_wp2_with fail
  refine (QB2.out _ H3.out).mono ?_
  rintro e w4 ⟨rfl, hb4⟩
  have X4 := Lib.hid (fun W (h : Below w4.heap.size w4 W) => X3.out W (hb4.trans (h.mono hb4.size)))
  have H4 := Lib.hid (H3.out.trans (hb4.mono H3.out.size))
  clear c0 c1 c2 c3 d0 d1 d2 d3 hb4 X3 H3
  obtain ⟨⟨c0, c1, c2, c3⟩, d0, d1, d2, d3⟩ := X4.out _ (Below.refl _ _)
  cases gb
  · go_wp2_with fail
    go_ret
    exact ⟨by rw [HV.out]; rfl, H4.out⟩
  go_wp2_with fail
  refine (QA3.out _ H4.out).mono ?_
  rintro e w5 ⟨rfl, hb5⟩
  have X5 := Lib.hid (fun W (h : Below w5.heap.size w5 W) => X4.out W (hb5.trans (h.mono hb5.size)))
  have H5 := Lib.hid (H4.out.trans (hb5.mono H4.out.size))
  clear c0 c1 c2 c3 d0 d1 d2 d3 hb5 X4 H4
  obtain ⟨⟨c0, c1, c2, c3⟩, d0, d1, d2, d3⟩ := X5.out _ (Below.refl _ _)
  go_wp2_with fail
  refine (QB3.out _ H5.out).mono ?_
  rintro e w6 ⟨rfl, hb6⟩
  have H6 := Lib.hid (H5.out.trans (hb6.mono H5.out.size))
  clear c0 c1 c2 c3 d0 d1 d2 d3 hb6 X5 H5
  by_cases h1 : e1 = 0
  · by_cases h2 : e2 = 0
    · subst h1 h2
      go_wp2_with fail
      refine (QH.out _).mono ?_
      rintro e w7 ⟨rfl, rfl⟩
      cases hv
      · go_wp2_with fail
        go_ret
        exact ⟨by rw [HV.out]; rfl, H6.out⟩
      · go_wp2_with fail
        go_ret
        exact ⟨by rw [HV.out]; rfl, H6.out⟩
    · subst h1
      have d2 : (e2 == 0) = false := by simpa using h2
      have HE := Lib.hid (show v = 2 by rw [HV.out]; simp [h2])
      clear h2 HV
      go_wp2_with fail
      go_ret
      exact ⟨by rw [HE.out]; try rfl, H6.out⟩
  · have d1 : (e1 == 0) = false := by simpa using h1
    have HE := Lib.hid (show v = 2 by rw [HV.out]; simp [h1])
    clear h1 HV
    go_wp2_with fail
    go_ret
    exact ⟨by rw [HE.out]; try rfl, H6.out⟩
end Go.Proofs.YtgpglgehlnfggaaGreat
