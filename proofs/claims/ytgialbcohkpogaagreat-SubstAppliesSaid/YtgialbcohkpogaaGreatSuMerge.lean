/-
  slices.symMergeCmpFunc at bindings where the first part has one element.
  Where symMerge parts two sorted lists.
  slices.symMergeCmpFunc at bindings where the second part has one element.
  slices.symMergeCmpFunc at bindings, the general case: the calls of itself are a hypothesis.
-/
import Derived.Test.YtgialbcohkpogaaGreatSuSteps
import Derived.Test.YtgialbcohkpogaaGreatSuOrder
import Derived.Deep.CutRange
namespace Go.Proofs.YtgialbcohkpogaaGreat
open Go.RowKit

/-- What an exchange of two elements finds. -/
structure Exch (w : World) (g p q : Nat) (x y : Bd) : Prop where
  c0 : w.cell? ⟨g, p * 5, none⟩ = some (.int .i64 x.var)
  c1 : w.cell? ⟨g, p * 5 + 1, none⟩ = some (.int .i64 x.tm.kind)
  c2 : w.cell? ⟨g, p * 5 + 2, none⟩ = some (.int .i64 x.tm.num)
  c3 : w.cell? ⟨g, p * 5 + 3, none⟩ = some (.string x.tm.name)
  c4 : w.cell? ⟨g, p * 5 + 4, none⟩ = some (.slice x.tm.at_ x.tm.args.length x.tm.cap)
  d0 : w.cell? ⟨g, q * 5, none⟩ = some (.int .i64 y.var)
  d1 : w.cell? ⟨g, q * 5 + 1, none⟩ = some (.int .i64 y.tm.kind)
  d2 : w.cell? ⟨g, q * 5 + 2, none⟩ = some (.int .i64 y.tm.num)
  d3 : w.cell? ⟨g, q * 5 + 3, none⟩ = some (.string y.tm.name)
  d4 : w.cell? ⟨g, q * 5 + 4, none⟩ = some (.slice y.tm.at_ y.tm.args.length y.tm.cap)
  e0 : (put5 w g p y).cell? ⟨g, q * 5, none⟩ = some (.int .i64 y.var)
  e1 : (put5 w g p y).cell? ⟨g, q * 5 + 1, none⟩ = some (.int .i64 y.tm.kind)
  e2 : (put5 w g p y).cell? ⟨g, q * 5 + 2, none⟩ = some (.int .i64 y.tm.num)
  e3 : (put5 w g p y).cell? ⟨g, q * 5 + 3, none⟩ = some (.string y.tm.name)
  e4 : (put5 w g p y).cell? ⟨g, q * 5 + 4, none⟩ = some (.slice y.tm.at_ y.tm.args.length y.tm.cap)
  fp0 : w.frozen? ⟨g, p * 5, none⟩ = false
  fp1 : w.frozen? ⟨g, p * 5 + 1, none⟩ = false
  fp2 : w.frozen? ⟨g, p * 5 + 2, none⟩ = false
  fp3 : w.frozen? ⟨g, p * 5 + 3, none⟩ = false
  fp4 : w.frozen? ⟨g, p * 5 + 4, none⟩ = false
  fq0 : w.frozen? ⟨g, q * 5, none⟩ = false
  fq1 : w.frozen? ⟨g, q * 5 + 1, none⟩ = false
  fq2 : w.frozen? ⟨g, q * 5 + 2, none⟩ = false
  fq3 : w.frozen? ⟨g, q * 5 + 3, none⟩ = false
  fq4 : w.frozen? ⟨g, q * 5 + 4, none⟩ = false
theorem Row5.exch {w : World} {g p q : Nat} {l : List Bd} (h : Row5 w g l) (hp : p < l.length) (hq : q < l.length) (hpq : p ≠ q) : Exch w g p q (l.getD p default) (l.getD q default) := by
  obtain ⟨c0, c1, c2, c3, c4⟩ := h.get hp
  obtain ⟨d0, d1, d2, d3, d4⟩ := h.get hq
  obtain ⟨e0, e1, e2, e3, e4⟩ := (h.put hp (l.getD q default)).get (i := q) (by rw [List.length_set]; exact hq)
  have hgq : (l.set p (l.getD q default)).getD q default = l.getD q default := by simp [List.getD, hpq]
  rw [hgq] at e0 e1 e2 e3 e4
  exact ⟨c0, c1, c2, c3, c4, d0, d1, d2, d3, d4, e0, e1, e2, e3, e4, h.2.1 _, h.2.1 _, h.2.1 _, h.2.1 _, h.2.1 _, h.2.1 _, h.2.1 _, h.2.1 _, h.2.1 _, h.2.1 _⟩
theorem ints_neg {x y : Bd} {r : Int} (hr : ints x.var y.var = r) : r < 0 ↔ x.var < y.var := by
  rw [← hr]; unfold ints
  split
  · simp [*]
  · split <;> simp [*]
/-- x on its way through B. -/
def passing (P : List Bd) (x : Bd) (B S : List Bd) (k : Nat) : List Bd := P ++ B.take k ++ x :: (B.drop k ++ S)
theorem passing_len (P : List Bd) (x : Bd) (B S : List Bd) (k : Nat) : (passing P x B S k).length = P.length + 1 + B.length + S.length := by
  simp [passing]; omega
theorem passing_next (P : List Bd) (x : Bd) (B S : List Bd) {k : Nat} (hk : k < B.length) : swpL (passing P x B S k) (P.length + k) (P.length + k + 1) = passing P x B S (k + 1) := by
  unfold passing
  rw [bdrop_next hk, btake_next hk]
  have := swpL_parts (P ++ B.take k) [] (B.drop (k + 1) ++ S) x (B.getD k default) (i := P.length + k) (j := P.length + k + 1) (by simp; omega) (by simp; omega)
  simpa using this
theorem passing_back (P : List Bd) (x : Bd) (B S : List Bd) {k : Nat} (hk : k < B.length) : swpL (passing P x B S (k + 1)) (P.length + k + 1) (P.length + k) = passing P x B S k := by
  unfold passing
  rw [bdrop_next hk, btake_next hk, swpL_symm _ (by omega)]
  have := swpL_parts (P ++ B.take k) [] (B.drop (k + 1) ++ S) (B.getD k default) x (i := P.length + k) (j := P.length + k + 1) (by simp; omega) (by simp; omega)
  simpa using this
theorem passing_stab (x : Bd) (B : List Bd) (k : Nat) (h : ∀ y ∈ B.take k, y.var ≠ x.var) : Stab ([x] ++ B) (B.take k ++ [x] ++ B.drop k) := by
  have h1 : Stab ([x] ++ B.take k) (B.take k ++ [x]) := stab_swap fun a ha b hb => by rw [List.mem_singleton.1 ha]; exact (h b hb).symm
  have := h1.append (Stab.refl (B.drop k))
  rwa [List.append_assoc, List.take_append_drop] at this
theorem passing_stab2 (x : Bd) (A : List Bd) (k : Nat) (h : ∀ y ∈ A.drop k, x.var ≠ y.var) : Stab (A ++ [x]) (A.take k ++ [x] ++ A.drop k) := by
  have h1 : Stab (A.drop k ++ [x]) ([x] ++ A.drop k) := stab_swap fun a ha b hb => by rw [List.mem_singleton.1 hb]; exact (h a ha).symm
  have := (Stab.refl (A.take k)).append h1
  rwa [← List.append_assoc, List.take_append_drop, ← List.append_assoc] at this
theorem passing_srt {x : Bd} {B : List Bd} {k : Nat} (hB : SrtL B) (h1 : ∀ y ∈ B.take k, y.var ≤ x.var) (h2 : ∀ y ∈ B.drop k, x.var ≤ y.var) : SrtL (B.take k ++ [x] ++ B.drop k) := by
  have hB' := hB
  rw [← List.take_append_drop k B, srtL_append] at hB'
  rw [srtL_append, srtL_append]
  refine ⟨⟨hB'.1, List.pairwise_singleton _ _, fun y hy z hz => by rw [List.mem_singleton.1 hz]; exact h1 y hy⟩, hB'.2.1, fun y hy z hz => ?_⟩
  rcases List.mem_append.1 hy with hy | hy
  · exact hB'.2.2 y hy z hz
  · rw [List.mem_singleton.1 hy]; exact h2 z hz

/-- What a merge leaves. -/
abbrev Merged (P A B S : List Bd) : List Bd → Prop := fun l' => ∃ M, l' = P ++ M ++ S ∧ Stab (A ++ B) M ∧ SrtL M

set_option maxHeartbeats 2000000 in
set_option maxRecDepth 100000 in
theorem sym_left (P : List Bd) (x : Bd) (B S : List Bd) (hB : SrtL B) (g c N : Nat) (w : World) (hN : N = P.length + 1 + B.length + S.length) (hN6 : N ≤ 1000000) (h : Row5 w g (P ++ [x] ++ B ++ S)) (a m b : Nat) (ha : a = P.length) (hm : m = P.length + 1) (hb : b = P.length + 1 + B.length) :
    Calls Tryz.prog 108 #[.slice (some ⟨g, 0, none⟩) N c, .int .i64 a, .int .i64 m, .int .i64 b, CMPV] w (Steps (Merged P [x] B S) g w) := by
  have hma : (m : Int) - (a : Int) = 1 := by omega
  have hbN : b ≤ N := by omega
  have HAM := Lib.hid (show m = a + 1 by omega)
  have hmb : m ≤ b := by omega
  have H0 := Lib.hid (show Row5 w g (passing P x B S 0) by unfold passing; simpa using h)
  have HLen := Lib.hid (fun k => (passing_len P x B S k).trans hN.symm)
  have hat : ∀ k, k < B.length → (passing P x B S 0).getD (m + k) default = B.getD k default := fun k hk => by
    unfold passing
    rw [hm, List.getD, List.getD]
    simp only [List.take_zero, List.append_nil, List.drop_zero]
    rw [show P ++ x :: (B ++ S) = (P ++ [x]) ++ (B ++ S) by simp, List.getElem?_append_right (by simp), List.getElem?_append_left (by simp; omega)]
    simp
  have hax : (passing P x B S 0).getD a default = x := by unfold passing; simp only [List.take_zero, List.append_nil]; exact getD_mid _ _ _ ha
  have HAT := Lib.hid hat
  have HAX := Lib.hid hax
  have HB := Lib.hid hB
  have HBL := Lib.hid (show m + B.length = b by omega)
  have HNX := Lib.hid (fun (k : Nat) (hk : k < B.length) => show swpL (passing P x B S k) (a + k) (a + k + 1) = passing P x B S (k + 1) by rw [ha]; exact passing_next P x B S hk)
  have HPs := Lib.hid (fun k => show passing P x B S k = P ++ (B.take k ++ [x] ++ B.drop k) ++ S by unfold passing; simp)
  clear h hat hax hB ha hm hb hN
  go_enter Tryz.func108, Tryz.ntmps108
  go_wp2_with fail
  go_loopw [10, 11] (fun s1 s2 wr => ∃ lo hi : Nat, s1 = .int .i64 lo ∧ s2 = .int .i64 hi ∧ m ≤ lo ∧ lo ≤ hi ∧ hi ≤ b ∧ Hid ((∀ k, m + k < lo → (B.getD k default).var < x.var) ∧ (∀ k, hi ≤ m + k → k < B.length → x.var ≤ (B.getD k default).var)) ∧ Hid (Row5 wr g (passing P x B S 0)) ∧ Hid (Keeps g w wr)) (fun s1 s2 _ => (intOf s2).toNat - (intOf s1).toNat)
  case atStart => exact ⟨m, b, rfl, rfl, Nat.le_refl _, hmb, Nat.le_refl _, Lib.hid ⟨fun k hk => by omega, fun k h1 h2 => by have := HBL.out; omega⟩, H0, Lib.hid (Keeps.refl _ _)⟩
  case round =>
    clear H0
    obtain ⟨lo, hi, rfl, rfl, hml, hlh, hhb, HI, HR, HK⟩ := hrel
    by_cases hlt : lo < hi
    · have ham := HAM.out
      have hBl := HBL.out
      obtain ⟨q, hq⟩ : ∃ q, q = (lo + hi) / 2 := ⟨_, rfl⟩
      have hq1 : ((lo : Int) + (hi : Int)) / 2 = (q : Int) := by omega
      have hqN : q < N := by omega
      have haN : a < N := by omega
      have hy : (passing P x B S 0).getD q default = B.getD (q - m) default := by rw [← HAT.out (q - m) (by omega)]; congr 1; omega
      obtain ⟨c0, c1, c2, c3, c4⟩ := HR.out.get (i := q) (by rw [HLen.out]; exact hqN)
      obtain ⟨d0, d1, d2, d3, d4⟩ := HR.out.get (i := a) (by rw [HLen.out]; exact haN)
      rw [hy] at c0 c1 c2 c3 c4
      rw [HAX.out] at d0 d1 d2 d3 d4
      obtain ⟨r, hr⟩ : ∃ r, ints (B.getD (q - m) default).var x.var = r := ⟨_, rfl⟩
      have hneg := ints_neg hr
      have Q := Lib.hid (fun W => compare_vars_below (B.getD (q - m) default) x W hr)
      have HLo := Lib.hid (fun (h : (B.getD (q - m) default).var < x.var) => show (∀ k, m + k < q + 1 → (B.getD k default).var < x.var) ∧ (∀ k, hi ≤ m + k → k < B.length → x.var ≤ (B.getD k default).var) from ⟨fun k hk => by
        have := HB.out.srt k (q - m) (by omega) (by omega)
        omega, HI.out.2⟩)
      have HHi := Lib.hid (fun (h : ¬ (B.getD (q - m) default).var < x.var) => show (∀ k, m + k < lo → (B.getD k default).var < x.var) ∧ (∀ k, q ≤ m + k → k < B.length → x.var ≤ (B.getD k default).var) from ⟨HI.out.1, fun k h1 h2 => by
        have := HB.out.srt (q - m) k (by omega) h2
        omega⟩)
      have HNeg := Lib.hid hneg
      clear hy hr hneg
      generalize B.getD (q - m) default = y at *
      obtain ⟨xv, xk, xn, xs, xA, xc, xa⟩ := x
      obtain ⟨yv, yk, yn, ys, yA, yc, ya⟩ := y
      simp only [Tm.kind, Tm.num, Tm.name, Tm.at_, Tm.args, Tm.cap] at c0 c1 c2 c3 c4 d0 d1 d2 d3 d4
      have c0' := cell_regrown c0
      have c1' := cell_regrown c1
      have c2' := cell_regrown c2
      have c3' := cell_regrown c3
      have c4' := cell_regrown c4
      have d0' := cell_regrown d0
      have d1' := cell_regrown d1
      have d2' := cell_regrown d2
      have d3' := cell_regrown d3
      have d4' := cell_regrown d4
      have hlq : lo ≤ q := by omega
      have hqh : q < hi := by omega
      clear hq ham hBl
      by_cases hrn : r < 0
      · have HE := Lib.hid (HLo.out (HNeg.out.1 hrn))
        clear HLo HHi HNeg
        go_wp2_with fail
        refine wp_region_quiet_below (by kernel_rfl) (by kernel_rfl) ?_
        repeat (go_big_quiet_step (first | (go_at_call 51; exact Calls.regrown_of (Q.out _))))
        refine wpQuiet_nil ?_
        intro w1 hw'
        have hb1 := regrown_below hw'
        have HR1 := Lib.hid (HR.out.below hb1)
        have HK1 := Lib.hid (HK.out.trans (Below.keeps hb1 g))
        clear hw' hb1
        go_wp2_with fail
        go_roundw
        case rel => exact ⟨q + 1, hi, by go_num, rfl, by omega, by omega, hhb, HE, HR1, HK1⟩
        case measure => simp [intOf]; omega
      · have HE := Lib.hid (HHi.out (fun h => hrn (HNeg.out.2 h)))
        clear HLo HHi HNeg
        go_wp2_with fail
        refine wp_region_quiet_below (by kernel_rfl) (by kernel_rfl) ?_
        repeat (go_big_quiet_step (first | (go_at_call 51; exact Calls.regrown_of (Q.out _))))
        refine wpQuiet_nil ?_
        intro w1 hw'
        have hb1 := regrown_below hw'
        have HR1 := Lib.hid (HR.out.below hb1)
        have HK1 := Lib.hid (HK.out.trans (Below.keeps hb1 g))
        clear hw' hb1
        go_wp2_with fail
        go_roundw
        case rel => exact ⟨lo, q, rfl, by go_num, hml, hlq, by omega, HE, HR1, HK1⟩
        case measure => simp [intOf]; omega
    · obtain rfl : hi = lo := by omega
      have ham := HAM.out
      have hBl := HBL.out
      obtain ⟨n, hn⟩ : ∃ n, n = hi - m := ⟨_, rfl⟩
      have hin : hi = m + n := by omega
      have HM := Lib.hid (show Merged P [x] B S (passing P x B S n) from ⟨B.take n ++ [x] ++ B.drop n, HPs.out n, passing_stab x B n (fun y hy => by
          obtain ⟨i, hi2, e⟩ := List.mem_iff_getElem.1 hy
          have hi3 : i < n := by simp at hi2; omega
          have h3 := HI.out.1 i (by omega)
          have h4 : B.getD i default = y := by rw [← e]; simp [List.getD, show i < B.length by omega]
          rw [h4] at h3
          omega), passing_srt HB.out (fun y hy => by
          obtain ⟨i, hi2, e⟩ := List.mem_iff_getElem.1 hy
          have hi3 : i < n := by simp at hi2; omega
          have h3 := HI.out.1 i (by omega)
          have h4 : B.getD i default = y := by rw [← e]; simp [List.getD, show i < B.length by omega]
          rw [h4] at h3
          omega) (fun y hy => by
          obtain ⟨i, hi2, e⟩ := List.mem_iff_getElem.1 hy
          have hi3 : n + i < B.length := by simp at hi2; omega
          have h3 := HI.out.2 (n + i) (by omega) hi3
          have h4 : B.getD (n + i) default = y := by rw [← e]; simp [List.getD, hi3]
          rw [h4] at h3
          exact h3)⟩)
      have hnB : n ≤ B.length := by omega
      have hi1 : (hi : Int) - 1 = ((a + n : Nat) : Int) := by omega
      obtain ⟨e, he⟩ : ∃ e, e = a + n := ⟨_, rfl⟩
      have HI1 := Lib.hid (show (hi : Int) - 1 = (e : Int) by omega)
      have HEq := Lib.hid (show e = a + n ∧ m = a + 1 ∧ m + B.length = b ∧ e ≤ N from ⟨he, ham, hBl, by omega⟩)
      clear hn HI hin he ham hBl hi1
      go_wp2_with fail
      go_loopw [13] (fun s1 wr => ∃ k : Nat, s1 = .int .i64 (a + k : Nat) ∧ k ≤ n ∧ Hid (Row5 wr g (passing P x B S k)) ∧ Hid (Keeps g w wr)) (fun s1 _ => e - (intOf s1).toNat)
      case atStart => exact ⟨0, rfl, Nat.zero_le _, HR, HK⟩
      case round =>
        clear HR HK
        obtain ⟨k, rfl, hk, HR, HK⟩ := hrel
        obtain ⟨hEq, hEq2, hEq3, hEq4⟩ := HEq.out
        have hi1 := HI1.out
        obtain ⟨p, hp⟩ : ∃ p, p = a + k := ⟨_, rfl⟩
        have HNk := Lib.hid (HNX.out k)
        rw [← hp] at HNk ⊢
        by_cases hlk : k < n
        · have hlp : decide ((p : Int) < (hi : Int) - 1) = true := decide_eq_true (by omega)
          have hpN : p < N := by omega
          obtain ⟨q, hq⟩ : ∃ q, q = p + 1 := ⟨_, rfl⟩
          have hq1 : (p : Int) + 1 = (q : Int) := by omega
          have hqN : q < N := by omega
          have hpq : p ≠ q := by omega
          have hsw := HNk.out (by omega)
          rw [← hq] at hsw
          have HSW := Lib.hid hsw
          have hX := HR.out.exch (p := p) (q := q) (by rw [HLen.out]; exact hpN) (by rw [HLen.out]; exact hqN) hpq
          have HFin := Lib.hid (show Row5 (put5 (put5 wr g p ((passing P x B S k).getD q default)) g q ((passing P x B S k).getD p default)).drew g (passing P x B S (k + 1)) by
            rw [← HSW.out]; exact (HR.out.swap (by rw [HLen.out]; exact hpN) (by rw [HLen.out]; exact hqN)).drew)
          have HKin := Lib.hid ((put5_keeps (i := q) (x := (passing P x B S k).getD p default) w (put5_keeps (i := p) (x := (passing P x B S k).getD q default) w HK.out)).drew)
          generalize (passing P x B S k).getD p default = u at *
          generalize (passing P x B S k).getD q default = v at *
          obtain ⟨uv, uk, un, us, uA, uc, ua⟩ := u
          obtain ⟨vv, vk, vn, vs, vA, vc, va⟩ := v
          obtain ⟨c0, c1, c2, c3, c4, d0, d1, d2, d3, d4, e0, e1, e2, e3, e4, fp0, fp1, fp2, fp3, fp4, fq0, fq1, fq2, fq3, fq4⟩ := hX
          simp only [put5, Tm.kind, Tm.num, Tm.name, Tm.at_, Tm.args, Tm.cap] at c0 c1 c2 c3 c4 d0 d1 d2 d3 d4 e0 e1 e2 e3 e4 HFin HKin
          have pz : (p : Int) < (N : Int) := by omega
          have qz : (q : Int) < (N : Int) := by omega
          have HQK := Lib.hid (show q = a + (k + 1) by omega)
          have hpe : p < e := by omega
          have hqp : q ≤ p + 1 ∧ p < q := by omega
          clear hsw HSW HR HK hp hq HNk hEq hEq2 hEq3 hEq4 hi1
          go_wp2_with fail
          go_region
          all_goals go_wp2
          go_roundw
          case rel => exact ⟨k + 1, by rw [← HQK.out], by omega, HFin, HKin⟩
          case measure => simp [intOf]; omega
        · obtain rfl : k = n := by omega
          have hlp : decide ((p : Int) < (hi : Int) - 1) = false := decide_eq_false (by omega)
          clear hEq hEq2 hEq3 hEq4 hp HNk hi1
          go_wp2_with fail
          go_end0
          exact ⟨rfl, _, HM.out, HR.out, HK.out⟩
end Go.Proofs.YtgialbcohkpogaaGreat
namespace Go.Proofs.YtgialbcohkpogaaGreat

theorem srt_first {l : List Bd} (h : SrtL l) {i j : Nat} (hij : i ≤ j) (hj : j < l.length) : (l.getD i default).var ≤ (l.getD j default).var := h.srt i j hij hj
theorem mem_take {l : List Bd} {k : Nat} {x : Bd} (h : x ∈ l.take k) : ∃ i, i < k ∧ i < l.length ∧ l.getD i default = x := by
  obtain ⟨i, hi, e⟩ := List.mem_iff_getElem.1 h
  have hi2 : i < k ∧ i < l.length := by simp at hi; omega
  exact ⟨i, hi2.1, hi2.2, by rw [← e]; simp [List.getD, hi2.2]⟩
theorem mem_drop {l : List Bd} {k : Nat} {x : Bd} (h : x ∈ l.drop k) : ∃ i, k ≤ i ∧ i < l.length ∧ l.getD i default = x := by
  obtain ⟨i, hi, e⟩ := List.mem_iff_getElem.1 h
  have hi2 : k + i < l.length := by simp at hi; omega
  exact ⟨k + i, by omega, hi2, by rw [← e]; simp [List.getD, hi2]⟩
/-- Behind the search: what is moved up is strictly below what is moved down; the rest is in order. -/
theorem sym_facts {A B : List Bd} (hA : SrtL A) (hB : SrtL B) {h s : Nat} (hh : h = (A.length + B.length) / 2) (h0 : h - B.length ≤ s) (h1 : s ≤ min h A.length)
    (hlo : h - B.length < s → (A.getD (s - 1) default).var ≤ (B.getD (h - s) default).var) (hhi : s < min h A.length → (B.getD (h - 1 - s) default).var < (A.getD s default).var) :
    (∀ x ∈ A.drop s, ∀ y ∈ B.take (h - s), y.var < x.var) ∧ (∀ x ∈ A.take s, ∀ y ∈ B.drop (h - s), x.var ≤ y.var) := by
  have h2 : s ≤ h := by omega
  have h3 : s ≤ A.length := by omega
  refine ⟨fun x hx y hy => ?_, fun x hx y hy => ?_⟩
  · obtain ⟨i, hi1, hi2, rfl⟩ := mem_drop hx
    obtain ⟨j, hj1, hj2, rfl⟩ := mem_take hy
    have h4 := hhi (by omega)
    have h5 := srt_first hA hi1 hi2
    have h6 := srt_first hB (show j ≤ h - 1 - s by omega) (by omega)
    omega
  · obtain ⟨i, hi1, hi2, rfl⟩ := mem_take hx
    obtain ⟨j, hj1, hj2, rfl⟩ := mem_drop hy
    have h4 := hlo (by omega)
    have h5 := srt_first hA (show i ≤ s - 1 by omega) (by omega)
    have h6 := srt_first hB hj1 hj2
    omega
theorem sym_stab {A B A1 A2 B1 B2 M1 M2 : List Bd} (eA : A = A1 ++ A2) (eB : B = B1 ++ B2) (h : ∀ x ∈ A2, ∀ y ∈ B1, y.var < x.var) (h1 : Stab (A1 ++ B1) M1) (h2 : Stab (A2 ++ B2) M2) : Stab (A ++ B) (M1 ++ M2) := by
  have h3 : Stab (A2 ++ B1) (B1 ++ A2) := stab_swap fun x hx y hy => by have := h x hx y hy; omega
  have h4 := ((Stab.refl A1).append h3).append (Stab.refl B2)
  have h5 := h1.append h2
  subst eA eB
  have e1 : A1 ++ (A2 ++ B1) ++ B2 = A1 ++ A2 ++ (B1 ++ B2) := by simp
  have e2 : A1 ++ (B1 ++ A2) ++ B2 = A1 ++ B1 ++ (A2 ++ B2) := by simp
  rw [e1, e2] at h4
  exact h4.trans h5
theorem sym_srt {A B A1 A2 B1 B2 M1 M2 : List Bd} (hA : SrtL A) (hB : SrtL B) (eA : A = A1 ++ A2) (eB : B = B1 ++ B2) (h : ∀ x ∈ A2, ∀ y ∈ B1, y.var < x.var) (h' : ∀ x ∈ A1, ∀ y ∈ B2, x.var ≤ y.var) (h1 : Stab (A1 ++ B1) M1) (h2 : Stab (A2 ++ B2) M2) (s1 : SrtL M1) (s2 : SrtL M2) : SrtL (M1 ++ M2) := by
  subst eA eB
  have a := srtL_append.1 hA
  have b := srtL_append.1 hB
  refine srtL_append.2 ⟨s1, s2, SrtL.stab_le (fun x hx y hy => ?_) h1 h2⟩
  rcases List.mem_append.1 hx with hx | hx <;> rcases List.mem_append.1 hy with hy | hy
  · exact a.2.2 x hx y hy
  · exact h' x hx y hy
  · exact Int.le_of_lt (h y hy x hx)
  · exact b.2.2 x hx y hy
end Go.Proofs.YtgialbcohkpogaaGreat
namespace Go.Proofs.YtgialbcohkpogaaGreat
open Go.RowKit

set_option maxHeartbeats 8000000 in
set_option maxRecDepth 100000 in
theorem sym_right (P A : List Bd) (x : Bd) (S : List Bd) (hA : SrtL A) (hA1 : A.length ≠ 1) (g c N : Nat) (w : World) (hN : N = P.length + A.length + 1 + S.length) (hN6 : N ≤ 1000000) (h : Row5 w g (P ++ A ++ [x] ++ S)) (a m b : Nat) (ha : a = P.length) (hm : m = P.length + A.length) (hb : b = P.length + A.length + 1) :
    Calls Tryz.prog 108 #[.slice (some ⟨g, 0, none⟩) N c, .int .i64 a, .int .i64 m, .int .i64 b, CMPV] w (Steps (Merged P A [x] S) g w) := by
  obtain ⟨d, hd⟩ : ∃ d, d = A.length := ⟨_, rfl⟩
  have hma : (m : Int) - (a : Int) = (d : Int) := by omega
  have hma1 : ((d : Int) == 1) = false := by simp; omega
  have hbm : (b : Int) - (m : Int) = 1 := by omega
  have hbN : b ≤ N := by omega
  have hmN : m < N := by omega
  have ham : a ≤ m := by omega
  have H0 := Lib.hid (show Row5 w g (passing P x A S A.length) by unfold passing; rw [List.take_length, List.drop_length]; simpa using h)
  have HLen := Lib.hid (fun k => (passing_len P x A S k).trans (show P.length + 1 + A.length + S.length = N by omega))
  have hat : ∀ k, k < A.length → (passing P x A S A.length).getD (a + k) default = A.getD k default := fun k hk => by
    unfold passing
    rw [ha, List.getD, List.getD, List.take_length, List.drop_length, List.getElem?_append_left (by simp; omega), List.getElem?_append_right (by omega)]
    simp
  have hax : (passing P x A S A.length).getD m default = x := by unfold passing; rw [List.take_length]; exact getD_mid _ _ _ (by simp; omega)
  have HAT := Lib.hid hat
  have HAX := Lib.hid hax
  have HA := Lib.hid hA
  have HAL := Lib.hid (show a + A.length = m ∧ d = A.length from ⟨by omega, hd⟩)
  have HNX := Lib.hid (fun (k : Nat) (hk : k < A.length) => show swpL (passing P x A S (k + 1)) (a + k + 1) (a + k) = passing P x A S k by rw [ha]; exact passing_back P x A S hk)
  have HPs := Lib.hid (fun k => show passing P x A S k = P ++ (A.take k ++ [x] ++ A.drop k) ++ S by unfold passing; simp)
  clear h hat hax hA ha hm hb hN hA1 hd
  go_enter Tryz.func108, Tryz.ntmps108
  go_wp2_with fail
  go_loopw [14, 15] (fun s1 s2 wr => ∃ lo hi : Nat, s1 = .int .i64 lo ∧ s2 = .int .i64 hi ∧ a ≤ lo ∧ lo ≤ hi ∧ hi ≤ m ∧ Hid ((∀ k, a + k < lo → (A.getD k default).var ≤ x.var) ∧ (∀ k, hi ≤ a + k → k < A.length → x.var < (A.getD k default).var)) ∧ Hid (Row5 wr g (passing P x A S A.length)) ∧ Hid (Keeps g w wr)) (fun s1 s2 _ => (intOf s2).toNat - (intOf s1).toNat)
  case atStart => exact ⟨a, m, rfl, rfl, Nat.le_refl _, ham, Nat.le_refl _, Lib.hid ⟨fun k hk => by omega, fun k h1 h2 => by have := HAL.out.1; omega⟩, H0, Lib.hid (Keeps.refl _ _)⟩
  case round =>
    clear H0
    obtain ⟨lo, hi, rfl, rfl, hml, hlh, hhb, HI, HR, HK⟩ := hrel
    by_cases hlt : lo < hi
    · obtain ⟨hAl, hdA⟩ := HAL.out
      obtain ⟨q, hq⟩ : ∃ q, q = (lo + hi) / 2 := ⟨_, rfl⟩
      have hq1 : ((lo : Int) + (hi : Int)) / 2 = (q : Int) := by omega
      have hqN : q < N := by omega
      have hy : (passing P x A S A.length).getD q default = A.getD (q - a) default := by rw [← HAT.out (q - a) (by omega)]; congr 1; omega
      obtain ⟨c0, c1, c2, c3, c4⟩ := HR.out.get (i := q) (by rw [HLen.out]; exact hqN)
      obtain ⟨d0, d1, d2, d3, d4⟩ := HR.out.get (i := m) (by rw [HLen.out]; exact hmN)
      rw [hy] at c0 c1 c2 c3 c4
      rw [HAX.out] at d0 d1 d2 d3 d4
      obtain ⟨r, hr⟩ : ∃ r, ints x.var (A.getD (q - a) default).var = r := ⟨_, rfl⟩
      have hneg := ints_neg hr
      have Q := Lib.hid (fun W => compare_vars_below x (A.getD (q - a) default) W hr)
      have HLo := Lib.hid (fun (h : ¬ x.var < (A.getD (q - a) default).var) => show (∀ k, a + k < q + 1 → (A.getD k default).var ≤ x.var) ∧ (∀ k, hi ≤ a + k → k < A.length → x.var < (A.getD k default).var) from ⟨fun k hk => by
        have := HA.out.srt k (q - a) (by omega) (by omega)
        omega, HI.out.2⟩)
      have HHi := Lib.hid (fun (h : x.var < (A.getD (q - a) default).var) => show (∀ k, a + k < lo → (A.getD k default).var ≤ x.var) ∧ (∀ k, q ≤ a + k → k < A.length → x.var < (A.getD k default).var) from ⟨HI.out.1, fun k h1 h2 => by
        have := HA.out.srt (q - a) k (by omega) h2
        omega⟩)
      have HNeg := Lib.hid hneg
      clear hy hr hneg
      generalize A.getD (q - a) default = y at *
      obtain ⟨xv, xk, xn, xs, xA, xc, xa⟩ := x
      obtain ⟨yv, yk, yn, ys, yA, yc, ya⟩ := y
      simp only [Tm.kind, Tm.num, Tm.name, Tm.at_, Tm.args, Tm.cap] at c0 c1 c2 c3 c4 d0 d1 d2 d3 d4
      have c0' := cell_regrown c0
      have c1' := cell_regrown c1
      have c2' := cell_regrown c2
      have c3' := cell_regrown c3
      have c4' := cell_regrown c4
      have d0' := cell_regrown d0
      have d1' := cell_regrown d1
      have d2' := cell_regrown d2
      have d3' := cell_regrown d3
      have d4' := cell_regrown d4
      have hlq : lo ≤ q := by omega
      have hqh : q < hi := by omega
      clear hq hAl hdA
      by_cases hrn : r < 0
      · have HE := Lib.hid (HHi.out (HNeg.out.1 hrn))
        have hrn' : decide (r < 0) = true := decide_eq_true hrn
        clear HLo HHi HNeg
        go_wp2_with fail
        refine wp_region_quiet_below (by kernel_rfl) (by kernel_rfl) ?_
        repeat (go_big_quiet_step (first | (go_at_call 51; exact Calls.regrown_of (Q.out _))))
        refine wpQuiet_nil ?_
        intro w1 hw'
        have hb1 := regrown_below hw'
        have HR1 := Lib.hid (HR.out.below hb1)
        have HK1 := Lib.hid (HK.out.trans (Below.keeps hb1 g))
        clear hw' hb1
        go_wp2_with fail
        go_roundw
        case rel => exact ⟨lo, q, rfl, by go_num, hml, hlq, by omega, HE, HR1, HK1⟩
        case measure => simp [intOf]; omega
      · have HE := Lib.hid (HLo.out (fun h => hrn (HNeg.out.2 h)))
        have hrn' : decide (r < 0) = false := decide_eq_false hrn
        clear HLo HHi HNeg
        go_wp2_with fail
        refine wp_region_quiet_below (by kernel_rfl) (by kernel_rfl) ?_
        repeat (go_big_quiet_step (first | (go_at_call 51; exact Calls.regrown_of (Q.out _))))
        refine wpQuiet_nil ?_
        intro w1 hw'
        have hb1 := regrown_below hw'
        have HR1 := Lib.hid (HR.out.below hb1)
        have HK1 := Lib.hid (HK.out.trans (Below.keeps hb1 g))
        clear hw' hb1
        go_wp2_with fail
        go_roundw
        case rel => exact ⟨q + 1, hi, by go_num, rfl, by omega, by omega, hhb, HE, HR1, HK1⟩
        case measure => simp [intOf]; omega
    · obtain rfl : hi = lo := by omega
      obtain ⟨hAl, hdA⟩ := HAL.out
      obtain ⟨n, hn⟩ : ∃ n, n = hi - a := ⟨_, rfl⟩
      have hin : hi = a + n := by omega
      have HM := Lib.hid (show Merged P A [x] S (passing P x A S n) from ⟨A.take n ++ [x] ++ A.drop n, HPs.out n, passing_stab2 x A n (fun y hy => by
          obtain ⟨i, hi2, e⟩ := List.mem_iff_getElem.1 hy
          have hi3 : n + i < A.length := by simp at hi2; omega
          have h3 := HI.out.2 (n + i) (by omega) hi3
          have h4 : A.getD (n + i) default = y := by rw [← e]; simp [List.getD, hi3]
          rw [h4] at h3
          omega), passing_srt HA.out (fun y hy => by
          obtain ⟨i, hi2, e⟩ := List.mem_iff_getElem.1 hy
          have hi3 : i < n := by simp at hi2; omega
          have h3 := HI.out.1 i (by omega)
          have h4 : A.getD i default = y := by rw [← e]; simp [List.getD, show i < A.length by omega]
          rw [h4] at h3
          exact h3) (fun y hy => by
          obtain ⟨i, hi2, e⟩ := List.mem_iff_getElem.1 hy
          have hi3 : n + i < A.length := by simp at hi2; omega
          have h3 := HI.out.2 (n + i) (by omega) hi3
          have h4 : A.getD (n + i) default = y := by rw [← e]; simp [List.getD, hi3]
          rw [h4] at h3
          omega)⟩)
      have HEq := Lib.hid (show hi = a + n ∧ a + A.length = m ∧ n ≤ A.length from ⟨hin, hAl, by omega⟩)
      clear hn HI hin hAl hdA
      go_wp2_with fail
      go_loopw [17] (fun s1 wr => ∃ k : Nat, s1 = .int .i64 (a + k : Nat) ∧ n ≤ k ∧ k ≤ A.length ∧ Hid (Row5 wr g (passing P x A S k)) ∧ Hid (Keeps g w wr)) (fun s1 _ => (intOf s1).toNat)
      case atStart => exact ⟨A.length, by rw [HEq.out.2.1], HEq.out.2.2, Nat.le_refl _, HR, HK⟩
      case round =>
        clear HR HK
        obtain ⟨k, rfl, hk, hkA, HR, HK⟩ := hrel
        obtain ⟨hEq, hEq2, hEq3⟩ := HEq.out
        obtain ⟨p, hp⟩ : ∃ p, p = a + k := ⟨_, rfl⟩
        rw [← hp]
        by_cases hlk : n < k
        · obtain ⟨kp, rfl⟩ : ∃ kp, k = kp + 1 := ⟨k - 1, by omega⟩
          have hlp : hi < p := by omega
          have hpN : p < N := by omega
          obtain ⟨q, hq⟩ : ∃ q, q = a + kp := ⟨_, rfl⟩
          have hq1 : (p : Int) - 1 = (q : Int) := by omega
          have hqN : q < N := by omega
          have hpq : p ≠ q := by omega
          have hsw := HNX.out kp (by omega)
          rw [show a + kp + 1 = p by omega, ← hq] at hsw
          have HSW := Lib.hid hsw
          have hX := HR.out.exch (p := p) (q := q) (by rw [HLen.out]; exact hpN) (by rw [HLen.out]; exact hqN) hpq
          have HFin := Lib.hid (show Row5 (put5 (put5 wr g p ((passing P x A S (kp + 1)).getD q default)) g q ((passing P x A S (kp + 1)).getD p default)).drew g (passing P x A S kp) by
            rw [← HSW.out]; exact (HR.out.swap (by rw [HLen.out]; exact hpN) (by rw [HLen.out]; exact hqN)).drew)
          have HKin := Lib.hid ((put5_keeps (i := q) (x := (passing P x A S (kp + 1)).getD p default) w (put5_keeps (i := p) (x := (passing P x A S (kp + 1)).getD q default) w HK.out)).drew)
          generalize (passing P x A S (kp + 1)).getD p default = u at *
          generalize (passing P x A S (kp + 1)).getD q default = v at *
          obtain ⟨uv, uk, un, us, uA, uc, ua⟩ := u
          obtain ⟨vv, vk, vn, vs, vA, vc, va⟩ := v
          obtain ⟨c0, c1, c2, c3, c4, d0, d1, d2, d3, d4, e0, e1, e2, e3, e4, fp0, fp1, fp2, fp3, fp4, fq0, fq1, fq2, fq3, fq4⟩ := hX
          simp only [put5, Tm.kind, Tm.num, Tm.name, Tm.at_, Tm.args, Tm.cap] at c0 c1 c2 c3 c4 d0 d1 d2 d3 d4 e0 e1 e2 e3 e4 HFin HKin
          have pz : (p : Int) < (N : Int) := by omega
          have qz : (q : Int) < (N : Int) := by omega
          have HQK := Lib.hid (show q = a + kp by omega)
          have hqp : q < p := by omega
          have hnk : n ≤ kp ∧ kp ≤ A.length := by omega
          clear hsw HSW HR HK hp hq hEq hEq2 hEq3 hlk hk hkA
          go_wp2_with fail
          go_region
          all_goals go_wp2
          go_roundw
          case rel => exact ⟨kp, by rw [← HQK.out], hnk.1, hnk.2, HFin, HKin⟩
          case measure => simp [intOf]; omega
        · obtain rfl : k = n := by omega
          have hlp : ¬ hi < p := by omega
          clear hEq hEq2 hEq3 hp
          go_wp2_with fail
          go_end0
          exact ⟨rfl, _, HM.out, HR.out, HK.out⟩
end Go.Proofs.YtgialbcohkpogaaGreat
namespace Go.Proofs.YtgialbcohkpogaaGreat
open Go.RowKit

/-- What the calls of itself leave. -/
def SymIH (g c N k : Nat) : Prop := ∀ (P A B S : List Bd) (w : World) (a m b : Nat), 0 < A.length → 0 < B.length → A.length + B.length < k → SrtL A → SrtL B → N = P.length + A.length + B.length + S.length → Row5 w g (P ++ A ++ B ++ S) → a = P.length → m = P.length + A.length → b = P.length + A.length + B.length →
    Calls Tryz.prog 108 #[.slice (some ⟨g, 0, none⟩) N c, .int .i64 a, .int .i64 m, .int .i64 b, CMPV] w (Steps (Merged P A B S) g w)
/-- What the search knows. -/
def SInv (A B : List Bd) (h s0 r0 lo hi : Nat) : Prop :=
  (s0 < lo → (A.getD (lo - 1) default).var ≤ (B.getD (h - lo) default).var) ∧ (hi < r0 → (B.getD (h - 1 - hi) default).var < (A.getD hi default).var)
theorem srt_or {X Y : List Bd} (hX : SrtL X) (hY : SrtL Y) (h : X.length = 0 ∨ Y.length = 0) : SrtL (X ++ Y) := by
  rcases h with h | h <;> rw [List.length_eq_zero_iff] at h <;> subst h
  · simpa using hY
  · simpa using hX
theorem move_none {P A1 A2 B1 B2 S : List Bd} (h : A2.length = 0 ∨ B1.length = 0) : P ++ A1 ++ A2 ++ B1 ++ B2 ++ S = P ++ A1 ++ B1 ++ A2 ++ B2 ++ S := by
  rcases h with h | h <;> rw [List.length_eq_zero_iff] at h <;> subst h <;> simp
theorem getD_second (P A B S : List Bd) {k i : Nat} (hk : k < A.length) (hi : i = P.length + k) : (P ++ A ++ B ++ S).getD i default = A.getD k default := by
  subst hi
  rw [List.getD, List.getD, List.append_assoc (P ++ A), List.getElem?_append_left (by simp; omega), List.getElem?_append_right (by omega)]
  simp
theorem getD_third (P A B S : List Bd) {k i : Nat} (hk : k < B.length) (hi : i = P.length + A.length + k) : (P ++ A ++ B ++ S).getD i default = B.getD k default := by
  subst hi
  rw [List.getD, List.getD, List.getElem?_append_left (by simp; omega), List.getElem?_append_right (by simp)]
  simp [Nat.add_sub_cancel_left]
/-- Where the search ends. -/
structure Parted (A B A1 A2 B1 B2 : List Bd) : Prop where
  eA : A = A1 ++ A2
  eB : B = B1 ++ B2
  lt : ∀ x ∈ A2, ∀ y ∈ B1, y.var < x.var
  le : ∀ x ∈ A1, ∀ y ∈ B2, x.var ≤ y.var
  sA1 : SrtL A1
  sA2 : SrtL A2
  sB1 : SrtL B1
  sB2 : SrtL B2
theorem parted {A B : List Bd} (hA : SrtL A) (hB : SrtL B) {h s : Nat} (hh : h = (A.length + B.length) / 2) (h0 : h - B.length ≤ s) (h1 : s ≤ min h A.length) (hi : SInv A B h (h - B.length) (min h A.length) s s) :
    Parted A B (A.take s) (A.drop s) (B.take (h - s)) (B.drop (h - s)) := by
  obtain ⟨h2, h3⟩ := sym_facts hA hB hh h0 h1 hi.1 hi.2
  have eA := (List.take_append_drop s A).symm
  have eB := (List.take_append_drop (h - s) B).symm
  have a := srtL_append.1 (eA ▸ hA)
  have b := srtL_append.1 (eB ▸ hB)
  exact ⟨eA, eB, h2, h3, a.1, a.2.1, b.1, b.2.1⟩

set_option maxHeartbeats 8000000 in
set_option maxRecDepth 100000 in
theorem sym_step (P A B S : List Bd) (hA : SrtL A) (hB : SrtL B) (hA2 : 2 ≤ A.length) (hB2 : 2 ≤ B.length) (g c N : Nat) (w : World) (hN : N = P.length + A.length + B.length + S.length) (hN6 : N ≤ 1000000) (h : Row5 w g (P ++ A ++ B ++ S)) (a m b : Nat) (ha : a = P.length) (hm : m = P.length + A.length) (hb : b = P.length + A.length + B.length) (ih : SymIH g c N (A.length + B.length)) :
    Calls Tryz.prog 108 #[.slice (some ⟨g, 0, none⟩) N c, .int .i64 a, .int .i64 m, .int .i64 b, CMPV] w (Steps (Merged P A B S) g w) := by
  obtain ⟨d, hd⟩ : ∃ d, d = A.length := ⟨_, rfl⟩
  obtain ⟨f, hf⟩ : ∃ f, f = B.length := ⟨_, rfl⟩
  obtain ⟨k0, hk0⟩ : ∃ k0, k0 = (A.length + B.length) / 2 := ⟨_, rfl⟩
  obtain ⟨mid, hmid⟩ : ∃ mid, mid = a + k0 := ⟨_, rfl⟩
  obtain ⟨nn, hnn⟩ : ∃ nn, nn = mid + m := ⟨_, rfl⟩
  obtain ⟨pp, hpp⟩ : ∃ pp, pp = nn - 1 := ⟨_, rfl⟩
  obtain ⟨lo0, hlo0⟩ : ∃ lo0, lo0 = a + (k0 - B.length) := ⟨_, rfl⟩
  obtain ⟨hi0, hhi0⟩ : ∃ hi0, hi0 = a + min k0 A.length := ⟨_, rfl⟩
  have i1 : (m : Int) - (a : Int) = (d : Int) := by omega
  have i2 : ((d : Int) == 1) = false := by simp; omega
  have i3 : (b : Int) - (m : Int) = (f : Int) := by omega
  have i4 : ((f : Int) == 1) = false := by simp; omega
  have i5 : ((a : Int) + (b : Int)) / 2 = (mid : Int) := by omega
  have i6 : (mid : Int) + (m : Int) = (nn : Int) := by omega
  have i7 : (nn : Int) - 1 = (pp : Int) := by omega
  have hbN : b ≤ N := by omega
  have haN : a ≤ N := by omega
  have hmN : m ≤ N := by omega
  have hmdN : mid ≤ N := by omega
  have hnN : nn ≤ 2000000 := by omega
  have hhN : hi0 ≤ N := by omega
  have hlh0 : lo0 ≤ hi0 := by omega
  have HNum := Lib.hid (show d = A.length ∧ f = B.length ∧ k0 = (A.length + B.length) / 2 ∧ mid = a + k0 ∧ nn = mid + m ∧ pp = nn - 1 ∧ lo0 = a + (k0 - B.length) ∧ hi0 = a + min k0 A.length ∧ m = a + A.length ∧ b = m + B.length ∧ a = P.length ∧ m = P.length + A.length ∧ b = P.length + A.length + B.length ∧ 2 ≤ A.length ∧ 2 ≤ B.length ∧ N = P.length + A.length + B.length + S.length from
    ⟨hd, hf, hk0, hmid, hnn, hpp, hlo0, hhi0, by omega, by omega, ha, hm, hb, hA2, hB2, hN⟩)
  have HR := Lib.hid h
  have IH := Lib.hid ih
  have HA := Lib.hid hA
  have HB := Lib.hid hB
  have HGA := Lib.hid (fun k i (hk : k < A.length) (hi : i = P.length + k) => getD_second P A B S hk hi)
  have HGB := Lib.hid (fun k i (hk : k < B.length) (hi : i = P.length + A.length + k) => getD_third P A B S hk hi)
  have HLen := Lib.hid (show (P ++ A ++ B ++ S).length = N by simp; omega)
  obtain ⟨L, hL⟩ : ∃ L, L = P ++ A ++ B ++ S := ⟨_, rfl⟩
  rw [← hL] at HR HGA HGB HLen
  have HL := Lib.hid hL
  clear hd hf hk0 hmid hnn hpp hlo0 hhi0 ha hm hb hA2 hB2 hN h ih hA hB hL
  go_enter Tryz.func108, Tryz.ntmps108
  go_upto_if 140 with (fail)
  go_cut [20, 21] from 141 to 146 (fun s1 s2 W => s1 = .int .i64 lo0 ∧ s2 = .int .i64 hi0 ∧ W = w)
  case first =>
    obtain ⟨n1, n2, n3, n4, n5, n6, n7, n8, n9, n10, -⟩ := HNum.out
    by_cases hmm : mid < m
    · have j1 : (nn : Int) - (b : Int) = (lo0 : Int) := by omega
      have HJ := Lib.hid (show mid = hi0 by omega)
      clear n1 n2 n3 n4 n5 n6 n7 n8 n9 n10
      go_wp2_with fail
      go_meet
      exact ⟨rfl, by rw [HJ.out], rfl⟩
    · have HJ := Lib.hid (show a = lo0 ∧ m = hi0 from ⟨by omega, by omega⟩)
      clear n1 n2 n3 n4 n5 n6 n7 n8 n9 n10
      go_wp2_with fail
      go_meet
      exact ⟨by rw [HJ.out.1], by rw [HJ.out.2], rfl⟩
  case rest =>
    obtain ⟨rfl, rfl, hw⟩ := hcut
    have hw2 := hw.symm
    clear hw
    subst hw2
    have HInv := Lib.hid (show SInv A B k0 (k0 - B.length) (min k0 A.length) (lo0 - a) (hi0 - a) from by
      obtain ⟨-, -, n3, n4, n5, n6, n7, n8, n9, n10, -⟩ := HNum.out
      exact ⟨fun h => absurd h (by omega), fun h => absurd h (by omega)⟩)
    go_wp2_with fail
    go_loopw [20, 21] (fun s1 s2 wr => ∃ lo hi : Nat, s1 = .int .i64 lo ∧ s2 = .int .i64 hi ∧ lo0 ≤ lo ∧ lo ≤ hi ∧ hi ≤ hi0 ∧ Hid (SInv A B k0 (k0 - B.length) (min k0 A.length) (lo - a) (hi - a)) ∧ Hid (Row5 wr g L) ∧ Hid (Keeps g w wr)) (fun s1 s2 _ => (intOf s2).toNat - (intOf s1).toNat)
    case atStart => exact ⟨lo0, hi0, rfl, rfl, Nat.le_refl _, hlh0, Nat.le_refl _, HInv, HR, Lib.hid (Keeps.refl _ _)⟩
    case round =>
      clear HR HInv
      obtain ⟨lo, hi, rfl, rfl, hll, hlh, hhh, HI, HR, HK⟩ := hrel
      by_cases hlt : lo < hi
      · obtain ⟨n1, n2, n3, n4, n5, n6, n7, n8, n9, n10, n11, n12, n13, n14, n15, n16⟩ := HNum.out
        obtain ⟨q, hq⟩ : ∃ q, q = (lo + hi) / 2 := ⟨_, rfl⟩
        obtain ⟨k, hk⟩ : ∃ k, k = q - a := ⟨_, rfl⟩
        obtain ⟨u, hu⟩ : ∃ u, u = pp - q := ⟨_, rfl⟩
        have hq1 : ((lo : Int) + (hi : Int)) / 2 = (q : Int) := by omega
        have hu1 : (pp : Int) - (q : Int) = (u : Int) := by omega
        have hqN : q < N := by omega
        have huN : u < N := by omega
        have hx := HGA.out k q (by omega) (by omega)
        have hy := HGB.out (k0 - 1 - k) u (by omega) (by omega)
        obtain ⟨c0, c1, c2, c3, c4⟩ := HR.out.get (i := u) (by rw [HLen.out]; exact huN)
        obtain ⟨d0, d1, d2, d3, d4⟩ := HR.out.get (i := q) (by rw [HLen.out]; exact hqN)
        rw [hy] at c0 c1 c2 c3 c4
        rw [hx] at d0 d1 d2 d3 d4
        obtain ⟨r, hr⟩ : ∃ r, ints (B.getD (k0 - 1 - k) default).var (A.getD k default).var = r := ⟨_, rfl⟩
        have hneg := ints_neg hr
        have Q := Lib.hid (fun W => compare_vars_below (B.getD (k0 - 1 - k) default) (A.getD k default) W hr)
        have HLo := Lib.hid (fun (h : ¬ (B.getD (k0 - 1 - k) default).var < (A.getD k default).var) => show SInv A B k0 (k0 - B.length) (min k0 A.length) (q + 1 - a) (hi - a) from ⟨fun _ => by
          rw [show q + 1 - a - 1 = k by omega, show k0 - (q + 1 - a) = k0 - 1 - k by omega]; omega, HI.out.2⟩)
        have HHi := Lib.hid (fun (h : (B.getD (k0 - 1 - k) default).var < (A.getD k default).var) => show SInv A B k0 (k0 - B.length) (min k0 A.length) (lo - a) (q - a) from ⟨HI.out.1, fun _ => by
          rw [← hk]; exact h⟩)
        have HNeg := Lib.hid hneg
        clear hx hy hr hneg
        generalize A.getD k default = x at *
        generalize B.getD (k0 - 1 - k) default = y at *
        obtain ⟨xv, xk, xn, xs, xA, xc, xa⟩ := x
        obtain ⟨yv, yk, yn, ys, yA, yc, ya⟩ := y
        simp only [Tm.kind, Tm.num, Tm.name, Tm.at_, Tm.args, Tm.cap] at c0 c1 c2 c3 c4 d0 d1 d2 d3 d4
        have c0' := cell_regrown c0
        have c1' := cell_regrown c1
        have c2' := cell_regrown c2
        have c3' := cell_regrown c3
        have c4' := cell_regrown c4
        have d0' := cell_regrown d0
        have d1' := cell_regrown d1
        have d2' := cell_regrown d2
        have d3' := cell_regrown d3
        have d4' := cell_regrown d4
        have hlq : lo ≤ q := by omega
        have hqh : q < hi := by omega
        clear hq hk hu n1 n2 n3 n4 n5 n6 n7 n8 n9 n10 n11 n12 n13 n14 n15 n16
        by_cases hrn : r < 0
        · have HE := Lib.hid (HHi.out (HNeg.out.1 hrn))
          have hrn' : decide (r < 0) = true := decide_eq_true hrn
          clear HLo HHi HNeg
          go_wp2_with fail
          refine wp_region_quiet_below (by kernel_rfl) (by kernel_rfl) ?_
          repeat (go_big_quiet_step (first | (go_at_call 51; exact Calls.regrown_of (Q.out _))))
          refine wpQuiet_nil ?_
          intro w1 hw'
          have hb1 := regrown_below hw'
          have HR1 := Lib.hid (HR.out.below hb1)
          have HK1 := Lib.hid (HK.out.trans (Below.keeps hb1 g))
          clear hw' hb1
          go_wp2_with fail
          go_roundw
          case rel => exact ⟨lo, q, rfl, by go_num, hll, hlq, by omega, HE, HR1, HK1⟩
          case measure => simp [intOf]; omega
        · have HE := Lib.hid (HLo.out (fun h => hrn (HNeg.out.2 h)))
          have hrn' : decide (r < 0) = false := decide_eq_false hrn
          clear HLo HHi HNeg
          go_wp2_with fail
          refine wp_region_quiet_below (by kernel_rfl) (by kernel_rfl) ?_
          repeat (go_big_quiet_step (first | (go_at_call 51; exact Calls.regrown_of (Q.out _))))
          refine wpQuiet_nil ?_
          intro w1 hw'
          have hb1 := regrown_below hw'
          have HR1 := Lib.hid (HR.out.below hb1)
          have HK1 := Lib.hid (HK.out.trans (Below.keeps hb1 g))
          clear hw' hb1
          go_wp2_with fail
          go_roundw
          case rel => exact ⟨q + 1, hi, by go_num, rfl, by omega, by omega, hhh, HE, HR1, HK1⟩
          case measure => simp [intOf]; omega
      · obtain rfl : hi = lo := by omega
        obtain ⟨n1, n2, n3, n4, n5, n6, n7, n8, n9, n10, n11, n12, n13, n14, n15, n16⟩ := HNum.out
        obtain ⟨s, hs⟩ : ∃ s, s = hi - a := ⟨_, rfl⟩
        obtain ⟨en, hen⟩ : ∃ en, en = nn - hi := ⟨_, rfl⟩
        have he1 : (nn : Int) - (hi : Int) = (en : Int) := by omega
        have henN : en ≤ N := by omega
        have hsN : hi ≤ N := by omega
        have HP := Lib.hid (parted HA.out HB.out n3 (s := s) (by omega) (by omega) (by rw [hs]; exact HI.out))
        have e1 : (A.take s).length = s := by simp; omega
        have e2 : (A.drop s).length = A.length - s := by simp
        have e3 : (B.take (k0 - s)).length = k0 - s := by simp; omega
        have e4 : (B.drop (k0 - s)).length = B.length - (k0 - s) := by simp
        have HR0 := Lib.hid (show Row5 wr g (P ++ A.take s ++ A.drop s ++ B.take (k0 - s) ++ B.drop (k0 - s) ++ S) from by
          have := HR.out
          rw [HL.out] at this
          simpa using this)
        generalize A.take s = A1 at *
        generalize A.drop s = A2 at *
        generalize B.take (k0 - s) = B1 at *
        generalize B.drop (k0 - s) = B2 at *
        have HN1 := Lib.hid (show hi = P.length + A1.length ∧ m = P.length + A1.length + A2.length ∧ en = P.length + A1.length + A2.length + B1.length ∧ b = P.length + A1.length + A2.length + B1.length + B2.length ∧ mid = P.length + A1.length + B1.length ∧ a = P.length ∧ N = P.length + A1.length + A2.length + B1.length + B2.length + S.length ∧ A1.length + A2.length = A.length ∧ B1.length + B2.length = B.length ∧ 2 ≤ A.length ∧ 2 ≤ B.length from by omega)
        clear n1 n2 n3 n4 n5 n6 n7 n8 n9 n10 n11 n12 n13 n14 n15 n16 hs hen e1 e2 e3 e4 HR HI HNum HGA HGB HLen HL hlt hll hlh hhh hlh0
        obtain ⟨t1, ht1⟩ : ∃ t1, t1 = decide (hi < m ∧ m < en) := ⟨_, rfl⟩
        have HT1 := Lib.hid ht1
        clear ht1
        go_upto_region 39 with (fail)
        go_cut [185] from 178 to 185 (fun z W => Hid (z = .bool t1 ∧ W = wr))
        case first =>
          by_cases c1 : hi < m
          · by_cases c2 : m < en
            · go_wp2_with fail
              go_meet
              exact Lib.hid ⟨congrArg Value.bool (HT1.out.trans (decide_eq_true ⟨c1, c2⟩)).symm, rfl⟩
            · go_wp2_with fail
              go_meet
              exact Lib.hid ⟨congrArg Value.bool (HT1.out.trans (decide_eq_false (fun h => c2 h.2))).symm, rfl⟩
          · go_wp2_with fail
            go_meet
            exact Lib.hid ⟨congrArg Value.bool (HT1.out.trans (decide_eq_false (fun h => c1 h.1))).symm, rfl⟩
        case rest =>
          obtain ⟨rfl, hw⟩ := hcut.out
          have hw2 := hw.symm
          clear hw hcut
          subst hw2
          go_upto_if 185 with (fail)
          go_cut [] from 186 to 191 (fun W => Hid (Row5 W g (P ++ A1 ++ B1 ++ A2 ++ B2 ++ S) ∧ Keeps g w W))
          case first =>
            obtain ⟨o1, o2, o3, o4, o5, o6, o7, o8, o9, o10, o11⟩ := HN1.out
            have hT1 := HT1.out
            cases t1
            · have hx := of_decide_eq_false hT1.symm
              have HF := Lib.hid (show Row5 wr g (P ++ A1 ++ B1 ++ A2 ++ B2 ++ S) ∧ Keeps g w wr from ⟨by rw [← move_none (by omega)]; exact HR0.out, HK.out⟩)
              clear o1 o2 o3 o4 o5 o6 o7 o8 o9 o10 o11 hT1 hx
              go_wp2_with fail
              go_meet
              exact HF
            · have hx := of_decide_eq_true hT1.symm
              have Q1 := Lib.hid (rotate_at (P ++ A1) A2 B1 (B2 ++ S) (by omega) (by omega) g c N wr (by simp; omega) hN6 (by simpa using HR0.out) hi m en (by simp; omega) (by simp; omega) (by simp; omega))
              clear o1 o2 o3 o4 o5 o6 o7 o8 o9 o10 o11 hT1 hx
              go_wp2_with fail
              refine (Q1.out).mono ?_
              rintro e w2 ⟨rfl, l2, rfl, hR2, hK2⟩
              have HF := Lib.hid (show Row5 w2 g (P ++ A1 ++ B1 ++ A2 ++ B2 ++ S) ∧ Keeps g w w2 from ⟨by simpa using hR2, HK.out.trans hK2⟩)
              clear hR2 hK2
              go_wp2_with fail
              go_meet
              exact HF
          case rest =>
            have HR1 := Lib.hid hcut.out.1
            have HK1 := Lib.hid hcut.out.2
            clear hcut HR0 HK HT1
            rename World => w1
            have HN2 := Lib.hid (show A1.length + B1.length < A.length + B.length ∧ A2.length + B2.length < A.length + B.length from by
              obtain ⟨o1, o2, o3, o4, o5, o6, o7, o8, o9, o10, o11⟩ := HN1.out
              omega)
            obtain ⟨t2, ht2⟩ : ∃ t2, t2 = decide (a < hi ∧ hi < mid) := ⟨_, rfl⟩
            have HT2 := Lib.hid ht2
            clear ht2
            go_upto_region 41 with (fail)
            go_cut [199] from 192 to 199 (fun z W => Hid (z = .bool t2 ∧ W = w1))
            case first =>
              by_cases c1 : a < hi
              · by_cases c2 : hi < mid
                · go_wp2_with fail
                  go_meet
                  exact Lib.hid ⟨congrArg Value.bool (HT2.out.trans (decide_eq_true ⟨c1, c2⟩)).symm, rfl⟩
                · go_wp2_with fail
                  go_meet
                  exact Lib.hid ⟨congrArg Value.bool (HT2.out.trans (decide_eq_false (fun h => c2 h.2))).symm, rfl⟩
              · go_wp2_with fail
                go_meet
                exact Lib.hid ⟨congrArg Value.bool (HT2.out.trans (decide_eq_false (fun h => c1 h.1))).symm, rfl⟩
            case rest =>
              obtain ⟨rfl, hw⟩ := hcut.out
              have hw2 := hw.symm
              clear hw hcut
              subst hw2
              go_upto_if 199 with (fail)
              go_cut [] from 200 to 205 (fun W => Hid (∃ M1, Row5 W g (P ++ M1 ++ A2 ++ B2 ++ S) ∧ Keeps g w W ∧ Stab (A1 ++ B1) M1 ∧ SrtL M1))
              case first =>
                obtain ⟨o1, o2, o3, o4, o5, o6, o7, o8, o9, o10, o11⟩ := HN1.out
                have hT2 := HT2.out
                cases t2
                · have hx := of_decide_eq_false hT2.symm
                  have HF := Lib.hid (show ∃ M1, Row5 w1 g (P ++ M1 ++ A2 ++ B2 ++ S) ∧ Keeps g w w1 ∧ Stab (A1 ++ B1) M1 ∧ SrtL M1 from ⟨A1 ++ B1, by simpa using HR1.out, HK1.out, Stab.refl _, srt_or HP.out.sA1 HP.out.sB1 (by omega)⟩)
                  clear o1 o2 o3 o4 o5 o6 o7 o8 o9 o10 o11 hT2 hx
                  go_wp2_with fail
                  go_meet
                  exact HF
                · have hx := of_decide_eq_true hT2.symm
                  have Q2 := Lib.hid (IH.out P A1 B1 (A2 ++ B2 ++ S) w1 a hi mid (by omega) (by omega) HN2.out.1 HP.out.sA1 HP.out.sB1 (by simp; omega) (by simpa using HR1.out) o6 o1 o5)
                  clear o1 o2 o3 o4 o5 o6 o7 o8 o9 o10 o11 hT2 hx
                  go_wp2_with fail
                  refine (Q2.out).mono ?_
                  rintro e w2 ⟨rfl, l2, ⟨M1, rfl, hM, hS⟩, hR2, hK2⟩
                  have HF := Lib.hid (show ∃ M1, Row5 w2 g (P ++ M1 ++ A2 ++ B2 ++ S) ∧ Keeps g w w2 ∧ Stab (A1 ++ B1) M1 ∧ SrtL M1 from ⟨M1, by simpa using hR2, HK1.out.trans hK2, hM, hS⟩)
                  clear hR2 hK2 hM hS
                  go_wp2_with fail
                  go_meet
                  exact HF
              case rest =>
                obtain ⟨M1, hR2, hK2, hM, hS⟩ := hcut.out
                have HM1 := Lib.hid (show M1.length = A1.length + B1.length by rw [← hM.len]; simp)
                have HS1 := Lib.hid (show Stab (A1 ++ B1) M1 ∧ SrtL M1 from ⟨hM, hS⟩)
                have HR2 := Lib.hid hR2
                have HK2 := Lib.hid hK2
                clear hcut HR1 HK1 HT2 hR2 hK2 hM hS
                rename World => w2
                obtain ⟨t3, ht3⟩ : ∃ t3, t3 = decide (mid < en ∧ en < b) := ⟨_, rfl⟩
                have HT3 := Lib.hid ht3
                clear ht3
                go_upto_region 43 with (fail)
                go_cut [213] from 206 to 213 (fun z W => Hid (z = .bool t3 ∧ W = w2))
                case first =>
                  by_cases c1 : mid < en
                  · by_cases c2 : en < b
                    · go_wp2_with fail
                      go_meet
                      exact Lib.hid ⟨congrArg Value.bool (HT3.out.trans (decide_eq_true ⟨c1, c2⟩)).symm, rfl⟩
                    · go_wp2_with fail
                      go_meet
                      exact Lib.hid ⟨congrArg Value.bool (HT3.out.trans (decide_eq_false (fun h => c2 h.2))).symm, rfl⟩
                  · go_wp2_with fail
                    go_meet
                    exact Lib.hid ⟨congrArg Value.bool (HT3.out.trans (decide_eq_false (fun h => c1 h.1))).symm, rfl⟩
                case rest =>
                  obtain ⟨rfl, hw⟩ := hcut.out
                  have hw2 := hw.symm
                  clear hw hcut
                  subst hw2
                  obtain ⟨o1, o2, o3, o4, o5, o6, o7, o8, o9, o10, o11⟩ := HN1.out
                  have hM1 := HM1.out
                  have hT3 := HT3.out
                  cases t3
                  · have hx := of_decide_eq_false hT3.symm
                    have HF := Lib.hid (show ∃ l', Merged P A B S l' ∧ Row5 w2 g l' ∧ Keeps g w w2 from ⟨P ++ (M1 ++ (A2 ++ B2)) ++ S, ⟨M1 ++ (A2 ++ B2), rfl, sym_stab HP.out.eA HP.out.eB HP.out.lt HS1.out.1 (Stab.refl _), sym_srt HA.out HB.out HP.out.eA HP.out.eB HP.out.lt HP.out.le HS1.out.1 (Stab.refl _) HS1.out.2 (srt_or HP.out.sA2 HP.out.sB2 (by omega))⟩, by simpa using HR2.out, HK2.out⟩)
                    clear o1 o2 o3 o4 o5 o6 o7 o8 o9 o10 o11 hT3 hx hM1
                    go_wp2_with fail
                    go_end0
                    exact ⟨rfl, HF.out⟩
                  · have hx := of_decide_eq_true hT3.symm
                    have Q3 := Lib.hid (IH.out (P ++ M1) A2 B2 S w2 mid en b (by omega) (by omega) HN2.out.2 HP.out.sA2 HP.out.sB2 (by simp; omega) HR2.out (by simp; omega) (by simp; omega) (by simp; omega))
                    clear o1 o2 o3 o4 o5 o6 o7 o8 o9 o10 o11 hT3 hx hM1
                    go_wp2_with fail
                    refine (Q3.out).mono ?_
                    rintro e w3 ⟨rfl, l2, ⟨M2, rfl, hM, hS⟩, hR3, hK3⟩
                    have HF := Lib.hid (show ∃ l', Merged P A B S l' ∧ Row5 w3 g l' ∧ Keeps g w w3 from ⟨P ++ (M1 ++ M2) ++ S, ⟨M1 ++ M2, rfl, sym_stab HP.out.eA HP.out.eB HP.out.lt HS1.out.1 hM, sym_srt HA.out HB.out HP.out.eA HP.out.eB HP.out.lt HP.out.le HS1.out.1 hM HS1.out.2 hS⟩, by simpa using hR3, HK2.out.trans hK3⟩)
                    clear hR3 hK3 hM hS
                    go_wp2_with fail
                    go_end0
                    exact ⟨rfl, HF.out⟩
/-- slices.symMergeCmpFunc: two sorted neighbours become one, stably. -/
theorem sym_all (g c N : Nat) (hN6 : N ≤ 1000000) : ∀ k, SymIH g c N k
  | 0 => fun _ _ _ _ _ _ _ _ _ _ h => absurd h (by omega)
  | k + 1 => by
    intro P A B S w a m b hA hB hk sA sB hN hR ha hm hb
    by_cases h1 : A.length = 1
    · obtain ⟨x, rfl⟩ := List.length_eq_one_iff.1 h1
      exact sym_left P x B S sB g c N w hN hN6 hR a m b ha (by simpa using hm) (by simpa using hb)
    · by_cases h2 : B.length = 1
      · obtain ⟨x, rfl⟩ := List.length_eq_one_iff.1 h2
        exact sym_right P A x S sA h1 g c N w hN hN6 hR a m b ha hm hb
      · exact sym_step P A B S sA sB (by omega) (by omega) g c N w hN hN6 hR a m b ha hm hb (fun P A B S w a m b h3 h4 h5 => sym_all g c N hN6 k P A B S w a m b h3 h4 (by omega))
end Go.Proofs.YtgialbcohkpogaaGreat
