/-
  SuMergeR.
  SuMergeG.
  SuStable.
  SuInOrd.
  SuAtomP.
-/
import Derived.Test.YtgpglgehlnfggaaGreatMe18
import Derived.Deep.CutRange
import Derived.Test.YtgpglgehlnfggaaGreatMe9
import Derived.Test.YtgpglgehlnfggaaGreatMe7
import Derived.Maps.AppendAt
import Derived.Test.YtgpglgehlnfggaaGreatMe3
namespace Go.Proofs.YtgpglgehlnfggaaGreat
open Go.RowKit
set_option maxHeartbeats 8000000 in
set_option maxRecDepth 100000 in
theorem sym_right (P A : List Bd) (x : Bd) (S : List Bd) (hA : SrtL A) (hA1 : A.length ≠ 1) (g c N : Nat) (w : World) (hN : N = P.length + A.length + 1 + S.length) (hN6 : N ≤ 1000000) (h : Row5 w g (P ++ A ++ [x] ++ S)) (a m b : Nat) (ha : a = P.length) (hm : m = P.length + A.length) (hb : b = P.length + A.length + 1) :
    Calls Tryz.prog 175 #[.slice (some ⟨g, 0, none⟩) N c, .int .i64 a, .int .i64 m, .int .i64 b, CMPV] w (Steps (Merged P A [x] S) g w) := by
  obtain ⟨d, hd⟩ : ∃ d, d = A.length := ⟨_, rfl⟩
  have hma : (m : Int) - (a : Int) = (d : Int) := by omega
  have hma1 : ((d : Int) == 1) = false := by simp; omega
  have hbm : (b : Int) - (m : Int) = 1 := by omega
  have hbN : b ≤ N := by omega
  have hmN : m < N := by omega
  have ham : a ≤ m := by omega
  have H0 := Lib.hid (show Row5 w g (passing P x A S A.length) by unfold passing; rw [List.take_length, List.drop_length]; simpa using h)
  have HLen := Lib.hid (fun k => (passing_len P x A S k).trans (show P.length + 1 + A.length + S.length = N by omega))
  have hat : ∀ k, k < A.length → (passing P x A S A.length).getD (a + k) default = A.getD k default := fun k hk => by
    unfold passing
    rw [ha, List.getD, List.getD, List.take_length, List.drop_length, List.getElem?_append_left (by simp; omega), List.getElem?_append_right (by omega)]
    simp
  have hax : (passing P x A S A.length).getD m default = x := by unfold passing; rw [List.take_length]; exact getD_mid _ _ _ (by simp; omega)
  have HAT := Lib.hid hat
  have HAX := Lib.hid hax
  have HA := Lib.hid hA
  have HAL := Lib.hid (show a + A.length = m ∧ d = A.length from ⟨by omega, hd⟩)
  have HNX := Lib.hid (fun (k : Nat) (hk : k < A.length) => show swpL (passing P x A S (k + 1)) (a + k + 1) (a + k) = passing P x A S k by rw [ha]; exact passing_back P x A S hk)
  have HPs := Lib.hid (fun k => show passing P x A S k = P ++ (A.take k ++ [x] ++ A.drop k) ++ S by unfold passing; simp)
  clear h hat hax hA ha hm hb hN hA1 hd
  go_enter Tryz.func175, Tryz.ntmps175
  go_wp2_with fail
  go_loopw [14, 15] (fun s1 s2 wr => ∃ lo hi : Nat, s1 = .int .i64 lo ∧ s2 = .int .i64 hi ∧ a ≤ lo ∧ lo ≤ hi ∧ hi ≤ m ∧ Hid ((∀ k, a + k < lo → (A.getD k default).var ≤ x.var) ∧ (∀ k, hi ≤ a + k → k < A.length → x.var < (A.getD k default).var)) ∧ Hid (Row5 wr g (passing P x A S A.length)) ∧ Hid (Keeps g w wr)) (fun s1 s2 _ => (intOf s2).toNat - (intOf s1).toNat)
  case atStart => exact ⟨a, m, rfl, rfl, Nat.le_refl _, ham, Nat.le_refl _, Lib.hid ⟨fun k hk => by omega, fun k h1 h2 => by have := HAL.out.1; omega⟩, H0, Lib.hid (Keeps.refl _ _)⟩
  case round =>
    clear H0
    obtain ⟨lo, hi, rfl, rfl, hml, hlh, hhb, HI, HR, HK⟩ := hrel
    by_cases hlt : lo < hi
    · obtain ⟨hAl, hdA⟩ := HAL.out
      obtain ⟨q, hq⟩ : ∃ q, q = (lo + hi) / 2 := ⟨_, rfl⟩
      have hq1 : ((lo : Int) + (hi : Int)) / 2 = (q : Int) := by omega
      have hqN : q < N := by omega
      have hy : (passing P x A S A.length).getD q default = A.getD (q - a) default := by rw [← HAT.out (q - a) (by omega)]; congr 1; omega
      obtain ⟨c0, c1, c2, c3, c4⟩ := HR.out.get (i := q) (by rw [HLen.out]; exact hqN)
      obtain ⟨d0, d1, d2, d3, d4⟩ := HR.out.get (i := m) (by rw [HLen.out]; exact hmN)
      rw [hy] at c0 c1 c2 c3 c4
      rw [HAX.out] at d0 d1 d2 d3 d4
      obtain ⟨r, hr⟩ : ∃ r, ints x.var (A.getD (q - a) default).var = r := ⟨_, rfl⟩
      have hneg := ints_neg hr
      have Q := Lib.hid (fun W => compare_vars_below x (A.getD (q - a) default) W hr)
      have HLo := Lib.hid (fun (h : ¬ x.var < (A.getD (q - a) default).var) => show (∀ k, a + k < q + 1 → (A.getD k default).var ≤ x.var) ∧ (∀ k, hi ≤ a + k → k < A.length → x.var < (A.getD k default).var) from ⟨fun k hk => by
        have := HA.out.srt k (q - a) (by omega) (by omega)
        omega, HI.out.2⟩)
      have HHi := Lib.hid (fun (h : x.var < (A.getD (q - a) default).var) => show (∀ k, a + k < lo → (A.getD k default).var ≤ x.var) ∧ (∀ k, q ≤ a + k → k < A.length → x.var < (A.getD k default).var) from ⟨HI.out.1, fun k h1 h2 => by
        have := HA.out.srt (q - a) k (by omega) h2
        omega⟩)
      have HNeg := Lib.hid hneg
      clear hy hr hneg
      generalize A.getD (q - a) default = y at *
      obtain ⟨xv, xk, xn, xs, xA, xc, xa⟩ := x
      obtain ⟨yv, yk, yn, ys, yA, yc, ya⟩ := y
      simp only [Tm.kind, Tm.num, Tm.name, Tm.at_, Tm.args, Tm.cap] at c0 c1 c2 c3 c4 d0 d1 d2 d3 d4
      have c0' := cell_regrown c0
      have c1' := cell_regrown c1
      have c2' := cell_regrown c2
      have c3' := cell_regrown c3
      have c4' := cell_regrown c4
      have d0' := cell_regrown d0
      have d1' := cell_regrown d1
      have d2' := cell_regrown d2
      have d3' := cell_regrown d3
      have d4' := cell_regrown d4
      have hlq : lo ≤ q := by omega
      have hqh : q < hi := by omega
      clear hq hAl hdA
      by_cases hrn : r < 0
      · have HE := Lib.hid (HHi.out (HNeg.out.1 hrn))
        have hrn' : decide (r < 0) = true := decide_eq_true hrn
        clear HLo HHi HNeg
        go_wp2_with fail
        refine wp_region_quiet_below (by kernel_rfl) (by kernel_rfl) ?_
        repeat (go_big_quiet_step (first | (go_at_call 144; exact Calls.regrown_of (Q.out _))))
        refine wpQuiet_nil ?_
        intro w1 hw'
        have hb1 := regrown_below hw'
        have HR1 := Lib.hid (HR.out.below hb1)
        have HK1 := Lib.hid (HK.out.trans (Below.keeps hb1 g))
        clear hw' hb1
        go_wp2_with fail
        go_roundw
        case rel => exact ⟨lo, q, rfl, by go_num, hml, hlq, by omega, HE, HR1, HK1⟩
        case measure => simp [intOf]; omega
      · have HE := Lib.hid (HLo.out (fun h => hrn (HNeg.out.2 h)))
        have hrn' : decide (r < 0) = false := decide_eq_false hrn
        clear HLo HHi HNeg
        go_wp2_with fail
        refine wp_region_quiet_below (by kernel_rfl) (by kernel_rfl) ?_
        repeat (go_big_quiet_step (first | (go_at_call 144; exact Calls.regrown_of (Q.out _))))
        refine wpQuiet_nil ?_
        intro w1 hw'
        have hb1 := regrown_below hw'
        have HR1 := Lib.hid (HR.out.below hb1)
        have HK1 := Lib.hid (HK.out.trans (Below.keeps hb1 g))
        clear hw' hb1
        go_wp2_with fail
        go_roundw
        case rel => exact ⟨q + 1, hi, by go_num, rfl, by omega, by omega, hhb, HE, HR1, HK1⟩
        case measure => simp [intOf]; omega
    · obtain rfl : hi = lo := by omega
      obtain ⟨hAl, hdA⟩ := HAL.out
      obtain ⟨n, hn⟩ : ∃ n, n = hi - a := ⟨_, rfl⟩
      have hin : hi = a + n := by omega
      have HM := Lib.hid (show Merged P A [x] S (passing P x A S n) from ⟨A.take n ++ [x] ++ A.drop n, HPs.out n, passing_stab2 x A n (fun y hy => by
          obtain ⟨i, hi2, e⟩ := List.mem_iff_getElem.1 hy
          have hi3 : n + i < A.length := by simp at hi2; omega
          have h3 := HI.out.2 (n + i) (by omega) hi3
          have h4 : A.getD (n + i) default = y := by rw [← e]; simp [List.getD, hi3]
          rw [h4] at h3
          omega), passing_srt HA.out (fun y hy => by
          obtain ⟨i, hi2, e⟩ := List.mem_iff_getElem.1 hy
          have hi3 : i < n := by simp at hi2; omega
          have h3 := HI.out.1 i (by omega)
          have h4 : A.getD i default = y := by rw [← e]; simp [List.getD, show i < A.length by omega]
          rw [h4] at h3
          exact h3) (fun y hy => by
          obtain ⟨i, hi2, e⟩ := List.mem_iff_getElem.1 hy
          have hi3 : n + i < A.length := by simp at hi2; omega
          have h3 := HI.out.2 (n + i) (by omega) hi3
          have h4 : A.getD (n + i) default = y := by rw [← e]; simp [List.getD, hi3]
          rw [h4] at h3
          omega)⟩)
      have HEq := Lib.hid (show hi = a + n ∧ a + A.length = m ∧ n ≤ A.length from ⟨hin, hAl, by omega⟩)
      clear hn HI hin hAl hdA
      go_wp2_with fail
      go_loopw [17] (fun s1 wr => ∃ k : Nat, s1 = .int .i64 (a + k : Nat) ∧ n ≤ k ∧ k ≤ A.length ∧ Hid (Row5 wr g (passing P x A S k)) ∧ Hid (Keeps g w wr)) (fun s1 _ => (intOf s1).toNat)
      case atStart => exact ⟨A.length, by rw [HEq.out.2.1], HEq.out.2.2, Nat.le_refl _, HR, HK⟩
      case round =>
        clear HR HK
        obtain ⟨k, rfl, hk, hkA, HR, HK⟩ := hrel
        obtain ⟨hEq, hEq2, hEq3⟩ := HEq.out
        obtain ⟨p, hp⟩ : ∃ p, p = a + k := ⟨_, rfl⟩
        rw [← hp]
        by_cases hlk : n < k
        · obtain ⟨kp, rfl⟩ : ∃ kp, k = kp + 1 := ⟨k - 1, by omega⟩
          have hlp : hi < p := by omega
          have hpN : p < N := by omega
          obtain ⟨q, hq⟩ : ∃ q, q = a + kp := ⟨_, rfl⟩
          have hq1 : (p : Int) - 1 = (q : Int) := by omega
          have hqN : q < N := by omega
          have hpq : p ≠ q := by omega
          have hsw := HNX.out kp (by omega)
          rw [show a + kp + 1 = p by omega, ← hq] at hsw
          have HSW := Lib.hid hsw
          have hX := HR.out.exch (p := p) (q := q) (by rw [HLen.out]; exact hpN) (by rw [HLen.out]; exact hqN) hpq
          have HFin := Lib.hid (show Row5 (put5 (put5 wr g p ((passing P x A S (kp + 1)).getD q default)) g q ((passing P x A S (kp + 1)).getD p default)).drew g (passing P x A S kp) by
            rw [← HSW.out]; exact (HR.out.swap (by rw [HLen.out]; exact hpN) (by rw [HLen.out]; exact hqN)).drew)
          have HKin := Lib.hid ((put5_keeps (i := q) (x := (passing P x A S (kp + 1)).getD p default) w (put5_keeps (i := p) (x := (passing P x A S (kp + 1)).getD q default) w HK.out)).drew)
          generalize (passing P x A S (kp + 1)).getD p default = u at *
          generalize (passing P x A S (kp + 1)).getD q default = v at *
          obtain ⟨uv, uk, un, us, uA, uc, ua⟩ := u
          obtain ⟨vv, vk, vn, vs, vA, vc, va⟩ := v
          obtain ⟨c0, c1, c2, c3, c4, d0, d1, d2, d3, d4, e0, e1, e2, e3, e4, fp0, fp1, fp2, fp3, fp4, fq0, fq1, fq2, fq3, fq4⟩ := hX
          simp only [put5, Tm.kind, Tm.num, Tm.name, Tm.at_, Tm.args, Tm.cap] at c0 c1 c2 c3 c4 d0 d1 d2 d3 d4 e0 e1 e2 e3 e4 HFin HKin
          have pz : (p : Int) < (N : Int) := by omega
          have qz : (q : Int) < (N : Int) := by omega
          have HQK := Lib.hid (show q = a + kp by omega)
          have hqp : q < p := by omega
          have hnk : n ≤ kp ∧ kp ≤ A.length := by omega
          clear hsw HSW HR HK hp hq hEq hEq2 hEq3 hlk hk hkA
          go_wp2_with fail
          go_region
          all_goals go_wp2
          go_roundw
          case rel => exact ⟨kp, by rw [← HQK.out], hnk.1, hnk.2, HFin, HKin⟩
          case measure => simp [intOf]; omega
        · obtain rfl : k = n := by omega
          have hlp : ¬ hi < p := by omega
          clear hEq hEq2 hEq3 hp
          go_wp2_with fail
          go_end0
          exact ⟨rfl, _, HM.out, HR.out, HK.out⟩
end Go.Proofs.YtgpglgehlnfggaaGreat
namespace Go.Proofs.YtgpglgehlnfggaaGreat
open Go.RowKit
def SymIH (g c N k : Nat) : Prop := ∀ (P A B S : List Bd) (w : World) (a m b : Nat), 0 < A.length → 0 < B.length → A.length + B.length < k → SrtL A → SrtL B → N = P.length + A.length + B.length + S.length → Row5 w g (P ++ A ++ B ++ S) → a = P.length → m = P.length + A.length → b = P.length + A.length + B.length →
    Calls Tryz.prog 175 #[.slice (some ⟨g, 0, none⟩) N c, .int .i64 a, .int .i64 m, .int .i64 b, CMPV] w (Steps (Merged P A B S) g w)
def SInv (A B : List Bd) (h s0 r0 lo hi : Nat) : Prop :=
  (s0 < lo → (A.getD (lo - 1) default).var ≤ (B.getD (h - lo) default).var) ∧ (hi < r0 → (B.getD (h - 1 - hi) default).var < (A.getD hi default).var)
theorem srt_or {X Y : List Bd} (hX : SrtL X) (hY : SrtL Y) (h : X.length = 0 ∨ Y.length = 0) : SrtL (X ++ Y) := by
  rcases h with h | h <;> rw [List.length_eq_zero_iff] at h <;> subst h
  · simpa using hY
  · simpa using hX
theorem move_none {P A1 A2 B1 B2 S : List Bd} (h : A2.length = 0 ∨ B1.length = 0) : P ++ A1 ++ A2 ++ B1 ++ B2 ++ S = P ++ A1 ++ B1 ++ A2 ++ B2 ++ S := by
  rcases h with h | h <;> rw [List.length_eq_zero_iff] at h <;> subst h <;> simp
theorem getD_second (P A B S : List Bd) {k i : Nat} (hk : k < A.length) (hi : i = P.length + k) : (P ++ A ++ B ++ S).getD i default = A.getD k default := by
  subst hi
  rw [List.getD, List.getD, List.append_assoc (P ++ A), List.getElem?_append_left (by simp; omega), List.getElem?_append_right (by omega)]
  simp
theorem getD_third (P A B S : List Bd) {k i : Nat} (hk : k < B.length) (hi : i = P.length + A.length + k) : (P ++ A ++ B ++ S).getD i default = B.getD k default := by
  subst hi
  rw [List.getD, List.getD, List.getElem?_append_left (by simp; omega), List.getElem?_append_right (by simp)]
  simp [Nat.add_sub_cancel_left]
structure Parted (A B A1 A2 B1 B2 : List Bd) : Prop where
  eA : A = A1 ++ A2
  eB : B = B1 ++ B2
  lt : ∀ x ∈ A2, ∀ y ∈ B1, y.var < x.var
  le : ∀ x ∈ A1, ∀ y ∈ B2, x.var ≤ y.var
  sA1 : SrtL A1
  sA2 : SrtL A2
  sB1 : SrtL B1
  sB2 : SrtL B2
theorem parted {A B : List Bd} (hA : SrtL A) (hB : SrtL B) {h s : Nat} (hh : h = (A.length + B.length) / 2) (h0 : h - B.length ≤ s) (h1 : s ≤ min h A.length) (hi : SInv A B h (h - B.length) (min h A.length) s s) :
    Parted A B (A.take s) (A.drop s) (B.take (h - s)) (B.drop (h - s)) := by
  obtain ⟨h2, h3⟩ := sym_facts hA hB hh h0 h1 hi.1 hi.2
  have eA := (List.take_append_drop s A).symm
  have eB := (List.take_append_drop (h - s) B).symm
  have a := srtL_append.1 (eA ▸ hA)
  have b := srtL_append.1 (eB ▸ hB)
  exact ⟨eA, eB, h2, h3, a.1, a.2.1, b.1, b.2.1⟩
set_option maxHeartbeats 8000000 in
set_option maxRecDepth 100000 in
theorem sym_step (P A B S : List Bd) (hA : SrtL A) (hB : SrtL B) (hA2 : 2 ≤ A.length) (hB2 : 2 ≤ B.length) (g c N : Nat) (w : World) (hN : N = P.length + A.length + B.length + S.length) (hN6 : N ≤ 1000000) (h : Row5 w g (P ++ A ++ B ++ S)) (a m b : Nat) (ha : a = P.length) (hm : m = P.length + A.length) (hb : b = P.length + A.length + B.length) (ih : SymIH g c N (A.length + B.length)) :
    Calls Tryz.prog 175 #[.slice (some ⟨g, 0, none⟩) N c, .int .i64 a, .int .i64 m, .int .i64 b, CMPV] w (Steps (Merged P A B S) g w) := by
  obtain ⟨d, hd⟩ : ∃ d, d = A.length := ⟨_, rfl⟩
  obtain ⟨f, hf⟩ : ∃ f, f = B.length := ⟨_, rfl⟩
  obtain ⟨k0, hk0⟩ : ∃ k0, k0 = (A.length + B.length) / 2 := ⟨_, rfl⟩
  obtain ⟨mid, hmid⟩ : ∃ mid, mid = a + k0 := ⟨_, rfl⟩
  obtain ⟨nn, hnn⟩ : ∃ nn, nn = mid + m := ⟨_, rfl⟩
  obtain ⟨pp, hpp⟩ : ∃ pp, pp = nn - 1 := ⟨_, rfl⟩
  obtain ⟨lo0, hlo0⟩ : ∃ lo0, lo0 = a + (k0 - B.length) := ⟨_, rfl⟩
  obtain ⟨hi0, hhi0⟩ : ∃ hi0, hi0 = a + min k0 A.length := ⟨_, rfl⟩
  have i1 : (m : Int) - (a : Int) = (d : Int) := by omega
  have i2 : ((d : Int) == 1) = false := by simp; omega
  have i3 : (b : Int) - (m : Int) = (f : Int) := by omega
  have i4 : ((f : Int) == 1) = false := by simp; omega
  have i5 : ((a : Int) + (b : Int)) / 2 = (mid : Int) := by omega
  have i6 : (mid : Int) + (m : Int) = (nn : Int) := by omega
  have i7 : (nn : Int) - 1 = (pp : Int) := by omega
  have hbN : b ≤ N := by omega
  have haN : a ≤ N := by omega
  have hmN : m ≤ N := by omega
  have hmdN : mid ≤ N := by omega
  have hnN : nn ≤ 2000000 := by omega
  have hhN : hi0 ≤ N := by omega
  have hlh0 : lo0 ≤ hi0 := by omega
  have HNum := Lib.hid (show d = A.length ∧ f = B.length ∧ k0 = (A.length + B.length) / 2 ∧ mid = a + k0 ∧ nn = mid + m ∧ pp = nn - 1 ∧ lo0 = a + (k0 - B.length) ∧ hi0 = a + min k0 A.length ∧ m = a + A.length ∧ b = m + B.length ∧ a = P.length ∧ m = P.length + A.length ∧ b = P.length + A.length + B.length ∧ 2 ≤ A.length ∧ 2 ≤ B.length ∧ N = P.length + A.length + B.length + S.length from
    ⟨hd, hf, hk0, hmid, hnn, hpp, hlo0, hhi0, by omega, by omega, ha, hm, hb, hA2, hB2, hN⟩)
  have HR := Lib.hid h
  have IH := Lib.hid ih
  have HA := Lib.hid hA
  have HB := Lib.hid hB
  have HGA := Lib.hid (fun k i (hk : k < A.length) (hi : i = P.length + k) => getD_second P A B S hk hi)
  have HGB := Lib.hid (fun k i (hk : k < B.length) (hi : i = P.length + A.length + k) => getD_third P A B S hk hi)
  have HLen := Lib.hid (show (P ++ A ++ B ++ S).length = N by simp; omega)
  obtain ⟨L, hL⟩ : ∃ L, L = P ++ A ++ B ++ S := ⟨_, rfl⟩
  rw [← hL] at HR HGA HGB HLen
  have HL := Lib.hid hL
  clear hd hf hk0 hmid hnn hpp hlo0 hhi0 ha hm hb hA2 hB2 hN h ih hA hB hL
  go_enter Tryz.func175, Tryz.ntmps175
  go_upto_if 140 with (fail)
  go_cut [20, 21] from 141 to 146 (fun s1 s2 W => s1 = .int .i64 lo0 ∧ s2 = .int .i64 hi0 ∧ W = w)
  case first =>
    obtain ⟨n1, n2, n3, n4, n5, n6, n7, n8, n9, n10, -⟩ := HNum.out
    by_cases hmm : mid < m
    · have j1 : (nn : Int) - (b : Int) = (lo0 : Int) := by omega
      have HJ := Lib.hid (show mid = hi0 by omega)
      clear n1 n2 n3 n4 n5 n6 n7 n8 n9 n10
      go_wp2_with fail
      go_meet
      exact ⟨rfl, by rw [HJ.out], rfl⟩
    · have HJ := Lib.hid (show a = lo0 ∧ m = hi0 from ⟨by omega, by omega⟩)
      clear n1 n2 n3 n4 n5 n6 n7 n8 n9 n10
      go_wp2_with fail
      go_meet
      exact ⟨by rw [HJ.out.1], by rw [HJ.out.2], rfl⟩
  case rest =>
    obtain ⟨rfl, rfl, hw⟩ := hcut
    have hw2 := hw.symm
    clear hw
    subst hw2
    have HInv := Lib.hid (show SInv A B k0 (k0 - B.length) (min k0 A.length) (lo0 - a) (hi0 - a) from by
      obtain ⟨-, -, n3, n4, n5, n6, n7, n8, n9, n10, -⟩ := HNum.out
      exact ⟨fun h => absurd h (by omega), fun h => absurd h (by omega)⟩)
    go_wp2_with fail
    go_loopw [20, 21] (fun s1 s2 wr => ∃ lo hi : Nat, s1 = .int .i64 lo ∧ s2 = .int .i64 hi ∧ lo0 ≤ lo ∧ lo ≤ hi ∧ hi ≤ hi0 ∧ Hid (SInv A B k0 (k0 - B.length) (min k0 A.length) (lo - a) (hi - a)) ∧ Hid (Row5 wr g L) ∧ Hid (Keeps g w wr)) (fun s1 s2 _ => (intOf s2).toNat - (intOf s1).toNat)
    case atStart => exact ⟨lo0, hi0, rfl, rfl, Nat.le_refl _, hlh0, Nat.le_refl _, HInv, HR, Lib.hid (Keeps.refl _ _)⟩
    case round =>
      clear HR HInv
      obtain ⟨lo, hi, rfl, rfl, hll, hlh, hhh, HI, HR, HK⟩ := hrel
      by_cases hlt : lo < hi
      · obtain ⟨n1, n2, n3, n4, n5, n6, n7, n8, n9, n10, n11, n12, n13, n14, n15, n16⟩ := HNum.out
        obtain ⟨q, hq⟩ : ∃ q, q = (lo + hi) / 2 := ⟨_, rfl⟩
        obtain ⟨k, hk⟩ : ∃ k, k = q - a := ⟨_, rfl⟩
        obtain ⟨u, hu⟩ : ∃ u, u = pp - q := ⟨_, rfl⟩
        have hq1 : ((lo : Int) + (hi : Int)) / 2 = (q : Int) := by omega
        have hu1 : (pp : Int) - (q : Int) = (u : Int) := by omega
        have hqN : q < N := by omega
        have huN : u < N := by omega
        have hx := HGA.out k q (by omega) (by omega)
        have hy := HGB.out (k0 - 1 - k) u (by omega) (by omega)
        obtain ⟨c0, c1, c2, c3, c4⟩ := HR.out.get (i := u) (by rw [HLen.out]; exact huN)
        obtain ⟨d0, d1, d2, d3, d4⟩ := HR.out.get (i := q) (by rw [HLen.out]; exact hqN)
        rw [hy] at c0 c1 c2 c3 c4
        rw [hx] at d0 d1 d2 d3 d4
        obtain ⟨r, hr⟩ : ∃ r, ints (B.getD (k0 - 1 - k) default).var (A.getD k default).var = r := ⟨_, rfl⟩
        have hneg := ints_neg hr
        have Q := Lib.hid (fun W => compare_vars_below (B.getD (k0 - 1 - k) default) (A.getD k default) W hr)
        have HLo := Lib.hid (fun (h : ¬ (B.getD (k0 - 1 - k) default).var < (A.getD k default).var) => show SInv A B k0 (k0 - B.length) (min k0 A.length) (q + 1 - a) (hi - a) from ⟨fun _ => by
          rw [show q + 1 - a - 1 = k by omega, show k0 - (q + 1 - a) = k0 - 1 - k by omega]; omega, HI.out.2⟩)
        have HHi := Lib.hid (fun (h : (B.getD (k0 - 1 - k) default).var < (A.getD k default).var) => show SInv A B k0 (k0 - B.length) (min k0 A.length) (lo - a) (q - a) from ⟨HI.out.1, fun _ => by
          rw [← hk]; exact h⟩)
        have HNeg := Lib.hid hneg
        clear hx hy hr hneg
        generalize A.getD k default = x at *
        generalize B.getD (k0 - 1 - k) default = y at *
        obtain ⟨xv, xk, xn, xs, xA, xc, xa⟩ := x
        obtain ⟨yv, yk, yn, ys, yA, yc, ya⟩ := y
        simp only [Tm.kind, Tm.num, Tm.name, Tm.at_, Tm.args, Tm.cap] at c0 c1 c2 c3 c4 d0 d1 d2 d3 d4
        have c0' := cell_regrown c0
        have c1' := cell_regrown c1
        have c2' := cell_regrown c2
        have c3' := cell_regrown c3
        have c4' := cell_regrown c4
        have d0' := cell_regrown d0
        have d1' := cell_regrown d1
        have d2' := cell_regrown d2
        have d3' := cell_regrown d3
        have d4' := cell_regrown d4
        have hlq : lo ≤ q := by omega
        have hqh : q < hi := by omega
        clear hq hk hu n1 n2 n3 n4 n5 n6 n7 n8 n9 n10 n11 n12 n13 n14 n15 n16
        by_cases hrn : r < 0
        · have HE := Lib.hid (HHi.out (HNeg.out.1 hrn))
          have hrn' : decide (r < 0) = true := decide_eq_true hrn
          clear HLo HHi HNeg
          go_wp2_with fail
          refine wp_region_quiet_below (by kernel_rfl) (by kernel_rfl) ?_
          repeat (go_big_quiet_step (first | (go_at_call 144; exact Calls.regrown_of (Q.out _))))
          refine wpQuiet_nil ?_
          intro w1 hw'
          have hb1 := regrown_below hw'
          have HR1 := Lib.hid (HR.out.below hb1)
          have HK1 := Lib.hid (HK.out.trans (Below.keeps hb1 g))
          clear hw' hb1
          go_wp2_with fail
          go_roundw
          case rel => exact ⟨lo, q, rfl, by go_num, hll, hlq, by omega, HE, HR1, HK1⟩
          case measure => simp [intOf]; omega
        · have HE := Lib.hid (HLo.out (fun h => hrn (HNeg.out.2 h)))
          have hrn' : decide (r < 0) = false := decide_eq_false hrn
          clear HLo HHi HNeg
          go_wp2_with fail
          refine wp_region_quiet_below (by kernel_rfl) (by kernel_rfl) ?_
          repeat (go_big_quiet_step (first | (go_at_call 144; exact Calls.regrown_of (Q.out _))))
          refine wpQuiet_nil ?_
          intro w1 hw'
          have hb1 := regrown_below hw'
          have HR1 := Lib.hid (HR.out.below hb1)
          have HK1 := Lib.hid (HK.out.trans (Below.keeps hb1 g))
          clear hw' hb1
          go_wp2_with fail
          go_roundw
          case rel => exact ⟨q + 1, hi, by go_num, rfl, by omega, by omega, hhh, HE, HR1, HK1⟩
          case measure => simp [intOf]; omega
      · obtain rfl : hi = lo := by omega
        obtain ⟨n1, n2, n3, n4, n5, n6, n7, n8, n9, n10, n11, n12, n13, n14, n15, n16⟩ := HNum.out
        obtain ⟨s, hs⟩ : ∃ s, s = hi - a := ⟨_, rfl⟩
        obtain ⟨en, hen⟩ : ∃ en, en = nn - hi := ⟨_, rfl⟩
        have he1 : (nn : Int) - (hi : Int) = (en : Int) := by omega
        have henN : en ≤ N := by omega
        have hsN : hi ≤ N := by omega
        have HP := Lib.hid (parted HA.out HB.out n3 (s := s) (by omega) (by omega) (by rw [hs]; exact HI.out))
        have e1 : (A.take s).length = s := by simp; omega
        have e2 : (A.drop s).length = A.length - s := by simp
        have e3 : (B.take (k0 - s)).length = k0 - s := by simp; omega
        have e4 : (B.drop (k0 - s)).length = B.length - (k0 - s) := by simp
        have HR0 := Lib.hid (show Row5 wr g (P ++ A.take s ++ A.drop s ++ B.take (k0 - s) ++ B.drop (k0 - s) ++ S) from by
          have := HR.out
          rw [HL.out] at this
          simpa using this)
        generalize A.take s = A1 at *
        generalize A.drop s = A2 at *
        generalize B.take (k0 - s) = B1 at *
        generalize B.drop (k0 - s) = B2 at *
        have HN1 := Lib.hid (show hi = P.length + A1.length ∧ m = P.length + A1.length + A2.length ∧ en = P.length + A1.length + A2.length + B1.length ∧ b = P.length + A1.length + A2.length + B1.length + B2.length ∧ mid = P.length + A1.length + B1.length ∧ a = P.length ∧ N = P.length + A1.length + A2.length + B1.length + B2.length + S.length ∧ A1.length + A2.length = A.length ∧ B1.length + B2.length = B.length ∧ 2 ≤ A.length ∧ 2 ≤ B.length from by omega)
        clear n1 n2 n3 n4 n5 n6 n7 n8 n9 n10 n11 n12 n13 n14 n15 n16 hs hen e1 e2 e3 e4 HR HI HNum HGA HGB HLen HL hlt hll hlh hhh hlh0
        obtain ⟨t1, ht1⟩ : ∃ t1, t1 = decide (hi < m ∧ m < en) := ⟨_, rfl⟩
        have HT1 := Lib.hid ht1
        clear ht1
        go_upto_region 39 with (fail)
        go_cut [185] from 178 to 185 (fun z W => Hid (z = .bool t1 ∧ W = wr))
        case first =>
          by_cases c1 : hi < m
          · by_cases c2 : m < en
            · go_wp2_with fail
              go_meet
              exact Lib.hid ⟨congrArg Value.bool (HT1.out.trans (decide_eq_true ⟨c1, c2⟩)).symm, rfl⟩
            · go_wp2_with fail
              go_meet
              exact Lib.hid ⟨congrArg Value.bool (HT1.out.trans (decide_eq_false (fun h => c2 h.2))).symm, rfl⟩
          · go_wp2_with fail
            go_meet
            exact Lib.hid ⟨congrArg Value.bool (HT1.out.trans (decide_eq_false (fun h => c1 h.1))).symm, rfl⟩
        case rest =>
          obtain ⟨rfl, hw⟩ := hcut.out
          have hw2 := hw.symm
          clear hw hcut
          subst hw2
          go_upto_if 185 with (fail)
          go_cut [] from 186 to 191 (fun W => Hid (Row5 W g (P ++ A1 ++ B1 ++ A2 ++ B2 ++ S) ∧ Keeps g w W))
          case first =>
            obtain ⟨o1, o2, o3, o4, o5, o6, o7, o8, o9, o10, o11⟩ := HN1.out
            have hT1 := HT1.out
            cases t1
            · have hx := of_decide_eq_false hT1.symm
              have HF := Lib.hid (show Row5 wr g (P ++ A1 ++ B1 ++ A2 ++ B2 ++ S) ∧ Keeps g w wr from ⟨by rw [← move_none (by omega)]; exact HR0.out, HK.out⟩)
              clear o1 o2 o3 o4 o5 o6 o7 o8 o9 o10 o11 hT1 hx
              go_wp2_with fail
              go_meet
              exact HF
            · have hx := of_decide_eq_true hT1.symm
              have Q1 := Lib.hid (rotate_at (P ++ A1) A2 B1 (B2 ++ S) (by omega) (by omega) g c N wr (by simp; omega) hN6 (by simpa using HR0.out) hi m en (by simp; omega) (by simp; omega) (by simp; omega))
              clear o1 o2 o3 o4 o5 o6 o7 o8 o9 o10 o11 hT1 hx
              go_wp2_with fail
              refine (Q1.out).mono ?_
              rintro e w2 ⟨rfl, l2, rfl, hR2, hK2⟩
              have HF := Lib.hid (show Row5 w2 g (P ++ A1 ++ B1 ++ A2 ++ B2 ++ S) ∧ Keeps g w w2 from ⟨by simpa using hR2, HK.out.trans hK2⟩)
              clear hR2 hK2
              go_wp2_with fail
              go_meet
              exact HF
          case rest =>
            have HR1 := Lib.hid hcut.out.1
            have HK1 := Lib.hid hcut.out.2
            clear hcut HR0 HK HT1
            rename World => w1
            have HN2 := Lib.hid (show A1.length + B1.length < A.length + B.length ∧ A2.length + B2.length < A.length + B.length from by
              obtain ⟨o1, o2, o3, o4, o5, o6, o7, o8, o9, o10, o11⟩ := HN1.out
              omega)
            obtain ⟨t2, ht2⟩ : ∃ t2, t2 = decide (a < hi ∧ hi < mid) := ⟨_, rfl⟩
            have HT2 := Lib.hid ht2
            clear ht2
            go_upto_region 41 with (fail)
            go_cut [199] from 192 to 199 (fun z W => Hid (z = .bool t2 ∧ W = w1))
            case first =>
              by_cases c1 : a < hi
              · by_cases c2 : hi < mid
                · go_wp2_with fail
                  go_meet
                  exact Lib.hid ⟨congrArg Value.bool (HT2.out.trans (decide_eq_true ⟨c1, c2⟩)).symm, rfl⟩
                · go_wp2_with fail
                  go_meet
                  exact Lib.hid ⟨congrArg Value.bool (HT2.out.trans (decide_eq_false (fun h => c2 h.2))).symm, rfl⟩
              · go_wp2_with fail
                go_meet
                exact Lib.hid ⟨congrArg Value.bool (HT2.out.trans (decide_eq_false (fun h => c1 h.1))).symm, rfl⟩
            case rest =>
              obtain ⟨rfl, hw⟩ := hcut.out
              have hw2 := hw.symm
              clear hw hcut
              subst hw2
              go_upto_if 199 with (fail)
              go_cut [] from 200 to 205 (fun W => Hid (∃ M1, Row5 W g (P ++ M1 ++ A2 ++ B2 ++ S) ∧ Keeps g w W ∧ Stab (A1 ++ B1) M1 ∧ SrtL M1))
              case first =>
                obtain ⟨o1, o2, o3, o4, o5, o6, o7, o8, o9, o10, o11⟩ := HN1.out
                have hT2 := HT2.out
                cases t2
                · have hx := of_decide_eq_false hT2.symm
                  have HF := Lib.hid (show ∃ M1, Row5 w1 g (P ++ M1 ++ A2 ++ B2 ++ S) ∧ Keeps g w w1 ∧ Stab (A1 ++ B1) M1 ∧ SrtL M1 from ⟨A1 ++ B1, by simpa using HR1.out, HK1.out, Stab.refl _, srt_or HP.out.sA1 HP.out.sB1 (by omega)⟩)
                  clear o1 o2 o3 o4 o5 o6 o7 o8 o9 o10 o11 hT2 hx
                  go_wp2_with fail
                  go_meet
                  exact HF
                · have hx := of_decide_eq_true hT2.symm
                  have Q2 := Lib.hid (IH.out P A1 B1 (A2 ++ B2 ++ S) w1 a hi mid (by omega) (by omega) HN2.out.1 HP.out.sA1 HP.out.sB1 (by simp; omega) (by simpa using HR1.out) o6 o1 o5)
                  clear o1 o2 o3 o4 o5 o6 o7 o8 o9 o10 o11 hT2 hx
                  go_wp2_with fail
                  refine (Q2.out).mono ?_
                  rintro e w2 ⟨rfl, l2, ⟨M1, rfl, hM, hS⟩, hR2, hK2⟩
                  have HF := Lib.hid (show ∃ M1, Row5 w2 g (P ++ M1 ++ A2 ++ B2 ++ S) ∧ Keeps g w w2 ∧ Stab (A1 ++ B1) M1 ∧ SrtL M1 from ⟨M1, by simpa using hR2, HK1.out.trans hK2, hM, hS⟩)
                  clear hR2 hK2 hM hS
                  go_wp2_with fail
                  go_meet
                  exact HF
              case rest =>
                obtain ⟨M1, hR2, hK2, hM, hS⟩ := hcut.out
                have HM1 := Lib.hid (show M1.length = A1.length + B1.length by rw [← hM.len]; simp)
                have HS1 := Lib.hid (show Stab (A1 ++ B1) M1 ∧ SrtL M1 from ⟨hM, hS⟩)
                have HR2 := Lib.hid hR2
                have HK2 := Lib.hid hK2
                clear hcut HR1 HK1 HT2 hR2 hK2 hM hS
                rename World => w2
                obtain ⟨t3, ht3⟩ : ∃ t3, t3 = decide (mid < en ∧ en < b) := ⟨_, rfl⟩
                have HT3 := Lib.hid ht3
                clear ht3
                go_upto_region 43 with (fail)
                go_cut [213] from 206 to 213 (fun z W => Hid (z = .bool t3 ∧ W = w2))
                case first =>
                  by_cases c1 : mid < en
                  · by_cases c2 : en < b
                    · go_wp2_with fail
                      go_meet
                      exact Lib.hid ⟨congrArg Value.bool (HT3.out.trans (decide_eq_true ⟨c1, c2⟩)).symm, rfl⟩
                    · go_wp2_with fail
                      go_meet
                      exact Lib.hid ⟨congrArg Value.bool (HT3.out.trans (decide_eq_false (fun h => c2 h.2))).symm, rfl⟩
                  · go_wp2_with fail
                    go_meet
                    exact Lib.hid ⟨congrArg Value.bool (HT3.out.trans (decide_eq_false (fun h => c1 h.1))).symm, rfl⟩
                case rest =>
                  obtain ⟨rfl, hw⟩ := hcut.out
                  have hw2 := hw.symm
                  clear hw hcut
                  subst hw2
                  obtain ⟨o1, o2, o3, o4, o5, o6, o7, o8, o9, o10, o11⟩ := HN1.out
                  have hM1 := HM1.out
                  have hT3 := HT3.out
                  cases t3
                  · have hx := of_decide_eq_false hT3.symm
                    have HF := Lib.hid (show ∃ l', Merged P A B S l' ∧ Row5 w2 g l' ∧ Keeps g w w2 from ⟨P ++ (M1 ++ (A2 ++ B2)) ++ S, ⟨M1 ++ (A2 ++ B2), rfl, sym_stab HP.out.eA HP.out.eB HP.out.lt HS1.out.1 (Stab.refl _), sym_srt HA.out HB.out HP.out.eA HP.out.eB HP.out.lt HP.out.le HS1.out.1 (Stab.refl _) HS1.out.2 (srt_or HP.out.sA2 HP.out.sB2 (by omega))⟩, by simpa using HR2.out, HK2.out⟩)
                    clear o1 o2 o3 o4 o5 o6 o7 o8 o9 o10 o11 hT3 hx hM1
                    go_wp2_with fail
                    go_end0
                    exact ⟨rfl, HF.out⟩
                  · have hx := of_decide_eq_true hT3.symm
                    have Q3 := Lib.hid (IH.out (P ++ M1) A2 B2 S w2 mid en b (by omega) (by omega) HN2.out.2 HP.out.sA2 HP.out.sB2 (by simp; omega) HR2.out (by simp; omega) (by simp; omega) (by simp; omega))
                    clear o1 o2 o3 o4 o5 o6 o7 o8 o9 o10 o11 hT3 hx hM1
                    go_wp2_with fail
                    refine (Q3.out).mono ?_
                    rintro e w3 ⟨rfl, l2, ⟨M2, rfl, hM, hS⟩, hR3, hK3⟩
                    have HF := Lib.hid (show ∃ l', Merged P A B S l' ∧ Row5 w3 g l' ∧ Keeps g w w3 from ⟨P ++ (M1 ++ M2) ++ S, ⟨M1 ++ M2, rfl, sym_stab HP.out.eA HP.out.eB HP.out.lt HS1.out.1 hM, sym_srt HA.out HB.out HP.out.eA HP.out.eB HP.out.lt HP.out.le HS1.out.1 hM HS1.out.2 hS⟩, by simpa using hR3, HK2.out.trans hK3⟩)
                    clear hR3 hK3 hM hS
                    go_wp2_with fail
                    go_end0
                    exact ⟨rfl, HF.out⟩
theorem sym_all (g c N : Nat) (hN6 : N ≤ 1000000) : ∀ k, SymIH g c N k
  | 0 => fun _ _ _ _ _ _ _ _ _ _ h => absurd h (by omega)
  | k + 1 => by
    intro P A B S w a m b hA hB hk sA sB hN hR ha hm hb
    by_cases h1 : A.length = 1
    · obtain ⟨x, rfl⟩ := List.length_eq_one_iff.1 h1
      exact sym_left P x B S sB g c N w hN hN6 hR a m b ha (by simpa using hm) (by simpa using hb)
    · by_cases h2 : B.length = 1
      · obtain ⟨x, rfl⟩ := List.length_eq_one_iff.1 h2
        exact sym_right P A x S sA h1 g c N w hN hN6 hR a m b ha hm hb
      · exact sym_step P A B S sA sB (by omega) (by omega) g c N w hN hN6 hR a m b ha hm hb (fun P A B S w a m b h3 h4 h5 => sym_all g c N hN6 k P A B S w a m b h3 h4 (by omega))
end Go.Proofs.YtgpglgehlnfggaaGreat
namespace Go.Proofs.YtgpglgehlnfggaaGreat
open Go.RowKit
inductive Blks (k : Nat) : List Bd → Prop
  | last {X : List Bd} : X.length ≤ k → SrtL X → Blks k X
  | cons {X l : List Bd} : X.length = k → SrtL X → Blks k l → Blks k (X ++ l)
theorem Blks.split {k : Nat} {l : List Bd} (h : Blks k l) (hk : k ≤ l.length) : ∃ X l', l = X ++ l' ∧ X.length = k ∧ SrtL X ∧ Blks k l' := by
  cases h with
  | last h1 h2 => exact ⟨l, [], by simp, by omega, h2, .last (Nat.zero_le _) List.Pairwise.nil⟩
  | cons h1 h2 h3 => exact ⟨_, _, rfl, h1, h2, h3⟩
theorem Blks.short {k : Nat} {l : List Bd} (h : Blks k l) (hk : l.length ≤ k) : SrtL l := by
  cases h with
  | last h1 h2 => exact h2
  | @cons X l h1 h2 h3 =>
    have : l.length = 0 := by simp at hk; omega
    rw [List.length_eq_zero_iff] at this
    subst this
    simpa using h2
def FullB (k : Nat) (P : List Bd) : Prop := ∀ l, Blks k l → Blks k (P ++ l)
theorem FullB.nil (k : Nat) : FullB k [] := fun _ h => h
theorem FullB.snoc {k : Nat} {P M : List Bd} (h : FullB k P) (hM : M.length = k) (sM : SrtL M) : FullB k (P ++ M) := fun l hl => by
  rw [List.append_assoc]; exact h _ (.cons hM sM hl)
set_option maxHeartbeats 8000000 in
set_option maxRecDepth 100000 in
theorem stable_at (l : List Bd) (g c N : Nat) (w : World) (hN : N = l.length) (hN6 : N ≤ 1000000) (h : Row5 w g l) :
    Calls Tryz.prog 169 #[.slice (some ⟨g, 0, none⟩) N c, .int .i64 N, CMPV] w (Steps (fun l' => Stab l l' ∧ SrtL l') g w) := by
  have HN := Lib.hid hN
  have H0 := Lib.hid (show ∃ P R : List Bd, P.length = 0 ∧ Stab l (P ++ R) ∧ FullB 20 P ∧ Row5 w g (P ++ R) from ⟨[], l, rfl, Stab.refl _, FullB.nil _, h⟩)
  clear hN h
  go_enter Tryz.func169, Tryz.ntmps169
  go_wp2_with fail
  go_loopw [7, 8] (fun s1 s2 wr => ∃ a b : Nat, s1 = .int .i64 a ∧ s2 = .int .i64 b ∧ a ≤ N ∧ b ≤ N + 20 ∧ Hid (b = a + 20) ∧ Hid (∃ P R : List Bd, P.length = a ∧ Stab l (P ++ R) ∧ FullB 20 P ∧ Row5 wr g (P ++ R)) ∧ Hid (Keeps g w wr)) (fun s1 _ _ => N - (intOf s1).toNat)
  case atStart => exact ⟨0, 20, rfl, rfl, Nat.zero_le _, by omega, Lib.hid rfl, H0, Lib.hid (Keeps.refl _ _)⟩
  case round =>
    clear H0
    obtain ⟨a, b, rfl, rfl, haN, hb2, HAB, HI, HK⟩ := hrel
    obtain ⟨P, R, hP, hSt, hF, hR⟩ := HI.out
    have hRl : P.length + R.length = N := by rw [HN.out, hSt.len, List.length_append]
    have hab := HAB.out
    by_cases hbn : b ≤ N
    · have Q := Lib.hid (insertion_at P (R.take 20) (R.drop 20) g c N wr (by simp; omega) hN6 (by rw [List.append_assoc, List.take_append_drop]; exact hR) a b hP.symm (by simp; omega))
      have HNx := Lib.hid (show ∀ W X', Row5 W g (P ++ X' ++ R.drop 20) → Stab (R.take 20) X' → SrtL X' → ∃ P R : List Bd, P.length = b ∧ Stab l (P ++ R) ∧ FullB 20 P ∧ Row5 W g (P ++ R) from fun W X' h1 h2 h3 => by
        have h4 : X'.length = 20 := by rw [← h2.len]; simp; omega
        refine ⟨P ++ X', R.drop 20, by simp; omega, hSt.trans ?_, hF.snoc h4 h3, h1⟩
        have := (Stab.refl P).append (h2.append (Stab.refl (R.drop 20)))
        rw [List.take_append_drop] at this
        simpa using this)
      have hlt : a < b := by omega
      clear hP hSt hF hR hRl hab HI
      go_wp2_with fail
      refine (Q.out).mono ?_
      rintro e w2 ⟨rfl, l2, ⟨X', rfl, h2, h3⟩, hR2, hK2⟩
      have HE := Lib.hid (HNx.out _ _ hR2 h2 h3)
      have HK2 := Lib.hid (HK.out.trans hK2)
      clear hR2 hK2 h2 h3
      go_wp2_with fail
      go_roundw
      case rel => exact ⟨b, b + 20, rfl, by go_num, hbn, by omega, Lib.hid rfl, HE, HK2⟩
      case measure => simp [intOf]; omega
    · have Q := Lib.hid (insertion_at P R [] g c N wr (by simp; omega) hN6 (by simpa using hR) a N hP.symm (by omega))
      have HNx := Lib.hid (show ∀ W X', Row5 W g (P ++ X' ++ []) → Stab R X' → SrtL X' → ∃ L : List Bd, Stab l L ∧ Blks 20 L ∧ Row5 W g L from fun W X' h1 h2 h3 => by
        have h4 := h2.len
        exact ⟨P ++ X', hSt.trans ((Stab.refl P).append h2), hF _ (.last (by omega) h3), by simpa using h1⟩)
      clear hP hSt hF hR hRl hab HI HAB
      go_wp2_with fail
      refine (Q.out).mono ?_
      rintro e w2 ⟨rfl, l2, ⟨X', rfl, h2, h3⟩, hR2, hK2⟩
      have HE := Lib.hid (HNx.out _ _ hR2 h2 h3)
      have HK2 := Lib.hid (HK.out.trans hK2)
      clear hR2 hK2 h2 h3 HNx Q HK
      rename World => w1
      have h20 : (20 : Nat) ≤ 2000000 := by omega
      go_wp2_with fail
      go_loopw [6] (fun s6 wr => ∃ k : Nat, s6 = .int .i64 k ∧ 0 < k ∧ k ≤ 2000000 ∧ Hid (∃ L : List Bd, Stab l L ∧ Blks k L ∧ Row5 wr g L) ∧ Hid (Keeps g w wr)) (fun s6 _ => N - (intOf s6).toNat)
      case atStart => exact ⟨20, rfl, by omega, h20, HE, HK2⟩
      case round =>
        clear HE HK2
        obtain ⟨k, rfl, hk0, hk2, HI, HK⟩ := hrel
        by_cases hkN : k < N
        · rename World => wb
          obtain ⟨k2, hkk⟩ : ∃ k2, k2 = 2 * k := ⟨_, rfl⟩
          have hd1 : 2 * (k : Int) = (k2 : Int) := by omega
          have hd2 : (k : Int) * 2 = (k2 : Int) := by omega
          have hk22 : k2 ≤ 2000000 := by omega
          have hk23 : 0 < k2 := by omega
          have hk24 : k < k2 := by omega
          have HKK := Lib.hid hkk
          have H0 := Lib.hid (show ∃ P R : List Bd, P.length = 0 ∧ Stab l (P ++ R) ∧ FullB k2 P ∧ Blks k R ∧ Row5 wb g (P ++ R) from by
            obtain ⟨L, h1, h2, h3⟩ := HI.out
            exact ⟨[], L, rfl, h1, FullB.nil _, h2, h3⟩)
          clear hkk HI
          go_wp2_with fail
          go_loopw [7, 8] (fun s1 s2 wr => ∃ a b : Nat, s1 = .int .i64 a ∧ s2 = .int .i64 b ∧ a ≤ N ∧ b ≤ N + k2 ∧ Hid (b = a + k2) ∧ Hid (∃ P R : List Bd, P.length = a ∧ Stab l (P ++ R) ∧ FullB k2 P ∧ Blks k R ∧ Row5 wr g (P ++ R)) ∧ Hid (Keeps g w wr)) (fun s1 _ _ => N - (intOf s1).toNat)
          case atStart => exact ⟨0, k2, rfl, rfl, Nat.zero_le _, by omega, Lib.hid (by omega), H0, HK⟩
          case round =>
            clear H0 HK
            obtain ⟨a, b, rfl, rfl, haN, hb2, HAB, HI, HK⟩ := hrel
            obtain ⟨P, R, hP, hSt, hF, hB, hR⟩ := HI.out
            have hRl : P.length + R.length = N := by rw [HN.out, hSt.len, List.length_append]
            have hab := HAB.out
            have hkk := HKK.out
            obtain ⟨m, hm⟩ : ∃ m, m = a + k := ⟨_, rfl⟩
            have hm1 : (a : Int) + (k : Int) = (m : Int) := by omega
            by_cases hbn : b ≤ N
            · obtain ⟨X, R1, rfl, hX, sX, hB1⟩ := hB.split (by omega)
              have hl1 : (X ++ R1).length = k + R1.length := by simp; omega
              obtain ⟨Y, R2, rfl, hY, sY, hB2⟩ := hB1.split (by omega)
              have hl2 : (Y ++ R2).length = k + R2.length := by simp; omega
              have Q := Lib.hid (sym_all g c N hN6 (k2 + 1) P X Y R2 wr a m b (by omega) (by omega) (by omega) sX sY (by omega) (by simpa using hR) hP.symm (by omega) (by omega))
              have HNx := Lib.hid (show ∀ W M, Row5 W g (P ++ M ++ R2) → Stab (X ++ Y) M → SrtL M → ∃ P R : List Bd, P.length = b ∧ Stab l (P ++ R) ∧ FullB k2 P ∧ Blks k R ∧ Row5 W g (P ++ R) from fun W M h1 h2 h3 => by
                have h4 : M.length = k2 := by rw [← h2.len]; simp; omega
                refine ⟨P ++ M, R2, by simp; omega, hSt.trans ?_, hF.snoc h4 h3, hB2, h1⟩
                have := (Stab.refl P).append (h2.append (Stab.refl R2))
                simpa using this)
              have hlt : a < b := by omega
              have hmb : m ≤ 4000000 := by omega
              clear hP hSt hF hR hRl hab HI hkk hm hX sX hB1 hl1 hY sY hB2 hl2 hB
              go_wp2_with fail
              refine (Q.out).mono ?_
              rintro e w2 ⟨rfl, l2, ⟨M, rfl, h2, h3⟩, hR2, hK2⟩
              have HE := Lib.hid (HNx.out _ _ hR2 h2 h3)
              have HK2 := Lib.hid (HK.out.trans hK2)
              clear hR2 hK2 h2 h3
              go_wp2_with fail
              go_roundw
              case rel => exact ⟨b, b + k2, rfl, by go_num, hbn, by omega, Lib.hid rfl, HE, HK2⟩
              case measure => simp [intOf]; omega
            · have hmb : m ≤ 4000000 := by omega
              by_cases hmn : m < N
              · obtain ⟨X, R1, rfl, hX, sX, hB1⟩ := hB.split (by omega)
                have hl1 : (X ++ R1).length = k + R1.length := by simp; omega
                have sY := hB1.short (by omega)
                have Q := Lib.hid (sym_all g c N hN6 (k2 + 1) P X R1 [] wr a m N (by omega) (by omega) (by omega) sX sY (by simp; omega) (by simpa using hR) hP.symm (by omega) (by omega))
                have HNx := Lib.hid (show ∀ W M, Row5 W g (P ++ M ++ []) → Stab (X ++ R1) M → SrtL M → ∃ L : List Bd, Stab l L ∧ Blks k2 L ∧ Row5 W g L from fun W M h1 h2 h3 => by
                  have h4 : M.length = k + R1.length := by rw [← h2.len]; simp; omega
                  exact ⟨P ++ M, hSt.trans ((Stab.refl P).append h2), hF _ (.last (by omega) h3), by simpa using h1⟩)
                clear hP hSt hF hR hRl hab HI hkk hm hX sX hB1 hl1 sY hB HAB
                go_wp2_with fail
                refine (Q.out).mono ?_
                rintro e w2 ⟨rfl, l2, ⟨M, rfl, h2, h3⟩, hR2, hK2⟩
                have HE := Lib.hid (HNx.out _ _ hR2 h2 h3)
                have HK2 := Lib.hid (HK.out.trans hK2)
                clear hR2 hK2 h2 h3
                go_wp2_with fail
                go_roundw
                case rel => exact ⟨k2, rfl, hk23, hk22, HE, HK2⟩
                case measure => simp [intOf]; omega
              · have HE := Lib.hid (show ∃ L : List Bd, Stab l L ∧ Blks k2 L ∧ Row5 wr g L from ⟨P ++ R, hSt, hF _ (.last (by omega) (hB.short (by omega))), hR⟩)
                clear hP hSt hF hR hRl hab HI hkk hm hB HAB
                go_wp2_with fail
                go_roundw
                case rel => exact ⟨k2, rfl, hk23, hk22, HE, HK⟩
                case measure => simp [intOf]; omega
        · have HE := Lib.hid (show ∃ L, (Stab l L ∧ SrtL L) ∧ Row5 wr g L ∧ Keeps g w wr from by
            obtain ⟨L, h1, h2, h3⟩ := HI.out
            exact ⟨L, ⟨h1, h2.short (by rw [← h1.len, ← HN.out]; omega)⟩, h3, HK.out⟩)
          clear HI HK
          go_wp2_with fail
          go_end0
          exact ⟨rfl, HE.out⟩
end Go.Proofs.YtgpglgehlnfggaaGreat
namespace Go.Proofs.YtgpglgehlnfggaaGreat
open Go.RowKit
set_option maxHeartbeats 1000000 in
theorem sort_stable_at (l : List Bd) (g c N : Nat) (w : World) (hN : N = l.length) (hN6 : N ≤ 1000000) (h : Row5 w g l) :
    Calls Tryz.prog 146 #[.slice (some ⟨g, 0, none⟩) N c, CMPV] w (Steps (fun l' => Stab l l' ∧ SrtL l') g w) := by
  have Q := Lib.hid (stable_at l g c N w hN hN6 h)
  clear h hN
  go_enter Tryz.func146, Tryz.ntmps146
  go_wp2_with fail
  refine (Q.out).mono ?_
  rintro e w' ⟨rfl, H⟩
  have HE := Lib.hid H
  clear H
  go_wp2_with fail
  go_end0
  exact ⟨rfl, HE.out⟩
def ClonedB (w : World) (l : List Bd) (e : Ending) (w' : World) : Prop := ∃ g cap, e = .returned (.slice (some ⟨g, 0, none⟩) l.length cap) ∧ l.length ≤ cap ∧ cap ≤ maxLen ∧ w.heap.size ≤ g ∧ Row5 w' g l ∧ Below w.heap.size w w'
theorem bcells_all (l : List Bd) : ∀ u ∈ bcells l, u.oneCell' = true := by
  intro u hu
  obtain ⟨x, _, hx⟩ := List.mem_flatMap.1 hu
  exact bcells_one x u hx
theorem BRow.cells {w : World} {l : List Bd} {b o : Nat} (h : BRow w l b o) : ∀ (j : Nat) (u : Value), (bcells l)[j]? = some u → w.cell? ((⟨b, o, none⟩ : Addr).add j) = some u := by
  intro j u hu
  have hj : j < l.length * 5 := by rw [← bcells_len]; exact (List.getElem?_eq_some_iff.1 hu).1
  have e : j = j / 5 * 5 + j % 5 := by omega
  rw [e, bcells_get l (by omega) (by omega)] at hu
  have := (h (j / 5) (by omega)).1 (j % 5) u hu
  rw [add_plain, e, ← Nat.add_assoc]
  exact this
set_option maxHeartbeats 1000000 in
theorem clone_b_at (l : List Bd) (b o c : Nat) (w : World) (h0 : 0 < l.length) (hl : BRow w l b o) (hsz : l.length ≤ 1000000) :
    Calls Tryz.prog 145 #[.slice (some ⟨b, o, none⟩) l.length c] w (ClonedB w l) := by
  obtain ⟨i0, hi, hz0, hz1, hz2⟩ := info_parts bind_info
  have hn := fun (W : World) => Lib.run_eql_slice_nil (P := Tryz.prog) W 31 47 (some ⟨b, o, none⟩) l.length c 0 0 Tryz.underlying31
  go_enter Tryz.func145, Tryz.ntmps145
  have hl1 : BRow (w.alloc (.cells #[] 47)) l b o := hl.below ((Below.refl _ _).alloc (Nat.le_refl _) _)
  have HC := Lib.hid hl1.cells
  have HO := Lib.hid (World.ownsRow_lit (base := w.heap.size) (e := 47) (size := 5) w #[] 0 (Nat.le_refl _) (Nat.zero_le _) rfl)
  clear hl hl1
  go_wp2_with (at_builtin; refine wpList_append_own _ rfl _ _ 31 rfl w.heap.size 47 i0 _ 5 64 Tryz.underlying31 hi hz0 hz1 hz2 rfl (by decide) _ 0 [] rfl HO.out ⟨b, o, none⟩ l.length c (bcells l) rfl (bcells_len l) HC.out (bcells_all l) (by unfold maxLen; omega) (by omega) (by simp) ?_; intro v' w1 hown1 hg1 _)
  have HG := Lib.hid hg1
  have HW := Lib.hid hown1
  clear hg1 hown1
  go_ret
  have hw := HW.out
  simp only [Nat.zero_add, List.nil_append] at hw
  obtain ⟨hlen, hv⟩ := hw
  rcases hv with ⟨_, h⟩ | ⟨g, cap, cur, rfl, hb, hheap, hle, hcap, _, hcur⟩
  · omega
  · have hw := HW.out
    simp only [Nat.zero_add, List.nil_append] at hw
    refine ⟨g, cap, rfl, hle, hcap, hb, ⟨(own_lt hw g rfl).2, fun j => World.ownsRow.frozenAt hw j, fun i j u hi hu => ?_⟩, ((Below.refl _ _).alloc (Nat.le_refl _) _).grown HG.out (by simp) (fun k hk => (World.ownsRow.lt HO.out k hk).1)⟩
    have hj := bcells_lt hu
    rw [World.ownsRow.cellAt hw (i * 5 + j) (by omega)]
    exact (bcells_get l hi hj).trans hu
set_option maxHeartbeats 1000000 in
theorem in_order_any (l : List Bd) (A : Option Addr) (c : Nat) (w : World) (hl : BLst w A l c) (hlen : l.length ≤ 1000000) (hn : ∀ x ∈ l, x.tm.nodes ≤ 1000000) : Calls Tryz.prog 107 #[.slice A l.length c] w (InOrd l w) := by
  by_cases hs : Srt l
  · exact in_order_at l A c w hl ⟨hlen, hs, hn⟩
  have hs2 : srtB l = false := by
    cases h : srtB l
    · rfl
    · exact absurd ((srtB_iff l).1 h) hs
  have h0 : 0 < l.length := by
    rcases Nat.eq_zero_or_pos l.length with h | h
    · exact absurd (fun i j hij hj => by omega) hs
    · exact h
  have Q := Lib.hid (is_sorted_at l A c w hl hlen)
  rw [hs2] at Q
  obtain ⟨b, o, rfl, hB⟩ := hl.2.2 h0
  have QC := Lib.hid (fun W (hb : Below w.heap.size w W) => clone_b_at l b o c W h0 (hB.below hb) hlen)
  have QS := Lib.hid (fun g cap W (h : Row5 W g l) => sort_stable_at l g cap l.length W rfl hlen h)
  have HM := Lib.hid (fun x (hx : x ∈ l) => hl.mem hx)
  have HNo := Lib.hid hn
  clear hl hB hs hs2 hn h0
  go_enter Tryz.func107, Tryz.ntmps107
  go_wp2_with fail
  refine (Q.out).mono ?_
  rintro e w1 ⟨rfl, hb1⟩
  go_wp2_with fail
  refine (QC.out _ hb1).mono ?_
  rintro e w2 ⟨g, cap, rfl, hle, hcap, hg, hR, hb2⟩
  have HB2 := Lib.hid (hb1.trans (hb2.mono hb1.size))
  have HG := Lib.hid (Nat.le_trans hb1.size hg)
  have HC := Lib.hid (show l.length ≤ cap ∧ cap ≤ maxLen from ⟨hle, hcap⟩)
  have Q3 := Lib.hid (QS.out g cap w2 hR)
  clear hb2 hg hle hcap hR
  go_wp2_with fail
  refine (Q3.out).mono ?_
  rintro e w3 ⟨rfl, l', ⟨hS, hL⟩, hR, hK⟩
  have HE := Lib.hid (show InOrd l w (.returned (.slice (some ⟨g, 0, none⟩) l.length cap)) w3 from by
    have hb := Keeps.below HB2.out hK HG.out
    have hl := hS.len
    refine ⟨some ⟨g, 0, none⟩, cap, l', by rw [hl], ⟨by rw [← hl]; exact HC.out.1, HC.out.2, fun _ => ⟨g, 0, rfl, fun i hi => ⟨fun j u hu => ?_, ?_⟩⟩⟩, ⟨by omega, hL.srt, fun x hx => HNo.out x (hS.mem.2 hx)⟩, fun v => (stab_look hS v).symm, hb⟩
    · rw [Nat.zero_add]; exact hR.2.2 i j u hi hu
    · have := HM.out _ (hS.mem.2 (bgetD_mem hi))
      exact ⟨this.1, this.2.below hb⟩)
  clear hS hL hR hK
  go_wp2_with fail
  go_ret
  exact HE.out
end Go.Proofs.YtgpglgehlnfggaaGreat
namespace Go.Proofs.YtgpglgehlnfggaaGreat
open Go.RowKit
structure HeldL (B : Nat) (w : World) (vs : List Value) : Prop where
  lt : B < w.heap.size
  cell : ∀ j v, vs[j]? = some v → w.cell? ⟨B, j, none⟩ = some v
  free : ∀ j, w.frozen? ⟨B, j, none⟩ = false
theorem HeldL.below {B : Nat} {w w' : World} {vs : List Value} (h : HeldL B w vs) (hb : Below w.heap.size w w') : HeldL B w' vs :=
  ⟨Nat.lt_of_lt_of_le h.lt hb.size, fun j v hv => keepv hb (h.cell j v hv), fun j => (hb.frozen (p := ⟨B, j, none⟩) h.lt).trans (h.free j)⟩
theorem heldL_new (w : World) (vs : List Value) (T : TypeId) : HeldL w.heap.size (w.alloc (.cells vs.toArray T)) vs :=
  ⟨by simp, fun j v hv => by rw [World.cell?_alloc_at _ _ _ _ rfl, List.getElem?_toArray]; exact hv, fun j => World.frozen?_alloc_at _ _ _ _ rfl⟩
theorem two_boxesL (w : World) (vs us : List Value) (T : TypeId) : HeldL w.heap.size ((w.alloc (.cells vs.toArray T)).alloc (.cells us.toArray T)) vs ∧ HeldL (w.heap.size + 1) ((w.alloc (.cells vs.toArray T)).alloc (.cells us.toArray T)) us := by
  have h := heldL_new (w.alloc (.cells vs.toArray T)) us T
  rw [World.size_alloc] at h
  exact ⟨(heldL_new w vs T).below (below1 _ _), h⟩
def LL (B : World → Prop) (lo : Nat) (w : World) (A : Option Addr) (cur : List Tm) (cap : Nat) : Prop := ∀ W, B W → Agree lo No w W → Lst W A cur cap
theorem LL.set {B : World → Prop} {lo : Nat} {w : World} {A : Option Addr} {cur : List Tm} {cap : Nat} (h : LL B lo w A cur cap) {p : Addr} (hp : p.block < lo) (v : Value) : LL B lo (w.setCell p v) A cur cap :=
  fun W hB hW => h W hB fun b h1 h2 h3 => (hW b h1 (by simpa [World.setCell] using h2) h3).trans (Below.heap_setCell _ _ _ _ (by omega))
theorem LL.low {B : World → Prop} {lo lo' : Nat} {w : World} {A : Option Addr} {cur : List Tm} {cap : Nat} (h : LL B lo w A cur cap) (hl : lo' ≤ lo) : LL B lo' w A cur cap := fun W hB hW => h W hB fun b h1 h2 h3 => hW b (by omega) h2 h3
theorem LL.lst {B : World → Prop} {lo : Nat} {w : World} {A : Option Addr} {cur : List Tm} {cap : Nat} (h : LL B lo w A cur cap) (hB : B w) : Lst w A cur cap := h w hB (Agree.refl _ _ _)
def MadeAm (l : List Bd) (t : Am) (w : World) (e : Ending) (w' : World) : Prop := ∃ u : Am, e = .returned u.val ∧ (u.name = t.name) ∧ stripL u.args = stripL (appL l t.args) ∧ u.At w' ∧ Below w.heap.size w w'
def MadeGl (l : List Bd) (t : Gl) (w : World) (e : Ending) (w' : World) : Prop := ∃ u : Gl, e = .returned u.val ∧ (u.op = t.op ∧ u.name = t.name) ∧ stripL u.args = stripL (appL l t.args) ∧ u.At w' ∧ Below w.heap.size w w'
set_option maxHeartbeats 4000000 in
theorem apply_goal_at (l : List Bd) (A : Option Addr) (c : Nat) (t : Gl) (w : World) (ht : t.At w) (hn : nodesL t.args ≤ 1000000)
    (Q0 : ∀ W, Below w.heap.size w W → Calls Tryz.prog 107 #[.slice A l.length c] W (InOrd l W)) :
    Calls Tryz.prog 72 #[.slice A l.length c, t.val] w (MadeGl l t w) := by
  have Q := Lib.hid Q0
  obtain ⟨o, s, A2, c2, a⟩ := t
  have hl : Lst w A2 a c2 := ht.2.2
  simp only at hn
  have hln : a.length ≤ 1000000 := by have := length_le_nodes a; omega
  have QA := Lib.hid (fun l' (hG : Good l') D q W (hb : BLst W D l' q) (h : Below w.heap.size w W) => apply_all_at l' D q a A2 c2 W (hl.below h) hln (fun x hx W' h' => apply_s_at l' hG D q x W' (hb.below h') ((hl.mem hx).below (h.trans (h'.mono h.size))) (by have := nodes_mem hx; omega)))
  have HV := Lib.hid (fun (l' : List Bd) (h : ∀ v, look l' v = look l v) => (app_of_look h).2 a)
  have HT := Lib.hid (show Fits o ∧ s.size ≤ maxLen from ⟨ht.1, ht.2.1⟩)
  obtain ⟨HB0, HB1⟩ := two_boxesL w [.int .i64 o, .string s, .slice A2 a.length c2] [.int .i64 0, .string ⟨#[]⟩, .slice none 0 0] 24
  have H0 := Lib.hid HB0
  have H1 := Lib.hid HB1
  clear HB0 HB1 ht hn hl hln Q0
  show Calls Tryz.prog 72 #[.slice A l.length c, .agg #[.int .i64 o, .string s, .slice A2 a.length c2]] w _
  go_enter Tryz.func72, Tryz.ntmps72
  have x1 := H0.out.cell 2 _ rfl
  go_wp2_with fail
  go_region_with (first
    | (go_at_call 107; refine (Q.out _ (by first | exact below2 _ _ _ | exact (below2 _ _ _).drew)).mono ?_; rintro e w1 ⟨D, q, l', rfl, hD, hG, hlk, hb1⟩; have K1 := Lib.hid (H0.out.below (undrew hb1)); have M1 := Lib.hid (H1.out.below (undrew hb1)); have hz := K1.out.lt; have y1 := K1.out.cell 2 _ rfl; have HB1 := Lib.hid ((below2 w _ _).trans (undrew (hb1.mono (by simp; omega)))); have HD := Lib.hid hD; have HE := Lib.hid (HV.out l' hlk); clear hD hlk hb1)
    | (go_at_call 108; refine (QA.out _ hG _ _ _ HD.out HB1.out).mono ?_; rintro e w2 ⟨A3, p3, cur, rfl, hcl, hst, hL, hb2⟩; have K2 := Lib.hid (K1.out.below hb2); have M2 := Lib.hid (M1.out.below hb2); have hz2 := M2.out.lt; have hz3 := K2.out.lt; have y10 := K2.out.cell 0 _ rfl; have y11 := K2.out.cell 1 _ rfl; have y12 := K2.out.cell 2 _ rfl; have e0 := M2.out.cell 0 _ rfl; have e1 := M2.out.cell 1 _ rfl; have e2 := M2.out.cell 2 _ rfl; have f0 := M2.out.free 0; have f1 := M2.out.free 1; have f2 := M2.out.free 2; have g2 := K2.out.free 2; have HB2 := Lib.hid (HB1.out.trans (hb2.mono HB1.out.size)); have HC := Lib.hid hcl; have HS := Lib.hid hst; have HL := Lib.hid (LL.low (B := Any) (lo' := w.heap.size + 2) (fun W _ hW => hL W hW) (by have := M1.out.lt; omega)); clear hcl hst hL hb2))
  all_goals
    go_wp2_with fail
    refine bodyPost_ret (v := .agg #[.int .i64 o, .string s, .slice A3 a.length p3]) (by simp [results, Tryz.results72, go_sem, e0, e1, e2]) rfl ?_
    refine ⟨⟨o, s, A3, p3, cur⟩, by rw [← HC.out], ⟨rfl, rfl⟩, HS.out.trans (by rw [HE.out]), ⟨HT.out.1, HT.out.2, ((LL.set ((LL.set ((LL.set ((LL.set (HL.out) (p := ⟨w.heap.size, 2, none⟩) (by show w.heap.size < w.heap.size + 2; omega) _)) (p := ⟨w.heap.size + 1, 0, none⟩) (by show w.heap.size + 1 < w.heap.size + 2; omega) _)) (p := ⟨w.heap.size + 1, 1, none⟩) (by show w.heap.size + 1 < w.heap.size + 2; omega) _)) (p := ⟨w.heap.size + 1, 2, none⟩) (by show w.heap.size + 1 < w.heap.size + 2; omega) _)).lst trivial⟩, (Below.setCell ((Below.setCell ((Below.setCell ((Below.setCell (HB2.out) (p := ⟨w.heap.size, 2, none⟩) (by show w.heap.size ≤ w.heap.size; omega) _)) (p := ⟨w.heap.size + 1, 0, none⟩) (by show w.heap.size ≤ w.heap.size + 1; omega) _)) (p := ⟨w.heap.size + 1, 1, none⟩) (by show w.heap.size ≤ w.heap.size + 1; omega) _)) (p := ⟨w.heap.size + 1, 2, none⟩) (by show w.heap.size ≤ w.heap.size + 1; omega) _)⟩
end Go.Proofs.YtgpglgehlnfggaaGreat
