/-
  Contracts of the closure of Same, slices.EqualFunc (at bindings) and Same of the program.
-/
import Derived.Test.YtgialbcohkpogaaGreatSuMem
import Derived.Test.YtgialbcohkpogaaGreatSuFind
import Derived.Test.YtgialbcohkpogaaGreatSuMath
import Derived.Test.YtgialbcohkpogaaGreatTmOrder
import Derived.Test.YtgialbcohkpogaaGreatSuRight
namespace Go.Proofs.YtgialbcohkpogaaGreat
open Go.RowKit Go.Sort

set_option maxHeartbeats 1000000 in
theorem same_bd_at (x y : Bd) (w : World) (hx : x.tm.At w) (hy : y.tm.At w) {r : Bool} (hr : (decide (x.var = y.var) && (cmpT x.tm y.tm == 0)) = r) :
    Calls Tryz.prog 61 #[x.val, y.val] w fun e w' => e = .returned (.bool r) ∧ Below w.heap.size w w' := by
  have Q := Lib.hid (fun W (h : Below w.heap.size w W) => same_at x.tm y.tm W (hx.below h) (hy.below h) rfl)
  have HR := Lib.hid hr
  clear hx hy hr
  obtain ⟨v, t⟩ := x
  obtain ⟨v', t'⟩ := y
  simp only at Q HR
  generalize (cmpT t t' == 0) = z at *
  obtain ⟨k, n, s, A, c, a⟩ := t
  obtain ⟨k', n', s', A', c', a'⟩ := t'
  show Calls Tryz.prog 61 #[.agg #[.int .i64 v, .int .i64 k, .int .i64 n, .string s, .slice A a.length c], .agg #[.int .i64 v', .int .i64 k', .int .i64 n', .string s', .slice A' a'.length c']] w _
  by_cases hv : v = v'
  · subst hv
    have HZ := Lib.hid (show z = r by rw [← HR.out]; simp)
    have hv' : (v == v) = true := by simp
    go_enter Tryz.func61, Tryz.ntmps61
    go_wp2_with fail
    refine (Q.out _ (below2 _ _ _)).mono ?_
    rintro e w2 ⟨rfl, hb2⟩
    go_wp2_with fail
    go_ret
    exact ⟨by rw [← HZ.out]; rfl, (below2 _ _ _).trans (hb2.mono (by simp; omega))⟩
  · have HZ := Lib.hid (show false = r by rw [← HR.out]; simp [hv])
    have hv' : (v == v') = false := by simpa using hv
    clear hv
    go_enter Tryz.func61, Tryz.ntmps61
    go_wp2_with fail
    go_ret
    exact ⟨by rw [← HZ.out]; rfl, below2 _ _ _⟩

set_option maxHeartbeats 4000000 in
theorem equal_func_b_at (a c : List Bd) (A C : Option Addr) (p q : Nat) (w : World) (ha : BLst w A a p) (hc : BLst w C c q) :
    Calls Tryz.prog 60 #[.slice A a.length p, .slice C c.length q, .func (.func 61) #[] #[]] w fun e w' => e = .returned (.bool (sameB a c)) ∧ Below w.heap.size w w' := by
  have hla := ha.len
  have hlc := hc.len
  have HA := Lib.hid ha
  have HC := Lib.hid hc
  clear ha hc
  by_cases hl : a.length = c.length
  · have hne : ((a.length : Int) != (c.length : Int)) = false := by simp [hl]
    have HL := Lib.hid hl
    go_enter Tryz.func60, Tryz.ntmps60
    clear hl
    go_wp2_with fail
    go_loopw [17] (fun i wr => ∃ j : Nat, j ≤ a.length ∧ i = .int .i64 j ∧ Hid (sameUp a c j = true) ∧ Below w.heap.size w wr) (fun i _ => a.length - (intOf i).toNat)
    case atStart => exact ⟨0, Nat.zero_le _, rfl, Lib.hid rfl, Below.refl _ _⟩
    case round =>
      obtain ⟨j, hj, rfl, HF, hbw⟩ := hrel
      by_cases hlt : j < a.length
      · have hltc : j < c.length := by rw [← HL.out]; exact hlt
        obtain ⟨b, o, rfl, ⟨c0, c1, c2, c3, c4⟩, _, hx⟩ := (HA.out.below hbw).get hlt
        obtain ⟨b', o', rfl, ⟨p0, p1, p2, p3, p4⟩, _, hy⟩ := (HC.out.below hbw).get hltc
        have HN := Lib.hid (sameUp_next a c j)
        have HS := Lib.hid (fun h => show sameB a c = false by unfold sameB; rw [sameUp_stop hlt h, Bool.and_false])
        have HP : sameAt a c j = (decide ((a.getD j default).var = (c.getD j default).var) && (cmpT (a.getD j default).tm (c.getD j default).tm == 0)) := rfl
        generalize a.getD j default = x at *
        generalize c.getD j default = y at *
        obtain ⟨r, hr⟩ : ∃ r, (decide (x.var = y.var) && (cmpT x.tm y.tm == 0)) = r := ⟨_, rfl⟩
        have Q := Lib.hid (fun W (h : Below wr.heap.size wr W) => same_bd_at x y W (hx.below h) (hy.below h) hr)
        rw [hr] at HP
        have HPH := Lib.hid HP
        clear hr HP hx hy
        obtain ⟨v, k, n, s, A', c', l⟩ := x
        obtain ⟨v', k', n', s', A2, c2', l2⟩ := y
        simp only [Tm.kind, Tm.num, Tm.name, Tm.at_, Tm.args, Tm.cap] at c0 c1 c2 c3 c4 p0 p1 p2 p3 p4
        have p0' : ∀ ob, (wr.alloc ob).cell? _ = _ := fun ob => keepv (below1 wr ob) p0
        have p1' : ∀ ob, (wr.alloc ob).cell? _ = _ := fun ob => keepv (below1 wr ob) p1
        have p2' : ∀ ob, (wr.alloc ob).cell? _ = _ := fun ob => keepv (below1 wr ob) p2
        have p3' : ∀ ob, (wr.alloc ob).cell? _ = _ := fun ob => keepv (below1 wr ob) p3
        have p4' : ∀ ob, (wr.alloc ob).cell? _ = _ := fun ob => keepv (below1 wr ob) p4
        cases r
        · have HE := Lib.hid (HS.out HPH.out)
          go_wp2_with fail
          refine (Q.out _ (below2 _ _ _)).mono ?_
          rintro e w2 ⟨rfl, hb2⟩
          go_wp2_with fail
          go_ret
          exact ⟨by rw [HE.out]; rfl, hbw.trans (((below2 _ _ _).trans (hb2.mono (by simp; omega))).mono hbw.size)⟩
        · have HE := Lib.hid (show sameUp a c (j + 1) = true by rw [HN.out, HF.out, HPH.out]; rfl)
          go_wp2_with fail
          refine (Q.out _ (below2 _ _ _)).mono ?_
          rintro e w2 ⟨rfl, hb2⟩
          go_wp2_with fail
          go_roundw
          case rel => exact ⟨j + 1, by omega, by go_num, HE, hbw.trans (((below2 _ _ _).trans (hb2.mono (by simp; omega))).mono hbw.size)⟩
          case measure => simp [intOf]; omega
      · obtain rfl : j = a.length := by omega
        have HE := Lib.hid (show sameB a c = true by unfold sameB; rw [HF.out, HL.out]; simp)
        go_wp2_with fail
        go_ret
        exact ⟨by rw [HE.out]; rfl, hbw⟩
  · have hne : ((a.length : Int) != (c.length : Int)) = true := by simp; omega
    have HE := Lib.hid (show sameB a c = false by unfold sameB; simp [hl])
    clear hl
    go_enter Tryz.func60, Tryz.ntmps60
    go_wp2_with fail
    go_ret
    exact ⟨by rw [HE.out]; rfl, Below.refl _ _⟩

theorem same_s_at (a c : List Bd) (A C : Option Addr) (p q : Nat) (w : World) (ha : BLst w A a p) (hc : BLst w C c q) :
    Calls Tryz.prog 35 #[.slice A a.length p, .slice C c.length q] w fun e w' => e = .returned (.bool (sameB a c)) ∧ Below w.heap.size w w' := by
  have Q := Lib.hid (equal_func_b_at a c A C p q w ha hc)
  clear ha hc
  generalize sameB a c = r at *
  go_enter Tryz.func35, Tryz.ntmps35
  go_wp2_with fail
  refine (Q.out).mono ?_
  rintro e w2 ⟨rfl, hb2⟩
  go_wp2_with fail
  go_ret
  exact ⟨rfl, hb2⟩
end Go.Proofs.YtgialbcohkpogaaGreat
