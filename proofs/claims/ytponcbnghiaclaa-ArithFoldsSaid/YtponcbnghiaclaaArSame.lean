/-
  Contracts of Same, of two terms with the same fields, and of two, of the statements.
-/
import Derived.Test.YtponcbnghiaclaaArEval
import Derived.BigQuiet
import Derived.Lib.QuietBelow
namespace Go.Proofs.Ytponcbnghiaclaa
open Go.RowKit Go.Sort

theorem box8 {w w' : World} {v0 v1 v2 v3 u0 u1 u2 u3 : Value} {T : TypeId}
    (hb : Below ((w.alloc (.cells #[v0, v1, v2, v3] T)).alloc (.cells #[u0, u1, u2, u3] T)).heap.size ((w.alloc (.cells #[v0, v1, v2, v3] T)).alloc (.cells #[u0, u1, u2, u3] T)) w') :
    (w'.cell? ⟨w.heap.size, 0, none⟩ = some v0 ∧ w'.cell? ⟨w.heap.size, 1, none⟩ = some v1 ∧ w'.cell? ⟨w.heap.size, 2, none⟩ = some v2 ∧ w'.cell? ⟨w.heap.size, 3, none⟩ = some v3) ∧
    (w'.cell? ⟨w.heap.size + 1, 0, none⟩ = some u0 ∧ w'.cell? ⟨w.heap.size + 1, 1, none⟩ = some u1 ∧ w'.cell? ⟨w.heap.size + 1, 2, none⟩ = some u2 ∧ w'.cell? ⟨w.heap.size + 1, 3, none⟩ = some u3) ∧ Below w.heap.size w w' := by
  have hz : (w.alloc (.cells #[v0, v1, v2, v3] T)).heap.size = w.heap.size + 1 := by simp
  have h : ∀ j, w'.cell? ⟨w.heap.size, j, none⟩ = (#[v0, v1, v2, v3] : Array Value)[j]? := fun j => by
    rw [hb.cell (p := ⟨w.heap.size, j, none⟩) (by simp; omega), World.cell?_alloc_lt _ _ _ (by simp), World.cell?_alloc_at _ _ _ _ rfl]
  have g : ∀ j, w'.cell? ⟨w.heap.size + 1, j, none⟩ = (#[u0, u1, u2, u3] : Array Value)[j]? := fun j => by
    rw [hb.cell (p := ⟨w.heap.size + 1, j, none⟩) (by simp), World.cell?_alloc_at _ _ _ _ hz.symm]
  exact ⟨⟨h 0, h 1, h 2, h 3⟩, ⟨g 0, g 1, g 2, g 3⟩, (((Below.refl _ _).alloc (Nat.le_refl _) _).alloc (by simp) _).trans (hb.mono (by simp; omega))⟩
theorem below2 (w : World) (o p : Obj) : Below w.heap.size w ((w.alloc o).alloc p) := ((Below.refl _ _).alloc (Nat.le_refl _) _).alloc (by simp) _

set_option maxHeartbeats 4000000 in
theorem same_at (t : Tm) : ∀ (u : Tm) (w : World), t.strip = u.strip → t.At w → u.At w →
    Calls Try.prog 18 #[t.val, u.val] w fun e w' => e = .returned (.bool true) ∧ Below w.heap.size w w' := by
  induction t using Tm.induct with
  | h k n s A c a ih =>
    intro u w hs ht hu
    obtain ⟨k', n', s', A', c', a'⟩ := u
    obtain ⟨h1, h2, h3, h4, h5⟩ := strip_parts hs
    simp only [Tm.kind, Tm.num, Tm.name, Tm.args] at h1 h2 h3 h4 h5
    subst h1 h2 h3
    have hl : Lst w A a c := ht.lst
    have hm : Lst w A' a' c' := hu.lst
    have hlen : a.length ≤ 9223372036854775807 := by have := hl.1; have := hl.2.1; unfold maxLen at *; omega
    have H5 := Lib.hid h5
    have H4 := Lib.hid h4
    have HL := Lib.hid hl
    have HM := Lib.hid hm
    have QI := Lib.hid ih
    show Calls Try.prog 18 #[.agg #[.int .i64 k, .int .i64 n, .string s, .slice A a.length c], .agg #[.int .i64 k, .int .i64 n, .string s, .slice A' a'.length c']] w _
    rw [← h4]
    clear hs ht hu hl hm ih h4 h5
    go_enter Try.func18, Try.ntmps18
    go_wp2_with fail
    go_loopw [37] (fun i wr => ∃ j : Nat, j ≤ a.length ∧ i = .int .i64 j ∧ Below ((w.alloc (.cells #[.int .i64 k, .int .i64 n, .string s, .slice A a.length c] 30)).alloc (.cells #[.int .i64 k, .int .i64 n, .string s, .slice A' a.length c'] 30)).heap.size ((w.alloc (.cells #[.int .i64 k, .int .i64 n, .string s, .slice A a.length c] 30)).alloc (.cells #[.int .i64 k, .int .i64 n, .string s, .slice A' a.length c'] 30)) wr) (fun i _ => a.length - (intOf i).toNat)
    case atStart => exact ⟨0, Nat.zero_le _, rfl, Below.refl _ _⟩
    case round =>
      obtain ⟨j, hj, rfl, hbb⟩ := hrel
      obtain ⟨⟨_, _, _, d3⟩, ⟨_, _, _, e3⟩, hbw⟩ := box8 hbb
      by_cases hlt : j < a.length
      · have hlt' : j < a'.length := by rw [← H4.out]; exact hlt
        obtain ⟨b, o, rfl, ⟨c0, c1, c2, c3⟩, hx⟩ := (HL.out.below hbw).get hlt
        obtain ⟨b', o', rfl, ⟨g0, g1, g2, g3⟩, hy⟩ := (HM.out.below hbw).get hlt'
        have hmem := getD_mem hlt
        have hst := stripL_get H5.out j
        generalize a.getD j default = x at *
        generalize a'.getD j default = y at *
        have Q1 := Lib.hid (fun W (h : Below wr.heap.size wr W) => QI.out x hmem y W hst (hx.below h) (hy.below h))
        clear hx hy QI hmem hst hlt'
        obtain ⟨k1, n1, s1, A1, p1, a1⟩ := x
        obtain ⟨k2, n2, s2, A2, p2, a2⟩ := y
        simp only [Tm.kind, Tm.num, Tm.name, Tm.at_, Tm.args, Tm.cap] at c0 c1 c2 c3 g0 g1 g2 g3
        have kc0 := cell_regrown c0
        have kc1 := cell_regrown c1
        have kc2 := cell_regrown c2
        have kc3 := cell_regrown c3
        have kg0 := cell_regrown g0
        have kg1 := cell_regrown g1
        have kg2 := cell_regrown g2
        have kg3 := cell_regrown g3
        have kd3 := cell_regrown d3
        have ke3 := cell_regrown e3
        go_wp2_with fail
        refine wp_region_quiet_below (by kernel_rfl) (by kernel_rfl) ?_
        repeat (go_big_quiet_step ((go_at_call 18; exact Calls.regrown_of (Q1.out _ (below_regrown _ _ _)))))
        refine wpQuiet_nil ?_
        intro w1 hw'
        have hb4 := hbb.trans ((regrown_below hw').mono hbb.size)
        clear kc0 kc1 kc2 kc3 kg0 kg1 kg2 kg3 kd3 ke3 hw'
        go_wp2_with fail
        go_roundw
        case rel => exact ⟨j + 1, by omega, by go_num, hb4⟩
        case measure => simp [intOf]; omega
      · obtain rfl : j = a.length := by omega
        clear QI
        go_wp2_with fail
        go_ret
        exact ⟨rfl, hbw⟩
end Go.Proofs.Ytponcbnghiaclaa
