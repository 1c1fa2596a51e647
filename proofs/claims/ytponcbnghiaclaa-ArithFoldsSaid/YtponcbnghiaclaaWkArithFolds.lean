/-
  The walk of ArithFolds.
-/
import Derived.Test.YtponcbnghiaclaaArAwake
import Derived.Test.YtponcbnghiaclaaArLeft
import Derived.Test.YtponcbnghiaclaaArTwo
import Derived.Test.YtponcbnghiaclaaArFold
import Derived.Test.YtponcbnghiaclaaArRefFold
import Derived.Test.YtponcbnghiaclaaArNodes
import Derived.Deep.RegionHeld3
namespace Go.Proofs.Ytponcbnghiaclaa.arithFolds
open Go.ChangeShapes Go.WideShapes Go.ChangeAt Go.RowKit Go.Sort
set_option linter.unusedVariables false

set_option maxHeartbeats 16000000 in
theorem walk (a0 : Tm) (w : World) (w0 : a0.At w) :
    Calls Try.prog 6 #[a0.val] w fun e w' => e = .returned (.bool true) ∧ Below w.heap.size w w' := by
  obtain ⟨g, hg⟩ : ∃ g, decide (0 ≤ a0.lft 1000 100) = g := ⟨_, rfl⟩
  have QG := Lib.hid (fun (W : World) (h : Below w.heap.size w W) => small_at a0 W (w0.below h) hg)
  cases g
  · obtain ⟨k, n, s, A, c, a⟩ := a0
    clear w0 hg
    show Calls Try.prog 6 #[.agg #[.int .i64 k, .int .i64 n, .string s, .slice A a.length c]] w _
    go_enter Try.func6, Try.ntmps6
    go_wp2_with fail
    refine (QG.out _ (below1 _ _)).mono ?_
    rintro e w1 ⟨rfl, hb⟩
    go_wp2_with fail
    refine (awake_at _).mono ?_
    rintro e w2 ⟨rfl, hb2⟩
    go_wp2_with fail
    go_ret
    exact ⟨rfl, ((below1 _ _).trans (hb.mono (by simp))).trans (hb2.mono (Nat.le_trans (below1 _ _).size hb.size))⟩
  · have hz := small_nodes hg
    have hz' : a0.nodes ≤ 1000000 := by omega
    have Q2 := Lib.hid (fun (W : World) (h : Below w.heap.size w W) => fold_at a0 W (w0.below h) hz')
    have Q3 := Lib.hid (fun (W : World) (h : Below w.heap.size w W) => ref_fold_at a0 W (w0.below h) hz')
    have HA := Lib.hid w0
    have HZ := Lib.hid hz'
    clear w0 hg hz hz'
    go_enter Try.func6, Try.ntmps6
    go_wp2_with fail
    refine (QG.out _ (below1 _ _)).mono ?_
    rintro e w1 ⟨rfl, hb⟩
    obtain ⟨d0, d1, d2, d3, hb1⟩ := box4 hb
    go_wp2_with fail
    refine (Q2.out _ hb1).mono ?_
    rintro e w3 ⟨u, rfl, hu, hst, hb2⟩
    have HU := Lib.hid (hst w3 (fun x hx => by rw [List.mem_singleton.1 hx]; exact HA.out.below (hb1.trans (hb2.mono hb1.size))) (fun _ _ _ _ => rfl))
    have HS := Lib.hid hu
    have HN := Lib.hid (show u.nodes ≤ 1000000 by rw [nodes_same hu]; exact Nat.le_trans (nodes_fold.1 a0) HZ.out)
    replace d0 := keepc (hb2.alloc (Nat.le_trans (Nat.le_refl _) hb2.size) (.cells #[.int .i64 u.kind, .int .i64 u.num, .string u.name, .slice u.at_ u.args.length u.cap] 30)) d0
    replace d1 := keepc (hb2.alloc (Nat.le_trans (Nat.le_refl _) hb2.size) (.cells #[.int .i64 u.kind, .int .i64 u.num, .string u.name, .slice u.at_ u.args.length u.cap] 30)) d1
    replace d2 := keepc (hb2.alloc (Nat.le_trans (Nat.le_refl _) hb2.size) (.cells #[.int .i64 u.kind, .int .i64 u.num, .string u.name, .slice u.at_ u.args.length u.cap] 30)) d2
    replace d3 := keepc (hb2.alloc (Nat.le_trans (Nat.le_refl _) hb2.size) (.cells #[.int .i64 u.kind, .int .i64 u.num, .string u.name, .slice u.at_ u.args.length u.cap] 30)) d3
    replace hb1 := hb1.trans (hb2.mono hb1.size)
    have hb4 : Below w.heap.size w (w3.alloc (.cells #[.int .i64 u.kind, .int .i64 u.num, .string u.name, .slice u.at_ u.args.length u.cap] 30)) := hb1.alloc hb1.size _
    have HF := Lib.hid (fun (W : World) (h : Below (w3.alloc (.cells #[.int .i64 u.kind, .int .i64 u.num, .string u.name, .slice u.at_ u.args.length u.cap] 30)).heap.size (w3.alloc (.cells #[.int .i64 u.kind, .int .i64 u.num, .string u.name, .slice u.at_ u.args.length u.cap] 30)) W) => hb4.trans (h.mono hb4.size))
    have HV := Lib.hid (fun (W : World) (h : Below (w3.alloc (.cells #[.int .i64 u.kind, .int .i64 u.num, .string u.name, .slice u.at_ u.args.length u.cap] 30)).heap.size (w3.alloc (.cells #[.int .i64 u.kind, .int .i64 u.num, .string u.name, .slice u.at_ u.args.length u.cap] 30)) W) => (HU.out.alloc _).below h)
    have HK := Lib.hid (fun (W : World) (h : Below (w3.alloc (.cells #[.int .i64 u.kind, .int .i64 u.num, .string u.name, .slice u.at_ u.args.length u.cap] 30)).heap.size (w3.alloc (.cells #[.int .i64 u.kind, .int .i64 u.num, .string u.name, .slice u.at_ u.args.length u.cap] 30)) W) => (⟨keepc h d0, keepc h d1, keepc h d2, keepc h d3, boxN h 0 _ rfl, boxN h 1 _ rfl, boxN h 2 _ rfl, boxN h 3 _ rfl, h⟩ : (fun W => W.cell? ⟨w.heap.size, 0, none⟩ = some (.int .i64 a0.kind) ∧ W.cell? ⟨w.heap.size, 1, none⟩ = some (.int .i64 a0.num) ∧ W.cell? ⟨w.heap.size, 2, none⟩ = some (.string a0.name) ∧ W.cell? ⟨w.heap.size, 3, none⟩ = some (.slice a0.at_ a0.args.length a0.cap) ∧ W.cell? ⟨w3.heap.size, 0, none⟩ = some (.int .i64 u.kind) ∧ W.cell? ⟨w3.heap.size, 1, none⟩ = some (.int .i64 u.num) ∧ W.cell? ⟨w3.heap.size, 2, none⟩ = some (.string u.name) ∧ W.cell? ⟨w3.heap.size, 3, none⟩ = some (.slice u.at_ u.args.length u.cap) ∧ Below (w3.alloc (.cells #[.int .i64 u.kind, .int .i64 u.num, .string u.name, .slice u.at_ u.args.length u.cap] 30)).heap.size (w3.alloc (.cells #[.int .i64 u.kind, .int .i64 u.num, .string u.name, .slice u.at_ u.args.length u.cap] 30)) W) W))
    have QR := Lib.hid (fun (W : World) (h : Below (w3.alloc (.cells #[.int .i64 u.kind, .int .i64 u.num, .string u.name, .slice u.at_ u.args.length u.cap] 30)).heap.size (w3.alloc (.cells #[.int .i64 u.kind, .int .i64 u.num, .string u.name, .slice u.at_ u.args.length u.cap] 30)) W) => Q3.out W (HF.out W h))
    have QF := Lib.hid (fun (W : World) (h : Below (w3.alloc (.cells #[.int .i64 u.kind, .int .i64 u.num, .string u.name, .slice u.at_ u.args.length u.cap] 30)).heap.size (w3.alloc (.cells #[.int .i64 u.kind, .int .i64 u.num, .string u.name, .slice u.at_ u.args.length u.cap] 30)) W) => fold_at u W (HV.out W h) HN.out)
    have QV := Lib.hid (fun (X W : World) (v : Tm) (h : Below (w3.alloc (.cells #[.int .i64 u.kind, .int .i64 u.num, .string u.name, .slice u.at_ u.args.length u.cap] 30)).heap.size (w3.alloc (.cells #[.int .i64 u.kind, .int .i64 u.num, .string u.name, .slice u.at_ u.args.length u.cap] 30)) W) (hv : Stays X.heap.size W (fun _ => False) [a0] v) => hv W (fun x hx => by rw [List.mem_singleton.1 hx]; exact HA.out.below (HF.out W h)) (fun _ _ _ _ => rfl))
    have QY := Lib.hid (fun (X W : World) (v : Tm) (h : Below (w3.alloc (.cells #[.int .i64 u.kind, .int .i64 u.num, .string u.name, .slice u.at_ u.args.length u.cap] 30)).heap.size (w3.alloc (.cells #[.int .i64 u.kind, .int .i64 u.num, .string u.name, .slice u.at_ u.args.length u.cap] 30)) W) (hv : Stays X.heap.size W (fun _ => False) [u] v) => hv W (fun x hx => by rw [List.mem_singleton.1 hx]; exact HV.out W h) (fun _ _ _ _ => rfl))
    have S1 := Lib.hid (fun (W : World) (v : Tm) (h : Below (w3.alloc (.cells #[.int .i64 u.kind, .int .i64 u.num, .string u.name, .slice u.at_ u.args.length u.cap] 30)).heap.size (w3.alloc (.cells #[.int .i64 u.kind, .int .i64 u.num, .string u.name, .slice u.at_ u.args.length u.cap] 30)) W) (hv : v.strip = a0.fold.strip) (hat : v.At W) => same_at u v W (by rw [HS.out, hv]) (HV.out W h) hat)
    have S2 := Lib.hid (fun (W : World) (v : Tm) (h : Below (w3.alloc (.cells #[.int .i64 u.kind, .int .i64 u.num, .string u.name, .slice u.at_ u.args.length u.cap] 30)).heap.size (w3.alloc (.cells #[.int .i64 u.kind, .int .i64 u.num, .string u.name, .slice u.at_ u.args.length u.cap] 30)) W) (hv : v.strip = u.fold.strip) (hat : v.At W) => same_at v u W (by rw [hv, fold_same HS.out, fold_fold.1, HS.out]) hat (HV.out W h))
    clear hb hb2 hu hst d0 d1 d2 d3
    go_wp2_with fail
    first | (go_region_held3 (fun W => W.cell? ⟨w.heap.size, 0, none⟩ = some (.int .i64 a0.kind) ∧ W.cell? ⟨w.heap.size, 1, none⟩ = some (.int .i64 a0.num) ∧ W.cell? ⟨w.heap.size, 2, none⟩ = some (.string a0.name) ∧ W.cell? ⟨w.heap.size, 3, none⟩ = some (.slice a0.at_ a0.args.length a0.cap) ∧ W.cell? ⟨w3.heap.size, 0, none⟩ = some (.int .i64 u.kind) ∧ W.cell? ⟨w3.heap.size, 1, none⟩ = some (.int .i64 u.num) ∧ W.cell? ⟨w3.heap.size, 2, none⟩ = some (.string u.name) ∧ W.cell? ⟨w3.heap.size, 3, none⟩ = some (.slice u.at_ u.args.length u.cap) ∧ Below (w3.alloc (.cells #[.int .i64 u.kind, .int .i64 u.num, .string u.name, .slice u.at_ u.args.length u.cap] 30)).heap.size (w3.alloc (.cells #[.int .i64 u.kind, .int .i64 u.num, .string u.name, .slice u.at_ u.args.length u.cap] 30)) W) (exact HK.out _ (by first | assumption | exact (Below.refl _ _).drew | exact (Below.refl _ _))) (first
      | (go_at_call 19; have hH := (‹_ ∧ _ ∧ _ ∧ _ ∧ _ ∧ _ ∧ _ ∧ _ ∧ Below _ _ _›).2.2.2.2.2.2.2.2; (with_reducible refine (QR.out _ hH).mono ?_); rintro e w5 ⟨v, rfl, hv1, hv2, hb1⟩; have hI := hH.trans (hb1.mono hH.size); have hv3 := QV.out _ _ v hI hv2; clear hb1 hH)
      | (go_at_call 18; have hH := (‹_ ∧ _ ∧ _ ∧ _ ∧ _ ∧ _ ∧ _ ∧ _ ∧ Below _ _ _›).2.2.2.2.2.2.2.2; (with_reducible refine (S1.out _ v hH hv1 hv3).mono ?_); rintro e w5 ⟨rfl, hb1⟩; have hI := hH.trans (hb1.mono hH.size); clear hb1 hH)
      | (go_at_call 17; have hH := (‹_ ∧ _ ∧ _ ∧ _ ∧ _ ∧ _ ∧ _ ∧ _ ∧ Below _ _ _›).2.2.2.2.2.2.2.2; (with_reducible refine (QF.out _ hH).mono ?_); rintro e w5 ⟨y, rfl, hy1, hy2, hb1⟩; have hI := hH.trans (hb1.mono hH.size); have hy3 := QY.out _ _ y hI hy2; clear hb1 hH)
      | (go_at_call 18; have hH := (‹_ ∧ _ ∧ _ ∧ _ ∧ _ ∧ _ ∧ _ ∧ _ ∧ Below _ _ _›).2.2.2.2.2.2.2.2; (with_reducible refine (S2.out _ y hH hy1 hy3).mono ?_); rintro e w5 ⟨rfl, hb1⟩; have hI := hH.trans (hb1.mono hH.size); clear hb1 hH)
      | (go_at_call 9; have hH := (‹_ ∧ _ ∧ _ ∧ _ ∧ _ ∧ _ ∧ _ ∧ _ ∧ Below _ _ _›).2.2.2.2.2.2.2.2; (with_reducible refine (awake_at _).mono ?_); rintro e w5 ⟨rfl, hb1⟩; have hI := hH.trans (hb1.mono hH.size); clear hb1 hH))) | fail
    all_goals (have hS := (‹_ ∧ _ ∧ _ ∧ _ ∧ _ ∧ _ ∧ _ ∧ _ ∧ Below _ _ _›).2.2.2.2.2.2.2.2)
    all_goals go_wp2_with fail
    all_goals go_ret
    all_goals exact ⟨by simp, HF.out _ hS⟩
end Go.Proofs.Ytponcbnghiaclaa.arithFolds
