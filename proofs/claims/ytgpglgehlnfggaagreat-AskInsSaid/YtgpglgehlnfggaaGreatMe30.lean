/-
  SuAtomR.
-/
import Derived.Test.YtgpglgehlnfggaaGreatMe19
import Derived.Test.YtgpglgehlnfggaaGreatMe9
namespace Go.Proofs.YtgpglgehlnfggaaGreat
open Go.RowKit
set_option maxHeartbeats 4000000 in
theorem ref_apply_goal_at (w0 : World) (l : List Bd) (A : Option Addr) (c : Nat) (hb0 : BLst w0 A l c) (t : Gl) (ht : t.At w0) (hn : nodesL t.args ≤ 1000000) (w : World) (hw : Below w0.heap.size w0 w) :
    Calls Tryz.prog 21 #[.slice A l.length c, t.val] w (MadeGl l t w) := by
  obtain ⟨o, s, A2, c2, a⟩ := t
  have hl : Lst w0 A2 a c2 := ht.2.2
  simp only at hn
  have hln : a.length ≤ 1000000 := by have := length_le_nodes a; omega
  have QA := Lib.hid (fun W (h : Below w.heap.size w W) => ref_apply_terms_at w0 l A c a A2 c2 W (hl.below (hw.trans (h.mono hw.size))) hln (fun x hx W' h' => ref_apply_at w0 l A c hb0 x (hl.mem hx) (by have := nodes_mem hx; omega) W' (hw.trans ((h.trans (h'.mono h.size)).mono hw.size))))
  have HT := Lib.hid (show Fits o ∧ s.size ≤ maxLen from ⟨ht.1, ht.2.1⟩)
  have HW := Lib.hid (fun W (h : Below w.heap.size w W) => show From w0 W from hw.trans (h.mono hw.size))
  obtain ⟨HB0, HB1⟩ := two_boxesL w [.int .i64 o, .string s, .slice A2 a.length c2] [.int .i64 0, .string ⟨#[]⟩, .slice none 0 0] 24
  have H0 := Lib.hid HB0
  have H1 := Lib.hid HB1
  clear HB0 HB1 ht hn hl hln hw hb0
  show Calls Tryz.prog 21 #[.slice A l.length c, .agg #[.int .i64 o, .string s, .slice A2 a.length c2]] w _
  go_enter Tryz.func21, Tryz.ntmps21
  have x0 := H0.out.cell 0 _ rfl
  have x1 := H0.out.cell 1 _ rfl
  have x2 := H0.out.cell 2 _ rfl
  go_wp2_with fail
  go_region_with (first
    | (go_at_call 58; refine (QA.out _ (by first | exact below2 _ _ _ | exact (below2 _ _ _).drew)).mono ?_; rintro e w2 ⟨A3, p3, cur, rfl, hcl, hst, hL, hb2⟩; have K2 := Lib.hid (H0.out.below (undrew hb2)); have M2 := Lib.hid (H1.out.below (undrew hb2)); have hz2 := M2.out.lt; have hz3 := K2.out.lt; have y10 := K2.out.cell 0 _ rfl; have y11 := K2.out.cell 1 _ rfl; have y12 := K2.out.cell 2 _ rfl; have e0 := M2.out.cell 0 _ rfl; have e1 := M2.out.cell 1 _ rfl; have e2 := M2.out.cell 2 _ rfl; have f0 := M2.out.free 0; have f1 := M2.out.free 1; have f2 := M2.out.free 2; have g2 := K2.out.free 2; have HB2 := Lib.hid ((below2 w _ _).trans (undrew (hb2.mono (by simp; omega)))); have HC := Lib.hid hcl; have HS := Lib.hid hst; have HL := Lib.hid (LL.low (B := From w0) (lo' := w.heap.size + 2) hL (by simp)); clear hcl hst hL hb2))
  all_goals
    go_wp2_with fail
    refine bodyPost_ret (v := .agg #[.int .i64 o, .string s, .slice A3 a.length p3]) (by simp [results, Tryz.results21, go_sem, e0, e1, e2]) rfl ?_
    exact ⟨⟨o, s, A3, p3, cur⟩, by rw [← HC.out], ⟨rfl, rfl⟩, HS.out, ⟨HT.out.1, HT.out.2, ((LL.set ((LL.set ((LL.set (HL.out) (p := ⟨w.heap.size + 1, 0, none⟩) (by show w.heap.size + 1 < w.heap.size + 2; omega) _)) (p := ⟨w.heap.size + 1, 1, none⟩) (by show w.heap.size + 1 < w.heap.size + 2; omega) _)) (p := ⟨w.heap.size + 1, 2, none⟩) (by show w.heap.size + 1 < w.heap.size + 2; omega) _)).lst (HW.out _ (Below.setCell ((Below.setCell ((Below.setCell (HB2.out) (p := ⟨w.heap.size + 1, 0, none⟩) (by show w.heap.size ≤ w.heap.size + 1; omega) _)) (p := ⟨w.heap.size + 1, 1, none⟩) (by show w.heap.size ≤ w.heap.size + 1; omega) _)) (p := ⟨w.heap.size + 1, 2, none⟩) (by show w.heap.size ≤ w.heap.size + 1; omega) _))⟩, (Below.setCell ((Below.setCell ((Below.setCell (HB2.out) (p := ⟨w.heap.size + 1, 0, none⟩) (by show w.heap.size ≤ w.heap.size + 1; omega) _)) (p := ⟨w.heap.size + 1, 1, none⟩) (by show w.heap.size ≤ w.heap.size + 1; omega) _)) (p := ⟨w.heap.size + 1, 2, none⟩) (by show w.heap.size ≤ w.heap.size + 1; omega) _)⟩
end Go.Proofs.YtgpglgehlnfggaaGreat
