/-
  Contracts of ApplyAtom and ApplyGoal of the program.
-/
import Derived.Test.YtgialbcohkpogaaGreatSuInOrd
import Derived.Test.YtgialbcohkpogaaGreatTmAtom
namespace Go.Proofs.YtgialbcohkpogaaGreat
open Go.RowKit

/-- A box that may be written. -/
structure HeldL (B : Nat) (w : World) (vs : List Value) : Prop where
  lt : B < w.heap.size
  cell : ∀ j v, vs[j]? = some v → w.cell? ⟨B, j, none⟩ = some v
  free : ∀ j, w.frozen? ⟨B, j, none⟩ = false
theorem HeldL.below {B : Nat} {w w' : World} {vs : List Value} (h : HeldL B w vs) (hb : Below w.heap.size w w') : HeldL B w' vs :=
  ⟨Nat.lt_of_lt_of_le h.lt hb.size, fun j v hv => keepv hb (h.cell j v hv), fun j => (hb.frozen (p := ⟨B, j, none⟩) h.lt).trans (h.free j)⟩
theorem heldL_new (w : World) (vs : List Value) (T : TypeId) : HeldL w.heap.size (w.alloc (.cells vs.toArray T)) vs :=
  ⟨by simp, fun j v hv => by rw [World.cell?_alloc_at _ _ _ _ rfl, List.getElem?_toArray]; exact hv, fun j => World.frozen?_alloc_at _ _ _ _ rfl⟩
theorem two_boxesL (w : World) (vs us : List Value) (T : TypeId) : HeldL w.heap.size ((w.alloc (.cells vs.toArray T)).alloc (.cells us.toArray T)) vs ∧ HeldL (w.heap.size + 1) ((w.alloc (.cells vs.toArray T)).alloc (.cells us.toArray T)) us := by
  have h := heldL_new (w.alloc (.cells vs.toArray T)) us T
  rw [World.size_alloc] at h
  exact ⟨(heldL_new w vs T).below (below1 _ _), h⟩
/-- In each world of B that has w's blocks from lo on, the list lies. -/
def LL (B : World → Prop) (lo : Nat) (w : World) (A : Option Addr) (cur : List Tm) (cap : Nat) : Prop := ∀ W, B W → Agree lo No w W → Lst W A cur cap
theorem LL.set {B : World → Prop} {lo : Nat} {w : World} {A : Option Addr} {cur : List Tm} {cap : Nat} (h : LL B lo w A cur cap) {p : Addr} (hp : p.block < lo) (v : Value) : LL B lo (w.setCell p v) A cur cap :=
  fun W hB hW => h W hB fun b h1 h2 h3 => (hW b h1 (by simpa [World.setCell] using h2) h3).trans (Below.heap_setCell _ _ _ _ (by omega))
theorem LL.low {B : World → Prop} {lo lo' : Nat} {w : World} {A : Option Addr} {cur : List Tm} {cap : Nat} (h : LL B lo w A cur cap) (hl : lo' ≤ lo) : LL B lo' w A cur cap := fun W hB hW => h W hB fun b h1 h2 h3 => hW b (by omega) h2 h3
theorem LL.lst {B : World → Prop} {lo : Nat} {w : World} {A : Option Addr} {cur : List Tm} {cap : Nat} (h : LL B lo w A cur cap) (hB : B w) : Lst w A cur cap := h w hB (Agree.refl _ _ _)

/-- A thing like t, with the substitution applied. -/
def MadeAm (l : List Bd) (t : Am) (w : World) (e : Ending) (w' : World) : Prop := ∃ u : Am, e = .returned u.val ∧ (u.name = t.name) ∧ stripL u.args = stripL (appL l t.args) ∧ u.At w' ∧ Below w.heap.size w w'
set_option maxHeartbeats 4000000 in
theorem apply_atom_at (l : List Bd) (A : Option Addr) (c : Nat) (t : Am) (w : World) (ht : t.At w) (hn : nodesL t.args ≤ 1000000)
    (Q0 : ∀ W, Below w.heap.size w W → Calls Tryz.prog 42 #[.slice A l.length c] W (InOrd l W)) :
    Calls Tryz.prog 19 #[.slice A l.length c, t.val] w (MadeAm l t w) := by
  have Q := Lib.hid Q0
  obtain ⟨s, A2, c2, a⟩ := t
  have hl : Lst w A2 a c2 := ht.2
  simp only at hn
  have hln : a.length ≤ 1000000 := by have := length_le_nodes a; omega
  have QA := Lib.hid (fun l' (hG : Good l') D q W (hb : BLst W D l' q) (h : Below w.heap.size w W) => apply_all_at l' D q a A2 c2 W (hl.below h) hln (fun x hx W' h' => apply_s_at l' hG D q x W' (hb.below h') ((hl.mem hx).below (h.trans (h'.mono h.size))) (by have := nodes_mem hx; omega)))
  have HV := Lib.hid (fun (l' : List Bd) (h : ∀ v, look l' v = look l v) => (app_of_look h).2 a)
  have HT := Lib.hid (show s.size ≤ maxLen from ht.1)
  obtain ⟨HB0, HB1⟩ := two_boxesL w [.string s, .slice A2 a.length c2] [.string ⟨#[]⟩, .slice none 0 0] 41
  have H0 := Lib.hid HB0
  have H1 := Lib.hid HB1
  clear HB0 HB1 ht hn hl hln Q0
  show Calls Tryz.prog 19 #[.slice A l.length c, .agg #[.string s, .slice A2 a.length c2]] w _
  go_enter Tryz.func19, Tryz.ntmps19
  have x1 := H0.out.cell 1 _ rfl
  go_wp2_with fail
  go_region_with (first
    | (go_at_call 42; refine (Q.out _ (by first | exact below2 _ _ _ | exact (below2 _ _ _).drew)).mono ?_; rintro e w1 ⟨D, q, l', rfl, hD, hG, hlk, hb1⟩; have K1 := Lib.hid (H0.out.below (undrew hb1)); have M1 := Lib.hid (H1.out.below (undrew hb1)); have hz := K1.out.lt; have y1 := K1.out.cell 1 _ rfl; have HB1 := Lib.hid ((below2 w _ _).trans (undrew (hb1.mono (by simp; omega)))); have HD := Lib.hid hD; have HE := Lib.hid (HV.out l' hlk); clear hD hlk hb1)
    | (go_at_call 46; refine (QA.out _ hG _ _ _ HD.out HB1.out).mono ?_; rintro e w2 ⟨A3, p3, cur, rfl, hcl, hst, hL, hb2⟩; have K2 := Lib.hid (K1.out.below hb2); have M2 := Lib.hid (M1.out.below hb2); have hz2 := M2.out.lt; have hz3 := K2.out.lt; have y10 := K2.out.cell 0 _ rfl; have y11 := K2.out.cell 1 _ rfl; have e0 := M2.out.cell 0 _ rfl; have e1 := M2.out.cell 1 _ rfl; have f0 := M2.out.free 0; have f1 := M2.out.free 1; have g1 := K2.out.free 1; have HB2 := Lib.hid (HB1.out.trans (hb2.mono HB1.out.size)); have HC := Lib.hid hcl; have HS := Lib.hid hst; have HL := Lib.hid (LL.low (B := Any) (lo' := w.heap.size + 2) (fun W _ hW => hL W hW) (by have := M1.out.lt; omega)); clear hcl hst hL hb2))
  all_goals
    go_wp2_with fail
    refine bodyPost_ret (v := .agg #[.string s, .slice A3 a.length p3]) (by simp [results, Tryz.results19, go_sem, e0, e1]) rfl ?_
    refine ⟨⟨s, A3, p3, cur⟩, by rw [← HC.out], rfl, HS.out.trans (by rw [HE.out]), ⟨HT.out, ((LL.set ((LL.set ((LL.set (HL.out) (p := ⟨w.heap.size, 1, none⟩) (by show w.heap.size < w.heap.size + 2; omega) _)) (p := ⟨w.heap.size + 1, 0, none⟩) (by show w.heap.size + 1 < w.heap.size + 2; omega) _)) (p := ⟨w.heap.size + 1, 1, none⟩) (by show w.heap.size + 1 < w.heap.size + 2; omega) _)).lst trivial⟩, (Below.setCell ((Below.setCell ((Below.setCell (HB2.out) (p := ⟨w.heap.size, 1, none⟩) (by show w.heap.size ≤ w.heap.size; omega) _)) (p := ⟨w.heap.size + 1, 0, none⟩) (by show w.heap.size ≤ w.heap.size + 1; omega) _)) (p := ⟨w.heap.size + 1, 1, none⟩) (by show w.heap.size ≤ w.heap.size + 1; omega) _)⟩

/-- A thing like t, with the substitution applied. -/
def MadeGl (l : List Bd) (t : Gl) (w : World) (e : Ending) (w' : World) : Prop := ∃ u : Gl, e = .returned u.val ∧ (u.op = t.op ∧ u.name = t.name) ∧ stripL u.args = stripL (appL l t.args) ∧ u.At w' ∧ Below w.heap.size w w'
set_option maxHeartbeats 4000000 in
theorem apply_goal_at (l : List Bd) (A : Option Addr) (c : Nat) (t : Gl) (w : World) (ht : t.At w) (hn : nodesL t.args ≤ 1000000)
    (Q0 : ∀ W, Below w.heap.size w W → Calls Tryz.prog 42 #[.slice A l.length c] W (InOrd l W)) :
    Calls Tryz.prog 22 #[.slice A l.length c, t.val] w (MadeGl l t w) := by
  have Q := Lib.hid Q0
  obtain ⟨o, s, A2, c2, a⟩ := t
  have hl : Lst w A2 a c2 := ht.2.2
  simp only at hn
  have hln : a.length ≤ 1000000 := by have := length_le_nodes a; omega
  have QA := Lib.hid (fun l' (hG : Good l') D q W (hb : BLst W D l' q) (h : Below w.heap.size w W) => apply_all_at l' D q a A2 c2 W (hl.below h) hln (fun x hx W' h' => apply_s_at l' hG D q x W' (hb.below h') ((hl.mem hx).below (h.trans (h'.mono h.size))) (by have := nodes_mem hx; omega)))
  have HV := Lib.hid (fun (l' : List Bd) (h : ∀ v, look l' v = look l v) => (app_of_look h).2 a)
  have HT := Lib.hid (show Fits o ∧ s.size ≤ maxLen from ⟨ht.1, ht.2.1⟩)
  obtain ⟨HB0, HB1⟩ := two_boxesL w [.int .i64 o, .string s, .slice A2 a.length c2] [.int .i64 0, .string ⟨#[]⟩, .slice none 0 0] 31
  have H0 := Lib.hid HB0
  have H1 := Lib.hid HB1
  clear HB0 HB1 ht hn hl hln Q0
  show Calls Tryz.prog 22 #[.slice A l.length c, .agg #[.int .i64 o, .string s, .slice A2 a.length c2]] w _
  go_enter Tryz.func22, Tryz.ntmps22
  have x1 := H0.out.cell 2 _ rfl
  go_wp2_with fail
  go_region_with (first
    | (go_at_call 42; refine (Q.out _ (by first | exact below2 _ _ _ | exact (below2 _ _ _).drew)).mono ?_; rintro e w1 ⟨D, q, l', rfl, hD, hG, hlk, hb1⟩; have K1 := Lib.hid (H0.out.below (undrew hb1)); have M1 := Lib.hid (H1.out.below (undrew hb1)); have hz := K1.out.lt; have y1 := K1.out.cell 2 _ rfl; have HB1 := Lib.hid ((below2 w _ _).trans (undrew (hb1.mono (by simp; omega)))); have HD := Lib.hid hD; have HE := Lib.hid (HV.out l' hlk); clear hD hlk hb1)
    | (go_at_call 46; refine (QA.out _ hG _ _ _ HD.out HB1.out).mono ?_; rintro e w2 ⟨A3, p3, cur, rfl, hcl, hst, hL, hb2⟩; have K2 := Lib.hid (K1.out.below hb2); have M2 := Lib.hid (M1.out.below hb2); have hz2 := M2.out.lt; have hz3 := K2.out.lt; have y10 := K2.out.cell 0 _ rfl; have y11 := K2.out.cell 1 _ rfl; have y12 := K2.out.cell 2 _ rfl; have e0 := M2.out.cell 0 _ rfl; have e1 := M2.out.cell 1 _ rfl; have e2 := M2.out.cell 2 _ rfl; have f0 := M2.out.free 0; have f1 := M2.out.free 1; have f2 := M2.out.free 2; have g2 := K2.out.free 2; have HB2 := Lib.hid (HB1.out.trans (hb2.mono HB1.out.size)); have HC := Lib.hid hcl; have HS := Lib.hid hst; have HL := Lib.hid (LL.low (B := Any) (lo' := w.heap.size + 2) (fun W _ hW => hL W hW) (by have := M1.out.lt; omega)); clear hcl hst hL hb2))
  all_goals
    go_wp2_with fail
    refine bodyPost_ret (v := .agg #[.int .i64 o, .string s, .slice A3 a.length p3]) (by simp [results, Tryz.results22, go_sem, e0, e1, e2]) rfl ?_
    refine ⟨⟨o, s, A3, p3, cur⟩, by rw [← HC.out], ⟨rfl, rfl⟩, HS.out.trans (by rw [HE.out]), ⟨HT.out.1, HT.out.2, ((LL.set ((LL.set ((LL.set ((LL.set (HL.out) (p := ⟨w.heap.size, 2, none⟩) (by show w.heap.size < w.heap.size + 2; omega) _)) (p := ⟨w.heap.size + 1, 0, none⟩) (by show w.heap.size + 1 < w.heap.size + 2; omega) _)) (p := ⟨w.heap.size + 1, 1, none⟩) (by show w.heap.size + 1 < w.heap.size + 2; omega) _)) (p := ⟨w.heap.size + 1, 2, none⟩) (by show w.heap.size + 1 < w.heap.size + 2; omega) _)).lst trivial⟩, (Below.setCell ((Below.setCell ((Below.setCell ((Below.setCell (HB2.out) (p := ⟨w.heap.size, 2, none⟩) (by show w.heap.size ≤ w.heap.size; omega) _)) (p := ⟨w.heap.size + 1, 0, none⟩) (by show w.heap.size ≤ w.heap.size + 1; omega) _)) (p := ⟨w.heap.size + 1, 1, none⟩) (by show w.heap.size ≤ w.heap.size + 1; omega) _)) (p := ⟨w.heap.size + 1, 2, none⟩) (by show w.heap.size ≤ w.heap.size + 1; omega) _)⟩
end Go.Proofs.YtgialbcohkpogaaGreat
