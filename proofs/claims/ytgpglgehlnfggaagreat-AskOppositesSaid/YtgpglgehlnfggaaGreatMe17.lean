/-
  AkGoal.
  AkBX.
  SuFun.
  UnExt.
  UnExtD.
  TmOne.
  AkLarge.
  SuOpen.
  AkOpen.
-/
import Derived.Test.YtgpglgehlnfggaaGreatMe7
import Derived.Test.YtgpglgehlnfggaaGreatMe16
import Derived.Test.YtgpglgehlnfggaaGreatMe6
import Derived.Test.YtgpglgehlnfggaaGreatMe14
import Derived.Test.YtgpglgehlnfggaaGreatMe5
import Derived.Test.YtgpglgehlnfggaaGreatMe3
import Derived.Test.YtgpglgehlnfggaaGreatMe9
import Derived.BigQuiet
import Derived.Deep.QuietTactic
namespace Go.Proofs.YtgpglgehlnfggaaGreat
open Go.RowKit
abbrev twoG (op : Int) (g : Nat) (x y : Tm) : Gl := ⟨op, ⟨#[]⟩, some ⟨g, 0, none⟩, 2, [x, y]⟩
def TwoR (op : Int) (x y : Tm) (w : World) (e : Ending) (w' : World) : Prop :=
  ∃ g, e = .returned (.agg #[.int .i64 op, .string ⟨#[]⟩, .slice (some ⟨g, 0, none⟩) 2 2]) ∧ w.heap.size ≤ g ∧ Row4 w' g [x, y] ∧ Below w.heap.size w w'
theorem two_lies {op : Int} (ho : Fits op) {x y : Tm} {g : Nat} {w W : World} (h : Row4 w g [x, y]) (hW : W.heap[g]? = w.heap[g]?) (hx : x.At W) (hy : y.At W) : (twoG op g x y).At W :=
  ⟨ho, by unfold maxLen; simp [ByteArray.size], ⟨Nat.le_refl _, by unfold maxLen; simp, fun _ => ⟨g, 0, rfl, h.at W (fun j => World.cell?_of_block hW) (fun z hz => by
    rcases List.mem_cons.1 hz with rfl | hz
    · exact hx
    · rw [List.mem_singleton.1 hz]; exact hy)⟩⟩⟩
set_option maxHeartbeats 4000000 in
theorem test_two_at (op : Int) (x y : Tm) (w : World) :
    Calls Tryz.prog 23 #[.int .i64 op, x.val, y.val] w (TwoR op x y w) := by
  have HR := Lib.hid (fun (W : World) => Row4.of (l := [x, y]) (World.ownsRow_lit (base := 0) (e := 40) (size := 4) W (tcells [x, y]).toArray 2 (Nat.zero_le _) (by unfold maxLen; omega) rfl))
  obtain ⟨k1, n1, s1, A1, p1, a1⟩ := x
  obtain ⟨k2, n2, s2, A2, p2, a2⟩ := y
  show Calls Tryz.prog 23 #[.int .i64 op, .agg #[.int .i64 k1, .int .i64 n1, .string s1, .slice A1 a1.length p1], .agg #[.int .i64 k2, .int .i64 n2, .string s2, .slice A2 a2.length p2]] w _
  go_enter Tryz.func23, Tryz.ntmps23
  go_wp2_with fail
  obtain ⟨Y, hY⟩ : ∃ Y, (w.alloc (.cells #[.int .i64 k1, .int .i64 n1, .string s1, .slice A1 a1.length p1] 40)).alloc (.cells #[.int .i64 k2, .int .i64 n2, .string s2, .slice A2 a2.length p2] 40) = Y := ⟨_, rfl⟩
  have hsz : Y.heap.size = w.heap.size + 1 + 1 := by rw [← hY]; simp
  have hbY : Below w.heap.size w Y := by rw [← hY]; exact below2 _ _ _
  rw [hY, ← hsz]
  clear hY
  have hb1 := below1 Y (.cells #[.int .i64 op, .string ⟨#[]⟩, .slice (some ⟨Y.heap.size + 1, 0, none⟩) 2 2] 24)
  have hbX : Below w.heap.size w (Y.alloc (.cells #[.int .i64 op, .string ⟨#[]⟩, .slice (some ⟨Y.heap.size + 1, 0, none⟩) 2 2] 24)) := hbY.trans (hb1.mono hbY.size)
  have hr := HR.out (Y.alloc (.cells #[.int .i64 op, .string ⟨#[]⟩, .slice (some ⟨Y.heap.size + 1, 0, none⟩) 2 2] 24))
  rw [World.size_alloc] at hr
  have E : ∀ j v o', (#[Value.int .i64 op, .string ⟨#[]⟩, .slice (some ⟨Y.heap.size + 1, 0, none⟩) 2 2] : Array Value)[j]? = some v → ((Y.alloc (.cells #[.int .i64 op, .string ⟨#[]⟩, .slice (some ⟨Y.heap.size + 1, 0, none⟩) 2 2] 24)).alloc o').cell? ⟨Y.heap.size, j, none⟩ = some v := fun j v o' e => by
    rw [World.cell?_alloc_past _ _ _ (by simp), World.cell?_alloc_at _ _ _ _ rfl]; exact e
  have e0 := fun o' => E 0 _ o' rfl
  have e1 := fun o' => E 1 _ o' rfl
  have e2 := fun o' => E 2 _ o' rfl
  refine bodyPost_ret (v := .agg #[.int .i64 op, .string ⟨#[]⟩, .slice (some ⟨Y.heap.size + 1, 0, none⟩) 2 2]) (by simp [results, Tryz.results23, go_sem, e0, e1, e2]) rfl ?_
  exact ⟨_, rfl, Nat.le_trans hbY.size (Nat.le_succ _), hr, hbX.trans ((below1 _ _).mono hbX.size)⟩
set_option maxHeartbeats 4000000 in
theorem goal_two_at (op : Int) (x y : Tm) (w : World) :
    Calls Tryz.prog 52 #[.int .i64 op, x.val, y.val] w (TwoR op x y w) := by
  have HR := Lib.hid (fun (W : World) => Row4.of (l := [x, y]) (World.ownsRow_lit (base := 0) (e := 40) (size := 4) W (tcells [x, y]).toArray 2 (Nat.zero_le _) (by unfold maxLen; omega) rfl))
  obtain ⟨k1, n1, s1, A1, p1, a1⟩ := x
  obtain ⟨k2, n2, s2, A2, p2, a2⟩ := y
  show Calls Tryz.prog 52 #[.int .i64 op, .agg #[.int .i64 k1, .int .i64 n1, .string s1, .slice A1 a1.length p1], .agg #[.int .i64 k2, .int .i64 n2, .string s2, .slice A2 a2.length p2]] w _
  go_enter Tryz.func52, Tryz.ntmps52
  go_wp2_with fail
  obtain ⟨Y, hY⟩ : ∃ Y, (w.alloc (.cells #[.int .i64 k1, .int .i64 n1, .string s1, .slice A1 a1.length p1] 40)).alloc (.cells #[.int .i64 k2, .int .i64 n2, .string s2, .slice A2 a2.length p2] 40) = Y := ⟨_, rfl⟩
  have hsz : Y.heap.size = w.heap.size + 1 + 1 := by rw [← hY]; simp
  have hbY : Below w.heap.size w Y := by rw [← hY]; exact below2 _ _ _
  rw [hY, ← hsz]
  clear hY
  have hb1 := below1 Y (.cells #[.int .i64 op, .string ⟨#[]⟩, .slice (some ⟨Y.heap.size + 1, 0, none⟩) 2 2] 24)
  have hbX : Below w.heap.size w (Y.alloc (.cells #[.int .i64 op, .string ⟨#[]⟩, .slice (some ⟨Y.heap.size + 1, 0, none⟩) 2 2] 24)) := hbY.trans (hb1.mono hbY.size)
  have hr := HR.out (Y.alloc (.cells #[.int .i64 op, .string ⟨#[]⟩, .slice (some ⟨Y.heap.size + 1, 0, none⟩) 2 2] 24))
  rw [World.size_alloc] at hr
  have E : ∀ j v o', (#[Value.int .i64 op, .string ⟨#[]⟩, .slice (some ⟨Y.heap.size + 1, 0, none⟩) 2 2] : Array Value)[j]? = some v → ((Y.alloc (.cells #[.int .i64 op, .string ⟨#[]⟩, .slice (some ⟨Y.heap.size + 1, 0, none⟩) 2 2] 24)).alloc o').cell? ⟨Y.heap.size, j, none⟩ = some v := fun j v o' e => by
    rw [World.cell?_alloc_past _ _ _ (by simp), World.cell?_alloc_at _ _ _ _ rfl]; exact e
  have e0 := fun o' => E 0 _ o' rfl
  have e1 := fun o' => E 1 _ o' rfl
  have e2 := fun o' => E 2 _ o' rfl
  refine bodyPost_ret (v := .agg #[.int .i64 op, .string ⟨#[]⟩, .slice (some ⟨Y.heap.size + 1, 0, none⟩) 2 2]) (by simp [results, Tryz.results52, go_sem, e0, e1, e2]) rfl ?_
  exact ⟨_, rfl, Nat.le_trans hbY.size (Nat.le_succ _), hr, hbX.trans ((below1 _ _).mono hbX.size)⟩
end Go.Proofs.YtgpglgehlnfggaaGreat
namespace Go.Proofs.YtgpglgehlnfggaaGreat
open Go.RowKit
set_option linter.unusedVariables false
structure BX (P : Nat) (t : Tm) (W : World) : Prop where
  lt : P < W.heap.size
  c0 : W.cell? ⟨P, 0, none⟩ = some (.int .i64 t.kind)
  c1 : W.cell? ⟨P, 1, none⟩ = some (.int .i64 t.num)
  c2 : W.cell? ⟨P, 2, none⟩ = some (.string t.name)
  c3 : W.cell? ⟨P, 3, none⟩ = some (.slice t.at_ t.args.length t.cap)
  tm : t.At W
theorem BX.ext {P : Nat} {t : Tm} {W W' : World} (h : BX P t W) (e : Below W.heap.size W W') : BX P t W' := ⟨Nat.lt_of_lt_of_le h.lt e.size, keepv e h.c0, keepv e h.c1, keepv e h.c2, keepv e h.c3, h.tm.below e⟩
theorem BX.new {W : World} {t : Tm} (ht : t.At W) (T : TypeId) : BX W.heap.size t (W.alloc (.cells #[.int .i64 t.kind, .int .i64 t.num, .string t.name, .slice t.at_ t.args.length t.cap] T)) :=
  ⟨by simp, World.cell?_alloc_at _ _ _ _ rfl, World.cell?_alloc_at _ _ _ _ rfl, World.cell?_alloc_at _ _ _ _ rfl, World.cell?_alloc_at _ _ _ _ rfl, ht.alloc _⟩
theorem BX.two {W : World} {t u : Tm} (ht : t.At W) (hu : u.At W) (T : TypeId) :
    BX W.heap.size t ((W.alloc (.cells #[.int .i64 t.kind, .int .i64 t.num, .string t.name, .slice t.at_ t.args.length t.cap] T)).alloc (.cells #[.int .i64 u.kind, .int .i64 u.num, .string u.name, .slice u.at_ u.args.length u.cap] T)).drew ∧
    BX (W.heap.size + 1) u ((W.alloc (.cells #[.int .i64 t.kind, .int .i64 t.num, .string t.name, .slice t.at_ t.args.length t.cap] T)).alloc (.cells #[.int .i64 u.kind, .int .i64 u.num, .string u.name, .slice u.at_ u.args.length u.cap] T)).drew := by
  have hd : ∀ V : World, Below V.heap.size V V.drew := fun V => (Below.refl _ _).drew
  have h2 := BX.new (W := W.alloc (.cells #[.int .i64 t.kind, .int .i64 t.num, .string t.name, .slice t.at_ t.args.length t.cap] T)) (hu.alloc _) T
  rw [World.size_alloc] at h2
  exact ⟨((BX.new ht T).ext (below1 _ _)).ext (hd _), h2.ext (hd _)⟩
end Go.Proofs.YtgpglgehlnfggaaGreat
namespace Go.Proofs.YtgpglgehlnfggaaGreat
open Go.RowKit
theorem ref_int_at (n : Int) (w : World) : Calls Tryz.prog 26 #[.int .i64 n] w fun e w' => e = .returned (.agg #[.int .i64 0, .int .i64 n, .string ⟨#[]⟩, .slice none 0 0]) ∧ Below w.heap.size w w' := by
  go_enter Tryz.func26, Tryz.ntmps26
  go_wp2
  exact bodyPost_ret (v := .agg #[.int .i64 0, .int .i64 n, .string ⟨#[]⟩, .slice none 0 0]) (by simp [results, Tryz.results26, go_sem]) rfl ⟨rfl, (Below.refl _ _).alloc (Nat.le_refl _) _⟩
theorem ref_var_at3 (n : Int) (w : World) : Calls Tryz.prog 25 #[.int .i64 n] w fun e w' => e = .returned (.agg #[.int .i64 1, .int .i64 n, .string ⟨#[]⟩, .slice none 0 0]) ∧ Below w.heap.size w w' := by
  go_enter Tryz.func25, Tryz.ntmps25
  go_wp2
  exact bodyPost_ret (v := .agg #[.int .i64 1, .int .i64 n, .string ⟨#[]⟩, .slice none 0 0]) (by simp [results, Tryz.results25, go_sem]) rfl ⟨rfl, (Below.refl _ _).alloc (Nat.le_refl _) _⟩
def BuiltR (w : World) (s : ByteArray) (l : List Tm) (e : Ending) (w' : World) : Prop :=
  ∃ g c : Nat, e = .returned (.agg #[.int .i64 2, .int .i64 0, .string s, .slice (some ⟨g, 0, none⟩) l.length c]) ∧ (Tm.mk 2 0 s (some ⟨g, 0, none⟩) c l).At w' ∧ Below w.heap.size w w'
set_option maxHeartbeats 2000000 in
set_option maxRecDepth 20000 in
theorem ref_fun_at (s : ByteArray) (l : List Tm) (b o c : Nat) (w : World) (h0 : 0 < l.length) (hl : RowAt w l b o) (hsz : l.length ≤ 1000000) (hs : s.size ≤ maxLen) :
    Calls Tryz.prog 27 #[.string s, .slice (some ⟨b, o, none⟩) l.length c] w (BuiltR w s l) := by
  obtain ⟨i0, hi, hz0, hz1, hz2⟩ := info_parts term_info
  have HAll := Lib.hid hl
  go_enter Tryz.func27, Tryz.ntmps27
  have hl1 : RowAt ((w.alloc (.cells #[.int .i64 0, .int .i64 0, .string ⟨#[]⟩, .slice none 0 0] 40)).alloc (.cells #[] 40)) l b o := (At_keep (((Below.refl _ _).alloc (Nat.le_refl _) _).alloc (by simp) _)).2 _ _ _ hl
  have HC := Lib.hid hl1.cells
  have HO0 := World.ownsRow_lit (base := (w.alloc (.cells #[.int .i64 0, .int .i64 0, .string ⟨#[]⟩, .slice none 0 0] 40)).heap.size) (e := 40) (size := 4) (w.alloc (.cells #[.int .i64 0, .int .i64 0, .string ⟨#[]⟩, .slice none 0 0] 40)) #[] 0 (Nat.le_refl _) (Nat.zero_le _) rfl
  rw [show (w.alloc (.cells #[.int .i64 0, .int .i64 0, .string ⟨#[]⟩, .slice none 0 0] 40)).heap.size = w.heap.size + 1 by simp] at HO0
  have HO := Lib.hid HO0
  clear HO0
  clear hl hl1
  go_wp2_with (at_builtin; refine wpList_append_own _ rfl _ _ 22 rfl (w.heap.size + 1) 40 i0 _ 4 56 Tryz.underlying22 hi hz0 hz1 hz2 rfl (by decide) _ 0 [] rfl HO.out ⟨b, o, none⟩ l.length c (tcells l) rfl (tcells_length l) HC.out (tcells_one l) (by unfold maxLen; omega) (by omega) (by simp) ?_; intro v' w1 hown1 hg1 _; rw [Nat.zero_add, List.nil_append] at hown1; obtain ⟨hlen, hv⟩ := id hown1; rcases hv with ⟨_, h⟩ | ⟨g, cap, cur, hv', hb, hheap, hle, hcap, _, hcur⟩; (exfalso; omega); subst hv'; have hb0 : Below (w.alloc (.cells #[.int .i64 0, .int .i64 0, .string ⟨#[]⟩, .slice none 0 0] 40)).heap.size (w.alloc (.cells #[.int .i64 0, .int .i64 0, .string ⟨#[]⟩, .slice none 0 0] 40)) w1 := ((Below.refl _ _).alloc (Nat.le_refl _) _).grown hg1 (by simp) (fun k hk => by have := (World.ownsRow.lt HO.out k hk).1; simpa using this); obtain ⟨d0, d1, d2, d3, hb1⟩ := box4 hb0; have f0 : ∀ j, w1.frozen? ⟨w.heap.size, j, none⟩ = false := fun j => (by rw [hb0.frozen (p := ⟨w.heap.size, j, none⟩) (by simp), World.frozen?_alloc_at _ _ _ _ rfl]); have f00 := f0 0; have f01 := f0 1; have f02 := f0 2; have f03 := f0 3; have HB := Lib.hid hb1; have HW := Lib.hid hown1; have hle' : l.length ≤ cap := hle; have hcm := Lib.hid hcap; have hgb : w.heap.size + 1 ≤ g := hb; have hg' : g < w1.heap.size := (own_lt hown1 g rfl).2; clear hb0 hb1 f0 hown1 hg1 hheap hle hcap hcur hlen hb)
  have hgw : w.heap.size < g := by omega
  have hc : ∀ (j : Nat) u, (tcells l)[j]? = some u → w1.cell? ⟨g, j, none⟩ = some u := fun j u hu => by
    have hj : j < (tcells l).length := (List.getElem?_eq_some_iff.1 hu).1
    rw [tcells_length] at hj
    rw [World.ownsRow.cellAt HW.out j (by omega)]
    simpa using hu
  have HX := Lib.hid hc
  clear hc
  have hb2 : Below w.heap.size w ((((w1.setCell ⟨w.heap.size, 0, none⟩ (.int .i64 2)).setCell ⟨w.heap.size, 1, none⟩ (.int .i64 0)).setCell ⟨w.heap.size, 2, none⟩ (.string s)).setCell ⟨w.heap.size, 3, none⟩ (.slice (some ⟨g, 0, none⟩) l.length cap)) :=
    (((HB.out.setCell (Nat.le_refl _) _).setCell (Nat.le_refl _) _).setCell (Nat.le_refl _) _).setCell (Nat.le_refl _) _
  refine bodyPost_ret (v := .agg #[.int .i64 2, .int .i64 0, .string s, .slice (some ⟨g, 0, none⟩) l.length cap]) (by simp [results, Tryz.results27, go_sem, d0, d1, d2, d3]) rfl ⟨g, cap, rfl, ?_, hb2⟩
  refine (At_iff _ _).2 ⟨⟨by simp only [Tm.kind]; unfold Fits; omega, by simp only [Tm.num]; unfold Fits; omega, hs⟩, hle', hcm.out, fun _ => ⟨g, 0, rfl, RowAt.of fun i hi => ⟨fun j u hu => ?_, (At_keep hb2).1 _ (HAll.out.get hi).2⟩⟩⟩
  have hj : j < 4 := by
    have := (List.getElem?_eq_some_iff.1 hu).1
    simpa [Tm.cells] using this
  have hne : ∀ q : Nat, (⟨g, 0 + 4 * i + j, none⟩ : Addr) ≠ ⟨w.heap.size, q, none⟩ := fun q e => by injection e with e _; omega
  rw [World.cell?_setCell_other _ _ _ _ (hne 3).symm, World.cell?_setCell_other _ _ _ _ (hne 2).symm, World.cell?_setCell_other _ _ _ _ (hne 1).symm, World.cell?_setCell_other _ _ _ _ (hne 0).symm, Nat.zero_add]
  exact HX.out _ _ ((tcells_get l hi hj).trans hu)
end Go.Proofs.YtgpglgehlnfggaaGreat
namespace Go.Proofs.YtgpglgehlnfggaaGreat
open Go.RowKit
theorem var_at {n : Int} (w : World) (h : Fits n) : (vr n).At w := by
  refine (At_iff _ _).2 ⟨⟨⟨by simp [vr, Tm.kind], by simp [vr, Tm.kind]⟩, h, by simp [vr, Tm.name]⟩, ?_⟩
  exact Lst.nil w
def Ext (w v : World) : Prop := Below w.heap.size w v
theorem Ext.refl (w : World) : Ext w w := Below.refl _ _
theorem Ext.trans {u v w : World} (h1 : Ext u v) (h2 : Ext v w) : Ext u w := Below.trans h1 (h2.mono h1.size)
theorem Ext.al (w : World) (o : Obj) : Ext w (w.alloc o) := (Below.refl _ w).alloc (Nat.le_refl _) o
theorem Ext.row {u v : World} {cs : Array Value} {T : TypeId} (h : Ext (u.alloc (.cells cs T)) v) (j : Nat) (hj : u.heap.size < (u.alloc (.cells cs T)).heap.size := by simp) : v.cell? ⟨u.heap.size, j, none⟩ = cs[j]? :=
  (h.cell (p := ⟨u.heap.size, j, none⟩) hj).trans (World.cell?_alloc_at _ _ _ _ rfl)
end Go.Proofs.YtgpglgehlnfggaaGreat
namespace Go.Proofs.YtgpglgehlnfggaaGreat
open Go.RowKit
theorem Ext.undrew {w w' : World} (h : Ext w.drew w') : Ext w w' := ⟨h.os, h.tape, h.output, h.size, h.block⟩
theorem Ext.drew (w : World) : Ext w w.drew := ⟨rfl, rfl, rfl, Nat.le_refl _, fun _ _ => rfl⟩
end Go.Proofs.YtgpglgehlnfggaaGreat
namespace Go.Proofs.YtgpglgehlnfggaaGreat
open Go.ChangeShapes Go.WideShapes Go.ChangeAt Go.RowKit
theorem great_single (t : Tm) (most : Int) (W : World) (b : Nat) (hb : b = W.heap.size) (ht : t.At W) (h1 : 0 ≤ most) (h2 : most ≤ 1000000) {r : Bool} (hr : decide (weigh [t] most 64 < 0) = r) :
    Calls Tryz.prog 22 #[.slice (some ⟨b, 0, none⟩) 1 1, .int .i64 most] (W.alloc (.cells #[.int .i64 t.kind, .int .i64 t.num, .string t.name, .slice t.at_ t.args.length t.cap] 40)) fun e w' => e = .returned (.bool r) ∧ Below W.heap.size W w' :=
  (great_one t most W _ b hb ht (Below.refl _ _) h1 h2 hr).mono fun _ _ ⟨he, h⟩ => ⟨he, (below1 _ _).trans (h.mono (below1 _ _).size)⟩
end Go.Proofs.YtgpglgehlnfggaaGreat
namespace Go.Proofs.YtgpglgehlnfggaaGreat
open Go.RowKit
def largeB (e : List Bd) : Bool := decide (10 < e.length) || e.any fun x => decide (weigh [x.tm] 40 64 < 0)
theorem small_env {e : List Bd} (h : largeB e = false) : e.length ≤ 10 ∧ ∀ x ∈ e, x.tm.nodes ≤ 40 := by
  unfold largeB at h
  simp only [Bool.or_eq_false_iff, decide_eq_false_iff_not, List.any_eq_false, decide_eq_true_eq] at h
  refine ⟨by omega, fun x hx => ?_⟩
  have := not_great (l := [x.tm]) (most := 40) (by simpa using h.2 x hx)
  simp only [nodesL] at this
  omega
theorem any_take_next {e : List Bd} {j : Nat} (h : j < e.length) (p : Bd → Bool) : (e.take (j + 1)).any p = ((e.take j).any p || p (e.getD j default)) := by
  rw [btake_next h, List.any_append]
  simp
theorem any_take_true {e : List Bd} {j : Nat} {p : Bd → Bool} (h : j < e.length) (hp : p (e.getD j default) = true) : e.any p = true := List.any_eq_true.2 ⟨_, bgetD_mem h, hp⟩
set_option maxHeartbeats 2000000 in
theorem large_at (e : List Bd) (A : Option Addr) (c : Nat) (w : World) (hl : BLst w A e c) :
    Calls Tryz.prog 12 #[.slice A e.length c] w fun x w' => x = .returned (.bool (largeB e)) ∧ Below w.heap.size w w' := by
  have hc := hl.len
  have HL := Lib.hid hl
  clear hl
  by_cases h20 : 10 < e.length
  · have d20 : decide ((e.length : Int) > 10) = true := decide_eq_true (by omega)
    have d21 : decide (10 < (e.length : Int)) = true := decide_eq_true (by omega)
    have HE := Lib.hid (show largeB e = true by unfold largeB; simp [h20])
    clear h20
    go_enter Tryz.func12, Tryz.ntmps12
    go_wp2_with fail
    go_ret
    exact ⟨by rw [HE.out]; rfl, Below.refl _ _⟩
  · have d20 : decide ((e.length : Int) > 10) = false := decide_eq_false (by omega)
    have d21 : decide (10 < (e.length : Int)) = false := decide_eq_false (by omega)
    have H20 := Lib.hid (show largeB e = e.any fun x => decide (weigh [x.tm] 40 64 < 0) by unfold largeB; simp [h20])
    have hle : e.length ≤ 10 := by omega
    clear h20
    go_enter Tryz.func12, Tryz.ntmps12
    go_wp2_with fail
    go_loopw [3] (fun i wr => ∃ j : Nat, j ≤ e.length ∧ i = .int .i64 j ∧ Hid ((e.take j).any (fun x => decide (weigh [x.tm] 40 64 < 0)) = false ∧ Below w.heap.size w wr)) (fun i _ => e.length - (intOf i).toNat)
    case atStart => exact ⟨0, Nat.zero_le _, rfl, Lib.hid ⟨rfl, Below.refl _ _⟩⟩
    case round =>
      obtain ⟨j, hj, rfl, HF⟩ := hrel
      by_cases hlt : j < e.length
      · obtain ⟨b, o, rfl, ⟨_, c1, c2, c3, c4⟩, _, hx⟩ := (HL.out.below HF.out.2).get hlt
        have jlt : decide ((j : Int) < (e.length : Int)) = true := decide_eq_true (by omega)
        have HN := Lib.hid (any_take_next hlt (fun x => decide (weigh [x.tm] 40 64 < 0)))
        have HT := Lib.hid (fun h => any_take_true (p := fun x => decide (weigh [x.tm] 40 64 < 0)) hlt h)
        have hb1 := World.block_lt_of_cell? _ _ c1
        have Q := Lib.hid (great_single (e.getD j default).tm 40 wr wr.heap.size rfl hx (by omega) (by omega) rfl)
        obtain ⟨r, hr⟩ : ∃ r, decide (weigh [(e.getD j default).tm] 40 64 < 0) = r := ⟨_, rfl⟩
        simp only [hr] at HN HT Q
        clear hr hx
        generalize (e.getD j default).tm = t at *
        obtain ⟨k, n, s, A', c', a⟩ := t
        simp only [Tm.kind, Tm.num, Tm.name, Tm.at_, Tm.args, Tm.cap] at c1 c2 c3 c4 Q
        cases r
        · have HX := Lib.hid (show (e.take (j + 1)).any (fun x => decide (weigh [x.tm] 40 64 < 0)) = false by rw [HN.out, HF.out.1]; rfl)
          go_wp2_with fail
          refine (Q.out).mono ?_
          rintro x w2 ⟨rfl, hb⟩
          have HB := Lib.hid (HF.out.2.trans (hb.mono HF.out.2.size))
          clear hb
          go_wp2_with fail
          go_roundw
          case rel => exact ⟨j + 1, by omega, by go_num, Lib.hid ⟨HX.out, HB.out⟩⟩
          case measure => simp [intOf]; omega
        · have HX := Lib.hid (show largeB e = true by rw [H20.out]; exact HT.out rfl)
          go_wp2_with fail
          refine (Q.out).mono ?_
          rintro x w2 ⟨rfl, hb⟩
          have HB := Lib.hid (HF.out.2.trans (hb.mono HF.out.2.size))
          clear hb
          go_wp2_with fail
          go_ret
          exact ⟨by rw [HX.out]; rfl, HB.out⟩
      · obtain rfl : j = e.length := by omega
        have jlt : decide ((e.length : Int) < (e.length : Int)) = false := decide_eq_false (by omega)
        have HX := Lib.hid (show largeB e = false by rw [H20.out]; have := HF.out.1; rwa [List.take_length] at this)
        go_wp2_with fail
        go_ret
        exact ⟨by rw [HX.out]; rfl, HF.out.2⟩
end Go.Proofs.YtgpglgehlnfggaaGreat
namespace Go.Proofs.YtgpglgehlnfggaaGreat
open Go.ChangeShapes Go.WideShapes Go.ChangeAt Go.RowKit
section
variable {H : Type} {enc : TypeId × Value → H} {W : World} {base : Nat} {spare : Nat → Bool} {held : Bool}
set_option maxRecDepth 100000 in
theorem open_bds {r : Reach} {b0 : Nat} {v : Value} {d : DataW H} {p : List MemPlace} (hv : Value.okWide Tryz.prog W r b0 31 v) (h : DataW.Trod enc Tryz.prog W base spare held 31 v d p) :
    ∃ (A : Option Addr) (l : List Bd) (c : Nat), v = .slice A l.length c ∧ BLst W A l c := by
  obtain ⟨a, len, cap, rfl⟩ := okWide_slice typesB.lst hv
  obtain ⟨fuel, hf⟩ := h
  exact bds_of typesB hf
end
end Go.Proofs.YtgpglgehlnfggaaGreat
namespace Go.Proofs.YtgpglgehlnfggaaGreat
open Go.ChangeShapes Go.WideShapes Go.RowKit
set_option maxRecDepth 100000 in
theorem open_gls {H : Type} {enc : TypeId × Value → H} {W : World} {base : Nat} {spare : Nat → Bool} {held : Bool} {r : Reach} {b0 : Nat} {v : Value} {d : DataW H} {p : List MemPlace} (hv : Value.okWide Tryz.prog W r b0 26 v) (h : DataW.Trod enc Tryz.prog W base spare held 26 v d p) :
    ∃ (A : Option Addr) (l : List Gl) (c : Nat), v = .slice A l.length c ∧ GlLst W A l c := by
  obtain ⟨a, len, cap, rfl⟩ := okWide_slice Tryz.underlying26 hv
  obtain ⟨fuel, hf⟩ := h
  exact gls_of hf
end Go.Proofs.YtgpglgehlnfggaaGreat
