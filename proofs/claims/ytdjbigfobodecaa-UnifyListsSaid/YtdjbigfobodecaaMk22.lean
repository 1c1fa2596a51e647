/-
  Contracts of v and f of the statements.
  Contract of awake of the statements.
  For the walks of the laws: what the calls answer, in one form.
  For the walks of the laws that name the reference's answers.
-/
import Derived.Test.YtdjbigfobodecaaMk21
import Derived.Test.YtdjbigfobodecaaMk14
import Derived.Test.YtdjbigfobodecaaMk11
import Derived.BigQuiet
import Derived.Deep.RegionHeld3
import Derived.Test.YtdjbigfobodecaaMk12
import Derived.Test.YtdjbigfobodecaaMk7
import Derived.Test.YtdjbigfobodecaaMk8
import Derived.Test.YtdjbigfobodecaaMk15
import Derived.Test.YtdjbigfobodecaaMk18
import Derived.Test.YtdjbigfobodecaaMk20
namespace Go.Proofs.Ytdjbigfobodecaa
open Go.RowKit

set_option maxHeartbeats 1000000 in
theorem v_at (n : Int) (w : World) : Calls Try.prog 22 #[.int .i64 n] w fun e w' => e = .returned (.agg #[.int .i64 1, .int .i64 n, .string ⟨#[]⟩, .slice none 0 0]) ∧ Ext w w' := by
  go_enter Try.func22, Try.ntmps22
  go_wp2_with fail
  refine bodyPost_ret (v := .agg #[.int .i64 1, .int .i64 n, .string ⟨#[]⟩, .slice none 0 0]) (by simp [results, Try.results22, go_sem]) rfl ⟨rfl, ?_⟩
  exact Ext.al _ _
theorem row_two {w : World} (t u : Tm) (ht : t.At w) (hu : u.At w) : RowAt (w.alloc (.cells #[.int .i64 t.kind, .int .i64 t.num, .string t.name, .slice t.at_ t.args.length t.cap, .int .i64 u.kind, .int .i64 u.num, .string u.name, .slice u.at_ u.args.length u.cap] 24)) [t, u] w.heap.size 0 := by
  have hc : ∀ j v, (#[.int .i64 t.kind, .int .i64 t.num, .string t.name, .slice t.at_ t.args.length t.cap, .int .i64 u.kind, .int .i64 u.num, .string u.name, .slice u.at_ u.args.length u.cap] : Array Value)[j]? = some v →
      (w.alloc (.cells #[.int .i64 t.kind, .int .i64 t.num, .string t.name, .slice t.at_ t.args.length t.cap, .int .i64 u.kind, .int .i64 u.num, .string u.name, .slice u.at_ u.args.length u.cap] 24)).cell? ⟨w.heap.size, j, none⟩ = some v := fun j v hv => by
    rw [World.cell?_alloc_at _ _ _ _ rfl, hv]
  simp only [RowAt]
  exact ⟨⟨hc 0 _ rfl, hc 1 _ rfl, hc 2 _ rfl, hc 3 _ rfl⟩, ht.alloc _, ⟨hc 4 _ rfl, hc 5 _ rfl, hc 6 _ rfl, hc 7 _ rfl⟩, hu.alloc _, trivial⟩
def MadeF (x y : Tm) (w : World) (e : Ending) (w' : World) : Prop :=
  ∃ b : Nat, e = .returned (.agg #[.int .i64 2, .int .i64 0, .string ⟨#[102]⟩, .slice (some ⟨b, 0, none⟩) 2 2]) ∧ (fT (some ⟨b, 0, none⟩) 2 x y).At w' ∧ Ext w w'
set_option maxHeartbeats 1000000 in
theorem f_at (x y : Tm) (w : World) (hx : x.At w) (hy : y.At w) :
    Calls Try.prog 24 #[x.val, y.val] w (MadeF x y w) := by
  have HR := Lib.hid (fun (W : World) (h : Below w.heap.size w W) => row_two (w := W) x y (hx.below h) (hy.below h))
  unfold MadeF fT
  clear hx hy
  obtain ⟨k, n, t, A, c, a⟩ := x
  obtain ⟨k', n', t', A', c', a'⟩ := y
  simp only [Tm.kind, Tm.num, Tm.name, Tm.at_, Tm.args, Tm.cap] at HR
  show Calls Try.prog 24 #[.agg #[.int .i64 k, .int .i64 n, .string t, .slice A a.length c], .agg #[.int .i64 k', .int .i64 n', .string t', .slice A' a'.length c']] w _
  go_enter Try.func24, Try.ntmps24
  go_wp2_with fail
  refine bodyPost_ret (v := .agg #[.int .i64 2, .int .i64 0, .string ⟨#[102]⟩, .slice (some ⟨w.heap.size + 1 + 1 + 1, 0, none⟩) 2 2]) (by simp [results, Try.results24, go_sem]) rfl ⟨_, rfl, ?_, ?_⟩
  · have hb := (below2 w (.cells #[.int .i64 k, .int .i64 n, .string t, .slice A a.length c] 24) (.cells #[.int .i64 k', .int .i64 n', .string t', .slice A' a'.length c'] 24)).alloc (by simp; omega) (.cells #[.int .i64 2, .int .i64 0, .string ⟨#[102]⟩, .slice (some ⟨w.heap.size + 1 + 1 + 1, 0, none⟩) 2 2] 24)
    have hr := HR.out _ hb
    refine (At_iff _ _).2 ⟨⟨by unfold Fits; simp [Tm.kind], by unfold Fits; simp [Tm.num], by simp [Tm.name, maxLen, ByteArray.size]⟩, by simp [Tm.args, Tm.cap], by simp [Tm.cap, maxLen], fun _ => ⟨w.heap.size + 1 + 1 + 1, 0, rfl, ?_⟩⟩
    have e : (((w.alloc (.cells #[.int .i64 k, .int .i64 n, .string t, .slice A a.length c] 24)).alloc (.cells #[.int .i64 k', .int .i64 n', .string t', .slice A' a'.length c'] 24)).alloc (.cells #[.int .i64 2, .int .i64 0, .string ⟨#[102]⟩, .slice (some ⟨w.heap.size + 1 + 1 + 1, 0, none⟩) 2 2] 24)).heap.size = w.heap.size + 1 + 1 + 1 := by simp
    rw [e] at hr
    exact hr
  · exact ((below2 _ _ _).alloc (by simp; omega) _).alloc (by simp; omega) _
end Go.Proofs.Ytdjbigfobodecaa
namespace Go.Proofs.Ytdjbigfobodecaa
open Go.RowKit

/-- What is kept: the term g and some lists of bindings. -/
def KR (w : World) (p : Nat) (L : List (Option Addr × List Bd × Nat)) (W : World) : Prop := (gT (some ⟨p, 0, none⟩) 1).At W ∧ Ext w W ∧ ∀ x ∈ L, BLst W x.1 x.2.1 x.2.2
def KS (w : World) (p q : Nat) (L : List (Option Addr × List Bd × Nat)) (W : World) : Prop := (W.cell? ⟨q, 0, none⟩ = some (.int .i64 2) ∧ W.cell? ⟨q, 1, none⟩ = some (.int .i64 0) ∧ W.cell? ⟨q, 2, none⟩ = some (.string ⟨#[103]⟩) ∧ W.cell? ⟨q, 3, none⟩ = some (.slice (some ⟨p, 0, none⟩) 1 1)) ∧ KR w p L W
theorem KS.ext {w W W' : World} {p q : Nat} {L : List (Option Addr × List Bd × Nat)} (h : KS w p q L W) (e : Ext W W') : KS w p q L W' :=
  ⟨⟨keepv e h.1.1, keepv e h.1.2.1, keepv e h.1.2.2.1, keepv e h.1.2.2.2⟩, h.2.1.below e, h.2.2.1.trans e, fun x hx => (h.2.2.2 x hx).below e⟩
theorem KS.drew {w W : World} {p q : Nat} {L : List (Option Addr × List Bd × Nat)} (h : KS w p q L W) : KS w p q L W.drew := h.ext ⟨rfl, rfl, rfl, Nat.le_refl _, fun _ _ => rfl⟩
theorem KS.add {w W : World} {p q c : Nat} {A : Option Addr} {l : List Bd} {L : List (Option Addr × List Bd × Nat)} (h : KS w p q L W) (hb : BLst W A l c) : KS w p q ((A, l, c) :: L) W :=
  ⟨h.1, h.2.1, h.2.2.1, fun x hx => by
    rcases List.mem_cons.1 hx with rfl | hx
    · exact hb
    · exact h.2.2.2 x hx⟩
theorem KS.start {w w1 : World} {T T' : TypeId} (h : Ext w w1) : KS w w1.heap.size (w1.heap.size + 1) [] ((w1.alloc (.cells #[.int .i64 1, .int .i64 0, .string ⟨#[]⟩, .slice none 0 0] T)).alloc (.cells #[.int .i64 2, .int .i64 0, .string ⟨#[103]⟩, .slice (some ⟨w1.heap.size, 0, none⟩) 1 1] T')) := by
  have h1 := (Ext.al (w1.alloc (.cells #[.int .i64 1, .int .i64 0, .string ⟨#[]⟩, .slice none 0 0] T)) (.cells #[.int .i64 2, .int .i64 0, .string ⟨#[103]⟩, .slice (some ⟨w1.heap.size, 0, none⟩) 1 1] T'))
  refine ⟨⟨cell_snd 0, cell_snd 1, cell_snd 2, cell_snd 3⟩, ?_, (h.trans (Ext.al _ _)).trans h1, fun x hx => by cases hx⟩
  refine (At_iff _ _).2 ⟨⟨by unfold Fits; simp [gT, Tm.kind], by unfold Fits; simp [gT, Tm.num], by simp [gT, Tm.name, maxLen, ByteArray.size]⟩, Nat.le_refl _, by simp [gT, Tm.cap, maxLen], fun _ => ⟨w1.heap.size, 0, rfl, ?_⟩⟩
  exact ⟨⟨h1.row 0, h1.row 1, h1.row 2, h1.row 3⟩, var_at _ (by unfold Fits; omega), trivial⟩
theorem fits_small (n : Int) (h : 0 ≤ n ∧ n ≤ 100) : Fits n := by unfold Fits; omega
theorem all_unique {la lb : List Tm} {m : List Bd} {er : Int} {w w' : World} {e : Ending} (h : AllR la lb w e w') (hu : AllOut la lb m er) :
    ∃ (A : Option Addr) (c : Nat) (l : List Bd), e = .returned (.tuple #[.slice A l.length c, .int .i64 er]) ∧ stripB l = m ∧ BLst w' A l c ∧ Ext w w' := by
  obtain ⟨l, z, er', he, h1, h2, h3⟩ := h
  obtain ⟨e1, rfl⟩ := h1.unique hu
  obtain ⟨A, c, rfl, _⟩ := h3.form
  exact ⟨A, c, l, he, e1, h3.blst trivial, h2⟩
theorem f1_at (W : World) : Calls Try.prog 24 #[.agg #[.int .i64 1, .int .i64 2, .string ⟨#[]⟩, .slice none 0 0], .agg #[.int .i64 1, .int .i64 1, .string ⟨#[]⟩, .slice none 0 0]] W (MadeF (vr 2) (vr 1) W) := f_at (vr 2) (vr 1) W (var_at _ (fits_small _ (by omega))) (var_at _ (fits_small _ (by omega)))
theorem f2_at (W : World) (p : Nat) (h : (gT (some ⟨p, 0, none⟩) 1).At W) : Calls Try.prog 24 #[.agg #[.int .i64 1, .int .i64 1, .string ⟨#[]⟩, .slice none 0 0], .agg #[.int .i64 2, .int .i64 0, .string ⟨#[103]⟩, .slice (some ⟨p, 0, none⟩) 1 1]] W (MadeF (vr 1) (gT (some ⟨p, 0, none⟩) 1) W) := f_at (vr 1) (gT (some ⟨p, 0, none⟩) 1) W (var_at _ (fits_small _ (by omega))) h
theorem u1_at (W : World) (b1 b2 p : Nat) (h1 : (fT (some ⟨b1, 0, none⟩) 2 (vr 2) (vr 1)).At W) (h2 : (fT (some ⟨b2, 0, none⟩) 2 (vr 1) (gT (some ⟨p, 0, none⟩) 1)).At W) : Calls Try.prog 10 #[.agg #[.int .i64 2, .int .i64 0, .string ⟨#[102]⟩, .slice (some ⟨b1, 0, none⟩) 2 2], .agg #[.int .i64 2, .int .i64 0, .string ⟨#[102]⟩, .slice (some ⟨b2, 0, none⟩) 2 2]] W fun e w' => ∃ (A : Option Addr) (c : Nat) (l : List Bd), e = .returned (.tuple #[.slice A l.length c, .int .i64 0]) ∧ stripB l = m1 ∧ BLst w' A l c ∧ Ext W w' :=
  (unify_at (fT (some ⟨b1, 0, none⟩) 2 (vr 2) (vr 1)) (fT (some ⟨b2, 0, none⟩) 2 (vr 1) (gT (some ⟨p, 0, none⟩) 1)) W h1 h2).mono fun _ _ h => all_unique h (allout1 _ _ _ _ _ _)
theorem u2_at (W : World) (a b : Nat) (h1 : Lst W (some ⟨a, 0, none⟩) [vr 3, vr 3] 2) (h2 : Lst W (some ⟨b, 0, none⟩) [vr 1, vr 2] 2) : Calls Try.prog 16 #[.slice (some ⟨a, 0, none⟩) 2 2, .slice (some ⟨b, 0, none⟩) 2 2] W fun e w' => ∃ (A : Option Addr) (c : Nat) (l : List Bd), e = .returned (.tuple #[.slice A l.length c, .int .i64 0]) ∧ stripB l = m2 ∧ BLst w' A l c ∧ Ext W w' :=
  (all_at [vr 3, vr 3] [vr 1, vr 2] (some ⟨a, 0, none⟩) (some ⟨b, 0, none⟩) 2 2 W h1 h2 (fun _ _ => by decide)).mono fun _ _ h => all_unique h allout2
theorem u3_at (W : World) (p : Nat) (h2 : (gT (some ⟨p, 0, none⟩) 1).At W) : Calls Try.prog 10 #[.agg #[.int .i64 1, .int .i64 0, .string ⟨#[]⟩, .slice none 0 0], .agg #[.int .i64 2, .int .i64 0, .string ⟨#[103]⟩, .slice (some ⟨p, 0, none⟩) 1 1]] W fun e w' => ∃ (A : Option Addr) (c : Nat) (l : List Bd), e = .returned (.tuple #[.slice A l.length c, .int .i64 13]) ∧ stripB l = [] ∧ BLst w' A l c ∧ Ext W w' :=
  (unify_at (vr 0) (gT (some ⟨p, 0, none⟩) 1) W (var_at _ (fits_small _ (by omega))) h2).mono fun _ _ h => all_unique h (allout3 _ _)
theorem c1_at (W : World) : Calls Try.prog 13 #[.agg #[.int .i64 1, .int .i64 0, .string ⟨#[]⟩, .slice none 0 0], .agg #[.int .i64 1, .int .i64 1, .string ⟨#[]⟩, .slice none 0 0]] W fun e w' => e = .returned (.bool true) ∧ Ext W w' :=
  (unifiable_at (vr 0) (vr 1) W (var_at _ (fits_small _ (by omega))) (var_at _ (fits_small _ (by omega)))).mono fun e w' ⟨r, h1, h2, h3⟩ => ⟨by rw [h1, can1 h2], h3⟩
theorem c2_at (W : World) (p : Nat) (h2 : (gT (some ⟨p, 0, none⟩) 1).At W) : Calls Try.prog 13 #[.agg #[.int .i64 1, .int .i64 0, .string ⟨#[]⟩, .slice none 0 0], .agg #[.int .i64 2, .int .i64 0, .string ⟨#[103]⟩, .slice (some ⟨p, 0, none⟩) 1 1]] W fun e w' => e = .returned (.bool false) ∧ Ext W w' :=
  (unifiable_at (vr 0) (gT (some ⟨p, 0, none⟩) 1) W (var_at _ (fits_small _ (by omega))) h2).mono fun e w' ⟨r, h1, h2, h3⟩ => ⟨by rw [h1, can2 h2], h3⟩
theorem s1_at (W : World) (A : Option Addr) (l : List Bd) (c p u : Nat) (h1 : BLst W A l c) (h2 : stripB l = m1) (h3 : BLst W (some ⟨u, 0, none⟩) [⟨1, gT (some ⟨p, 0, none⟩) 1⟩, ⟨2, gT (some ⟨p, 0, none⟩) 1⟩] 2) : Calls Try.prog 12 #[.slice A l.length c, .slice (some ⟨u, 0, none⟩) 2 2] W fun e w' => e = .returned (.bool true) ∧ Ext W w' :=
  (ref_same_s_at l [⟨1, gT (some ⟨p, 0, none⟩) 1⟩, ⟨2, gT (some ⟨p, 0, none⟩) 1⟩] A (some ⟨u, 0, none⟩) c 2 W h1 h3).mono fun e w' h => ⟨by rw [h.1, sameB_strip (h2.trans rfl)], h.2⟩
theorem s2_at (W : World) (A : Option Addr) (l : List Bd) (c u : Nat) (h1 : BLst W A l c) (h2 : stripB l = m2) (h3 : BLst W (some ⟨u, 0, none⟩) [⟨2, vr 1⟩, ⟨3, vr 1⟩] 2) : Calls Try.prog 12 #[.slice A l.length c, .slice (some ⟨u, 0, none⟩) 2 2] W fun e w' => e = .returned (.bool true) ∧ Ext W w' :=
  (ref_same_s_at l [⟨2, vr 1⟩, ⟨3, vr 1⟩] A (some ⟨u, 0, none⟩) c 2 W h1 h3).mono fun e w' h => ⟨by rw [h.1, sameB_strip (h2.trans rfl)], h.2⟩
theorem u2w_at {u x y : World} (E10 : Ext (u.alloc (.cells #[.int .i64 1, .int .i64 3, .string ⟨#[]⟩, .slice none 0 0, .int .i64 1, .int .i64 3, .string ⟨#[]⟩, .slice none 0 0] 24)) x) (E11 : Ext x y) : Calls Try.prog 16 #[.slice (some ⟨u.heap.size, 0, none⟩) 2 2, .slice (some ⟨y.heap.size, 0, none⟩) 2 2] (y.alloc (.cells #[.int .i64 1, .int .i64 1, .string ⟨#[]⟩, .slice none 0 0, .int .i64 1, .int .i64 2, .string ⟨#[]⟩, .slice none 0 0] 24)) fun e w' => ∃ (A : Option Addr) (c : Nat) (l : List Bd), e = .returned (.tuple #[.slice A l.length c, .int .i64 0]) ∧ stripB l = m2 ∧ BLst w' A l c ∧ Ext y w' :=
  (u2_at _ _ _ (Ext.two (a := vr 3) (b := vr 3) ((E10.trans E11).trans (Ext.al _ _)) (var_at _ (fits_small _ (by omega))) (var_at _ (fits_small _ (by omega)))) (Ext.two (a := vr 1) (b := vr 2) (Ext.refl _) (var_at _ (fits_small _ (by omega))) (var_at _ (fits_small _ (by omega))))).mono fun e w' ⟨A, c, l, h1, h2, h3, h4⟩ => ⟨A, c, l, h1, h2, h3, (Ext.al _ _).trans h4⟩
theorem s2w_at {w W : World} {p q c : Nat} {A : Option Addr} {l : List Bd} {L : List (Option Addr × List Bd × Nat)} (K : KS w p q L W) (hm : (A, l, c) ∈ L) (hs : stripB l = m2) : Calls Try.prog 12 #[.slice A l.length c, .slice (some ⟨W.heap.size, 0, none⟩) 2 2] (W.alloc (.cells #[.int .i64 2, .int .i64 1, .int .i64 1, .string ⟨#[]⟩, .slice none 0 0, .int .i64 3, .int .i64 1, .int .i64 1, .string ⟨#[]⟩, .slice none 0 0] 40)) fun e w' => e = .returned (.bool true) ∧ Ext W w' :=
  (s2_at _ A l c _ ((K.2.2.2 _ hm).below (Ext.al _ _)) hs (Ext.bds (a := ⟨2, vr 1⟩) (b := ⟨3, vr 1⟩) (Ext.refl _) (fits_small _ (by simp)) (var_at _ (fits_small _ (by omega))) (fits_small _ (by simp)) (var_at _ (fits_small _ (by omega))))).mono fun _ _ h => ⟨h.1, (Ext.al _ _).trans h.2⟩
theorem s1w_drew {w W : World} {p q c : Nat} {A : Option Addr} {l : List Bd} {L : List (Option Addr × List Bd × Nat)} (K : KS w p q L W) (hm : (A, l, c) ∈ L) (hs : stripB l = m1) : Calls Try.prog 12 #[.slice A l.length c, .slice (some ⟨W.heap.size, 0, none⟩) 2 2] (W.alloc (.cells #[.int .i64 1, .int .i64 2, .int .i64 0, .string ⟨#[103]⟩, .slice (some ⟨p, 0, none⟩) 1 1, .int .i64 2, .int .i64 2, .int .i64 0, .string ⟨#[103]⟩, .slice (some ⟨p, 0, none⟩) 1 1] 40)).drew fun e w' => e = .returned (.bool true) ∧ Ext W w' :=
  (s1_at _ A l c p _ ((K.2.2.2 _ hm).below ((Ext.al _ _).trans (Ext.drew _))) hs (Ext.bds (a := ⟨1, gT (some ⟨p, 0, none⟩) 1⟩) (b := ⟨2, gT (some ⟨p, 0, none⟩) 1⟩) (Ext.drew _) (fits_small _ (by simp)) (K.2.1.below ((Ext.al _ _).trans (Ext.drew _))) (fits_small _ (by simp)) (K.2.1.below ((Ext.al _ _).trans (Ext.drew _))))).mono fun _ _ h => ⟨h.1, ((Ext.al _ _).trans (Ext.drew _)).trans h.2⟩
set_option maxHeartbeats 16000000 in
theorem awake_at (w : World) : Calls Try.prog 9 #[] w fun e w' => e = .returned (.bool true) ∧ Ext w w' := by
  have V0 := Lib.hid (v_at 0)
  have V1 := Lib.hid (v_at 1)
  have V2 := Lib.hid (v_at 2)
  have V3 := Lib.hid (v_at 3)
  have F1 := Lib.hid f1_at
  have F2 := Lib.hid f2_at
  have U1 := Lib.hid u1_at
  have U2 := Lib.hid u2_at
  have U3 := Lib.hid u3_at
  have C1 := Lib.hid c1_at
  have C2 := Lib.hid c2_at
  have S1 := Lib.hid s1_at
  have S2 := Lib.hid s2_at
  go_enter Try.func9, Try.ntmps9
  go_wp2_with (go_at_call 22; (with_reducible refine (V0.out _).mono ?_); rintro e w1 ⟨rfl, h1⟩; have E1 := Lib.hid h1; clear h1)
  have K0 := Lib.hid (KS.start (T := 24) (T' := 24) E1.out)
  obtain ⟨⟨x0, x1, x2, x3⟩, xk⟩ := K0.out
  go_region_held3 (fun W => (W.cell? ⟨w1.heap.size + 1, 0, none⟩ = some (.int .i64 2) ∧ W.cell? ⟨w1.heap.size + 1, 1, none⟩ = some (.int .i64 0) ∧ W.cell? ⟨w1.heap.size + 1, 2, none⟩ = some (.string ⟨#[103]⟩) ∧ W.cell? ⟨w1.heap.size + 1, 3, none⟩ = some (.slice (some ⟨w1.heap.size, 0, none⟩) 1 1)) ∧ KR w w1.heap.size [] W) (first | exact ⟨⟨x0, x1, x2, x3⟩, xk⟩ | exact K0.out.drew | exact K1.out | exact K2.out | exact K3.out | exact K4.out | exact K5.out | exact K6.out | fail) (first
    | (go_at_call 22; (with_reducible refine (V2.out _).mono ?_); rintro e a1 ⟨rfl, h1⟩; have K1 := Lib.hid (K0.out.ext h1.undrew); clear h1)
    | (go_at_call 22; (with_reducible refine (V1.out _).mono ?_); rintro e a2 ⟨rfl, h1⟩; have K2 := Lib.hid (K1.out.ext h1); clear h1)
    | (go_at_call 24; (with_reducible refine (F1.out _).mono ?_); rintro e a3 ⟨b1, rfl, t1, h1⟩; have K3 := Lib.hid (K2.out.ext h1); have T1 := Lib.hid t1; clear h1 t1)
    | (go_at_call 22; (with_reducible refine (V1.out _).mono ?_); rintro e a4 ⟨rfl, h1⟩; have K4 := Lib.hid (K3.out.ext h1); have K4x := Lib.hid h1; clear h1)
    | (go_at_call 24; have hF := F2.out _ _ K4.out.2.1; (with_reducible refine hF.mono ?_); rintro e a5 ⟨b2, rfl, t2, h1⟩; have K5 := Lib.hid (K4.out.ext h1); have T2 := Lib.hid t2; have T1x := Lib.hid ((T1.out.below (show Ext _ _ from K4x.out)).below h1); clear h1 hF t2)
    | (go_at_call 10; have hF := U1.out _ _ _ _ T1x.out T2.out; (with_reducible refine hF.mono ?_); rintro e a6 ⟨A1, c1, l1, rfl, s1, r1, h1⟩; have K6 := Lib.hid (K5.out.ext h1); have R1 := Lib.hid (And.intro s1 r1); clear h1 hF s1 r1))
  clear T1 T2 T1x K4x K0 K1 K2 K3 K4 K5 x0 x1 x2 x3 xk
  have K7 := Lib.hid (K6.out.add R1.out.2)
  clear K6
  go_wp2_with (first
    | (go_at_call 22; (with_reducible refine (V3.out _).mono ?_); rintro e a8 ⟨rfl, h1⟩; have K8 := Lib.hid (K7.out.ext h1); clear h1)
    | (go_at_call 22; (with_reducible refine (V3.out _).mono ?_); rintro e a9 ⟨rfl, h1⟩; have K9 := Lib.hid (K8.out.ext h1); clear h1)
    | (go_at_call 22; (with_reducible refine (V1.out _).mono ?_); rintro e a10 ⟨rfl, h1⟩; have K10 := Lib.hid ((K9.out.ext (Ext.al _ _)).ext h1); have E10 := Lib.hid h1; clear h1)
    | (go_at_call 22; (with_reducible refine (V2.out _).mono ?_); rintro e a11 ⟨rfl, h1⟩; have K11 := Lib.hid (K10.out.ext h1); have E11 := Lib.hid h1; clear h1)
    | (go_at_call 16; have hF := u2w_at E10.out E11.out; (with_reducible refine hF.mono ?_); rintro e a12 ⟨A2, c2, l2, rfl, s1, r1, h1⟩; have K12 := Lib.hid (K11.out.ext h1); have R2 := Lib.hid (And.intro s1 r1); clear h1 hF s1 r1))
  clear K7 K8 K9 K10 K11 E10 E11
  have K13 := Lib.hid (K12.out.add R2.out.2)
  clear K12
  obtain ⟨⟨x0, x1, x2, x3⟩, xk⟩ := K13.out
  go_region_held3 (fun W => (W.cell? ⟨w1.heap.size + 1, 0, none⟩ = some (.int .i64 2) ∧ W.cell? ⟨w1.heap.size + 1, 1, none⟩ = some (.int .i64 0) ∧ W.cell? ⟨w1.heap.size + 1, 2, none⟩ = some (.string ⟨#[103]⟩) ∧ W.cell? ⟨w1.heap.size + 1, 3, none⟩ = some (.slice (some ⟨w1.heap.size, 0, none⟩) 1 1)) ∧ KR w w1.heap.size [(A2, l2, c2), (A1, l1, c1)] W) (first | exact ⟨⟨x0, x1, x2, x3⟩, xk⟩ | exact K13.out.drew | exact K14.out | exact K15.out | fail) (first
    | (go_at_call 22; (with_reducible refine (V0.out _).mono ?_); rintro e a14 ⟨rfl, h1⟩; have K14 := Lib.hid (K13.out.ext h1.undrew); clear h1)
    | (go_at_call 10; have hF := U3.out _ _ K14.out.2.1; (with_reducible refine hF.mono ?_); rintro e a15 ⟨A3, c3, l3, rfl, s1, r1, h1⟩; have K15 := Lib.hid (K14.out.ext h1); clear h1 hF s1 r1))
  clear K13 K14 x0 x1 x2 x3 xk
  go_wp2_with fail
  obtain ⟨⟨x0, x1, x2, x3⟩, xk⟩ := K15.out
  go_region_held3 (fun W => (W.cell? ⟨w1.heap.size + 1, 0, none⟩ = some (.int .i64 2) ∧ W.cell? ⟨w1.heap.size + 1, 1, none⟩ = some (.int .i64 0) ∧ W.cell? ⟨w1.heap.size + 1, 2, none⟩ = some (.string ⟨#[103]⟩) ∧ W.cell? ⟨w1.heap.size + 1, 3, none⟩ = some (.slice (some ⟨w1.heap.size, 0, none⟩) 1 1)) ∧ KR w w1.heap.size [(A2, l2, c2), (A1, l1, c1)] W) (first | exact ⟨⟨x0, x1, x2, x3⟩, xk⟩ | exact K15.out.drew | exact K16.out | exact K17.out | exact K18.out | exact K19.out | exact K20.out | exact K21.out | exact K22.out | exact K23.out | exact K24.out | exact (K15.out.ext (Ext.al _ _)).drew | exact K15.out.ext (Ext.al _ _) | exact K18.out.ext (Ext.al _ _) | fail) (first
    | (go_at_call 12; have hF := s1w_drew (A := A1) (l := l1) (c := c1) K15.out (by simp) R1.out.1; (with_reducible refine hF.mono ?_); rintro e a16 ⟨rfl, h1⟩; have K16 := Lib.hid (K15.out.ext h1); clear h1 hF)
    | (go_at_call 22; (with_reducible refine (V1.out _).mono ?_); rintro e a17 ⟨rfl, h1⟩; have K17 := Lib.hid (K16.out.ext h1); clear h1)
    | (go_at_call 22; (with_reducible refine (V1.out _).mono ?_); rintro e a18 ⟨rfl, h1⟩; have K18 := Lib.hid (K17.out.ext h1); clear h1)
    | (go_at_call 12; have hF := s2w_at (A := A2) (l := l2) (c := c2) K18.out (by simp) R2.out.1; (with_reducible refine hF.mono ?_); rintro e a19 ⟨rfl, h1⟩; have K19 := Lib.hid (K18.out.ext h1); clear h1 hF)
    | (go_at_call 22; (with_reducible refine (V0.out _).mono ?_); rintro e a20 ⟨rfl, h1⟩; have K20 := Lib.hid (K19.out.ext h1); clear h1)
    | (go_at_call 22; (with_reducible refine (V1.out _).mono ?_); rintro e a21 ⟨rfl, h1⟩; have K21 := Lib.hid (K20.out.ext h1); clear h1)
    | (go_at_call 13; (with_reducible refine (C1.out _).mono ?_); rintro e a22 ⟨rfl, h1⟩; have K22 := Lib.hid (K21.out.ext h1); clear h1)
    | (go_at_call 22; (with_reducible refine (V0.out _).mono ?_); rintro e a23 ⟨rfl, h1⟩; have K23 := Lib.hid (K22.out.ext h1); clear h1)
    | (go_at_call 13; have hF := C2.out _ _ K23.out.2.1; (with_reducible refine hF.mono ?_); rintro e a24 ⟨rfl, h1⟩; have K24 := Lib.hid (K23.out.ext h1); clear h1 hF))
  go_wp2_with fail
  go_ret
  exact ⟨rfl, K24.out.2.2.1⟩
end Go.Proofs.Ytdjbigfobodecaa
namespace Go.Proofs.Ytdjbigfobodecaa
open Go.RowKit

theorem fn_at {w : World} {A : Option Addr} {a : List Tm} {c : Nat} (h : Lst w A a c) : (Tm.mk 2 0 ⟨#[102]⟩ A c a).At w :=
  (At_iff _ _).2 ⟨⟨by unfold Fits; simp [Tm.kind], by unfold Fits; simp [Tm.num], by simp [Tm.name, maxLen, ByteArray.size]⟩, h⟩
def AnsR (la lb : List Tm) (w : World) (e : Ending) (w' : World) : Prop :=
  ∃ (A : Option Addr) (c : Nat) (l : List Bd) (er : Int), e = .returned (.tuple #[.slice A l.length c, .int .i64 er]) ∧ AllOut la lb (stripB l) er ∧ BLst w' A l c ∧ Ext w w'
theorem allr_form {la lb : List Tm} {w w' : World} {e : Ending} (h : AllR la lb w e w') : AnsR la lb w e w' := by
  obtain ⟨l, z, er, he, h1, h2, h3⟩ := h
  obtain ⟨A, c, rfl, _⟩ := h3.form
  exact ⟨A, c, l, er, he, h1, h3.blst trivial, h2⟩
theorem fn_size {s : ByteArray} {A : Option Addr} {a : List Tm} {c : Nat} (h : fewB a = true) : (Tm.mk 2 0 s A c a).size ≤ 1000000 := by
  have h1 := few_nodes h
  have h2 := (size_nodes.2 a)
  simp only [Tm.size, if_true]
  omega
theorem small_size {t : Tm} (h : smallB t = true) : t.size ≤ 1000000 := by
  have h1 := small_le h
  have h2 := (size_nodes.1 t).1
  omega
theorem same_b {l1 l2 : List Bd} (h : stripB l1 = stripB l2) {w : World} {A B : Option Addr} {c d : Nat} (h1 : BLst w A l1 c) (h2 : BLst w B l2 d) : Calls Try.prog 12 #[.slice A l1.length c, .slice B l2.length d] w fun e w' => e = .returned (.bool true) ∧ Ext w w' :=
  (ref_same_s_at l1 l2 A B c d w h1 h2).mono fun _ _ h3 => ⟨by rw [h3.1, sameB_strip h], h3.2⟩
theorem rapply_at {b : List Bd} {D : Option Addr} {q : Nat} {t : Tm} {W : World} (hb : BLst W D b q) (ht : t.At W) (hn : t.nodes ≤ 1000000) : Calls Try.prog 20 #[.slice D b.length q, t.val] W fun e w' => ∃ u : Tm, e = .returned u.val ∧ u.strip = (t.app b).strip ∧ u.At w' ∧ Ext W w' :=
  (ref_apply_at W b D q hb t ht hn W (Below.refl _ _)).mono fun _ w' ⟨u, h1, h2, h3, h4⟩ => ⟨u, h1, h2, h3 w' h4 (fun _ _ _ _ => rfl), h4⟩
theorem right_sizes {l : List Bd} (h : rightS l = true) : ∀ x ∈ l, x.tm.size ≤ 1000000 := fun x hx => by
  have := (((rightS_iff l).1 h).1.1 x hx).2.2
  unfold Tm.right at this
  simp only [Bool.and_eq_true, decide_eq_true_eq] at this
  omega
theorem same_t {t u : Tm} {W : World} (h : (cmpT t u == 0) = true) (ht : t.At W) (hu : u.At W) : Calls Try.prog 19 #[t.val, u.val] W fun e w' => e = .returned (.bool true) ∧ Ext W w' := ref_same_at t u W ht hu h
theorem cmp_strips {t u t' u' : Tm} (h : (cmpT t u == 0) = true) (h1 : t'.strip = t.strip) (h2 : u'.strip = u.strip) : (cmpT t' u' == 0) = true := by
  rw [← cmp_strip.1, h1, h2, cmp_strip.1]; exact h
theorem base_ext {w W : World} {o1 o2 : Obj} (h : Ext ((w.alloc o1).alloc o2) W) : Ext w W := ((Ext.al w o1).trans (Ext.al _ o2)).trans h
theorem same_t2 {t u t' u' : Tm} {W : World} {r : Bool} (h : (cmpT t u == 0) = r) (h1 : t'.strip = t.strip) (h2 : u'.strip = u.strip) (ht : t'.At W) (hu : u'.At W) : Calls Try.prog 19 #[t'.val, u'.val] W fun e w' => e = .returned (.bool r) ∧ Ext W w' := ref_same_at t' u' W ht hu (by rw [← cmp_strip.1, h1, h2, cmp_strip.1]; exact h)
theorem ans_right {a b : Tm} {l : List Bd} (h : AllOut [a] [b] (stripB l) 0) : ∀ x ∈ l, x.tm.nodes ≤ 1000000 := fun x hx => by
  have h1 := (out_zero h).2.2.2
  have h2 := List.all_eq_true.1 h1 x.strip (List.mem_map.2 ⟨x, hx, rfl⟩)
  simp only [Bd.strip, right_strip] at h2
  have := right_nodes h2
  omega
theorem cells5 {W W' : World} {b p : Nat} {v0 v1 v2 v3 v4 : Value} (e : Ext W W') (h : W.cell? ⟨b, p, none⟩ = some v0 ∧ W.cell? ⟨b, p + 1, none⟩ = some v1 ∧ W.cell? ⟨b, p + 2, none⟩ = some v2 ∧ W.cell? ⟨b, p + 3, none⟩ = some v3 ∧ W.cell? ⟨b, p + 4, none⟩ = some v4) :
    W'.cell? ⟨b, p, none⟩ = some v0 ∧ W'.cell? ⟨b, p + 1, none⟩ = some v1 ∧ W'.cell? ⟨b, p + 2, none⟩ = some v2 ∧ W'.cell? ⟨b, p + 3, none⟩ = some v3 ∧ W'.cell? ⟨b, p + 4, none⟩ = some v4 := ⟨keepv e h.1, keepv e h.2.1, keepv e h.2.2.1, keepv e h.2.2.2.1, keepv e h.2.2.2.2⟩
theorem rapply_v {b : List Bd} {D : Option Addr} {q : Nat} {n : Int} {W : World} (hb : BLst W D b q) (hf : Fits n) : Calls Try.prog 20 #[.slice D b.length q, .agg #[.int .i64 1, .int .i64 n, .string ⟨#[]⟩, .slice none 0 0]] W fun e w' => ∃ u : Tm, e = .returned u.val ∧ u.strip = ((vr n).app b).strip ∧ u.At w' ∧ Ext W w' :=
  rapply_at hb (var_at W hf) (by simp [vr, Tm.nodes, nodesL])
theorem rapply_m {b : List Bd} {D : Option Addr} {q : Nat} {k n : Int} {s : ByteArray} {A : Option Addr} {c : Nat} {a : List Tm} {W : World} (hb : BLst W D b q) (ht : (Tm.mk k n s A c a).At W) (hn : (Tm.mk k n s A c a).nodes ≤ 1000000) : Calls Try.prog 20 #[.slice D b.length q, .agg #[.int .i64 k, .int .i64 n, .string s, .slice A a.length c]] W fun e w' => ∃ u : Tm, e = .returned u.val ∧ u.strip = ((Tm.mk k n s A c a).app b).strip ∧ u.At w' ∧ Ext W w' := rapply_at hb ht hn
end Go.Proofs.Ytdjbigfobodecaa
namespace Go.Proofs.Ytdjbigfobodecaa
open Go.RowKit

theorem rsolves : RSolves := fun la lb A B ca cb w hA hB hl hfa hfb hn => rsolve_at la lb A B ca cb w hA hB hl hfa hfb hn
theorem few_sizes {l : List Tm} (h : fewB l = true) : ∀ t ∈ l, t.size ≤ 1000000 := fun t ht => small_size ((few_small h).2 t ht)
theorem can_unique {t u : Tm} {r r' : Bool} (h : CanR t u r) (h' : CanR t u r') : r = r' := by
  unfold CanR at h h'
  have := h.trans h'.symm
  cases r <;> cases r' <;> simp_all
end Go.Proofs.Ytdjbigfobodecaa
