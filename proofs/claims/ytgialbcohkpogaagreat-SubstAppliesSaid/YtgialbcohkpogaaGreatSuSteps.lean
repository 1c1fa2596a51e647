/-
  Stable permutations of lists of bindings; what the steps of a stable sort do to a list.
  Rows of bindings: two elements change places; contract of slices.swapRangeCmpFunc at bindings.
  Contract of slices.rotateCmpFunc at bindings: two neighbouring parts of a row change places.
  Contract of slices.insertionSortCmpFunc at bindings: a part of a row is sorted, stably.
-/
import Derived.Test.YtgialbcohkpogaaGreatSuFind
import Derived.Test.YtgialbcohkpogaaGreatSuSort
import Derived.Test.YtgialbcohkpogaaGreatSuRow
import Derived.Test.YtgialbcohkpogaaGreatTmKeep
import Derived.BigQuiet
import Derived.Deep.QuietTactic
import Derived.BigRegion
namespace Go.Proofs.YtgialbcohkpogaaGreat

/-- The same bindings; those of one variable in the same order. -/
def Stab (l m : List Bd) : Prop := l.Perm m ∧ ∀ v : Int, l.filter (fun x => decide (x.var = v)) = m.filter (fun x => decide (x.var = v))
theorem Stab.refl (l : List Bd) : Stab l l := ⟨List.Perm.refl _, fun _ => rfl⟩
theorem Stab.symm {l m : List Bd} (h : Stab l m) : Stab m l := ⟨h.1.symm, fun v => (h.2 v).symm⟩
theorem Stab.trans {l m n : List Bd} (h : Stab l m) (k : Stab m n) : Stab l n := ⟨h.1.trans k.1, fun v => (h.2 v).trans (k.2 v)⟩
theorem Stab.append {a a' b b' : List Bd} (h : Stab a a') (k : Stab b b') : Stab (a ++ b) (a' ++ b') := ⟨h.1.append k.1, fun v => by rw [List.filter_append, List.filter_append, h.2, k.2]⟩
theorem Stab.len {l m : List Bd} (h : Stab l m) : l.length = m.length := h.1.length_eq
theorem Stab.mem {l m : List Bd} (h : Stab l m) {x : Bd} : x ∈ l ↔ x ∈ m := h.1.mem_iff
theorem stab_swap {A B : List Bd} (h : ∀ x ∈ A, ∀ y ∈ B, x.var ≠ y.var) : Stab (A ++ B) (B ++ A) := by
  refine ⟨List.perm_append_comm, fun v => ?_⟩
  rw [List.filter_append, List.filter_append]
  by_cases hA : A.filter (fun x => decide (x.var = v)) = []
  · rw [hA, List.nil_append, List.append_nil]
  · obtain ⟨x, hx⟩ := List.exists_mem_of_ne_nil _ hA
    rw [List.mem_filter, decide_eq_true_eq] at hx
    have hB : B.filter (fun x => decide (x.var = v)) = [] := List.filter_eq_nil_iff.2 fun y hy e => h x hx.1 y hy (by rw [hx.2]; exact (of_decide_eq_true e).symm)
    rw [hB, List.nil_append, List.append_nil]
theorem look_filter (l : List Bd) (v : Int) : look (l.filter fun x => decide (x.var = v)) v = look l v := by
  induction l with
  | nil => rfl
  | cons x r ih =>
    by_cases h : x.var = v
    · rw [List.filter_cons_of_pos (by simpa using h)]
      simp only [look, if_pos h]
    · rw [List.filter_cons_of_neg (by simpa using h), ih]
      simp only [look, if_neg h]
theorem stab_look {l m : List Bd} (h : Stab l m) (v : Int) : look l v = look m v := by rw [← look_filter l, h.2, look_filter m]

/-- In ascending order, with repeats. -/
def SrtL (l : List Bd) : Prop := l.Pairwise fun x y => x.var ≤ y.var
theorem SrtL.srt {l : List Bd} (h : SrtL l) : Srt l := by
  intro i j hij hj
  have hp := List.pairwise_iff_getElem.1 h
  simp only [List.getD, List.getElem?_eq_getElem hj, List.getElem?_eq_getElem (show i < l.length by omega), Option.getD_some]
  rcases Nat.lt_or_ge i j with h1 | h1
  · exact hp i j (by omega) hj h1
  · obtain rfl : i = j := by omega
    exact Int.le_refl _
theorem srtL_append {A B : List Bd} : SrtL (A ++ B) ↔ SrtL A ∧ SrtL B ∧ ∀ x ∈ A, ∀ y ∈ B, x.var ≤ y.var := List.pairwise_append
theorem SrtL.stab_le {A B A' B' : List Bd} (h : ∀ x ∈ A, ∀ y ∈ B, x.var ≤ y.var) (hA : Stab A A') (hB : Stab B B') : ∀ x ∈ A', ∀ y ∈ B', x.var ≤ y.var := fun x hx y hy => h x (hA.mem.2 hx) y (hB.mem.2 hy)

/-- Two elements of a list change places. -/
def swpL (l : List Bd) (i j : Nat) : List Bd := (l.set i (l.getD j default)).set j (l.getD i default)
theorem swpL_len (l : List Bd) (i j : Nat) : (swpL l i j).length = l.length := by simp [swpL]
theorem getD_mid (P : List Bd) (x : Bd) (S : List Bd) {i : Nat} (hi : i = P.length) : (P ++ x :: S).getD i default = x := by
  subst hi; simp [List.getD]
theorem set_mid (P : List Bd) (x y : Bd) (S : List Bd) {i : Nat} (hi : i = P.length) : (P ++ x :: S).set i y = P ++ y :: S := by
  subst hi; simp
theorem swpL_parts (P M S : List Bd) (x y : Bd) {i j : Nat} (hi : i = P.length) (hj : j = P.length + 1 + M.length) : swpL (P ++ x :: (M ++ y :: S)) i j = P ++ y :: (M ++ x :: S) := by
  have e1 : P ++ x :: (M ++ y :: S) = (P ++ x :: M) ++ y :: S := by simp
  have e2 : (P ++ x :: (M ++ y :: S)).getD j default = y := by rw [e1, getD_mid _ _ _ (by simp; omega)]
  have e3 : (P ++ x :: (M ++ y :: S)).getD i default = x := getD_mid _ _ _ hi
  unfold swpL
  rw [e2, e3, set_mid _ _ _ _ hi, show P ++ y :: (M ++ y :: S) = (P ++ y :: M) ++ y :: S by simp, set_mid _ _ _ _ (by simp; omega)]
  simp
/-- The same, told the other way round. -/
theorem swpL_symm (l : List Bd) {i j : Nat} (hij : i ≠ j) : swpL l i j = swpL l j i := by
  unfold swpL
  rw [List.set_comm _ _ (by omega)]
end Go.Proofs.YtgialbcohkpogaaGreat
namespace Go.Proofs.YtgialbcohkpogaaGreat
open Go.RowKit

/-- The five cells of an element are written. -/
def put5 (w : World) (g i : Nat) (x : Bd) : World :=
  ((((w.setCell ⟨g, i * 5, none⟩ (.int .i64 x.var)).setCell ⟨g, i * 5 + 1, none⟩ (.int .i64 x.tm.kind)).setCell ⟨g, i * 5 + 2, none⟩ (.int .i64 x.tm.num)).setCell ⟨g, i * 5 + 3, none⟩ (.string x.tm.name)).setCell ⟨g, i * 5 + 4, none⟩ (.slice x.tm.at_ x.tm.args.length x.tm.cap)
section
variable {w w' : World} {g i : Nat} {x : Bd} {l : List Bd}
theorem put5_eq : put5 w g i x = w.setCells g (i * 5) x.cells := rfl
theorem put5_size : (put5 w g i x).heap.size = w.heap.size := by simp [put5, World.setCell]
theorem put5_frozen (p : Addr) : (put5 w g i x).frozen? p = w.frozen? p := by simp only [put5, World.frozen?_setCell]
theorem put5_keeps (K : World) (h : Keeps g K w) : Keeps g K (put5 w g i x) := ((((h.set _ _ _).set _ _ _).set _ _ _).set _ _ _).set _ _ _
theorem Row5.put (h : Row5 w g l) (hi : i < l.length) (x : Bd) : Row5 (put5 w g i x) g (l.set i x) := by
  refine ⟨by rw [put5_size]; exact h.1, fun j => by rw [put5_frozen]; exact h.2.1 j, fun i' j u hi' hu => ?_⟩
  have hj := bcells_lt hu
  rw [List.length_set] at hi'
  rw [put5_eq]
  by_cases e : i' = i
  · subst e
    have hg : (l.set i' x).getD i' default = x := by simp [List.getD, hi]
    rw [hg] at hu
    have h1 : ∀ k, k < x.cells.length → (w.cell? ⟨g, i' * 5 + k, none⟩).isSome = true := fun k hk => by
      rw [bcells_length] at hk
      have hk2 : k < (l.getD i' default).cells.length := by rw [bcells_length]; exact hk
      rw [h.2.2 i' k _ hi (List.getElem?_eq_getElem hk2)]
      rfl
    obtain ⟨hj2, e2⟩ := List.getElem?_eq_some_iff.1 hu
    rw [World.cell?_setCells_in g x.cells (i' * 5) w h1 j hj2, e2]
  · have hg : (l.set i x).getD i' default = l.getD i' default := by simp [List.getD, Ne.symm e]
    rw [hg] at hu
    rw [World.cell?_setCells_out g x.cells (i * 5) w _ (fun _ _ => by rw [bcells_length]; show i' * 5 + j < i * 5 ∨ i * 5 + 5 ≤ i' * 5 + j; omega)]
    exact h.2.2 i' j u hi' hu
theorem Row5.below (h : Row5 w g l) (hb : Below w.heap.size w w') : Row5 w' g l :=
  ⟨Nat.lt_of_lt_of_le h.1 hb.size, fun j => (hb.frozen (p := ⟨g, j, none⟩) h.1).trans (h.2.1 j), fun i j u hi hu => keepv hb (h.2.2 i j u hi hu)⟩
theorem Row5.drewN (h : Row5 w g l) (n : Nat) : Row5 (w.drewN n) g l := h.below (below_drewN (Below.refl _ _) n)
theorem Row5.drew (h : Row5 w g l) : Row5 w.drew g l := ⟨h.1, h.2.1, h.2.2⟩
theorem Row5.get (h : Row5 w g l) {i : Nat} (hi : i < l.length) : w.cell? ⟨g, i * 5, none⟩ = some (.int .i64 (l.getD i default).var) ∧ w.cell? ⟨g, i * 5 + 1, none⟩ = some (.int .i64 (l.getD i default).tm.kind) ∧ w.cell? ⟨g, i * 5 + 2, none⟩ = some (.int .i64 (l.getD i default).tm.num) ∧ w.cell? ⟨g, i * 5 + 3, none⟩ = some (.string (l.getD i default).tm.name) ∧
    w.cell? ⟨g, i * 5 + 4, none⟩ = some (.slice (l.getD i default).tm.at_ (l.getD i default).tm.args.length (l.getD i default).tm.cap) :=
  ⟨h.2.2 i 0 _ hi rfl, h.2.2 i 1 _ hi rfl, h.2.2 i 2 _ hi rfl, h.2.2 i 3 _ hi rfl, h.2.2 i 4 _ hi rfl⟩
/-- Two elements change places. -/
theorem Row5.swap (h : Row5 w g l) {j : Nat} (hi : i < l.length) (hj : j < l.length) : Row5 (put5 (put5 w g i (l.getD j default)) g j (l.getD i default)) g (swpL l i j) :=
  (h.put hi _).put (by simpa using hj) _
end
/-- What a step of the sort leaves. -/
def Steps (R : List Bd → Prop) (g : Nat) (w : World) (e : Ending) (w' : World) : Prop :=
  e = .returned (.tuple #[]) ∧ ∃ l', R l' ∧ Row5 w' g l' ∧ Keeps g w w'
abbrev CMPV : Value := .func (.func 51) #[] #[]

/-- The list while the first n elements of X and Y change places. -/
def swapping (P X Q Y S : List Bd) (k : Nat) : List Bd := P ++ (Y.take k ++ X.drop k) ++ Q ++ (X.take k ++ Y.drop k) ++ S
theorem swapping_len (P X Q Y S : List Bd) (h : X.length = Y.length) (k : Nat) (hk : k ≤ X.length) : (swapping P X Q Y S k).length = P.length + X.length + Q.length + Y.length + S.length := by
  simp [swapping]; omega
theorem swapping_next (P X Q Y S : List Bd) (h : X.length = Y.length) {k : Nat} (hk : k < X.length) : swpL (swapping P X Q Y S k) (P.length + k) (P.length + X.length + Q.length + k) = swapping P X Q Y S (k + 1) := by
  have hx := bdrop_next hk
  have hy := bdrop_next (show k < Y.length by omega)
  have tx := btake_next hk
  have ty := btake_next (show k < Y.length by omega)
  have lx : (X.take k).length = k := by simp; omega
  have ly : (Y.take k).length = k := by simp; omega
  have ld : (X.drop (k + 1)).length = X.length - (k + 1) := by simp
  unfold swapping
  rw [hx, hy, tx, ty]
  have e1 : P ++ (Y.take k ++ X.getD k default :: X.drop (k + 1)) ++ Q ++ (X.take k ++ Y.getD k default :: Y.drop (k + 1)) ++ S = (P ++ Y.take k) ++ X.getD k default :: ((X.drop (k + 1) ++ Q ++ X.take k) ++ Y.getD k default :: (Y.drop (k + 1) ++ S)) := by simp
  rw [e1, swpL_parts _ _ _ _ _ (by rw [List.length_append, ly]) (by simp only [List.length_append, lx, ly, ld]; omega)]
  simp

set_option maxHeartbeats 4000000 in
set_option maxRecDepth 100000 in
theorem swap_range_at (P X Q Y S : List Bd) (hXY : X.length = Y.length) (g c N : Nat) (w : World) (hN : N = P.length + X.length + Q.length + Y.length + S.length) (hN6 : N ≤ 1000000) (h : Row5 w g (P ++ X ++ Q ++ Y ++ S)) (a b n : Nat) (ha : a = P.length) (hb : b = P.length + X.length + Q.length) (hn : n = X.length) :
    Calls Tryz.prog 126 #[.slice (some ⟨g, 0, none⟩) N c, .int .i64 a, .int .i64 b, .int .i64 n, CMPV] w (Steps (fun l' => l' = P ++ Y ++ Q ++ X ++ S) g w) := by
  have HNX := Lib.hid (fun (k : Nat) (hk : k < n) => show swpL (swapping P X Q Y S k) (a + k) (b + k) = swapping P X Q Y S (k + 1) by rw [ha, hb]; exact swapping_next P X Q Y S hXY (show k < X.length by omega))
  have HL := Lib.hid (fun (k : Nat) (hk : k ≤ n) => show (swapping P X Q Y S k).length = N by rw [swapping_len P X Q Y S hXY k (by omega), hN])
  have H0 := Lib.hid (show swapping P X Q Y S 0 = P ++ X ++ Q ++ Y ++ S by simp [swapping])
  have H1 := Lib.hid (show swapping P X Q Y S n = P ++ Y ++ Q ++ X ++ S by
    rw [hn]
    unfold swapping
    rw [List.take_of_length_le (show Y.length ≤ X.length by omega), List.drop_of_length_le (Nat.le_refl _), List.take_of_length_le (Nat.le_refl _), List.drop_of_length_le (show Y.length ≤ X.length by omega)]
    simp)
  have HR := Lib.hid (show Row5 w g (swapping P X Q Y S 0) by rw [H0.out]; exact h)
  have hab : a + n ≤ b := by omega
  have hbN : b + n ≤ N := by omega
  generalize swapping P X Q Y S = L at *
  clear h H0 ha hb hn hN
  go_enter Tryz.func126, Tryz.ntmps126
  go_wp2_with fail
  go_loopw [10] (fun i wr => ∃ k : Nat, k ≤ n ∧ i = .int .i64 k ∧ Hid (Row5 wr g (L k)) ∧ Hid (Keeps g w wr)) (fun i _ => n - (intOf i).toNat)
  case atStart => exact ⟨0, Nat.zero_le _, rfl, HR, Lib.hid (Keeps.refl _ _)⟩
  case round =>
    clear HR
    obtain ⟨k, hk, rfl, HR, HK⟩ := hrel
    by_cases hlt : k < n
    · have jlt : decide ((k : Int) < (n : Int)) = true := decide_eq_true (by omega)
      have hsw := HNX.out k hlt
      have hlen := HL.out k hk
      obtain ⟨p, hp⟩ : ∃ p, p = a + k := ⟨_, rfl⟩
      obtain ⟨q, hq⟩ : ∃ q, q = b + k := ⟨_, rfl⟩
      have hp1 : (a : Int) + (k : Int) = (p : Int) := by omega
      have hq1 : (b : Int) + (k : Int) = (q : Int) := by omega
      have hpN : p < N := by omega
      have hqN : q < N := by omega
      have hpq : p ≠ q := by omega
      rw [← hp, ← hq] at hsw
      have HSW := Lib.hid hsw
      have HD := Lib.hid (HR.out)
      have HP := Lib.hid (HD.out.put (i := p) (by rw [hlen]; exact hpN) ((L k).getD q default))
      obtain ⟨c0, c1, c2, c3, c4⟩ := HD.out.get (i := p) (by rw [hlen]; exact hpN)
      obtain ⟨d0, d1, d2, d3, d4⟩ := HD.out.get (i := q) (by rw [hlen]; exact hqN)
      obtain ⟨e0, e1, e2, e3, e4⟩ := HP.out.get (i := q) (by rw [List.length_set, hlen]; exact hqN)
      have hgq : ((L k).set p ((L k).getD q default)).getD q default = (L k).getD q default := by simp [List.getD, hpq]
      rw [hgq] at e0 e1 e2 e3 e4
      have HFin := Lib.hid (show Row5 (put5 (put5 wr g p ((L k).getD q default)) g q ((L k).getD p default)).drew g (L (k + 1)) by
        rw [← HSW.out]; exact (HD.out.swap (by rw [hlen]; exact hpN) (by rw [hlen]; exact hqN)).drew)
      have HKin := Lib.hid ((put5_keeps (i := q) (x := (L k).getD p default) w (put5_keeps (i := p) (x := (L k).getD q default) w HK.out)).drew)
      have f := HD.out.2.1
      have fp0 := f (p * 5)
      have fp1 := f (p * 5 + 1)
      have fp2 := f (p * 5 + 2)
      have fp3 := f (p * 5 + 3)
      have fp4 := f (p * 5 + 4)
      have fq0 := f (q * 5)
      have fq1 := f (q * 5 + 1)
      have fq2 := f (q * 5 + 2)
      have fq3 := f (q * 5 + 3)
      have fq4 := f (q * 5 + 4)
      generalize (L k).getD p default = x at *
      generalize (L k).getD q default = y at *
      obtain ⟨xv, xk, xn, xs, xA, xc, xa⟩ := x
      obtain ⟨yv, yk, yn, ys, yA, yc, ya⟩ := y
      simp only [put5, Tm.kind, Tm.num, Tm.name, Tm.at_, Tm.args, Tm.cap] at c0 c1 c2 c3 c4 d0 d1 d2 d3 d4 e0 e1 e2 e3 e4 HFin HKin
      have pz : (p : Int) < (N : Int) := by omega
      have qz : (q : Int) < (N : Int) := by omega
      clear hsw hgq HP HD f HR HK hp hq
      go_wp2_with fail
      go_region
      all_goals go_wp2
      go_roundw
      case rel => exact ⟨k + 1, by omega, by go_num, HFin, HKin⟩
      case measure => simp [intOf]; omega
    · obtain rfl : k = n := by omega
      have jlt : decide ((k : Int) < (k : Int)) = false := decide_eq_false (by omega)
      have HE := Lib.hid (show Row5 wr g (P ++ Y ++ Q ++ X ++ S) by rw [← H1.out]; exact HR.out)
      go_wp2_with fail
      go_end0
      exact ⟨rfl, _, rfl, HE.out, HK.out⟩
end Go.Proofs.YtgialbcohkpogaaGreat
namespace Go.Proofs.YtgialbcohkpogaaGreat
open Go.RowKit

set_option maxHeartbeats 4000000 in
set_option maxRecDepth 100000 in
theorem rotate_at (P A B S : List Bd) (hA : 0 < A.length) (hB : 0 < B.length) (g c N : Nat) (w : World) (hN : N = P.length + A.length + B.length + S.length) (hN6 : N ≤ 1000000) (h : Row5 w g (P ++ A ++ B ++ S)) (a m b : Nat) (ha : a = P.length) (hm : m = P.length + A.length) (hb : b = P.length + A.length + B.length) :
    Calls Tryz.prog 121 #[.slice (some ⟨g, 0, none⟩) N c, .int .i64 a, .int .i64 m, .int .i64 b, CMPV] w (Steps (fun l' => l' = P ++ B ++ A ++ S) g w) := by
  obtain ⟨i0, hi0⟩ : ∃ i0, i0 = A.length := ⟨_, rfl⟩
  obtain ⟨j0, hj0⟩ : ∃ j0, j0 = B.length := ⟨_, rfl⟩
  have hi1 : (m : Int) - (a : Int) = (i0 : Int) := by omega
  have hj1 : (b : Int) - (m : Int) = (j0 : Int) := by omega
  have hmb : m ≤ N := by omega
  have hbN : b ≤ N := by omega
  have H0 := Lib.hid (show ∃ Pt X Y St : List Bd, i0 = X.length ∧ j0 = Y.length ∧ Pt.length + X.length = m ∧ Pt.length + X.length + Y.length + St.length = N ∧ Row5 w g (Pt ++ X ++ Y ++ St) ∧ Pt ++ Y ++ X ++ St = P ++ B ++ A ++ S from ⟨P, A, B, S, hi0, hj0, hm.symm, hN.symm, h, rfl⟩)
  have hi2 : 0 < i0 := by omega
  have hj2 : 0 < j0 := by omega
  have hi3 : i0 ≤ N := by omega
  have hj3 : j0 ≤ N := by omega
  clear h ha hm hb hi0 hj0 hA hB hN
  generalize P ++ B ++ A ++ S = T at *
  go_enter Tryz.func121, Tryz.ntmps121
  go_wp2_with fail
  go_loopw [10, 11] (fun vi vj wr => ∃ (i j : Nat), vi = .int .i64 i ∧ vj = .int .i64 j ∧ 0 < i ∧ 0 < j ∧ i ≤ N ∧ j ≤ N ∧ Hid (∃ Pt X Y St : List Bd, i = X.length ∧ j = Y.length ∧ Pt.length + X.length = m ∧ Pt.length + X.length + Y.length + St.length = N ∧ Row5 wr g (Pt ++ X ++ Y ++ St) ∧ Pt ++ Y ++ X ++ St = T) ∧ Hid (Keeps g w wr)) (fun vi vj _ => (intOf vi).toNat + (intOf vj).toNat)
  case atStart => exact ⟨i0, j0, rfl, rfl, hi2, hj2, hi3, hj3, H0, Lib.hid (Keeps.refl _ _)⟩
  case round =>
    clear H0
    obtain ⟨i, j, rfl, rfl, hi, hj, hiN, hjN, HX, HK⟩ := hrel
    obtain ⟨Pt, X, Y, St, hX, hY, hPX, hPN, hR, hT⟩ := HX.out
    obtain ⟨r, hr⟩ : ∃ r, r = Pt.length := ⟨_, rfl⟩
    have hr1 : (m : Int) - (i : Int) = (r : Int) := by omega
    by_cases hij : i = j
    · subst hij
      have hne : ((i : Int) != (i : Int)) = false := by simp
      have QS := Lib.hid (swap_range_at Pt X [] Y St (by omega) g c N wr (by simp; omega) hN6 (by simpa using hR) r m i hr (by simp; omega) hX)
      have HT := Lib.hid hT
      clear hX hY hPX hPN hR hT hr HX
      go_wp2_with fail
      refine (QS.out).mono ?_
      rintro e w2 ⟨rfl, l', rfl, hR2, hK2⟩
      have HE := Lib.hid (show Row5 w2 g T by rw [← HT.out]; simpa using hR2)
      have HK2 := Lib.hid (HK.out.trans hK2)
      clear hR2 hK2
      go_wp2_with fail
      go_end0
      exact ⟨rfl, T, rfl, HE.out, HK2.out⟩
    · have hne : ((i : Int) != (j : Int)) = true := by simp; omega
      by_cases hlt : j < i
      · have hgt : decide ((i : Int) > (j : Int)) = true := decide_eq_true (by omega)
        have hd1 : (i : Int) - (j : Int) = ((i - j : Nat) : Int) := by omega
        have lx : (X.take j).length = j := by simp; omega
        have ld : (X.drop j).length = i - j := by simp; omega
        have QS := Lib.hid (swap_range_at Pt (X.take j) (X.drop j) Y St (by omega) g c N wr (by omega) hN6 (by rw [List.append_assoc Pt, List.take_append_drop]; exact hR) r m j hr (by omega) lx.symm)
        have HN := Lib.hid (fun W (h : Row5 W g (Pt ++ Y ++ X.drop j ++ X.take j ++ St)) => show ∃ Pt X Y St : List Bd, i - j = X.length ∧ j = Y.length ∧ Pt.length + X.length = m ∧ Pt.length + X.length + Y.length + St.length = N ∧ Row5 W g (Pt ++ X ++ Y ++ St) ∧ Pt ++ Y ++ X ++ St = T from
          ⟨Pt ++ Y, X.drop j, X.take j, St, ld.symm, lx.symm, by rw [List.length_append]; omega, by rw [List.length_append]; omega, h, by rw [← hT, List.append_assoc (Pt ++ Y), List.take_append_drop]⟩)
        obtain ⟨dn, hdn⟩ : ∃ dn, dn = i - j := ⟨_, rfl⟩
        rw [← hdn] at hd1 HN
        have hdn0 : 0 < dn := by omega
        have hdnN : dn ≤ N := by omega
        have hdni : dn < i := by omega
        clear hX hY hPX hPN hR hT hr HX lx ld hdn
        go_wp2_with fail
        refine (QS.out).mono ?_
        rintro e w2 ⟨rfl, l', rfl, hR2, hK2⟩
        have HE := Lib.hid (HN.out _ hR2)
        have HK2 := Lib.hid (HK.out.trans hK2)
        clear hR2 hK2
        go_wp2_with fail
        go_roundw
        case rel => exact ⟨dn, j, by go_num, rfl, hdn0, hj, hdnN, hjN, HE, HK2⟩
        case measure => simp [intOf]; omega
      · have hgt : decide ((i : Int) > (j : Int)) = false := decide_eq_false (by omega)
        have hd1 : (j : Int) - (i : Int) = ((j - i : Nat) : Int) := by omega
        have lx : (Y.drop (j - i)).length = i := by simp; omega
        have ld : (Y.take (j - i)).length = j - i := by simp; omega
        obtain ⟨q, hq⟩ : ∃ q, q = m + (j - i) := ⟨_, rfl⟩
        have hq1 : (m : Int) + (j : Int) - (i : Int) = (q : Int) := by omega
        have QS := Lib.hid (swap_range_at Pt X (Y.take (j - i)) (Y.drop (j - i)) St (by omega) g c N wr (by omega) hN6 (by rw [List.append_assoc (Pt ++ X), List.take_append_drop]; exact hR) r q i hr (by omega) hX)
        have HN := Lib.hid (fun W (h : Row5 W g (Pt ++ Y.drop (j - i) ++ Y.take (j - i) ++ X ++ St)) => show ∃ Pt X Y St : List Bd, i = X.length ∧ j - i = Y.length ∧ Pt.length + X.length = m ∧ Pt.length + X.length + Y.length + St.length = N ∧ Row5 W g (Pt ++ X ++ Y ++ St) ∧ Pt ++ Y ++ X ++ St = T from
          ⟨Pt, Y.drop (j - i), Y.take (j - i), X ++ St, lx.symm, ld.symm, by omega, by rw [List.length_append]; omega, by simpa using h, by rw [← hT, List.append_assoc Pt, List.take_append_drop]; simp⟩)
        obtain ⟨dn, hdn⟩ : ∃ dn, dn = j - i := ⟨_, rfl⟩
        rw [← hdn] at hd1 HN QS
        have hdn0 : 0 < dn := by omega
        have hdnN : dn ≤ N := by omega
        have hdni : dn < j := by omega
        have hmj : m + j ≤ 2000000 := by omega
        clear hX hY hPX hPN hR hT hr HX lx ld hdn hq
        go_wp2_with fail
        refine (QS.out).mono ?_
        rintro e w2 ⟨rfl, l', rfl, hR2, hK2⟩
        have HE := Lib.hid (HN.out _ hR2)
        have HK2 := Lib.hid (HK.out.trans hK2)
        clear hR2 hK2
        go_wp2_with fail
        go_roundw
        case rel => exact ⟨i, dn, rfl, by go_num, hi, hdn0, hiN, hdnN, HE, HK2⟩
        case measure => simp [intOf]; omega
end Go.Proofs.YtgialbcohkpogaaGreat
namespace Go.Proofs.YtgialbcohkpogaaGreat
open Go.RowKit Go.Lib Go.Shelf

abbrev ltV : Bd → Bd → Bool := ltOf fun x y : Bd => ints x.var y.var
theorem ltV_eq (x y : Bd) : ltV x y = decide (x.var < y.var) := lt_vars x y
theorem swp_list (d : Array Bd) (i j : Nat) : (Go.Sort.swp d i j).toList = swpL d.toList i j := by
  unfold Go.Sort.swp swpL
  rw [Array.toList_setIfInBounds, Array.toList_setIfInBounds, list_getD, list_getD]
/-- Two neighbours that stand the wrong way round change places. -/
theorem stab_next {l : List Bd} {j : Nat} (hj : j + 1 < l.length) (h : (l.getD (j + 1) default).var < (l.getD j default).var) : Stab l (swpL l (j + 1) j) := by
  obtain ⟨P, x, y, S, e, hP⟩ : ∃ P x y S, l = P ++ x :: ([] ++ y :: S) ∧ P.length = j := by
    refine ⟨l.take j, l.getD j default, l.getD (j + 1) default, l.drop (j + 1 + 1), ?_, by simp; omega⟩
    conv => lhs; rw [← List.take_append_drop j l, bdrop_next (show j < l.length by omega), bdrop_next hj]
    rfl
  subst e
  rw [swpL_symm _ (by omega), swpL_parts P [] S x y hP.symm (by simp; omega)]
  rw [getD_mid P x _ hP.symm, show P ++ x :: ([] ++ y :: S) = (P ++ [x]) ++ y :: S by simp, getD_mid (P ++ [x]) y S (by simp; omega)] at h
  have h1 : Stab ([x] ++ [y]) ([y] ++ [x]) := stab_swap fun a ha b hb => by
    rw [List.mem_singleton.1 ha, List.mem_singleton.1 hb]; omega
  have := (Stab.refl P).append (h1.append (Stab.refl S))
  simpa using this
theorem ins_inner (a : Nat) : ∀ (j : Nat) (d : Array Bd), j < d.size → Stab d.toList (Go.Sort.insInner ltV a j d).toList ∧ (Go.Sort.insInner ltV a j d).size = d.size
  | 0, d, _ => ⟨by unfold Go.Sort.insInner; exact Stab.refl _, by unfold Go.Sort.insInner; rfl⟩
  | j + 1, d, hj => by
    unfold Go.Sort.insInner
    split
    · rename_i hc
      simp only [Bool.and_eq_true, decide_eq_true_eq] at hc
      have hlt := hc.2
      rw [ltV_eq, decide_eq_true_eq, ← list_getD, ← list_getD] at hlt
      have h1 := stab_next (l := d.toList) (by simpa using hj) hlt
      rw [← swp_list] at h1
      have h2 := ins_inner a j (Go.Sort.swp d (j + 1) j) (by rw [Go.Sort.size_swp]; omega)
      exact ⟨h1.trans h2.1, by rw [h2.2, Go.Sort.size_swp]⟩
    · exact ⟨Stab.refl _, rfl⟩
theorem ins_outer (a b : Nat) : ∀ (n i : Nat) (d : Array Bd), b - i = n → b ≤ d.size → Stab d.toList (Go.Sort.insOuter ltV a b i d).toList := by
  intro n
  induction n with
  | zero =>
    intro i d hn hb
    rw [insOuter_stop _ _ _ _ _ (by omega)]
    exact Stab.refl _
  | succ n ih =>
    intro i d hn hb
    rw [insOuter_go _ _ _ _ _ (by omega)]
    have h := ins_inner a i d (by omega)
    exact h.1.trans (ih (i + 1) _ (by omega) (by rw [h.2]; exact hb))

theorem ext_getD {l m : List Bd} (hl : l.length = m.length) (h : ∀ i, i < l.length → l.getD i default = m.getD i default) : l = m := by
  refine List.ext_getElem hl fun i h1 h2 => ?_
  have := h i h1
  simpa [List.getD, h1, h2] using this
/-- A list that differs from another one in a part only. -/
theorem seg_of {P X S l' : List Bd} (hl : l'.length = (P ++ X ++ S).length) (ho : ∀ i, i < P.length ∨ P.length + X.length ≤ i → l'.getD i default = (P ++ X ++ S).getD i default) : ∃ X', l' = P ++ X' ++ S ∧ X'.length = X.length := by
  have hlen : l'.length = P.length + X.length + S.length := by rw [hl]; simp; omega
  refine ⟨(l'.drop P.length).take X.length, ?_, by simp; omega⟩
  have e1 : l'.take P.length = P := ext_getD (by simp; omega) fun i hi => by
    have hi' : i < P.length := by simp at hi; omega
    have := ho i (.inl hi')
    simp only [List.getD, List.getElem?_append_left (show i < (P ++ X).length by simp; omega), List.getElem?_append_left hi'] at this
    simpa [List.getD, List.getElem?_take, hi'] using this
  have e2 : l'.drop (P.length + X.length) = S := ext_getD (by simp; omega) fun i hi => by
    have := ho (P.length + X.length + i) (.inr (by omega))
    rw [List.getD, List.getD, List.getElem?_append_right (by simp)] at this
    rw [List.getD, List.getD, List.getElem?_drop, this]
    simp
  have e3 : l' = l'.take P.length ++ ((l'.drop P.length).take X.length ++ (l'.drop P.length).drop X.length) := by rw [List.take_append_drop, List.take_append_drop]
  rw [List.drop_drop, e1, e2] at e3
  rw [List.append_assoc]
  exact e3
theorem stab_cancel {P X X' S : List Bd} (h : Stab (P ++ X ++ S) (P ++ X' ++ S)) : Stab X X' := by
  refine ⟨?_, fun v => ?_⟩
  · have := h.1
    rwa [List.perm_append_right_iff, List.perm_append_left_iff] at this
  · have := h.2 v
    simpa [List.filter_append] using this
/-- Sorted by insertion. -/
theorem insertion_list {P X S : List Bd} {a b : Nat} (ha : a = P.length) (hb : b = P.length + X.length) : ∃ X', (Go.Sort.insertionSort ltV (P ++ X ++ S).toArray a b).toList = P ++ X' ++ S ∧ Stab X X' ∧ SrtL X' := by
  have hsz : (P ++ X ++ S).toArray.size = P.length + X.length + S.length := by simp; omega
  obtain ⟨⟨h1, h2, _⟩, h4⟩ := Go.Sort.insertionSort_holds swo_vars (P ++ X ++ S).toArray a b (by omega) (by omega)
  have h5 : Stab (P ++ X ++ S) (Go.Sort.insertionSort ltV (P ++ X ++ S).toArray a b).toList := by
    have := ins_outer a b (b - (a + 1)) (a + 1) (P ++ X ++ S).toArray rfl (by omega)
    rwa [List.toList_toArray] at this
  generalize hd : Go.Sort.insertionSort ltV (P ++ X ++ S).toArray a b = d' at *
  obtain ⟨X', e, hX⟩ := seg_of (P := P) (X := X) (S := S) (l' := d'.toList) (by simpa using h1) (fun i hi => by
    rw [list_getD, h2 i (by omega), ← list_getD, List.toList_toArray])
  refine ⟨X', e, stab_cancel (by rw [← e]; exact h5), List.pairwise_iff_getElem.2 fun i j hi hj hij => ?_⟩
  have h6 := h4 (a + i) (a + j) (by omega) (by omega) (by omega)
  have gx : ∀ k (hk : k < X'.length), d'[a + k]! = X'[k] := fun k hk => by
    rw [← list_getD, e, ha, List.getD, List.getElem?_append_left (by simp; omega), List.getElem?_append_right (by omega)]
    simp [hk]
  rw [gx _ hi, gx _ hj, lt_vars, decide_eq_false_iff_not] at h6
  omega

set_option maxHeartbeats 2000000 in
theorem insertion_at (P X S : List Bd) (g c N : Nat) (w : World) (hN : N = P.length + X.length + S.length) (hN6 : N ≤ 1000000) (h : Row5 w g (P ++ X ++ S)) (a b : Nat) (ha : a = P.length) (hb : b = P.length + X.length) :
    Calls Tryz.prog 88 #[.slice (some ⟨g, 0, none⟩) N c, .int .i64 a, .int .i64 b, CMPV] w (Steps (fun l' => ∃ X', l' = P ++ X' ++ S ∧ Stab X X' ∧ SrtL X') g w) := by
  have eg : ∀ args w, (callFunc 51 args).run Tryz.prog w = .ok (.enter 51 args) w := enters_of Tryz.func51 (by kernel_rfl) rfl
  have hsz : (P ++ X ++ S).toArray.size = N := by simp; omega
  have hc := AnyQ.insertionSortCmpFunc (P := Tryz.prog) { Tryz.pdqB with } 5 Tryz.isAgg53 Tryz.sizeOf53 Bd.cells (fun _ => rfl) (fun x v hv => by simp [Bd.cells] at hv; rcases hv with rfl | rfl | rfl | rfl | rfl <;> rfl) (fun x y : Bd => ints x.var y.var) 51 #[] g 0 c a b (P ++ X ++ S).toArray w eg (cmp_lays g 0 _ w) h.holdsK h.1 (by omega) (by omega) (by omega)
  rw [hsz] at hc
  refine hc.mono ?_
  rintro e w' ⟨rfl, n, os, rfl⟩
  obtain ⟨X', e, h1, h2⟩ := insertion_list (S := S) ha hb
  have hz : (Go.Sort.insertionSort ltV (P ++ X ++ S).toArray a b).size = (P ++ X ++ S).toArray.size := by
    rw [hsz, ← Array.length_toList, e]; simp; have := h1.len; omega
  have hK := keeps_sort (g := g) (w := w) (n := n) (d := Go.Sort.insertionSort ltV (P ++ X ++ S).toArray a b) (os := os)
  refine ⟨rfl, P ++ X' ++ S, ⟨X', rfl, h1, h2⟩, ?_, hK⟩
  rw [← e]
  refine Row5.of_holdsK (Nat.lt_of_lt_of_le h.1 hK.size) (fun j => ?_) (holdsK_sortWorldK_c Bd.cells 5 w g 0 _ _ n os h.holdsK h.1 hz)
  unfold sortWorldK
  rw [Go.Sort.frozen?_grow _ _ _ (by rw [Go.Sort.size_putRowK]; exact h.1)]
  unfold Go.Sort.putRowK
  rw [Go.Sort.frozen?_putRow]
  exact h.2.1 j
end Go.Proofs.YtgialbcohkpogaaGreat
