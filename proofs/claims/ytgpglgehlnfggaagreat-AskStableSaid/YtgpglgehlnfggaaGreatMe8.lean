/-
  SuRotate.
  SuDoing.
  TmVarsP.
  TmCon.
  SuVarIn.
  SuCopy.
  SuApply.
-/
import Derived.Test.YtgpglgehlnfggaaGreatMe7
import Derived.Test.YtgpglgehlnfggaaGreatMe6
import Derived.Test.YtgpglgehlnfggaaGreatMe5
import Derived.Test.YtgpglgehlnfggaaGreatMe3
import Derived.Deep.RegionLaw
namespace Go.Proofs.YtgpglgehlnfggaaGreat
open Go.RowKit
set_option maxHeartbeats 4000000 in
set_option maxRecDepth 100000 in
theorem rotate_at (P A B S : List Bd) (hA : 0 < A.length) (hB : 0 < B.length) (g c N : Nat) (w : World) (hN : N = P.length + A.length + B.length + S.length) (hN6 : N ≤ 1000000) (h : Row5 w g (P ++ A ++ B ++ S)) (a m b : Nat) (ha : a = P.length) (hm : m = P.length + A.length) (hb : b = P.length + A.length + B.length) :
    Calls Tryz.prog 178 #[.slice (some ⟨g, 0, none⟩) N c, .int .i64 a, .int .i64 m, .int .i64 b, CMPV] w (Steps (fun l' => l' = P ++ B ++ A ++ S) g w) := by
  obtain ⟨i0, hi0⟩ : ∃ i0, i0 = A.length := ⟨_, rfl⟩
  obtain ⟨j0, hj0⟩ : ∃ j0, j0 = B.length := ⟨_, rfl⟩
  have hi1 : (m : Int) - (a : Int) = (i0 : Int) := by omega
  have hj1 : (b : Int) - (m : Int) = (j0 : Int) := by omega
  have hmb : m ≤ N := by omega
  have hbN : b ≤ N := by omega
  have H0 := Lib.hid (show ∃ Pt X Y St : List Bd, i0 = X.length ∧ j0 = Y.length ∧ Pt.length + X.length = m ∧ Pt.length + X.length + Y.length + St.length = N ∧ Row5 w g (Pt ++ X ++ Y ++ St) ∧ Pt ++ Y ++ X ++ St = P ++ B ++ A ++ S from ⟨P, A, B, S, hi0, hj0, hm.symm, hN.symm, h, rfl⟩)
  have hi2 : 0 < i0 := by omega
  have hj2 : 0 < j0 := by omega
  have hi3 : i0 ≤ N := by omega
  have hj3 : j0 ≤ N := by omega
  clear h ha hm hb hi0 hj0 hA hB hN
  generalize P ++ B ++ A ++ S = T at *
  go_enter Tryz.func178, Tryz.ntmps178
  go_wp2_with fail
  go_loopw [10, 11] (fun vi vj wr => ∃ (i j : Nat), vi = .int .i64 i ∧ vj = .int .i64 j ∧ 0 < i ∧ 0 < j ∧ i ≤ N ∧ j ≤ N ∧ Hid (∃ Pt X Y St : List Bd, i = X.length ∧ j = Y.length ∧ Pt.length + X.length = m ∧ Pt.length + X.length + Y.length + St.length = N ∧ Row5 wr g (Pt ++ X ++ Y ++ St) ∧ Pt ++ Y ++ X ++ St = T) ∧ Hid (Keeps g w wr)) (fun vi vj _ => (intOf vi).toNat + (intOf vj).toNat)
  case atStart => exact ⟨i0, j0, rfl, rfl, hi2, hj2, hi3, hj3, H0, Lib.hid (Keeps.refl _ _)⟩
  case round =>
    clear H0
    obtain ⟨i, j, rfl, rfl, hi, hj, hiN, hjN, HX, HK⟩ := hrel
    obtain ⟨Pt, X, Y, St, hX, hY, hPX, hPN, hR, hT⟩ := HX.out
    obtain ⟨r, hr⟩ : ∃ r, r = Pt.length := ⟨_, rfl⟩
    have hr1 : (m : Int) - (i : Int) = (r : Int) := by omega
    by_cases hij : i = j
    · subst hij
      have hne : ((i : Int) != (i : Int)) = false := by simp
      have QS := Lib.hid (swap_range_at Pt X [] Y St (by omega) g c N wr (by simp; omega) hN6 (by simpa using hR) r m i hr (by simp; omega) hX)
      have HT := Lib.hid hT
      clear hX hY hPX hPN hR hT hr HX
      go_wp2_with fail
      refine (QS.out).mono ?_
      rintro e w2 ⟨rfl, l', rfl, hR2, hK2⟩
      have HE := Lib.hid (show Row5 w2 g T by rw [← HT.out]; simpa using hR2)
      have HK2 := Lib.hid (HK.out.trans hK2)
      clear hR2 hK2
      go_wp2_with fail
      go_end0
      exact ⟨rfl, T, rfl, HE.out, HK2.out⟩
    · have hne : ((i : Int) != (j : Int)) = true := by simp; omega
      by_cases hlt : j < i
      · have hgt : decide ((i : Int) > (j : Int)) = true := decide_eq_true (by omega)
        have hd1 : (i : Int) - (j : Int) = ((i - j : Nat) : Int) := by omega
        have lx : (X.take j).length = j := by simp; omega
        have ld : (X.drop j).length = i - j := by simp; omega
        have QS := Lib.hid (swap_range_at Pt (X.take j) (X.drop j) Y St (by omega) g c N wr (by omega) hN6 (by rw [List.append_assoc Pt, List.take_append_drop]; exact hR) r m j hr (by omega) lx.symm)
        have HN := Lib.hid (fun W (h : Row5 W g (Pt ++ Y ++ X.drop j ++ X.take j ++ St)) => show ∃ Pt X Y St : List Bd, i - j = X.length ∧ j = Y.length ∧ Pt.length + X.length = m ∧ Pt.length + X.length + Y.length + St.length = N ∧ Row5 W g (Pt ++ X ++ Y ++ St) ∧ Pt ++ Y ++ X ++ St = T from
          ⟨Pt ++ Y, X.drop j, X.take j, St, ld.symm, lx.symm, by rw [List.length_append]; omega, by rw [List.length_append]; omega, h, by rw [← hT, List.append_assoc (Pt ++ Y), List.take_append_drop]⟩)
        obtain ⟨dn, hdn⟩ : ∃ dn, dn = i - j := ⟨_, rfl⟩
        rw [← hdn] at hd1 HN
        have hdn0 : 0 < dn := by omega
        have hdnN : dn ≤ N := by omega
        have hdni : dn < i := by omega
        clear hX hY hPX hPN hR hT hr HX lx ld hdn
        go_wp2_with fail
        refine (QS.out).mono ?_
        rintro e w2 ⟨rfl, l', rfl, hR2, hK2⟩
        have HE := Lib.hid (HN.out _ hR2)
        have HK2 := Lib.hid (HK.out.trans hK2)
        clear hR2 hK2
        go_wp2_with fail
        go_roundw
        case rel => exact ⟨dn, j, by go_num, rfl, hdn0, hj, hdnN, hjN, HE, HK2⟩
        case measure => simp [intOf]; omega
      · have hgt : decide ((i : Int) > (j : Int)) = false := decide_eq_false (by omega)
        have hd1 : (j : Int) - (i : Int) = ((j - i : Nat) : Int) := by omega
        have lx : (Y.drop (j - i)).length = i := by simp; omega
        have ld : (Y.take (j - i)).length = j - i := by simp; omega
        obtain ⟨q, hq⟩ : ∃ q, q = m + (j - i) := ⟨_, rfl⟩
        have hq1 : (m : Int) + (j : Int) - (i : Int) = (q : Int) := by omega
        have QS := Lib.hid (swap_range_at Pt X (Y.take (j - i)) (Y.drop (j - i)) St (by omega) g c N wr (by omega) hN6 (by rw [List.append_assoc (Pt ++ X), List.take_append_drop]; exact hR) r q i hr (by omega) hX)
        have HN := Lib.hid (fun W (h : Row5 W g (Pt ++ Y.drop (j - i) ++ Y.take (j - i) ++ X ++ St)) => show ∃ Pt X Y St : List Bd, i = X.length ∧ j - i = Y.length ∧ Pt.length + X.length = m ∧ Pt.length + X.length + Y.length + St.length = N ∧ Row5 W g (Pt ++ X ++ Y ++ St) ∧ Pt ++ Y ++ X ++ St = T from
          ⟨Pt, Y.drop (j - i), Y.take (j - i), X ++ St, lx.symm, ld.symm, by omega, by rw [List.length_append]; omega, by simpa using h, by rw [← hT, List.append_assoc Pt, List.take_append_drop]; simp⟩)
        obtain ⟨dn, hdn⟩ : ∃ dn, dn = j - i := ⟨_, rfl⟩
        rw [← hdn] at hd1 HN QS
        have hdn0 : 0 < dn := by omega
        have hdnN : dn ≤ N := by omega
        have hdni : dn < j := by omega
        have hmj : m + j ≤ 2000000 := by omega
        clear hX hY hPX hPN hR hT hr HX lx ld hdn hq
        go_wp2_with fail
        refine (QS.out).mono ?_
        rintro e w2 ⟨rfl, l', rfl, hR2, hK2⟩
        have HE := Lib.hid (HN.out _ hR2)
        have HK2 := Lib.hid (HK.out.trans hK2)
        clear hR2 hK2
        go_wp2_with fail
        go_roundw
        case rel => exact ⟨i, dn, rfl, by go_num, hi, hdn0, hiN, hdnN, HE, HK2⟩
        case measure => simp [intOf]; omega
end Go.Proofs.YtgpglgehlnfggaaGreat
namespace Go.Proofs.YtgpglgehlnfggaaGreat
open Go.RowKit
structure Held (B : Nat) (w : World) (v0 v1 v2 v3 : Value) : Prop where
  lt : B < w.heap.size
  c0 : w.cell? ⟨B, 0, none⟩ = some v0
  c1 : w.cell? ⟨B, 1, none⟩ = some v1
  c2 : w.cell? ⟨B, 2, none⟩ = some v2
  c3 : w.cell? ⟨B, 3, none⟩ = some v3
  free : ∀ j, w.frozen? ⟨B, j, none⟩ = false
section
variable {B : Nat} {w w' : World} {v0 v1 v2 v3 : Value}
theorem Held.below (h : Held B w v0 v1 v2 v3) (hb : Below w.heap.size w w') : Held B w' v0 v1 v2 v3 :=
  ⟨Nat.lt_of_lt_of_le h.lt hb.size, keepv hb h.c0, keepv hb h.c1, keepv hb h.c2, keepv hb h.c3, fun j => (hb.frozen (p := ⟨B, j, none⟩) h.lt).trans (h.free j)⟩
theorem Held.alloc (h : Held B w v0 v1 v2 v3) (o : Obj) : Held B (w.alloc o) v0 v1 v2 v3 := h.below ((Below.refl _ _).alloc (Nat.le_refl _) o)
theorem Held.other (h : Held B w v0 v1 v2 v3) {p : Addr} (hp : p.block ≠ B) (v : Value) : Held B (w.setCell p v) v0 v1 v2 v3 := by
  have ne : ∀ j, p ≠ ⟨B, j, none⟩ := fun j e => hp (by rw [e])
  refine ⟨by simpa [World.setCell] using h.lt, ?_, ?_, ?_, ?_, fun j => by rw [World.frozen?_setCell]; exact h.free j⟩
  · rw [World.cell?_setCell_other _ _ _ _ (ne _)]; exact h.c0
  · rw [World.cell?_setCell_other _ _ _ _ (ne _)]; exact h.c1
  · rw [World.cell?_setCell_other _ _ _ _ (ne _)]; exact h.c2
  · rw [World.cell?_setCell_other _ _ _ _ (ne _)]; exact h.c3
theorem Held.other4 (h : Held B w v0 v1 v2 v3) {g q0 q1 q2 q3 : Nat} (hg : g ≠ B) (u0 u1 u2 u3 : Value) : Held B ((((w.setCell ⟨g, q0, none⟩ u0).setCell ⟨g, q1, none⟩ u1).setCell ⟨g, q2, none⟩ u2).setCell ⟨g, q3, none⟩ u3) v0 v1 v2 v3 :=
  (((h.other (p := ⟨g, q0, none⟩) hg _).other (p := ⟨g, q1, none⟩) hg _).other (p := ⟨g, q2, none⟩) hg _).other (p := ⟨g, q3, none⟩) hg _
theorem below4 {X w : World} (h : Below X.heap.size X w) {g q0 q1 q2 q3 : Nat} (hg : X.heap.size ≤ g) (u0 u1 u2 u3 : Value) : Below X.heap.size X ((((w.setCell ⟨g, q0, none⟩ u0).setCell ⟨g, q1, none⟩ u1).setCell ⟨g, q2, none⟩ u2).setCell ⟨g, q3, none⟩ u3) :=
  (((h.setCell (p := ⟨g, q0, none⟩) hg _).setCell (p := ⟨g, q1, none⟩) hg _).setCell (p := ⟨g, q2, none⟩) hg _).setCell (p := ⟨g, q3, none⟩) hg _
theorem Held.set3 (h : Held B w v0 v1 v2 v3) (v : Value) : Held B (w.setCell ⟨B, 3, none⟩ v) v0 v1 v2 v := by
  have n : ∀ j, j ≠ 3 → (⟨B, 3, none⟩ : Addr) ≠ ⟨B, j, none⟩ := fun j hj e => by injection e with _ e _; omega
  refine ⟨by simpa [World.setCell] using h.lt, ?_, ?_, ?_, ?_, fun j => by rw [World.frozen?_setCell]; exact h.free j⟩
  · rw [World.cell?_setCell_other _ _ _ _ (n 0 (by omega))]; exact h.c0
  · rw [World.cell?_setCell_other _ _ _ _ (n 1 (by omega))]; exact h.c1
  · rw [World.cell?_setCell_other _ _ _ _ (n 2 (by omega))]; exact h.c2
  · exact World.cell?_setCell_same' _ _ _ (by rw [h.c3]; rfl)
theorem held_new (w : World) (T : TypeId) : Held w.heap.size (w.alloc (.cells #[v0, v1, v2, v3] T)) v0 v1 v2 v3 := by
  have h : ∀ j, (w.alloc (.cells #[v0, v1, v2, v3] T)).cell? ⟨w.heap.size, j, none⟩ = (#[v0, v1, v2, v3] : Array Value)[j]? := fun j => World.cell?_alloc_at _ _ _ _ rfl
  exact ⟨by simp, h 0, h 1, h 2, h 3, fun j => World.frozen?_alloc_at _ _ _ _ rfl⟩
end
theorem heap_set4 (w : World) {g q0 q1 q2 q3 b : Nat} (hb : b ≠ g) (u0 u1 u2 u3 : Value) : ((((w.setCell ⟨g, q0, none⟩ u0).setCell ⟨g, q1, none⟩ u1).setCell ⟨g, q2, none⟩ u2).setCell ⟨g, q3, none⟩ u3).heap[b]? = w.heap[b]? := by
  rw [Below.heap_setCell _ _ _ _ hb, Below.heap_setCell _ _ _ _ hb, Below.heap_setCell _ _ _ _ hb, Below.heap_setCell _ _ _ _ hb]
theorem size_set4 (w : World) (g q0 q1 q2 q3 : Nat) (u0 u1 u2 u3 : Value) : ((((w.setCell ⟨g, q0, none⟩ u0).setCell ⟨g, q1, none⟩ u1).setCell ⟨g, q2, none⟩ u2).setCell ⟨g, q3, none⟩ u3).heap.size = w.heap.size := by simp [World.setCell]
def Putting (f : Tm → Tm) (l : List Tm) (g lo j : Nat) (wr : World) : Prop :=
  ∃ news : List Tm, news.length = j ∧ stripL news = stripL ((l.take j).map f) ∧ Row4 wr g (news ++ l.drop j) ∧ ∀ x ∈ news, Lie Any lo (Is g) wr x
section
variable {f : Tm → Tm} {l : List Tm} {g lo j : Nat} {wr : World}
theorem Putting.below {w' : World} (h : Putting f l g lo j wr) (hb : Below wr.heap.size wr w') : Putting f l g lo j w' := by
  obtain ⟨news, hn, hs, hr, hk⟩ := h
  exact ⟨news, hn, hs, hr.below hb, fun x hx => (hk x hx).below hb⟩
theorem Putting.cells (h : Putting f l g lo j wr) (hj : j < l.length) : ∀ i v, (l.getD j default).cells[i]? = some v → wr.cell? ⟨g, j * 4 + i, none⟩ = some v := by
  obtain ⟨news, hn, hs, hr, hk⟩ := h
  intro i v hv
  have hgx : (news ++ l.drop j).getD j default = l.getD j default := by
    simp [List.getD, List.getElem?_append_right (show news.length ≤ j by omega), hn]
  rw [Nat.mul_comm]
  exact hr.2.2 j i v (by simp; omega) (by rw [hgx]; exact hv)
theorem Putting.lt (h : Putting f l g lo j wr) : g < wr.heap.size := by
  obtain ⟨_, _, _, hr, _⟩ := h
  exact hr.1
theorem Putting.free (h : Putting f l g lo j wr) : ∀ i, wr.frozen? ⟨g, i, none⟩ = false := by
  obtain ⟨_, _, _, hr, _⟩ := h
  exact hr.2.1
theorem Putting.start (h : Row4 wr g l) : Putting f l g lo 0 wr := ⟨[], rfl, rfl, by simpa using h, fun x hx => by cases hx⟩
theorem Putting.other (h : Putting f l g lo j wr) {p : Addr} (h1 : p.block < lo) (h2 : p.block ≠ g) (v : Value) : Putting f l g lo j (wr.setCell p v) := by
  obtain ⟨news, hn, hs, hr, hk⟩ := h
  refine ⟨news, hn, hs, ⟨by simpa [World.setCell] using hr.1, fun j => by rw [World.frozen?_setCell]; exact hr.2.1 j, fun i q u hi hu => ?_⟩, fun x hx => (hk x hx).set (.inl h1) v⟩
  rw [World.cell?_setCell_other _ _ _ _ (fun e => h2 (by rw [e]))]
  exact hr.2.2 i q u hi hu
theorem putting_next {w2 : World} {u x : Tm} (h : Putting f l g lo j wr) (hj : j < l.length) (hx : x = l.getD j default) (hlo : lo ≤ wr.heap.size) (hu : u.strip = (f x).strip) (hst : Lie Any wr.heap.size No w2 u) (hb : Below wr.heap.size wr w2) (w3 : World)
    (h3 : w3 = (((w2.setCell ⟨g, j * 4, none⟩ (.int .i64 u.kind)).setCell ⟨g, j * 4 + 1, none⟩ (.int .i64 u.num)).setCell ⟨g, j * 4 + 2, none⟩ (.string u.name)).setCell ⟨g, j * 4 + 3, none⟩ (.slice u.at_ u.args.length u.cap)) :
    Putting f l g lo (j + 1) w3 := by
  have hg := h.lt
  obtain ⟨news, hn, hs, hr, hk⟩ := h
  have hlen : (news ++ l.drop j).length = l.length := by simp; omega
  have hr2 := hr.below hb
  have hr3 := hr2.store (i := j) (by omega) u
  rw [← h3] at hr3
  have hset : (news ++ l.drop j).set j u = (news ++ [u]) ++ l.drop (j + 1) := by
    rw [List.set_append_right _ _ (by omega), hn, Nat.sub_self, List.drop_eq_getElem_cons hj, List.set_cons_zero, List.append_assoc]
    rfl
  rw [hset] at hr3
  have hset4 : ∀ y : Tm, Lie Any lo (Is g) w2 y → Lie Any lo (Is g) w3 y := fun y hy => by
    rw [h3]
    exact (((hy.set (p := ⟨g, j * 4, none⟩) (.inr rfl) _).set (p := ⟨g, j * 4 + 1, none⟩) (.inr rfl) _).set (p := ⟨g, j * 4 + 2, none⟩) (.inr rfl) _).set (p := ⟨g, j * 4 + 3, none⟩) (.inr rfl) _
  refine ⟨news ++ [u], by simp [hn], ?_, hr3, fun y hy => hset4 y ?_⟩
  · rw [ttake_next hj, List.map_append, stripL_append, stripL_append, hs, ← hx]
    simp [stripL, hu]
  · rcases List.mem_append.1 hy with hy | hy
    · exact (hk y hy).below hb
    · obtain rfl : y = u := by simpa using hy
      exact (hst.new_is hg).low hlo
theorem Putting.done (h : Putting f l g lo l.length wr) {w' : World} (hlo : lo ≤ g) (hs : wr.heap.size ≤ w'.heap.size) (ha : ∀ b, lo ≤ b → b < wr.heap.size → w'.heap[b]? = wr.heap[b]?) (cap : Nat) (hc : l.length ≤ cap) (hcm : cap ≤ maxLen) :
    ∃ news : List Tm, news.length = l.length ∧ stripL news = stripL (l.map f) ∧ ∀ W, Agree lo No w' W → Lst W (some ⟨g, 0, none⟩) news cap := by
  obtain ⟨news, hn, hst, hr, hk⟩ := h
  rw [List.drop_length, List.append_nil] at hr
  rw [List.take_length] at hst
  refine ⟨news, hn, hst, fun W hW => ⟨by omega, hcm, fun _ => ⟨g, 0, rfl, ?_⟩⟩⟩
  have hag : ∀ b, lo ≤ b → b < wr.heap.size → W.heap[b]? = wr.heap[b]? := fun b h1 h2 => (hW b h1 (Nat.lt_of_lt_of_le h2 hs) (fun h => h)).trans (ha b h1 h2)
  refine hr.at W (fun q => ?_) fun x hx => hk x hx W trivial fun b h1 h2 _ => hag b h1 h2
  have := hag g hlo hr.1
  simp only [World.cell?, this]
end
end Go.Proofs.YtgpglgehlnfggaaGreat
namespace Go.Proofs.YtgpglgehlnfggaaGreat
open Go.RowKit Go.Maps
theorem OwnI.mono {w : World} {base base' : Nat} {v : Value} {l : List Int} (h : OwnI w base v l) (hb : base' ≤ base) : OwnI w base' v l := by
  refine ⟨h.1, ?_⟩
  rcases h.2 with h | ⟨g, cap, cur, h1, h2, h3⟩
  · exact .inl h
  · exact .inr ⟨g, cap, cur, h1, Nat.le_trans hb h2, h3⟩
end Go.Proofs.YtgpglgehlnfggaaGreat
namespace Go.Proofs.YtgpglgehlnfggaaGreat
open Go.ChangeShapes Go.WideShapes Go.ChangeAt Go.RowKit
set_option linter.unusedVariables false
def cmpA (a b : Am) : Int := lex (texts a.name.data.toList b.name.data.toList) (lex (ints a.args.length b.args.length) (cmpL a.args b.args))
def sameG (g h : Gl) : Bool := decide (g.op = h.op) && (decide (g.name = h.name) && (cmpL g.args h.args == 0))
theorem same_ne {l m : List Tm} (h : l.length ≠ m.length) : (cmpL l m == 0) = false := by
  induction l generalizing m with
  | nil => cases m with
    | nil => simp at h
    | cons y q => rfl
  | cons x r ih => cases m with
    | nil => rfl
    | cons y q =>
      have := ih (m := q) (by simpa using h)
      simp only [cmpL, lex]
      split
      · exact this
      · simpa using ‹¬ _›
set_option maxHeartbeats 1000000 in
theorem equal_func_at (l m : List Tm) (A B : Option Addr) (c d : Nat) (w : World) (hl : Lst w A l c) (hm : Lst w B m d) {r : Bool} (hr : (cmpL l m == 0) = r) :
    Calls Tryz.prog 49 #[.slice A l.length c, .slice B m.length d, .func (.func 50) #[] #[]] w fun e w' => e = .returned (.bool r) ∧ Below w.heap.size w w' := by
  have hlen : l.length ≤ 9223372036854775807 := hl.len
  have hlen' : m.length ≤ 9223372036854775807 := hm.len
  by_cases hne : l.length = m.length
  · have hne' : ((l.length : Int) != (m.length : Int)) = false := by simp; omega
    have HR := Lib.hid hr
    have HNE := Lib.hid hne
    clear hr hne
    go_enter Tryz.func49, Tryz.ntmps49
    go_wp2_with fail
    go_loopw [17] (fun i wr => ∃ j : Nat, j ≤ l.length ∧ j ≤ m.length ∧ i = .int .i64 j ∧ Hid (cmpL (l.take j) (m.take j) = 0) ∧ Below w.heap.size w wr) (fun i _ => l.length - (intOf i).toNat)
    case atStart => exact ⟨0, Nat.zero_le _, Nat.zero_le _, rfl, Lib.hid rfl, Below.refl _ _⟩
    case round =>
      obtain ⟨j, hj, hjm, rfl, HF, hb⟩ := hrel
      by_cases hlt : j < l.length
      · obtain ⟨b, o, rfl, ⟨c0, c1, c2, c3⟩, hx⟩ := (hl.below hb).get hlt
        have hlt' : j < m.length := by have := HNE.out; omega
        obtain ⟨b', o', rfl, ⟨g0, g1, g2, g3⟩, hy⟩ := (hm.below hb).get hlt'
        have HN := Lib.hid (cmpL_next hlt hlt' HF.out)
        have HS := Lib.hid (fun h => cmpL_stop hlt hlt' HF.out h)
        generalize l.getD j default = x at *
        generalize m.getD j default = y at *
        have Q1 := Lib.hid (fun W (h : Below wr.heap.size wr W) => same_at x y W (hx.below h) (hy.below h) rfl)
        have hb1 := ((World.block_lt_of_cell? _ _ c0 : b < wr.heap.size))
        have hb2 := ((World.block_lt_of_cell? _ _ g0 : b' < wr.heap.size))
        clear hx hy
        obtain ⟨z, hz⟩ : ∃ z, cmpT x y = z := ⟨_, rfl⟩
        rw [hz] at HN HS Q1
        clear hz
        obtain ⟨k1, n1, s1, A1, p1, a1⟩ := x
        obtain ⟨k2, n2, s2, A2, p2, a2⟩ := y
        simp only [Tm.kind, Tm.num, Tm.name, Tm.at_, Tm.args, Tm.cap] at c0 c1 c2 c3 g0 g1 g2 g3
        go_wp2_with fail
        refine (Q1.out _ (below2 _ _ _)).mono ?_
        rintro e w2 ⟨rfl, hb3⟩
        have hb4 := hb.trans (((below2 _ _ _).trans (hb3.mono (by simp; omega))).mono hb.size)
        by_cases hz : z = 0
        · subst hz
          go_wp2_with fail
          go_roundw
          case rel => exact ⟨j + 1, by omega, by omega, by go_num, HN, hb4⟩
          case measure => simp [intOf]; omega
        · have hz' : (z == 0) = false := by simpa using hz
          have HE := Lib.hid (HS.out hz)
          clear HS HN
          go_wp2_with fail
          go_ret
          exact ⟨by rw [← HR.out, HE.out, hz']; rfl, hb4⟩
      · obtain rfl : j = l.length := by omega
        have HE := Lib.hid (show cmpL l m = 0 by
          rw [cmpL_end (.inl rfl) hj hjm HF.out, HNE.out, ints_self])
        go_wp2_with fail
        go_ret
        exact ⟨by rw [← HR.out, HE.out]; rfl, hb⟩
  · have hne' : ((l.length : Int) != (m.length : Int)) = true := by simp; omega
    rw [same_ne hne] at hr
    subst hr
    go_enter Tryz.func49, Tryz.ntmps49
    go_wp2_with fail
    go_ret
    exact ⟨rfl, Below.refl _ _⟩
set_option maxHeartbeats 1000000 in
theorem ref_same_goal_at (t u : Gl) (w : World) (ht : t.At w) (hu : u.At w) {r : Bool} (hr : sameG t u = r) :
    Calls Tryz.prog 40 #[t.val, u.val] w fun e w' => e = .returned (.bool r) ∧ Below w.heap.size w w' := by
  have hl := ht.2.2
  have hm := hu.2.2
  obtain ⟨op, s, A, c, a⟩ := t
  obtain ⟨op', s', A', c', a'⟩ := u
  simp only [sameG] at hr hl hm
  show Calls Tryz.prog 40 #[.agg #[.int .i64 op, .string s, .slice A a.length c], .agg #[.int .i64 op', .string s', .slice A' a'.length c']] w _
  have hlen : a.length ≤ 9223372036854775807 := hl.len
  have hlen' : a'.length ≤ 9223372036854775807 := hm.len
  obtain ⟨b3, h3⟩ : ∃ z, (cmpL a a' == 0) = z := ⟨_, rfl⟩
  have q3 := Lib.hid (fun W (h : Below w.heap.size w W) => same_terms_at a a' A A' c c' W (hl.below h) (hm.below h) h3)
  have HN := Lib.hid (fun h : a.length ≠ a'.length => (h3.symm.trans (same_ne h) : b3 = false))
  rw [h3] at hr
  clear h3 hl hm ht hu
  by_cases e1 : op = op'
  · subst e1
    by_cases e2 : s = s'
    · subst e2
      obtain rfl : b3 = r := by simpa using hr
      clear hr
      by_cases e3 : a.length = a'.length
      · have e3' : ((a.length : Int) == (a'.length : Int)) = true := by simp; omega
        clear e3
        go_enter Tryz.func40, Tryz.ntmps40
        go_wp2_with fail
        refine (q3.out _ (below2 _ _ _)).mono ?_
        rintro e w' ⟨rfl, hb⟩
        go_wp2_with fail
        go_ret
        exact ⟨rfl, (below2 _ _ _).trans (hb.mono (by simp; omega))⟩
      · have e3' : ((a.length : Int) == (a'.length : Int)) = false := by simp; omega
        obtain rfl := HN.out e3
        clear e3 HN
        go_enter Tryz.func40, Tryz.ntmps40
        go_wp2_with fail
        go_ret
        exact ⟨rfl, below2 _ _ _⟩
    · have e2' : (s.toList == s'.toList) = false := by
        rw [ByteArray.toList_eq, ByteArray.toList_eq]
        exact beq_eq_false_iff_ne.2 (fun h => e2 (bytes_inj h))
      have e2'' : decide (s = s') = false := by simpa using e2
      have HR := Lib.hid (show false = r by rw [← hr]; simp [e2])
      clear hr e2
      go_enter Tryz.func40, Tryz.ntmps40
      go_wp2_with fail
      go_ret
      exact ⟨by rw [← HR.out]; rfl, below2 _ _ _⟩
  · have e1' : (op == op') = false := by simpa using e1
    have HR := Lib.hid (show false = r by rw [← hr]; simp [e1])
    clear hr e1
    go_enter Tryz.func40, Tryz.ntmps40
    go_wp2_with fail
    go_ret
    exact ⟨by rw [← HR.out]; rfl, below2 _ _ _⟩
end Go.Proofs.YtgpglgehlnfggaaGreat
namespace Go.Proofs.YtgpglgehlnfggaaGreat
open Go.RowKit
abbrev zeroT : Tm := .mk 0 0 ⟨#[]⟩ none 0 []
abbrev zeroBox : Obj := .cells #[.int .i64 0, .int .i64 0, .string ⟨#[]⟩, .slice none 0 0] 40
def optT (o : Option Tm) : Tm := o.getD zeroT
theorem free4 {w w' : World} {cs : Array Value} {T : TypeId} (hb : Below (w.alloc (.cells cs T)).heap.size (w.alloc (.cells cs T)) w') : ∀ j, w'.frozen? ⟨w.heap.size, j, none⟩ = false := fun j => by
  rw [hb.frozen (p := ⟨w.heap.size, j, none⟩) (by simp), World.frozen?_alloc_at _ _ _ _ rfl]
theorem set4c {X W : World} {B T : Nat} {v0 v1 v2 v3 : Value} (hb : Below B X W) (hT : B ≤ T) :
    Below B X ((((W.setCell ⟨T, 0, none⟩ v0).setCell ⟨T, 1, none⟩ v1).setCell ⟨T, 2, none⟩ v2).setCell ⟨T, 3, none⟩ v3) :=
  (((hb.setCell (p := ⟨T, 0, none⟩) hT _).setCell (p := ⟨T, 1, none⟩) hT _).setCell (p := ⟨T, 2, none⟩) hT _).setCell (p := ⟨T, 3, none⟩) hT _
set_option maxHeartbeats 1000000 in
theorem find_at (l : List Bd) (A : Option Addr) (c : Nat) (v : Int) (w : World) (hl : BLst w A l c) (hlen : l.length ≤ 1000000) (hs : Srt l) :
    Calls Tryz.prog 170 #[.slice A l.length c, .int .i64 v] w fun e w' => e = .returned (.tuple #[(optT (look l v)).val, .bool (look l v).isSome]) ∧ Below w.heap.size w w' := by
  have Q := Lib.hid (fun W (h : Below w.heap.size w W) => search_at l A c v W (hl.below h) hlen hs)
  have HL := Lib.hid hl
  have HS := Lib.hid hs
  clear hl hs
  go_enter Tryz.func170, Tryz.ntmps170
  go_wp2_with fail
  refine (Q.out _ (below1 _ _)).mono ?_
  rintro e w1 ⟨i, hi, hB, ⟨r, hr, rfl⟩, hb⟩
  have HK := Lib.hid (look_bound HS.out hB hi)
  obtain ⟨e0, e1, e2, e3, hb1⟩ := box4 hb
  have f0 := free4 hb 0
  have f1 := free4 hb 1
  have f2 := free4 hb 2
  have f3 := free4 hb 3
  have HR := Lib.hid hr
  clear hB hb hr Q
  cases r
  · have HN := Lib.hid (show look l v = none by rw [HK.out, if_neg (fun h => by cases HR.out.2 h)])
    go_wp2_with fail
    refine bodyPost_ret (v := .tuple #[.agg #[.int .i64 0, .int .i64 0, .string ⟨#[]⟩, .slice none 0 0], .bool false]) (by simp [results, Tryz.results170, go_sem, e0, e1, e2, e3]) rfl ⟨by rw [HN.out]; rfl, set4c hb1 (Nat.le_refl _)⟩
  · have hr1 := HR.out.1 rfl
    have hn : i < l.length := hr1.1
    have HN := Lib.hid (show look l v = some (l.getD i default).tm by rw [HK.out, if_pos hr1])
    obtain ⟨b, o, rfl, ⟨_, c1, c2, c3, c4⟩, _⟩ := (HL.out.below hb1).get hn
    clear hr1 HR HK
    generalize l.getD i default = x at *
    obtain ⟨v', k', n', s', A', c', a'⟩ := x
    simp only [Tm.kind, Tm.num, Tm.name, Tm.at_, Tm.args, Tm.cap] at c1 c2 c3 c4
    go_wp2_with fail
    refine bodyPost_ret (v := .tuple #[.agg #[.int .i64 k', .int .i64 n', .string s', .slice A' a'.length c'], .bool true]) (by simp [results, Tryz.results170, go_sem, e0, e1, e2, e3]) rfl ⟨by rw [HN.out]; rfl, set4c hb1 (Nat.le_refl _)⟩
def SomeIdx (r : Bool) (w : World) (e : Ending) (w' : World) : Prop := ∃ m : Int, decide (0 ≤ m) = r ∧ e = .returned (.int .i64 m) ∧ Below w.heap.size w w'
def hasB (l : List Bd) (t : Tm) : Bool := t.occ.any fun v => (look l v).isSome
end Go.Proofs.YtgpglgehlnfggaaGreat
namespace Go.Proofs.YtgpglgehlnfggaaGreat
open Go.RowKit
def Made (t : Tm) (w : World) (e : Ending) (w' : World) : Prop := ∃ u : Tm, e = .returned u.val ∧ u.strip = t.strip ∧ Lie Any w.heap.size No w' u ∧ Below w.heap.size w w'
def MadeL (l : List Tm) (w : World) (e : Ending) (w' : World) : Prop :=
  ∃ A cap, ∃ cur : List Tm, e = .returned (.slice A l.length cap) ∧ cur.length = l.length ∧ stripL cur = stripL l ∧ (∀ W, Agree w.heap.size No w' W → Lst W A cur cap) ∧ Below w.heap.size w w'
theorem length_le_nodes (l : List Tm) : l.length ≤ nodesL l := by
  induction l with
  | nil => simp [nodesL]
  | cons t r ih =>
    have h : 1 ≤ t.nodes := by cases t; simp [Tm.nodes]
    simp only [nodesL, List.length_cons]; omega
theorem two_boxes (w : World) (v0 v1 v2 v3 u0 u1 u2 u3 : Value) (T : TypeId) :
    Held w.heap.size ((w.alloc (.cells #[v0, v1, v2, v3] T)).alloc (.cells #[u0, u1, u2, u3] T)) v0 v1 v2 v3 ∧ Held (w.heap.size + 1) ((w.alloc (.cells #[v0, v1, v2, v3] T)).alloc (.cells #[u0, u1, u2, u3] T)) u0 u1 u2 u3 := by
  have h := held_new (v0 := u0) (v1 := u1) (v2 := u2) (v3 := u3) (w.alloc (.cells #[v0, v1, v2, v3] T)) T
  rw [World.size_alloc] at h
  exact ⟨(held_new w T).alloc _, h⟩
theorem lie_row {w w' : World} {k n : Int} {s : ByteArray} {A : Option Addr} {cap lo : Nat} {cur : List Tm} (hp : Fits k ∧ Fits n ∧ s.size ≤ maxLen) (h : ∀ W, Agree lo No w' W → Lst W A cur cap) (hlo : w.heap.size ≤ lo) : Lie Any w.heap.size No w' (.mk k n s A cap cur) :=
  fun W _ hW => (At_iff _ _).2 ⟨hp, h W fun b h1 h2 h3 => hW b (by omega) h2 h3⟩
set_option maxHeartbeats 4000000 in
theorem copy_at (t : Tm) : ∀ w : World, t.At w → t.nodes ≤ 1000000 → Calls Tryz.prog 171 #[t.val] w (Made t w) := by
  induction t using Tm.induct with
  | h k n s A c a ih =>
    intro w hat hnodes
    show Calls Tryz.prog 171 #[.agg #[.int .i64 k, .int .i64 n, .string s, .slice A a.length c]] w _
    have hl : Lst w A a c := hat.lst
    have hna : nodesL a ≤ 1000000 := by simp only [Tm.nodes] at hnodes; omega
    have hln : a.length ≤ 1000000 := by have := length_le_nodes a; omega
    have hlen : a.length ≤ 9223372036854775807 := by omega
    have HP := Lib.hid ((At_iff _ _).1 hat).1
    simp only [Tm.kind, Tm.num, Tm.name] at HP
    obtain ⟨HB0, HB1⟩ := two_boxes w (.int .i64 k) (.int .i64 n) (.string s) (.slice A a.length c) (.int .i64 0) (.int .i64 0) (.string ⟨#[]⟩) (.slice none 0 0) 40
    have H0 := Lib.hid HB0
    have H1 := Lib.hid HB1
    clear HB0 HB1
    by_cases h0 : a.length = 0
    · obtain rfl : a = [] := List.length_eq_zero_iff.1 h0
      have Q := Lib.hid (fun W => clone_none_at A c W)
      clear ih hl hna hln hat hnodes h0 hlen
      show Calls Tryz.prog 171 #[.agg #[.int .i64 k, .int .i64 n, .string s, .slice A 0 c]] w _
      go_enter Tryz.func171, Tryz.ntmps171
      go_wp2_with fail
      refine (Q.out _).mono ?_
      rintro e w1 ⟨A', cap, rfl, g1, g2, _, hb⟩
      have HK := Lib.hid (H0.out.below hb)
      have HM := Lib.hid (H1.out.below hb)
      have hb1 := (below2 w (.cells #[.int .i64 k, .int .i64 n, .string s, .slice A ([] : List Tm).length c] 40) zeroBox).trans (hb.mono (by simp; omega))
      obtain ⟨_, d0, d1, d2, d3, f⟩ := HK.out
      obtain ⟨hz, e0, e1, e2, e3, f'⟩ := HM.out
      have f3 := f 3
      have f0' := f' 0
      have f1' := f' 1
      have f2' := f' 2
      have f3' := f' 3
      have HB := Lib.hid hb1
      have HC := Lib.hid (show Lst w1 A' [] cap from ⟨g1, g2, fun h => by simp at h⟩)
      clear f f' hb hb1 g1 g2
      have hz0 : w.heap.size < w1.heap.size := by omega
      go_wp2_with fail
      go_loopw [12] (fun i wr => i = .int .i64 0 ∧ wr = w1.setCell ⟨w.heap.size, 3, none⟩ (.slice A' 0 cap)) (fun _ _ => 0)
      case atStart => exact ⟨rfl, rfl⟩
      case round =>
        obtain ⟨rfl, rfl⟩ := hrel
        go_wp2_with fail
        refine bodyPost_ret (v := .agg #[.int .i64 k, .int .i64 n, .string s, .slice A' 0 cap]) (by simp [results, Tryz.results171, go_sem, e0, e1, e2, e3]) rfl ?_
        refine ⟨.mk k n s A' cap [], rfl, rfl, lie_row (lo := w.heap.size) HP.out (fun W _ => ⟨HC.out.1, HC.out.2.1, fun h => by simp at h⟩) (Nat.le_refl _), set4c (HB.out.setCell (Nat.le_refl _) _) (Nat.le_succ _)⟩
    · have hp : 0 < a.length := by omega
      obtain ⟨b, o, rfl, hrow⟩ := hl.2.2 hp
      have Q := Lib.hid (fun W (h : Below w.heap.size w W) => clone_at a b o c W hp ((At_keep h).2 _ _ _ hrow) hln)
      have QI := Lib.hid (fun x (hx : x ∈ a) W (h : Below w.heap.size w W) => ih x hx W ((hl.mem hx).below h) (by have := nodes_mem hx; omega))
      clear ih hl hna hat hnodes h0 hrow hln
      go_enter Tryz.func171, Tryz.ntmps171
      go_wp2_with fail
      refine (Q.out _ (below2 _ _ _)).mono ?_
      rintro e w1 ⟨A', cap, rfl, g1, g2, g3, hb⟩
      obtain ⟨g, rfl, hg, hrow⟩ := g3 hp
      have HK := Lib.hid (H0.out.below hb)
      have HM := Lib.hid (H1.out.below hb)
      have hb1 := (below2 w (.cells #[.int .i64 k, .int .i64 n, .string s, .slice (some ⟨b, o, none⟩) a.length c] 40) zeroBox).trans (hb.mono (by simp; omega))
      have hg' : w.heap.size + 2 ≤ g := by simpa using hg
      have hcap : a.length ≤ cap := g1
      have hcap2 : cap ≤ 9223372036854775807 := by unfold maxLen at g2; exact g2
      have HS := Lib.hid (Putting.other (Putting.start (f := id) (lo := w.heap.size + 2) hrow) (p := ⟨w.heap.size, 3, none⟩) (by show w.heap.size < _; omega) (by show w.heap.size ≠ g; omega) (.slice (some ⟨g, 0, none⟩) a.length cap))
      have d3 := HK.out.c3
      have f3 := HK.out.free 3
      have hz0 : w.heap.size < w1.heap.size := HK.out.lt
      have HBs := Lib.hid (hb1.setCell (p := ⟨w.heap.size, 3, none⟩) (Nat.le_refl _) (.slice (some ⟨g, 0, none⟩) a.length cap))
      have K3 := Lib.hid (HK.out.set3 (.slice (some ⟨g, 0, none⟩) a.length cap))
      have M3 := Lib.hid (HM.out.other (p := ⟨w.heap.size, 3, none⟩) (by show w.heap.size ≠ _; omega) (.slice (some ⟨g, 0, none⟩) a.length cap))
      clear g3 hrow hg hb hb1 g1 g2 HK HM Q H0 H1
      go_wp2_with fail
      go_loopw [12] (fun i wr => ∃ j : Nat, j ≤ a.length ∧ i = .int .i64 j ∧ Hid (Putting id a g (w.heap.size + 2) j wr) ∧ Hid (Held w.heap.size wr (.int .i64 k) (.int .i64 n) (.string s) (.slice (some ⟨g, 0, none⟩) a.length cap)) ∧ Hid (Held (w.heap.size + 1) wr (.int .i64 0) (.int .i64 0) (.string ⟨#[]⟩) (.slice none 0 0)) ∧ Hid (Below w.heap.size w wr)) (fun i _ => a.length - (intOf i).toNat)
      case atStart => exact ⟨0, Nat.zero_le _, rfl, HS, K3, M3, HBs⟩
      case round =>
        clear HS K3 M3 HBs d3 f3 hz0
        obtain ⟨j, hj, rfl, HF, K, M, HB⟩ := hrel
        by_cases hlt : j < a.length
        · obtain ⟨x, hx⟩ : ∃ x, x = a.getD j default := ⟨_, rfl⟩
          have hcl := HF.out.cells hlt
          rw [← hx] at hcl
          have c0 := hcl 0 _ rfl
          have c1 := hcl 1 _ rfl
          have c2 := hcl 2 _ rfl
          have c3 := hcl 3 _ rfl
          simp only [Nat.add_zero] at c0
          have hmem : x ∈ a := by rw [hx]; exact getD_mem hlt
          have Q1 := Lib.hid (fun W (h : Below w.heap.size w W) => QI.out x hmem W h)
          have HX := Lib.hid hx
          have hgs : g < wr.heap.size := HF.out.lt
          have d3 := K.out.c3
          have kd : ∀ ob : Obj, (wr.alloc ob).cell? ⟨w.heap.size, 3, none⟩ = some (.slice (some ⟨g, 0, none⟩) a.length cap) := fun ob => (K.out.alloc ob).c3
          clear hx hcl hmem QI
          obtain ⟨k', n', s', A', c', a'⟩ := x
          simp only [Tm.kind, Tm.num, Tm.name, Tm.at_, Tm.args, Tm.cap] at c0 c1 c2 c3
          go_wp2_with fail
          go_region_with (go_at_call 171; refine (Q1.out _ ((HB.out.alloc HB.out.size _).drew)).mono ?_; rintro e w2 ⟨u, rfl, hu, hlie, hb2⟩; have hw : Below wr.heap.size wr w2 := (below1 wr _).trans (undrew (hb2.mono (by simp))); have HN := Lib.hid (putting_next HF.out hlt HX.out (by have := HB.out.size; have := K.out.lt; have := M.out.lt; omega) hu (hlie.low (by simp)) hw _ rfl); have D2 := HF.out.below hw; have K2 := Lib.hid (K.out.below hw); have M2 := Lib.hid (M.out.below hw); have HB2 := Lib.hid (HB.out.trans (hw.mono HB.out.size)); have e0 := D2.cells hlt; rw [← HX.out] at e0; have q0 := e0 0 _ rfl; have q1 := e0 1 _ rfl; have q2 := e0 2 _ rfl; have q3 := e0 3 _ rfl; simp only [Nat.add_zero, Tm.kind, Tm.num, Tm.name, Tm.at_, Tm.args, Tm.cap] at q0 q1 q2 q3; have f0 := D2.free (j * 4); have f1 := D2.free (j * 4 + 1); have f2 := D2.free (j * 4 + 2); have f3 := D2.free (j * 4 + 3); have hgz := D2.lt; have z3 := K2.out.c3; obtain ⟨k2, n2, s2, A2, p2, a2⟩ := u; simp only [Tm.kind, Tm.num, Tm.name, Tm.at_, Tm.args, Tm.cap] at HN; clear e0 hu hlie hb2 D2 hw)
          all_goals
            go_wp2_with fail
            go_roundw
            case rel => exact ⟨j + 1, by omega, by go_num, HN, Lib.hid (K2.out.other4 (by omega) _ _ _ _), Lib.hid (M2.out.other4 (by omega) _ _ _ _), Lib.hid (below4 HB2.out (by omega) _ _ _ _)⟩
            case measure => simp [intOf]; omega
        · obtain rfl : j = a.length := by omega
          have HD := Lib.hid (fun w' => HF.out.done (w' := w') (by omega))
          obtain ⟨hz1, d0, d1, d2, d3, _⟩ := K.out
          obtain ⟨hz, e0, e1, e2, e3, f'⟩ := M.out
          have f0' := f' 0
          have f1' := f' 1
          have f2' := f' 2
          have f3' := f' 3
          clear f' QI HF
          go_wp2_with fail
          refine bodyPost_ret (v := .agg #[.int .i64 k, .int .i64 n, .string s, .slice (some ⟨g, 0, none⟩) a.length cap]) (by simp [results, Tryz.results171, go_sem, e0, e1, e2, e3]) rfl ?_
          obtain ⟨news, hn, hst, hL⟩ := HD.out ((((wr.setCell ⟨w.heap.size + 1, 0, none⟩ (.int .i64 k)).setCell ⟨w.heap.size + 1, 1, none⟩ (.int .i64 n)).setCell ⟨w.heap.size + 1, 2, none⟩ (.string s)).setCell ⟨w.heap.size + 1, 3, none⟩ (.slice (some ⟨g, 0, none⟩) a.length cap)) (by rw [size_set4]; exact Nat.le_refl _) (fun b h1 h2 => heap_set4 _ (by omega) _ _ _ _) cap hcap (by unfold maxLen; exact hcap2)
          refine ⟨.mk k n s (some ⟨g, 0, none⟩) cap news, by rw [← hn]; rfl, ?_, lie_row (lo := w.heap.size + 2) HP.out hL (by omega), set4c HB.out (Nat.le_succ _)⟩
          simp only [Tm.strip, hst, List.map_id]
end Go.Proofs.YtgpglgehlnfggaaGreat
namespace Go.Proofs.YtgpglgehlnfggaaGreat
open Go.RowKit
def MadeN (n : Nat) (m : List Tm) (w : World) (e : Ending) (w' : World) : Prop :=
  ∃ A cap, ∃ cur : List Tm, e = .returned (.slice A n cap) ∧ cur.length = n ∧ stripL cur = stripL m ∧ (∀ W, Agree w.heap.size No w' W → Lst W A cur cap) ∧ Below w.heap.size w w'
structure Good (b : List Bd) : Prop where
  len : b.length ≤ 1000000
  srt : Srt b
  nodes : ∀ x ∈ b, x.tm.nodes ≤ 1000000
set_option maxHeartbeats 4000000 in
theorem apply_all_at (b : List Bd) (D : Option Addr) (q : Nat) (l : List Tm) (A : Option Addr) (c : Nat) (w : World) (hl : Lst w A l c) (hsz : l.length ≤ 1000000)
    (ih : ∀ x ∈ l, ∀ W : World, Below w.heap.size w W → Calls Tryz.prog 147 #[.slice D b.length q, x.val] W (Made (x.app b) W)) :
    Calls Tryz.prog 108 #[.slice D b.length q, .slice A l.length c] w (MadeN l.length (appL b l) w) := by
  by_cases h0 : l.length = 0
  · obtain rfl : l = [] := List.length_eq_zero_iff.1 h0
    have Q := Lib.hid (clone_none_at A c w)
    clear ih hl hsz h0
    show Calls Tryz.prog 108 #[.slice D b.length q, .slice A 0 c] w _
    go_enter Tryz.func108, Tryz.ntmps108
    go_wp2_with fail
    refine (Q.out).mono ?_
    rintro e w1 ⟨A', cap, rfl, h1, h2, _, hb⟩
    have HC := Lib.hid (show Lst w1 A' [] cap from ⟨h1, h2, fun h => by simp at h⟩)
    clear h1 h2
    go_wp2_with fail
    go_loopw [12] (fun i wr => i = .int .i64 0 ∧ Below w.heap.size w wr) (fun _ _ => 0)
    case atStart => exact ⟨rfl, hb⟩
    case round =>
      obtain ⟨rfl, hbw⟩ := hrel
      go_wp2_with fail
      go_ret
      exact ⟨A', cap, [], rfl, rfl, rfl, fun W _ => ⟨HC.out.1, HC.out.2.1, fun h => by simp at h⟩, hbw⟩
  · have hp : 0 < l.length := by omega
    obtain ⟨b0, o, rfl, hrow⟩ := hl.2.2 hp
    have hlen : l.length ≤ 9223372036854775807 := by omega
    have Q := Lib.hid (clone_at l b0 o c w hp hrow hsz)
    have QI := Lib.hid ih
    have HA := Lib.hid (appL_map b l)
    clear ih hrow hsz h0 hl
    go_enter Tryz.func108, Tryz.ntmps108
    go_wp2_with fail
    refine (Q.out).mono ?_
    rintro e w1 ⟨A', cap, rfl, h1, h2, h3, hb⟩
    obtain ⟨g, rfl, hg, hrow⟩ := h3 hp
    have HD := Lib.hid (Putting.start (f := Tm.app b) (lo := w.heap.size) hrow)
    have hcap : l.length ≤ cap := h1
    have hcap2 : cap ≤ 9223372036854775807 := by unfold maxLen at h2; exact h2
    have HG := Lib.hid hg
    clear hrow h3 h1 h2 hg
    go_wp2_with fail
    go_loopw [12] (fun i wr => ∃ j : Nat, j ≤ l.length ∧ i = .int .i64 j ∧ Hid (Putting (Tm.app b) l g w.heap.size j wr) ∧ Below w.heap.size w wr) (fun i _ => l.length - (intOf i).toNat)
    case atStart => exact ⟨0, Nat.zero_le _, rfl, HD, hb⟩
    case round =>
      obtain ⟨j, hj, rfl, HF, hbw⟩ := hrel
      clear hb HD
      by_cases hlt : j < l.length
      · obtain ⟨x, hx⟩ : ∃ x, x = l.getD j default := ⟨_, rfl⟩
        have hcl := HF.out.cells hlt
        rw [← hx] at hcl
        have c0 := hcl 0 _ rfl
        have c1 := hcl 1 _ rfl
        have c2 := hcl 2 _ rfl
        have c3 := hcl 3 _ rfl
        simp only [Nat.add_zero] at c0
        have hmem : x ∈ l := by rw [hx]; exact getD_mem hlt
        have Q1 := Lib.hid (fun W (h : Below w.heap.size w W) => QI.out x hmem W h)
        have HX := Lib.hid hx
        have hgs : g < wr.heap.size := HF.out.lt
        clear hx hcl hmem QI
        obtain ⟨k', n', s', A', c', a'⟩ := x
        simp only [Tm.kind, Tm.num, Tm.name, Tm.at_, Tm.args, Tm.cap] at c0 c1 c2 c3
        go_wp2_with fail
        refine (Q1.out _ (hbw.alloc hbw.size _)).mono ?_
        rintro e w2 ⟨u, rfl, hu, hst, hb2⟩
        have hw : Below wr.heap.size wr w2 := (below1 wr _).trans (hb2.mono (by simp))
        have HN := Lib.hid (putting_next HF.out hlt HX.out hbw.size hu (hst.low (by simp)) hw _ rfl)
        have D2 := Lib.hid (HF.out.below hw)
        have hbx := hbw.trans (hw.mono hbw.size)
        have e0 := D2.out.cells hlt
        rw [← HX.out] at e0
        have q0 := e0 0 _ rfl
        have q1 := e0 1 _ rfl
        have q2 := e0 2 _ rfl
        have q3 := e0 3 _ rfl
        simp only [Nat.add_zero, Tm.kind, Tm.num, Tm.name, Tm.at_, Tm.args, Tm.cap] at q0 q1 q2 q3
        have f0 := D2.out.free (j * 4)
        have f1 := D2.out.free (j * 4 + 1)
        have f2 := D2.out.free (j * 4 + 2)
        have f3 := D2.out.free (j * 4 + 3)
        have hgz := D2.out.lt
        obtain ⟨k2, n2, s2, A2, p2, a2⟩ := u
        simp only [Tm.kind, Tm.num, Tm.name, Tm.at_, Tm.args, Tm.cap] at HN
        clear e0 hu hst hb2 c0 c1 c2 c3 hw
        go_wp2_with fail
        go_roundw
        case rel => exact ⟨j + 1, by omega, by go_num, HN, below4 hbx HG.out _ _ _ _⟩
        case measure => simp [intOf]; omega
      · obtain rfl : j = l.length := by omega
        clear QI
        obtain ⟨news, hn, hst, hL⟩ := HF.out.done (w' := wr) HG.out (Nat.le_refl _) (fun _ _ _ => rfl) cap hcap (by unfold maxLen; exact hcap2)
        have HL := Lib.hid hL
        have HN := Lib.hid hn
        have HS := Lib.hid (show stripL news = stripL (appL b l) by rw [HA.out]; exact hst)
        clear hn hst hL HF
        go_wp2_with fail
        go_ret
        exact ⟨_, cap, news, rfl, HN.out, HS.out, HL.out, hbw⟩
set_option maxHeartbeats 4000000 in
theorem apply_s_at (b : List Bd) (hG : Good b) (D : Option Addr) (q : Nat) (t : Tm) : ∀ w : World, BLst w D b q → t.At w → t.nodes ≤ 1000000 → Calls Tryz.prog 147 #[.slice D b.length q, t.val] w (Made (t.app b) w) := by
  induction t using Tm.induct with
  | h k n s A c a ih =>
    intro w hb hat hnodes
    show Calls Tryz.prog 147 #[.slice D b.length q, .agg #[.int .i64 k, .int .i64 n, .string s, .slice A a.length c]] w _
    have QC := Lib.hid (fun W (h : Below w.heap.size w W) => copy_at (.mk k n s A c a) W (hat.below h) hnodes)
    have HP := Lib.hid ((At_iff _ _).1 hat).1
    simp only [Tm.kind, Tm.num, Tm.name] at HP
    obtain ⟨HB0, HB1⟩ := two_boxes w (.int .i64 k) (.int .i64 n) (.string s) (.slice A a.length c) (.int .i64 0) (.int .i64 0) (.string ⟨#[]⟩) (.slice none 0 0) 40
    have H0 := Lib.hid HB0
    have H1 := Lib.hid HB1
    clear HB0 HB1
    by_cases k2 : k = 2
    · subst k2
      have hl : Lst w A a c := hat.lst
      have hna : nodesL a ≤ 1000000 := by simp only [Tm.nodes] at hnodes; omega
      have hln : a.length ≤ 1000000 := by have := length_le_nodes a; omega
      have Q1 := Lib.hid (fun W (h : Below w.heap.size w W) => apply_all_at b D q a A c W (hl.below h) hln (fun x hx W' h' => ih x hx W' (hb.below (h.trans (h'.mono h.size))) ((hl.mem hx).below (h.trans (h'.mono h.size))) (by have := nodes_mem hx; omega)))
      have HV := Lib.hid (show (Tm.mk 2 n s A c a).app b = .mk 2 n s A c (appL b a) by simp [Tm.app])
      clear hat ih hl hna hnodes hln hb QC
      go_enter Tryz.func147, Tryz.ntmps147
      go_wp2_with fail
      refine (Q1.out _ (below2 _ _ _)).mono ?_
      rintro e w1 ⟨A', cap, cur, rfl, hcl, hst, hL, hb2⟩
      have HK := Lib.hid (H0.out.below hb2)
      have HM := Lib.hid (H1.out.below hb2)
      have hb1 := (below2 w (.cells #[.int .i64 2, .int .i64 n, .string s, .slice A a.length c] 40) zeroBox).trans (hb2.mono (by simp; omega))
      obtain ⟨hz0, d0, d1, d2, d3, f⟩ := HK.out
      obtain ⟨hz, e0, e1, e2, e3, f'⟩ := HM.out
      have f3 := f 3
      have f0' := f' 0
      have f1' := f' 1
      have f2' := f' 2
      have f3' := f' 3
      have HB := Lib.hid hb1
      have HL := Lib.hid hL
      have HS := Lib.hid hst
      have HC := Lib.hid hcl
      clear f f' hb1 hL hst hcl hb2 Q1
      go_wp2_with fail
      refine bodyPost_ret (v := .agg #[.int .i64 2, .int .i64 n, .string s, .slice A' a.length cap]) (by simp [results, Tryz.results147, go_sem, e0, e1, e2, e3]) rfl ?_
      have hsz : ((w.alloc (.cells #[.int .i64 2, .int .i64 n, .string s, .slice A a.length c] 40)).alloc zeroBox).heap.size = w.heap.size + 2 := by simp
      refine ⟨.mk 2 n s A' cap cur, by rw [← HC.out]; rfl, ?_, lie_row (lo := w.heap.size + 2) HP.out (fun W hW => HL.out W fun b' h1 h2 h3 => ?_) (by omega), set4c (HB.out.setCell (Nat.le_refl _) _) (Nat.le_succ _)⟩
      · rw [HV.out]
        simp only [Tm.strip, HS.out]
      · rw [hsz] at h1
        rw [hW b' h1 (by rw [size_set4]; simpa [World.setCell] using h2) h3, heap_set4 _ (by omega), Below.heap_setCell _ _ _ _ (by show b' ≠ w.heap.size; omega)]
    · have k2' : (k == 2) = false := by simpa using k2
      by_cases k1 : k = 1
      · subst k1
        have hF := Lib.hid (fun W (h : Below w.heap.size w W) => find_at b D q n W (hb.below h) hG.len hG.srt)
        have HLk := Lib.hid (fun (x : Tm) (hx : look b n = some x) => (⟨hb.look hx, by obtain ⟨y, hy, _, rfl⟩ := look_some hx; exact hG.nodes y hy⟩ : x.At w ∧ x.nodes ≤ 1000000))
        have HV := Lib.hid (show (Tm.mk 1 n s A c a).app b = (look b n).getD (.mk 1 n s A c a) by simp [Tm.app])
        clear hat ih hnodes hb k2 k2'
        generalize look b n = lk at *
        cases lk with
        | none =>
          simp only [Option.getD_none] at HV
          go_enter Tryz.func147, Tryz.ntmps147
          go_wp2_with fail
          refine (hF.out _ (below2 _ _ _)).mono ?_
          rintro e w1 ⟨rfl, hb2⟩
          have HK := Lib.hid (H0.out.below hb2)
          have HM := Lib.hid (H1.out.below hb2)
          have hb1 := (below2 w (.cells #[.int .i64 1, .int .i64 n, .string s, .slice A a.length c] 40) zeroBox).trans (hb2.mono (by simp; omega))
          obtain ⟨hz0, d0, d1, d2, d3, _⟩ := HK.out
          simp only [optT, Option.getD_none, Option.isSome_none]
          clear hb2 hF HLk
          go_wp2_with fail
          refine (QC.out _ (hb1.alloc hb1.size _)).mono ?_
          rintro e w2 ⟨u, rfl, hu, hlie, hb3⟩
          have hw : Below w1.heap.size w1 w2 := (below1 w1 _).trans (hb3.mono (by simp))
          have HM2 := Lib.hid (HM.out.below hw)
          have HB := Lib.hid (hb1.trans (hw.mono hb1.size))
          have HE := Lib.hid (hlie.low (lo' := w.heap.size + 2) (by simp; have := HM.out.lt; omega))
          have HS := Lib.hid hu
          obtain ⟨hz, e0, e1, e2, e3, f'⟩ := HM2.out
          have f0' := f' 0
          have f1' := f' 1
          have f2' := f' 2
          have f3' := f' 3
          clear f' hb1 hu hlie hb3 hw QC HK HM d0 d1 d2 d3
          obtain ⟨k2, n2, s2, A2, p2, a2⟩ := u
          go_wp2_with fail
          refine bodyPost_ret (v := .agg #[.int .i64 k2, .int .i64 n2, .string s2, .slice A2 a2.length p2]) (by simp [results, Tryz.results147, go_sem, e0, e1, e2, e3, Tm.kind, Tm.num, Tm.name, Tm.at_, Tm.args, Tm.cap]) rfl ?_
          refine ⟨.mk k2 n2 s2 A2 p2 a2, rfl, by rw [HV.out, HS.out], ?_, set4c HB.out (Nat.le_succ _)⟩
          exact Lie.low ((((HE.out.set (p := ⟨w.heap.size + 1, 0, none⟩) (.inl (by show w.heap.size + 1 < _; omega)) _).set (p := ⟨w.heap.size + 1, 1, none⟩) (.inl (by show w.heap.size + 1 < _; omega)) _).set (p := ⟨w.heap.size + 1, 2, none⟩) (.inl (by show w.heap.size + 1 < _; omega)) _).set (p := ⟨w.heap.size + 1, 3, none⟩) (.inl (by show w.heap.size + 1 < _; omega)) _) (by omega)
        | some x =>
          simp only [Option.getD_some] at HV
          have hx := HLk.out x rfl
          have QX := Lib.hid (fun W (h : Below w.heap.size w W) => copy_at x W (hx.1.below h) hx.2)
          rw [HV.out]
          clear hx HV
          obtain ⟨xk, xn, xs, xA, xc, xa⟩ := x
          go_enter Tryz.func147, Tryz.ntmps147
          go_wp2_with fail
          refine (hF.out _ (below2 _ _ _)).mono ?_
          rintro e w1 ⟨rfl, hb2⟩
          have HM := Lib.hid (H1.out.below hb2)
          have hb1 := (below2 w (.cells #[.int .i64 1, .int .i64 n, .string s, .slice A a.length c] 40) zeroBox).trans (hb2.mono (by simp; omega))
          simp only [optT, Option.getD_some, Option.isSome_some]
          clear hb2 hF HLk QC
          go_wp2_with fail
          refine (QX.out _ (hb1.alloc hb1.size _)).mono ?_
          rintro e w2 ⟨u, rfl, hu, hlie, hb3⟩
          have hw : Below w1.heap.size w1 w2 := (below1 w1 _).trans (hb3.mono (by simp))
          have HM2 := Lib.hid (HM.out.below hw)
          have HB := Lib.hid (hb1.trans (hw.mono hb1.size))
          have HE := Lib.hid (hlie.low (lo' := w.heap.size + 2) (by simp; have := HM.out.lt; omega))
          have HS := Lib.hid hu
          obtain ⟨hz, e0, e1, e2, e3, f'⟩ := HM2.out
          have f0' := f' 0
          have f1' := f' 1
          have f2' := f' 2
          have f3' := f' 3
          clear f' hb1 hu hlie hb3 hw QX HM
          obtain ⟨k2, n2, s2, A2, p2, a2⟩ := u
          go_wp2_with fail
          refine bodyPost_ret (v := .agg #[.int .i64 k2, .int .i64 n2, .string s2, .slice A2 a2.length p2]) (by simp [results, Tryz.results147, go_sem, e0, e1, e2, e3, Tm.kind, Tm.num, Tm.name, Tm.at_, Tm.args, Tm.cap]) rfl ?_
          refine ⟨.mk k2 n2 s2 A2 p2 a2, rfl, HS.out, ?_, set4c HB.out (Nat.le_succ _)⟩
          exact Lie.low ((((HE.out.set (p := ⟨w.heap.size + 1, 0, none⟩) (.inl (by show w.heap.size + 1 < _; omega)) _).set (p := ⟨w.heap.size + 1, 1, none⟩) (.inl (by show w.heap.size + 1 < _; omega)) _).set (p := ⟨w.heap.size + 1, 2, none⟩) (.inl (by show w.heap.size + 1 < _; omega)) _).set (p := ⟨w.heap.size + 1, 3, none⟩) (.inl (by show w.heap.size + 1 < _; omega)) _) (by omega)
      · have k1' : (k == 1) = false := by simpa using k1
        have HV := Lib.hid (show (Tm.mk k n s A c a).app b = .mk k n s A c a by simp [Tm.app, k1, k2])
        clear hat ih hnodes hb k1 k2
        go_enter Tryz.func147, Tryz.ntmps147
        go_wp2_with fail
        refine (QC.out _ (below2 _ _ _)).mono ?_
        rintro e w2 ⟨u, rfl, hu, hlie, hb2⟩
        have HM := Lib.hid (H1.out.below hb2)
        have HB := Lib.hid ((below2 w (.cells #[.int .i64 k, .int .i64 n, .string s, .slice A a.length c] 40) zeroBox).trans (hb2.mono (by simp; omega)))
        have HE := Lib.hid (hlie.low (lo' := w.heap.size + 2) (by simp))
        have HS := Lib.hid hu
        obtain ⟨hz, e0, e1, e2, e3, f'⟩ := HM.out
        have f0' := f' 0
        have f1' := f' 1
        have f2' := f' 2
        have f3' := f' 3
        clear f' hu hlie hb2 QC
        obtain ⟨k2, n2, s2, A2, p2, a2⟩ := u
        go_wp2_with fail
        refine bodyPost_ret (v := .agg #[.int .i64 k2, .int .i64 n2, .string s2, .slice A2 a2.length p2]) (by simp [results, Tryz.results147, go_sem, e0, e1, e2, e3, Tm.kind, Tm.num, Tm.name, Tm.at_, Tm.args, Tm.cap]) rfl ?_
        refine ⟨.mk k2 n2 s2 A2 p2 a2, rfl, by rw [HV.out, HS.out], ?_, set4c HB.out (Nat.le_succ _)⟩
        exact Lie.low ((((HE.out.set (p := ⟨w.heap.size + 1, 0, none⟩) (.inl (by show w.heap.size + 1 < _; omega)) _).set (p := ⟨w.heap.size + 1, 1, none⟩) (.inl (by show w.heap.size + 1 < _; omega)) _).set (p := ⟨w.heap.size + 1, 2, none⟩) (.inl (by show w.heap.size + 1 < _; omega)) _).set (p := ⟨w.heap.size + 1, 3, none⟩) (.inl (by show w.heap.size + 1 < _; omega)) _) (by omega)
end Go.Proofs.YtgpglgehlnfggaaGreat
