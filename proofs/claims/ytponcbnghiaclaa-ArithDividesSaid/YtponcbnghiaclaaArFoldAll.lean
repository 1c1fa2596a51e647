/-
  Contract of foldAll of the program.
-/
import Derived.Test.YtponcbnghiaclaaArClone
namespace Go.Proofs.Ytponcbnghiaclaa
open Go.RowKit

/-- In each world in which the terms l lie, and which agrees with w at the blocks from lo on (but for ex), the term t lies too. -/
def Stays (lo : Nat) (w : World) (ex : Nat → Prop) (l : List Tm) (t : Tm) : Prop :=
  ∀ W : World, (∀ x ∈ l, x.At W) → (∀ p : Addr, lo ≤ p.block → p.block < w.heap.size → ¬ ex p.block → W.cell? p = w.cell? p) → t.At W
/-- A term that was folded. -/
def Folded (t : Tm) (w : World) (e : Ending) (w' : World) : Prop :=
  ∃ u : Tm, e = .returned u.val ∧ u.strip = t.fold.strip ∧ Stays w.heap.size w' (fun _ => False) [t] u ∧ Below w.heap.size w w'
/-- A list of terms that was folded. -/
def FoldedL (l : List Tm) (w : World) (e : Ending) (w' : World) : Prop :=
  ∃ A cap cur, e = .returned (.slice A l.length cap) ∧ cur.length = l.length ∧ stripL cur = stripL (foldL l) ∧
    (∀ W : World, (∀ x ∈ l, x.At W) → (∀ p : Addr, w.heap.size ≤ p.block → p.block < w'.heap.size → W.cell? p = w'.cell? p) → Lst W A cur cap) ∧ Below w.heap.size w w'

/-- The first j terms are folded; lo: where the call's own blocks begin. -/
def Doing (l : List Tm) (g lo j : Nat) (wr : World) : Prop :=
  ∃ news : List Tm, news.length = j ∧ stripL news = stripL (foldL (l.take j)) ∧ Row4 wr g (news ++ l.drop j) ∧ ∀ x ∈ news, Stays lo wr (fun k => k = g) l x

theorem set4 (w : World) (g q : Nat) (v0 v1 v2 v3 : Value) (h0 : ∀ j, j < 4 → (w.cell? ⟨g, q + j, none⟩).isSome = true) :
    ∀ p : Addr, ((((w.setCell ⟨g, q, none⟩ v0).setCell ⟨g, q + 1, none⟩ v1).setCell ⟨g, q + 2, none⟩ v2).setCell ⟨g, q + 3, none⟩ v3).cell? p =
      if p = ⟨g, q, none⟩ then some v0 else if p = ⟨g, q + 1, none⟩ then some v1 else if p = ⟨g, q + 2, none⟩ then some v2 else if p = ⟨g, q + 3, none⟩ then some v3 else w.cell? p := by
  intro p
  have ne : ∀ i j : Nat, i ≠ j → (⟨g, q + i, none⟩ : Addr) ≠ ⟨g, q + j, none⟩ := fun i j h e => by injection e with _ e _; omega
  have n01 : (⟨g, q, none⟩ : Addr) ≠ ⟨g, q + 1, none⟩ := ne 0 1 (by omega)
  have n02 : (⟨g, q, none⟩ : Addr) ≠ ⟨g, q + 2, none⟩ := ne 0 2 (by omega)
  have n03 : (⟨g, q, none⟩ : Addr) ≠ ⟨g, q + 3, none⟩ := ne 0 3 (by omega)
  have n12 := ne 1 2 (by omega)
  have n13 := ne 1 3 (by omega)
  have n23 := ne 2 3 (by omega)
  have s0 := h0 0 (by omega)
  have s1 := h0 1 (by omega)
  have s2 := h0 2 (by omega)
  have s3 := h0 3 (by omega)
  simp only [Nat.add_zero] at s0
  by_cases e0 : p = ⟨g, q, none⟩
  · subst e0
    rw [if_pos rfl, World.cell?_setCell_other _ _ _ _ n03.symm, World.cell?_setCell_other _ _ _ _ n02.symm, World.cell?_setCell_other _ _ _ _ n01.symm, World.cell?_setCell_same' _ _ _ s0]
  rw [if_neg e0]
  by_cases e1 : p = ⟨g, q + 1, none⟩
  · subst e1
    rw [if_pos rfl, World.cell?_setCell_other _ _ _ _ n13.symm, World.cell?_setCell_other _ _ _ _ n12.symm, World.cell?_setCell_same' _ _ _ (by rw [World.cell?_setCell_other _ _ _ _ n01]; exact s1)]
  rw [if_neg e1]
  by_cases e2 : p = ⟨g, q + 2, none⟩
  · subst e2
    rw [if_pos rfl, World.cell?_setCell_other _ _ _ _ n23.symm, World.cell?_setCell_same' _ _ _ (by rw [World.cell?_setCell_other _ _ _ _ n12, World.cell?_setCell_other _ _ _ _ n02]; exact s2)]
  rw [if_neg e2]
  by_cases e3 : p = ⟨g, q + 3, none⟩
  · subst e3
    rw [if_pos rfl, World.cell?_setCell_same' _ _ _ (by rw [World.cell?_setCell_other _ _ _ _ n23, World.cell?_setCell_other _ _ _ _ n13, World.cell?_setCell_other _ _ _ _ n03]; exact s3)]
  rw [if_neg e3, World.cell?_setCell_other _ _ _ _ (Ne.symm e3), World.cell?_setCell_other _ _ _ _ (Ne.symm e2), World.cell?_setCell_other _ _ _ _ (Ne.symm e1), World.cell?_setCell_other _ _ _ _ (Ne.symm e0)]

theorem Row4.some_cell {w : World} {g : Nat} {l : List Tm} (h : Row4 w g l) {i : Nat} (hi : i < l.length) : ∀ j, j < 4 → (w.cell? ⟨g, i * 4 + j, none⟩).isSome = true := by
  intro j hj
  have e : (l.getD i default).cells.length = 4 := rfl
  rw [Nat.mul_comm, h.2.2 i j _ hi (List.getElem?_eq_getElem (by omega))]
  rfl
/-- A term stored into the row. -/
theorem Row4.store {w : World} {g : Nat} {l : List Tm} (h : Row4 w g l) {i : Nat} (hi : i < l.length) (u : Tm) :
    Row4 ((((w.setCell ⟨g, i * 4, none⟩ (.int .i64 u.kind)).setCell ⟨g, i * 4 + 1, none⟩ (.int .i64 u.num)).setCell ⟨g, i * 4 + 2, none⟩ (.string u.name)).setCell ⟨g, i * 4 + 3, none⟩ (.slice u.at_ u.args.length u.cap)) g (l.set i u) := by
  refine ⟨by simpa using h.1, fun j => by simp only [World.frozen?_setCell]; exact h.2.1 j, fun i' j v hi' hv => ?_⟩
  rw [List.length_set] at hi'
  rw [set4 _ _ _ _ _ _ _ (h.some_cell hi)]
  have hj : j < 4 := by
    have := (List.getElem?_eq_some_iff.1 hv).1
    simpa [Tm.cells] using this
  by_cases e : i' = i
  · subst e
    have ev : (l.set i' u).getD i' default = u := by simp [List.getD, hi']
    rw [ev] at hv
    have ad : ∀ a b : Nat, a ≠ b → ¬ (⟨g, 4 * i' + a, none⟩ : Addr) = ⟨g, i' * 4 + b, none⟩ := fun a b hab h => by injection h with _ h _; omega
    have ad0 : ∀ a : Nat, a ≠ 0 → ¬ (⟨g, 4 * i' + a, none⟩ : Addr) = ⟨g, i' * 4, none⟩ := fun a ha h => by injection h with _ h _; omega
    match j, hj with
    | 0, _ => rw [if_pos (by rw [Nat.mul_comm]; rfl)]; exact hv
    | 1, _ => rw [if_neg (ad0 1 (by omega)), if_pos (by rw [Nat.mul_comm])]; exact hv
    | 2, _ => rw [if_neg (ad0 2 (by omega)), if_neg (ad 2 1 (by omega)), if_pos (by rw [Nat.mul_comm])]; exact hv
    | 3, _ => rw [if_neg (ad0 3 (by omega)), if_neg (ad 3 1 (by omega)), if_neg (ad 3 2 (by omega)), if_pos (by rw [Nat.mul_comm])]; exact hv
  · have ev : (l.set i u).getD i' default = l.getD i' default := by simp [List.getD, Ne.symm e]
    rw [ev] at hv
    have ad : ∀ b : Nat, b < 4 → ¬ (⟨g, 4 * i' + j, none⟩ : Addr) = ⟨g, i * 4 + b, none⟩ := fun b hb h => by injection h with _ h _; omega
    have ad0 : ¬ (⟨g, 4 * i' + j, none⟩ : Addr) = ⟨g, i * 4, none⟩ := fun h => by injection h with _ h _; omega
    rw [if_neg ad0, if_neg (ad 1 (by omega)), if_neg (ad 2 (by omega)), if_neg (ad 3 (by omega))]
    exact h.2.2 i' j v hi' hv

theorem Stays.less {lo : Nat} {w w' : World} {ex : Nat → Prop} {l : List Tm} {t : Tm} (h : Stays lo w ex l t) (hs : w.heap.size ≤ w'.heap.size) (hc : ∀ p : Addr, lo ≤ p.block → p.block < w.heap.size → ¬ ex p.block → w'.cell? p = w.cell? p) : Stays lo w' ex l t :=
  fun W hl hW => h W hl fun p h1 h2 h3 => (hW p h1 (Nat.lt_of_lt_of_le h2 hs) h3).trans (hc p h1 h2 h3)
theorem Row4.at {w : World} {g : Nat} {l : List Tm} (h : Row4 w g l) (W : World) (hc : ∀ j, W.cell? ⟨g, j, none⟩ = w.cell? ⟨g, j, none⟩) (ha : ∀ x ∈ l, x.At W) : RowAt W l g 0 := by
  refine RowAt.of fun i hi => ⟨fun j u hu => ?_, ha _ (getD_mem hi)⟩
  rw [Nat.zero_add, hc]
  exact h.2.2 i j u hi hu

theorem Doing.below {l : List Tm} {g lo j : Nat} {wr w' : World} (h : Doing l g lo j wr) (hb : Below wr.heap.size wr w') : Doing l g lo j w' := by
  obtain ⟨news, hn, hs, hr, hk⟩ := h
  exact ⟨news, hn, hs, hr.below hb, fun x hx => (hk x hx).less hb.size fun p _ h2 _ => hb.cell h2⟩
/-- The row's cells at the next term, and that they may be written. -/
theorem Doing.cells {l : List Tm} {g lo j : Nat} {wr : World} (h : Doing l g lo j wr) (hj : j < l.length) : ∀ i v, (l.getD j default).cells[i]? = some v → wr.cell? ⟨g, j * 4 + i, none⟩ = some v := by
  obtain ⟨news, hn, hs, hr, hk⟩ := h
  intro i v hv
  have hgx : (news ++ l.drop j).getD j default = l.getD j default := by
    simp [List.getD, List.getElem?_append_right (show news.length ≤ j by omega), hn]
  rw [Nat.mul_comm]
  exact hr.2.2 j i v (by simp; omega) (by rw [hgx]; exact hv)
theorem Doing.lt {l : List Tm} {g lo j : Nat} {wr : World} (h : Doing l g lo j wr) : g < wr.heap.size := by
  obtain ⟨_, _, _, hr, _⟩ := h
  exact hr.1
theorem Doing.free {l : List Tm} {g lo j : Nat} {wr : World} (h : Doing l g lo j wr) : ∀ i, wr.frozen? ⟨g, i, none⟩ = false := by
  obtain ⟨_, _, _, hr, _⟩ := h
  exact hr.2.1

/-- One term more. -/
theorem doing_next {l : List Tm} {g lo j : Nat} {wr w2 : World} {u x : Tm} (h : Doing l g lo j wr) (hj : j < l.length) (hx : x = l.getD j default) (hlo : lo ≤ wr.heap.size) (hu : u.strip = x.fold.strip) (hst : Stays wr.heap.size w2 (fun _ => False) [x] u) (hb : Below wr.heap.size wr w2) (w3 : World)
    (h3 : w3 = (((w2.setCell ⟨g, j * 4, none⟩ (.int .i64 u.kind)).setCell ⟨g, j * 4 + 1, none⟩ (.int .i64 u.num)).setCell ⟨g, j * 4 + 2, none⟩ (.string u.name)).setCell ⟨g, j * 4 + 3, none⟩ (.slice u.at_ u.args.length u.cap)) :
    Doing l g lo (j + 1) w3 := by
  obtain ⟨news, hn, hs, hr, hk⟩ := h
  have hlen : (news ++ l.drop j).length = l.length := by simp; omega
  have hr2 := hr.below hb
  have hr3 := hr2.store (i := j) (by omega) u
  rw [← h3] at hr3
  have hset : (news ++ l.drop j).set j u = (news ++ [u]) ++ l.drop (j + 1) := by
    rw [List.set_append_right _ _ (by omega), hn, Nat.sub_self, List.drop_eq_getElem_cons hj, List.set_cons_zero, List.append_assoc]
    rfl
  rw [hset] at hr3
  have hcell : ∀ p : Addr, p.block ≠ g → w3.cell? p = w2.cell? p := fun p hp => by
    have ne : ∀ o, p ≠ ⟨g, o, none⟩ := fun o e => hp (by rw [e])
    rw [h3, World.cell?_setCell_other _ _ _ _ (ne _).symm, World.cell?_setCell_other _ _ _ _ (ne _).symm, World.cell?_setCell_other _ _ _ _ (ne _).symm, World.cell?_setCell_other _ _ _ _ (ne _).symm]
  have hsz : w3.heap.size = w2.heap.size := by rw [h3]; simp
  refine ⟨news ++ [u], by simp [hn], ?_, hr3, fun y hy => ?_⟩
  · have ap : ∀ a b : List Tm, stripL (a ++ b) = stripL a ++ stripL b := fun a b => by simp [stripL_map]
    have fp : ∀ a b : List Tm, foldL (a ++ b) = foldL a ++ foldL b := fun a b => by simp [foldL_map]
    rw [ttake_next hj, fp, ap, ap, hs, ← hx]
    simp [stripL, foldL, hu]
  · rcases List.mem_append.1 hy with hy | hy
    · refine (hk y hy).less (by rw [hsz]; exact hb.size) fun p h1 h2 h3' => ?_
      rw [hcell p h3', hb.cell h2]
    · obtain rfl : y = u := by simpa using hy
      refine fun W hl hW => hst W (fun z hz => ?_) fun p h1 h2 _ => ?_
      · obtain rfl : z = x := by simpa using hz
        exact hl z (by rw [hx]; exact getD_mem hj)
      · have hg := hr.1
        have hpg : p.block ≠ g := by omega
        rw [hW p (by omega) (by rw [hsz]; exact h2) hpg, hcell p hpg]

set_option maxHeartbeats 4000000 in
theorem fold_all_at (l : List Tm) (A : Option Addr) (c : Nat) (w : World) (hl : Lst w A l c) (hsz : l.length ≤ 1000000)
    (ih : ∀ x ∈ l, ∀ W : World, x.At W → Calls Try.prog 17 #[x.val] W (Folded x W)) :
    Calls Try.prog 31 #[.slice A l.length c] w (FoldedL l w) := by
  by_cases h0 : l.length = 0
  · obtain rfl : l = [] := List.length_eq_zero_iff.1 h0
    have Q := Lib.hid (clone_none_at A c w)
    clear ih hl hsz h0
    show Calls Try.prog 31 #[.slice A 0 c] w _
    go_enter Try.func31, Try.ntmps31
    go_wp2_with fail
    refine (Q.out).mono ?_
    rintro e w1 ⟨A', cap, rfl, h1, h2, _, hb⟩
    go_wp2_with fail
    go_loopw [10] (fun i wr => i = .int .i64 0 ∧ Below w.heap.size w wr) (fun _ _ => 0)
    case atStart => exact ⟨rfl, hb⟩
    case round =>
      obtain ⟨rfl, hbw⟩ := hrel
      go_wp2_with fail
      go_ret
      exact ⟨A', cap, [], rfl, rfl, rfl, fun W _ _ => ⟨h1, h2, fun h => by simp at h⟩, hbw⟩
  · have hp : 0 < l.length := by omega
    obtain ⟨b, o, rfl, hrow⟩ := hl.2.2 hp
    have hlen : l.length ≤ 9223372036854775807 := by omega
    have Q := Lib.hid (clone_at l b o c w hp hrow hsz)
    have QI := Lib.hid ih
    have HL := Lib.hid hl
    clear ih hrow hsz h0 hl
    go_enter Try.func31, Try.ntmps31
    go_wp2_with fail
    refine (Q.out).mono ?_
    rintro e w1 ⟨A', cap, rfl, h1, h2, h3, hb⟩
    obtain ⟨g, rfl, hg, hrow⟩ := h3 hp
    have HD := Lib.hid (show Doing l g w.heap.size 0 w1 from ⟨[], rfl, rfl, by simpa using hrow, fun x hx => by cases hx⟩)
    have hcap : l.length ≤ cap := h1
    have hcap2 : cap ≤ 9223372036854775807 := by unfold maxLen at h2; exact h2
    have HG := Lib.hid hg
    clear hrow h3 h1 h2 hg
    go_wp2_with fail
    go_loopw [10] (fun i wr => ∃ j : Nat, j ≤ l.length ∧ i = .int .i64 j ∧ Hid (Doing l g w.heap.size j wr) ∧ Below w.heap.size w wr) (fun i _ => l.length - (intOf i).toNat)
    case atStart => exact ⟨0, Nat.zero_le _, rfl, HD, hb⟩
    case round =>
      obtain ⟨j, hj, rfl, HF, hbw⟩ := hrel
      clear hb HD
      by_cases hlt : j < l.length
      · obtain ⟨x, hx⟩ : ∃ x, x = l.getD j default := ⟨_, rfl⟩
        have hcl := HF.out.cells hlt
        rw [← hx] at hcl
        have c0 := hcl 0 _ rfl
        have c1 := hcl 1 _ rfl
        have c2 := hcl 2 _ rfl
        have c3 := hcl 3 _ rfl
        simp only [Nat.add_zero] at c0
        have hmem : x ∈ l := by rw [hx]; exact getD_mem hlt
        have Q1 := Lib.hid (fun W (h : Below w.heap.size w W) => QI.out x hmem W ((HL.out.below h).mem hmem))
        have HX := Lib.hid hx
        have HC := Lib.hid hcl
        have hgs : g < wr.heap.size := HF.out.lt
        clear hx hcl hmem QI
        obtain ⟨k', n', s', A', c', a'⟩ := x
        simp only [Tm.kind, Tm.num, Tm.name, Tm.at_, Tm.args, Tm.cap] at c0 c1 c2 c3
        go_wp2_with fail
        refine (Q1.out _ (hbw.alloc hbw.size _)).mono ?_
        rintro e w2 ⟨u, rfl, hu, hst, hb2⟩
        have HN := Lib.hid (doing_next (HF.out.below (below1 wr _)) hlt HX.out (Nat.le_trans hbw.size (below1 wr _).size) hu hst hb2 _ rfl)
        have D2 := Lib.hid ((HF.out.below (below1 wr _)).below hb2)
        have hbx := hbw.trans (((below1 wr _).trans (hb2.mono (below1 wr _).size)).mono hbw.size)
        have e0 := D2.out.cells hlt
        rw [← HX.out] at e0
        have q0 := e0 0 _ rfl
        have q1 := e0 1 _ rfl
        have q2 := e0 2 _ rfl
        have q3 := e0 3 _ rfl
        simp only [Nat.add_zero, Tm.kind, Tm.num, Tm.name, Tm.at_, Tm.args, Tm.cap] at q0 q1 q2 q3
        have f0 := D2.out.free (j * 4)
        have f1 := D2.out.free (j * 4 + 1)
        have f2 := D2.out.free (j * 4 + 2)
        have f3 := D2.out.free (j * 4 + 3)
        have hgz := D2.out.lt
        obtain ⟨k2, n2, s2, A2, p2, a2⟩ := u
        simp only [Tm.kind, Tm.num, Tm.name, Tm.at_, Tm.args, Tm.cap] at HN
        clear e0 hu hst hb2 c0 c1 c2 c3
        go_wp2_with fail
        go_roundw
        case rel =>
          refine ⟨j + 1, by omega, by go_num, HN, ?_⟩
          exact (((hbx.setCell HG.out _).setCell HG.out _).setCell HG.out _).setCell HG.out _
        case measure => simp [intOf]; omega
      · obtain rfl : j = l.length := by omega
        clear QI
        obtain ⟨news, hn, hs, hr, hk⟩ := HF.out
        have HN := Lib.hid (show _ ∧ _ ∧ _ ∧ _ from ⟨hn, hs, hr, hk⟩)
        clear hn hs hr hk HF
        go_wp2_with fail
        go_ret
        obtain ⟨hn, hs, hr, hk⟩ := HN.out
        rw [List.drop_length, List.append_nil] at hr
        rw [List.take_length] at hs
        refine ⟨_, cap, news, rfl, hn, hs, fun W hW hc => ⟨by omega, by unfold maxLen; omega, fun _ => ⟨g, 0, rfl, hr.at W (fun j => hc _ HG.out hr.1) fun x hx => hk x hx W hW fun p h1 h2 _ => hc p h1 h2⟩⟩, hbw⟩
end Go.Proofs.Ytponcbnghiaclaa
