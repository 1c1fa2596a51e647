/-
  Contracts of left, Small and Few of the statements.
  Contract of Few of the statements.
  Contract of term of the reference: the term of a class.
  The reference's sorted list of bindings, plainly.
  Contract of into of the reference: a binding is put between others.
  Bindings put together from parts of another list: three appends onto a row of the call's own, that may be nil.
-/
import Derived.Test.YtelkmnjoboekmaaGreatMb2
import Derived.Test.YtelkmnjoboekmaaGreatMb7
import Derived.Test.YtelkmnjoboekmaaGreatMb18
import Derived.Test.YtelkmnjoboekmaaGreatMb17
import Derived.Test.YtelkmnjoboekmaaGreatMb19
import Derived.Deep.RegionLaw
import Derived.Deep.CutRange
import Derived.Test.YtelkmnjoboekmaaGreatMb10
import Derived.Test.YtelkmnjoboekmaaGreatMb21
import Derived.Test.YtelkmnjoboekmaaGreatMb5
import Derived.Maps.AppendAt
import Derived.Deep.AppendSrc
namespace Go.Proofs.YtelkmnjoboekmaaGreat
open Go.RowKit

mutual
def Tm.lft : Tm → Int → Int → Int
  | .mk _ _ _ _ _ a, n, d => if d < 1 ∨ n - 1 < 0 then -1 else lftL a (n - 1) (d - 1)
def lftL : List Tm → Int → Int → Int
  | [], n, _ => n
  | t :: r, n, d => if t.lft n d < 0 then -1 else lftL r (t.lft n d) d
end
theorem lftL_append (l m : List Tm) (n d : Int) (h : 0 ≤ lftL l n d) : lftL (l ++ m) n d = lftL m (lftL l n d) d := by
  induction l generalizing n with
  | nil => simp [lftL]
  | cons t r ih =>
    simp only [List.cons_append, lftL] at h ⊢
    split at h
    · omega
    · rename_i h'
      rw [if_neg h', if_neg h', ih _ h]
theorem lftL_next {l : List Tm} {k : Nat} (h : k < l.length) (n d : Int) (hk : 0 ≤ lftL (l.take k) n d) :
    lftL (l.take (k + 1)) n d = if (l.getD k default).lft (lftL (l.take k) n d) d < 0 then -1 else (l.getD k default).lft (lftL (l.take k) n d) d := by
  rw [ttake_next h, lftL_append _ _ _ _ hk]
  simp only [lftL]
theorem lftL_stop {l : List Tm} {k : Nat} (h : k < l.length) (n d : Int) (hk : 0 ≤ lftL (l.take k) n d) (hx : (l.getD k default).lft (lftL (l.take k) n d) d < 0) : lftL l n d = -1 := by
  have e : l = l.take k ++ (l.getD k default :: l.drop (k + 1)) := by
    rw [show l.getD k default = l[k] by simp [List.getD, List.getElem?_eq_getElem h], List.getElem_cons_drop, List.take_append_drop]
  rw [e, lftL_append _ _ _ _ hk]
  simp only [lftL]
  rw [if_pos hx]
theorem lft_facts : (∀ (t : Tm) (n d : Int), -1 ≤ t.lft n d ∧ (0 ≤ t.lft n d → t.lft n d + t.nodes ≤ n)) ∧ (∀ (l : List Tm) (n d : Int), 0 ≤ n → -1 ≤ lftL l n d ∧ (0 ≤ lftL l n d → lftL l n d + nodesL l ≤ n)) := by
  refine Tm.induct2 (fun k n s A c a ih => ?_) ?_ (fun t r h1 h2 => ?_)
  · intro m d
    simp only [Tm.lft, Tm.nodes]
    split
    · exact ⟨by omega, fun h => by omega⟩
    · have := ih (m - 1) (d - 1) (by omega)
      exact ⟨this.1, fun h => by have := this.2 h; omega⟩
  · intro n d h
    simp only [lftL, nodesL]
    omega
  · intro n d h
    simp only [lftL, nodesL]
    have a1 := h1 n d
    split
    · exact ⟨by omega, fun h => by omega⟩
    · rename_i h'
      have a2 := h2 (t.lft n d) d (by omega)
      exact ⟨a2.1, fun h => by have := a2.2 h; have := a1.2 (by omega); omega⟩
theorem small_nodes {t : Tm} {n d : Int} (h : decide (0 ≤ t.lft n d) = true) : (t.nodes : Int) ≤ n := by
  have := (lft_facts.1 t n d).2 (by simpa using h)
  have h0 : 0 ≤ t.lft n d := by simpa using h
  omega
set_option maxHeartbeats 2000000 in
theorem left_at (t : Tm) : ∀ (n d : Int) (w : World), t.At w → -1 ≤ n → n ≤ 1000 → -1 ≤ d → d ≤ 1000 →
    Calls Tryz.prog 17 #[t.val, .int .i64 n, .int .i64 d] w fun e w' => e = .returned (.int .i64 (t.lft n d)) ∧ Below w.heap.size w w' := by
  induction t using Tm.induct with
  | h k m s A c a ih =>
    intro n d w hat hn1 hn2 hd1 hd2
    have B0 := Lib.hid (show ∀ o, Below w.heap.size w (w.alloc o) from fun o => (Below.refl _ _).alloc (Nat.le_refl _) o)
    have hl : Lst w A a c := hat.lst
    have hlen : a.length ≤ 9223372036854775807 := by have := hl.1; have := hl.2.1; unfold maxLen at *; omega
    have HV := Lib.hid (show (Tm.mk k m s A c a).lft n d = if d < 1 ∨ n - 1 < 0 then -1 else lftL a (n - 1) (d - 1) by simp only [Tm.lft])
    show Calls Tryz.prog 17 #[.agg #[.int .i64 k, .int .i64 m, .string s, .slice A a.length c], .int .i64 n, .int .i64 d] w _
    by_cases h1 : d < 1
    · have HU := Lib.hid (show (Tm.mk k m s A c a).lft n d = -1 by rw [HV.out, if_pos (.inl h1)])
      clear HV hat hl ih
      go_enter Tryz.func17, Tryz.ntmps17
      go_wp2_with fail
      go_ret
      exact ⟨by rw [HU.out]; rfl, B0.out _⟩
    by_cases h2 : n - 1 < 0
    · have HU := Lib.hid (show (Tm.mk k m s A c a).lft n d = -1 by rw [HV.out, if_pos (.inr h2)])
      have h1' : decide (d < 1) = false := by simpa using h1
      clear HV hat hl ih
      go_enter Tryz.func17, Tryz.ntmps17
      go_wp2_with fail
      go_ret
      exact ⟨by rw [HU.out]; rfl, B0.out _⟩
    have HU := Lib.hid (show (Tm.mk k m s A c a).lft n d = lftL a (n - 1) (d - 1) by rw [HV.out, if_neg (by omega)])
    have h1' : decide (d < 1) = false := by simpa using h1
    have h2' : decide (n - 1 < 0) = false := by simpa using h2
    have g1 : 1 ≤ d := by omega
    have g2 : 0 ≤ n - 1 := by omega
    have HL := Lib.hid hl
    have QI := Lib.hid ih
    clear HV hat hl ih h1 h2
    go_enter Tryz.func17, Tryz.ntmps17
    go_wp2_with fail
    go_loopw [1, 19] (fun z i wr => ∃ j : Nat, j ≤ a.length ∧ i = .int .i64 j ∧ z = .int .i64 (lftL (a.take j) (n - 1) (d - 1)) ∧ Hid (0 ≤ lftL (a.take j) (n - 1) (d - 1)) ∧ Below (w.alloc (.cells #[.int .i64 k, .int .i64 m, .string s, .slice A a.length c] 26)).heap.size (w.alloc (.cells #[.int .i64 k, .int .i64 m, .string s, .slice A a.length c] 26)) wr) (fun _ i _ => a.length - (intOf i).toNat)
    case atStart => exact ⟨0, Nat.zero_le _, rfl, by simp [lftL], Lib.hid (by simpa [lftL] using g2), Below.refl _ _⟩
    case round =>
      obtain ⟨j, hj, rfl, rfl, HF, hbb⟩ := hrel
      obtain ⟨d0, _, _, d3, hbw⟩ := box4 hbb
      clear d0
      by_cases hlt : j < a.length
      · obtain ⟨b, o, rfl, ⟨c0, c1, c2, c3⟩, hx⟩ := (HL.out.below hbw).get hlt
        have HN := Lib.hid (lftL_next hlt (n - 1) (d - 1) HF.out)
        have HS := Lib.hid (lftL_stop hlt (n - 1) (d - 1) HF.out)
        have b1 : 0 ≤ lftL (a.take j) (n - 1) (d - 1) := HF.out
        have b2 : lftL (a.take j) (n - 1) (d - 1) ≤ 1000 := by
          have := (lft_facts.2 (a.take j) (n - 1) (d - 1) g2).2 b1
          omega
        have hm := getD_mem hlt
        have q1 := QI.out _ hm (lftL (a.take j) (n - 1) (d - 1)) (d - 1) wr hx (by omega) b2 (by omega) (by omega)
        have l1 := (lft_facts.1 (a.getD j default) (lftL (a.take j) (n - 1) (d - 1)) (d - 1)).1
        generalize a.getD j default = x at *
        have Q := Lib.hid q1
        clear q1 hm hx QI
        generalize lftL (a.take j) (n - 1) (d - 1) = L at *
        generalize x.lft L (d - 1) = N at *
        obtain ⟨k', n', s', A', c', a'⟩ := x
        simp only [Tm.kind, Tm.num, Tm.name, Tm.at_, Tm.args, Tm.cap] at c0 c1 c2 c3
        go_wp2_with fail
        refine (Q.out).mono ?_
        rintro e w2 ⟨rfl, hb3⟩
        by_cases hN : N < 0
        · have HE := Lib.hid (HS.out hN)
          clear HN HS
          go_wp2_with fail
          go_ret
          exact ⟨by rw [HU.out, HE.out]; rfl, hbw.trans (hb3.mono hbw.size)⟩
        · have hN' : 0 ≤ N := by omega
          have HE := Lib.hid HN.out
          rw [if_neg hN] at HE
          clear HN HS hN
          go_wp2_with fail
          go_roundw
          case rel => exact ⟨j + 1, by omega, by go_num, by rw [HE.out], Lib.hid (by rw [HE.out]; exact hN'), hbb.trans (hb3.mono hbb.size)⟩
          case measure => simp [intOf]; omega
      · obtain rfl : j = a.length := by omega
        clear QI
        have HE := Lib.hid (show lftL (a.take a.length) (n - 1) (d - 1) = lftL a (n - 1) (d - 1) by rw [List.take_length])
        rw [HE.out]
        go_wp2_with fail
        go_ret
        exact ⟨by rw [HU.out]; rfl, hbw⟩

theorem small_at (t : Tm) (w : World) (hat : t.At w) {r : Bool} (hr : decide (0 ≤ t.lft 1000 100) = r) :
    Calls Tryz.prog 7 #[t.val] w fun e w' => e = .returned (.bool r) ∧ Below w.heap.size w w' := by
  have B0 := Lib.hid (show ∀ o, Below w.heap.size w (w.alloc o) from fun o => (Below.refl _ _).alloc (Nat.le_refl _) o)
  have Q := Lib.hid (fun W (h : Below w.heap.size w W) => left_at t 1000 100 W (hat.below h) (by omega) (by omega) (by omega) (by omega))
  have HR := Lib.hid hr
  clear hat hr
  generalize t.lft 1000 100 = L at *
  obtain ⟨k, n, s, A, c, a⟩ := t
  show Calls Tryz.prog 7 #[.agg #[.int .i64 k, .int .i64 n, .string s, .slice A a.length c]] w _
  go_enter Tryz.func7, Tryz.ntmps7
  go_wp2_with fail
  refine (Q.out _ (B0.out _)).mono ?_
  rintro e w1 ⟨rfl, hb⟩
  go_wp2_with fail
  go_ret
  exact ⟨by rw [← HR.out]; rfl, (B0.out _).trans (hb.mono (by simp))⟩

/-! ### Few -/
def smallB (t : Tm) : Bool := decide (0 ≤ t.lft 1000 100)
def fewB (l : List Tm) : Bool := decide (l.length ≤ 40) && l.all smallB
theorem small_at' (t : Tm) (w : World) (hat : t.At w) : Calls Tryz.prog 7 #[t.val] w fun e w' => e = .returned (.bool (smallB t)) ∧ Below w.heap.size w w' := small_at t w hat rfl
theorem small_next {l : List Tm} {j : Nat} (h : j < l.length) : (l.take (j + 1)).all smallB = ((l.take j).all smallB && smallB (l.getD j default)) := by
  rw [ttake_next h, List.all_append, List.all_cons, List.all_nil, Bool.and_true]
theorem small_stop {l : List Tm} {k : Nat} (h : k < l.length) (hv : smallB (l.getD k default) = false) : l.all smallB = false := by
  rw [List.all_eq_false]
  exact ⟨_, getD_mem h, by rw [hv]; simp⟩
theorem small_le {t : Tm} (h : smallB t = true) : t.nodes ≤ 1000 := by have := small_nodes h; omega
theorem few_small {l : List Tm} (h : fewB l = true) : l.length ≤ 40 ∧ ∀ t ∈ l, smallB t = true := by
  unfold fewB at h
  simp only [Bool.and_eq_true, decide_eq_true_eq, List.all_eq_true] at h
  exact h
theorem nodesL_le {l : List Tm} {B : Nat} (h : ∀ t ∈ l, t.nodes ≤ B) : nodesL l ≤ l.length * B := by
  induction l with
  | nil => simp [nodesL]
  | cons t r ih =>
    simp only [nodesL, List.length_cons, Nat.succ_mul]
    have := h t (by simp)
    have := ih fun x hx => h x (by simp [hx])
    omega
theorem few_nodes {l : List Tm} (h : fewB l = true) : nodesL l ≤ 40000 := by
  obtain ⟨h1, h2⟩ := few_small h
  have := nodesL_le (B := 1000) fun t ht => small_le (h2 t ht)
  omega

end Go.Proofs.YtelkmnjoboekmaaGreat
namespace Go.Proofs.YtelkmnjoboekmaaGreat
open Go.RowKit

def fewBd (b : List Bd) : Bool := decide (b.length ≤ 30) && b.all fun x => smallB x.tm
theorem bsmall_next {l : List Bd} {j : Nat} (h : j < l.length) : ((l.take (j + 1)).all fun x => smallB x.tm) = (((l.take j).all fun x => smallB x.tm) && smallB (l.getD j default).tm) := by
  rw [btake_next h, List.all_append, List.all_cons, List.all_nil, Bool.and_true]
theorem bsmall_stop {l : List Bd} {k : Nat} (h : k < l.length) (hv : smallB (l.getD k default).tm = false) : (l.all fun x => smallB x.tm) = false := by
  rw [List.all_eq_false]
  exact ⟨_, bgetD_mem h, by rw [hv]; simp⟩
theorem fewBd_small {l : List Bd} (h : fewBd l = true) : l.length ≤ 30 ∧ ∀ x ∈ l, x.tm.nodes ≤ 1000 := by
  unfold fewBd at h
  simp only [Bool.and_eq_true, decide_eq_true_eq, List.all_eq_true] at h
  exact ⟨h.1, fun x hx => small_le (h.2 x hx)⟩
set_option maxHeartbeats 2000000 in
theorem few_bd_at (l : List Bd) (A : Option Addr) (c : Nat) (w : World) (hl : BLst w A l c) {r : Bool} (hr : fewBd l = r) :
    Calls Tryz.prog 6 #[.slice A l.length c] w fun e w' => e = .returned (.bool r) ∧ Below w.heap.size w w' := by
  have hlen := hl.len
  have HL := Lib.hid hl
  clear hl
  by_cases h40 : l.length ≤ 30
  · have hg : decide ((30 : Int) < (l.length : Int)) = false := by simp; omega
    have HR := Lib.hid (show (l.all fun x => smallB x.tm) = r by rw [← hr]; simp [fewBd, h40])
    clear hr
    go_enter Tryz.func6, Tryz.ntmps6
    go_wp2_with fail
    go_loopw [9] (fun i wr => ∃ j : Nat, j ≤ l.length ∧ i = .int .i64 j ∧ Hid (((l.take j).all fun x => smallB x.tm) = true) ∧ Below w.heap.size w wr) (fun i _ => l.length - (intOf i).toNat)
    case atStart => exact ⟨0, Nat.zero_le _, rfl, Lib.hid rfl, Below.refl _ _⟩
    case round =>
      obtain ⟨j, hj, rfl, HF, hbw⟩ := hrel
      by_cases hlt : j < l.length
      · obtain ⟨b, o, rfl, ⟨c0, c1, c2, c3, c4⟩, _, _⟩ := (HL.out.below hbw).get hlt
        have hx := ((HL.out.below hbw).mem (bgetD_mem hlt)).2
        have HN := Lib.hid (bsmall_next hlt)
        rw [HF.out, Bool.true_and] at HN
        have HS := Lib.hid (bsmall_stop hlt)
        generalize (l.getD j default).tm = x at *
        have Q := Lib.hid (small_at' x wr hx)
        clear hx c0
        generalize smallB x = N at *
        obtain ⟨k', n', s', A', c', a'⟩ := x
        simp only [Tm.kind, Tm.num, Tm.name, Tm.at_, Tm.args, Tm.cap] at c1 c2 c3 c4
        cases N
        · go_wp2_with fail
          refine (Q.out).mono ?_
          rintro e w2 ⟨rfl, hb3⟩
          go_wp2_with fail
          go_ret
          exact ⟨by rw [← HR.out, HS.out trivial]; rfl, hbw.trans (hb3.mono hbw.size)⟩
        · go_wp2_with fail
          refine (Q.out).mono ?_
          rintro e w2 ⟨rfl, hb3⟩
          go_wp2_with fail
          go_roundw
          case rel => exact ⟨j + 1, by omega, by go_num, HN, hbw.trans (hb3.mono hbw.size)⟩
          case measure => simp [intOf]; omega
      · obtain rfl : j = l.length := by omega
        have HE := Lib.hid (show true = r by rw [← HR.out, ← HF.out, List.take_length])
        go_wp2_with fail
        go_ret
        exact ⟨by rw [← HE.out]; rfl, hbw⟩
  · have hg : decide ((30 : Int) < (l.length : Int)) = true := by simp; omega
    have HR := Lib.hid (show false = r by rw [← hr]; simp [fewBd, h40])
    clear hr
    go_enter Tryz.func6, Tryz.ntmps6
    go_wp2_with fail
    go_ret
    exact ⟨by rw [← HR.out]; rfl, Below.refl _ _⟩
end Go.Proofs.YtelkmnjoboekmaaGreat
namespace Go.Proofs.YtelkmnjoboekmaaGreat
open Go.RowKit

/-- What term answers. -/
def TermO (G : List Nd) (top : Nat → Nat) (D i : Nat) (w : World) (e : Ending) (w' : World) : Prop :=
  ∃ u : Tm, e = .returned u.val ∧ u.strip = sol G top D i ∧ Lie Any w.heap.size No w' u ∧ Ext w w'
/-- In the loop: j arguments are built. -/
structure Terming (G : List Nd) (top : Nat → Nat) (D : Nat) (lk : List Nat) (w : World) (B : Nat) (kx nx : Int) (sx : ByteArray) (ov : Value) (ts : List Tm) (j : Nat) (wr : World) : Prop where
  fr : Ext w wr
  res : Held w.heap.size wr (.int .i64 0) (.int .i64 0) (.string ⟨#[]⟩) (.slice none 0 0)
  box : Held B wr (.int .i64 kx) (.int .i64 nx) (.string sx) ov
  row : RowT Any (B + 1) wr ov ts
  len : ts.length = j
  is : stripL ts = (lk.take j).map (sol G top D)
theorem Terming.next {D B j g cap : Nat} {ov : Value} {G : List Nd} {top : Nat → Nat} {lk : List Nat} {kx nx : Int} {sx : ByteArray} {ts : List Tm} {u : Tm} {w wr w2 w4 : World} {ob : Obj}
    (h : Terming G top D lk w B kx nx sx ov ts j wr) (hw : w.heap.size < B) (hj : j < lk.length) (hf2 : Ext wr w2) (hu : u.strip = sol G top D (lk.getD j 0)) (hl : Lie Any wr.heap.size No w2 u)
    (hown : w4.ownsRow (B + 1) 26 4 (.slice (some ⟨g, 0, none⟩) (ts.length + 1) cap) (ts.length + 1) (tcells ts ++ u.cells)) (hgr : (w2.alloc ob).grownBy w4 ov.ownBlock) (hat : ov.ownBlock = some g ∨ g = (w2.alloc ob).heap.size) :
    Terming G top D lk w B kx nx sx (.slice (some ⟨g, 0, none⟩) (ts.length + 1) cap) (ts ++ [u]) (j + 1) (w4.setCell ⟨B, 3, none⟩ (.slice (some ⟨g, 0, none⟩) (ts.length + 1) cap)) := by
  have hvl : ∀ b, ov.ownBlock = some b → B + 1 ≤ b ∧ b < wr.heap.size := fun b e => own_lt h.row.1 b e
  have hB := h.box.lt
  have row2 : RowT Any (B + 1) w2 ov ts := h.row.below hf2
  have hu2 : Lie Any (B + 1) (fun k => ov.ownBlock = some k) w2 u := lie_apart h.row.1 hl (by omega) (Nat.le_refl _)
  have row4 := RowT.next row2 hu2 (below1 w2 ob) hown hgr hat
  have hnv : ∀ b, b ≤ B → some b ≠ ov.ownBlock := fun b hb e => by have := (hvl b e.symm).1; omega
  have hset : w4.grownBy (w4.setCell ⟨B, 3, none⟩ (.slice (some ⟨g, 0, none⟩) (ts.length + 1) cap)) (some B) := fr_set (fr_refl _ _) rfl _
  have hf4 : FrX (fun b => w.heap.size ≤ b) w w4 := FrX.grow (FrX.of (((h.fr.trans hf2).trans (Ext.al _ ob)))) hgr fun b e _ => by have := (hvl b e).1; omega
  refine ⟨(hf4.set (p := ⟨B, 3, none⟩) (fun _ => by show w.heap.size ≤ B; omega) _).ext (Ext.refl w) (fun b e => e), ?_, ?_, ?_, by rw [List.length_append, h.len]; rfl, ?_⟩
  · exact (((h.res.below hf2).alloc ob).fr hgr (hnv _ (by omega))).other (p := ⟨B, 3, none⟩) (by show B ≠ w.heap.size; omega) _
  · exact (((h.box.below hf2).alloc ob).fr hgr (hnv _ (Nat.le_refl _))).set3 _
  · refine row4.fr hset fun b e => by injection e with e; omega
  · rw [nat_take_next hj, List.map_append, stripL_append, h.is]
    simp [stripL, hu]
set_option maxHeartbeats 8000000 in
set_option maxRecDepth 100000 in
theorem rterm_at {lo p : Nat} {Y : Nat → Prop} {zL zC : Value} {G : List Nd} {cls : List Nat} {E : List (Nat × Nat)} {rk : Nat → Nat} {D : Nat} (hc : Closed G E (topF G (clsR cls))) (hrk : Ranked G (topF G (clsR cls)) rk D) : ∀ (n i : Nat) (w : World), i < G.length → rk (topF G (clsR cls) i) < n → RG lo Y w p zL zC G cls →
    Calls Tryz.prog 118 #[.pointer (some ⟨p, 0, none⟩), .int .i64 (clsR cls i : Nat)] w (TermO G (topF G (clsR cls)) D i w) := by
  intro n
  induction n with
  | zero => intro i w _ h; omega
  | succ n ih =>
    intro i w hi hn h
    obtain ⟨q, c1, q2, c2, e1, e2, n1, n2, n3, n4, n5, n6, n7⟩ := h.form (by omega)
    subst e1 e2
    have hsm := h.small
    have HSE := Lib.hid (sol_eq hc hrk hi)
    have HRK := Lib.hid (hrk i hi)
    have htl := hc.lt i hi
    have HOKT := Lib.hid (hc.ok _ htl)
    have HFM := Lib.hid (fun j hj => (hc.ok j hj).form)
    have HG := Lib.hid h
    have HIH := Lib.hid ih
    have HN := Lib.hid hn
    have HG1 := Lib.hid (h.alloc (.cells #[.int .i64 0, .int .i64 0, .string ⟨#[]⟩, .slice none 0 0] 26))
    have hsp := (topC_spec (G := G) (root := clsR cls) hi rfl).2.2
    obtain ⟨cc, hcc⟩ : ∃ c, c = clsR cls i := ⟨_, rfl⟩
    have HTP := Lib.hid (show topF G (clsR cls) i = topC G (clsR cls) cc from by rw [hcc]; rfl)
    have HQ := Lib.hid (shape_at (c := cc) HG1.out)
    have HL := Lib.hid (least_at (c := cc) HG1.out HFM.out)
    rw [← hcc] at hsp ⊢
    have HCC := Lib.hid hcc
    clear h ih hn hcc hrk
    rcases shapeI_cases G (clsR cls) cc with ⟨s1, e1⟩ | ⟨m, s1, e1⟩
    · obtain ⟨hk1, hls⟩ := hsp s1
      rw [e1] at HQ
      have HE := Lib.hid (show ∀ v, LeastUp G (clsR cls) cc G.length v → sol G (topF G (clsR cls)) D i = vr v from fun v hv => by
        rw [HSE.out, HTP.out, if_pos hk1, hv.is hls])
      have HFV := Lib.hid (show ∀ v, LeastUp G (clsR cls) cc G.length v → Fits v from fun v hv => by
        have h1 := form_var (HOKT.out.form) (by rw [HTP.out]; exact hk1)
        rw [hv.is hls, ← HTP.out]
        unfold Fits
        omega)
      clear s1 e1 hsp hk1 hls
      go_enter Tryz.func118, Tryz.ntmps118
      go_wp2_with (first
        | (go_at_call 116; refine (HQ.out).mono ?_; rintro e w3 ⟨rfl, rfl⟩)
        | (go_at_call 117; refine (HL.out).mono ?_; rintro e w3 ⟨v, rfl, hv, rfl⟩))
      refine bodyPost_ret (v := .agg #[.int .i64 1, .int .i64 v, .string ⟨#[]⟩, .slice none 0 0]) (by simp [results, Tryz.results118, go_sem]) rfl ?_
      refine ⟨vr v, rfl, (HE.out v hv).symm, fun W _ _ => var_at W (HFV.out v hv), ?_⟩
      exact Ext.al _ _
    · have hml := (shapeOf_some s1).1
      have hkm := (shapeOf_some s1).2.2
      rw [e1] at HQ
      have htm : topF G (clsR cls) i = m := by rw [HTP.out, topC_shape s1]
      have HSM := Lib.hid (show sol G (topF G (clsR cls)) D i = .mk (nd G m).tm.kind (nd G m).tm.num (nd G m).tm.name none 0 ((nd G m).kids.map (sol G (topF G (clsR cls)) D)) from by rw [HSE.out, htm, if_neg hkm])
      have HRM := Lib.hid (show rk m < n + 1 ∧ ∀ c ∈ (nd G m).kids, rk (topF G (clsR cls) c) < rk m from by rw [← htm]; exact ⟨HN.out, HRK.out.2⟩)
      have HKM := Lib.hid (fun c hcc => (hc.ok m hml).mem (c := c) hcc)
      have c0 := HG.out.hl
      have c0x := al1 c0
      have c0y := al2 c0
      obtain ⟨d0, d1, d2, d3⟩ := HG.out.cells hml
      have d0x := al1 d0
      have d0y := al2 d0
      have d1x := al1 d1
      have d1y := al2 d1
      have d2x := al1 d2
      have d2y := al2 d2
      have gm0 : (0 : Int) ≤ (m : Int) := by omega
      have hkl : (nd G m).kids.length ≤ 2500000 := (HG.out.fine m hml).kids
      have HFI := Lib.hid (HG.out.fine m hml)
      obtain ⟨lk, hlk⟩ : ∃ l, l = (nd G m).kids := ⟨_, rfl⟩
      obtain ⟨tt, htt⟩ : ∃ l, l = (nd G m).tm := ⟨_, rfl⟩
      rw [← hlk] at HSM HRM HKM hkl d3
      rw [← htt] at HSM d0 d1 d2 d0x d1x d2x d0y d1y d2y
      have HFI := Lib.hid (show Fits tt.kind ∧ Fits tt.num ∧ tt.name.size ≤ maxLen from by rw [htt]; exact ⟨HFI.out.kind, HFI.out.num, HFI.out.name⟩)
      have HLK := Lib.hid hlk
      obtain ⟨kx, nx, sx, Ax, cx, lx⟩ := tt
      simp only [Tm.kind, Tm.num, Tm.name] at HSM HFI d0 d1 d2 d0x d1x d2x d0y d1y d2y
      obtain ⟨it, hit, iz0, iz1, iz2⟩ := info_parts term_info
      clear s1 e1 hsp hkm htm hlk htt HL HSE HRK HN HTP HFM HOKT
      have HT0 := Lib.hid (show Terming G (topF G (clsR cls)) D lk w (w.heap.size + 1) kx nx sx (.slice none 0 0) [] 0 ((w.alloc (.cells #[.int .i64 0, .int .i64 0, .string ⟨#[]⟩, .slice none 0 0] 26)).alloc (.cells #[.int .i64 kx, .int .i64 nx, .string sx, .slice none 0 0] 26)).drew from by
        obtain ⟨h1, h2⟩ := two_boxes w (.int .i64 0) (.int .i64 0) (.string ⟨#[]⟩) (.slice none 0 0) (.int .i64 kx) (.int .i64 nx) (.string sx) (.slice none 0 0) 26
        exact ⟨((Ext.al w _).trans (Ext.al _ _)).trans (Ext.drew _), h1.below (Below.refl _ _).drew, h2.below (Below.refl _ _).drew, RowT.nil _ _ _, rfl, rfl⟩)
      go_enter Tryz.func118, Tryz.ntmps118
      go_upto_region 4 with (first
        | (go_at_call 116; refine (HQ.out).mono ?_; rintro e w3 ⟨rfl, rfl⟩))
      go_cut [6] from 8 to 41 (fun s6 W => s6 = .pointer (some ⟨w.heap.size + 1, 0, none⟩) ∧ Hid (Terming G (topF G (clsR cls)) D lk w (w.heap.size + 1) kx nx sx (.slice none 0 0) [] 0 W))
      case first =>
        go_region
        go_wp2_with fail
        go_meet
        exact ⟨rfl, HT0⟩
      case rest =>
      obtain ⟨rfl, HT0'⟩ := hcut
      clear HT0 c0 c0x c0y d0 d0x d0y d1 d1x d1y d2 d2x d2y d3 HQ
      have HT0 := HT0'
      clear HT0'
      go_wp2_with fail
      go_loopw [7] (fun s7 wr => ∃ (j : Nat) (ov : Value) (ts : List Tm), j ≤ lk.length ∧ s7 = .int .i64 (j : Nat) ∧ Hid (Terming G (topF G (clsR cls)) D lk w (w.heap.size + 1) kx nx sx ov ts j wr)) (fun s7 _ => lk.length - (intOf s7).toNat)
      case atStart => exact ⟨0, _, [], Nat.zero_le _, rfl, HT0⟩
      case round =>
        clear HT0
        obtain ⟨j, ov, ts, hj, rfl, HT⟩ := hrel
        have HGR := Lib.hid (HG.out.ext HT.out.fr)
        have c0 := HGR.out.hl
        have c2 := HGR.out.hc
        have d3 := (HGR.out.cells hml).2.2.2
        rw [← HLK.out] at d3
        by_cases hlt : j < lk.length
        · obtain ⟨bk, ek, a1, a2, a3, a4⟩ := (HGR.out.kids m hml).cells (by rw [← HLK.out]; omega)
          have r1 := a4 j (by rw [← HLK.out]; exact hlt)
          rw [ek] at d3
          rw [← HLK.out] at r1
          obtain ⟨ck, hck⟩ : ∃ c, c = lk.getD j 0 := ⟨_, rfl⟩
          rw [← hck] at r1
          have hkm : ck ∈ lk := by rw [hck]; exact nat_getD_mem hlt
          have hkG : ck < G.length := HKM.out ck hkm
          have d4 := HGR.out.class hkG
          have Q1 := Lib.hid (HIH.out ck wr.drew hkG (by have h1 := HRM.out.2 ck hkm; have h2 := HRM.out.1; omega) HGR.out.drew)
          have q3 := HT.out.box.c3
          have htl : ts.length ≤ 2500000 := by have := HT.out.len; omega
          have hzB := HT.out.box.lt
          have HNX := Lib.hid (fun u w2 w4 g cap ob hf2 hu hl hown hgr hat => HT.out.next (u := u) (w2 := w2) (w4 := w4) (g := g) (cap := cap) (ob := ob) (Nat.lt_succ_self _) hlt hf2 (by rw [← hck]; exact hu) hl hown hgr hat)
          have HOW := Lib.hid (fun w2 (hf2 : Ext wr w2) => show RowT Any (w.heap.size + 1 + 1) w2 ov ts ∧ Held (w.heap.size + 1) w2 (.int .i64 kx) (.int .i64 nx) (.string sx) ov from ⟨HT.out.row.below hf2, HT.out.box.below hf2⟩)
          have HOL := Lib.hid (fun b e => own_lt HT.out.row.1 b e)
          clear a1 a2 a3 a4 ek hck hkm
          generalize clsR cls ck = cck at *
          go_wp2_with fail
          go_region_law (first
            | (go_simp; go_at_call 118; refine (Q1.out).mono ?_; rintro e w2 ⟨u, rfl, m1, m2, m3⟩; have m7 := Ext.undrew m3; have OW := Lib.hid (HOW.out w2 m7); have q4 := OW.out.2.c3; have hz4 := OW.out.2.lt; have hm8 := m7.size; have MM := Lib.hid (And.intro m1 (And.intro (show Lie Any wr.heap.size No w2 u from m2) m7)); clear m1 m2 m3 m7; obtain ⟨k2, n2, s2, A2, p2, a2⟩ := u)
            | (refine step_append_lies _ (by rfl) _ _ _ (by rfl) (w.heap.size + 1 + 1) 26 it _ 4 56 Tryz.underlying24 hit iz0 iz1 iz2 rfl (by omega) ov ts.length (tcells ts) (by rfl) (OW.out.1.1.alloc _) ⟨w2.heap.size, 0, none⟩ 1 1 [.int .i64 k2, .int .i64 n2, .string s2, .slice A2 a2.length p2] (by rfl) (by rfl) (World.news_of_block (cs := #[.int .i64 k2, .int .i64 n2, .string s2, .slice A2 a2.length p2]) (t := 26) (fr := (0, 0)) (heap_alloc_new w2 _)) (by simp [Value.oneCell']) (by omega) (by unfold maxLen; omega) (by omega) (by simp; omega) (w2.heap.size + 1) (by simp) ?_; intro g cp w4 hown hgrow hat hgl; have B4 := Lib.hid ((OW.out.2.alloc (.cells #[.int .i64 k2, .int .i64 n2, .string s2, .slice A2 a2.length p2] 26)).fr hgrow (fun e => by have := (HOL.out _ e.symm).1; omega)); have q5 := B4.out.c3; have f5 := B4.out.free 3; have hz5 := B4.out.lt))
          all_goals
            have HD := Lib.hid (HNX.out (.mk k2 n2 s2 A2 p2 a2) w2 w4 g cp _ MM.out.2.2 MM.out.1 MM.out.2.1 hown hgrow (by rcases hat with h | h; exact .inl h; exact .inr (by rw [h]; simp)))
            clear hown hgrow hat hgl B4 OW MM
            go_wp2_with fail
            go_roundw
            case rel => exact ⟨j + 1, _, _, by omega, by go_num, HD⟩
            case measure => simp [intOf]; omega
        · obtain rfl : j = lk.length := by omega
          obtain ⟨A9, c9, rfl, _⟩ := HT.out.row.form
          have HST := Lib.hid (show stripL ts = lk.map (sol G (topF G (clsR cls)) D) from by have := HT.out.is; rw [List.take_length] at this; exact this)
          have HLI := Lib.hid (fun W hW => HT.out.row.lies W trivial hW)
          have HFR := Lib.hid HT.out.fr
          obtain ⟨hz6, g0, g1, g2, g3, _⟩ := HT.out.box
          obtain ⟨hz4, e0, e1, e2, e3, ff⟩ := HT.out.res
          have f0 := ff 0
          have f1 := ff 1
          have f2 := ff 2
          have f3 := ff 3
          clear ff HT
          go_wp2_with fail
          refine bodyPost_ret (v := .agg #[.int .i64 kx, .int .i64 nx, .string sx, .slice A9 ts.length c9]) (by simp [results, Tryz.results118, go_sem, e0, e1, e2, e3]) rfl ?_
          have hset : wr.grownBy ((((wr.setCell ⟨w.heap.size, 0, none⟩ (.int .i64 kx)).setCell ⟨w.heap.size, 1, none⟩ (.int .i64 nx)).setCell ⟨w.heap.size, 2, none⟩ (.string sx)).setCell ⟨w.heap.size, 3, none⟩ (.slice A9 ts.length c9)) (some w.heap.size) :=
            fr_set (p := ⟨w.heap.size, 3, none⟩) (fr_set (p := ⟨w.heap.size, 2, none⟩) (fr_set (p := ⟨w.heap.size, 1, none⟩) (fr_set (p := ⟨w.heap.size, 0, none⟩) (fr_refl wr (some w.heap.size)) rfl _) rfl _) rfl _) rfl _
          refine ⟨.mk kx nx sx A9 c9 ts, rfl, ?_, lie_row (lo := w.heap.size + 1 + 1) HFI.out (fun W hW => HLI.out W fun b h1 h2 h3 => ?_) (by omega), (FrX.grow (X := fun b => w.heap.size ≤ b) (FrX.of HFR.out) hset (fun b e _ => by injection e with e; omega)).ext (Ext.refl w) (fun b e => e)⟩
          · simp only [Tm.strip]
            rw [HST.out, HSM.out]
          · exact (hW b h1 (Nat.lt_of_lt_of_le h2 hset.size) h3).trans (hset.block b h2 (fun e => by injection e with e; omega))
end Go.Proofs.YtelkmnjoboekmaaGreat
namespace Go.Proofs.YtelkmnjoboekmaaGreat
open Go.RowKit

/-- The bound variables among the first i nodes, in order. -/
structure Ins (G : List Nd) (top : Nat → Nat) (D : Nat) (w5 : World) (i : Nat) (A : Option Addr) (acc : List Bd) (c : Nat) (bd : List Nat) (wr : World) : Prop where
  bl : BLst wr A acc c
  ex : Ext w5 wr
  is : stripB acc = bindsOf G top D bd
  mem : ∀ m, m ∈ bd ↔ m < i ∧ (nd G m).tm.kind = 1 ∧ top m ≠ m
  pw : bd.Pairwise fun a b => (nd G a).tm.num < (nd G b).tm.num
section
variable {G : List Nd} {top : Nat → Nat} {D i c : Nat} {w5 wr w' : World} {A : Option Addr} {acc : List Bd} {bd : List Nat}
theorem Ins.start (G : List Nd) (top : Nat → Nat) (D : Nat) (w5 : World) : Ins G top D w5 0 none [] 0 [] w5 := ⟨BLst.nil _, Ext.refl _, rfl, fun m => by simp, List.Pairwise.nil⟩
theorem Ins.ext (h : Ins G top D w5 i A acc c bd wr) (e : Ext wr w') : Ins G top D w5 i A acc c bd w' := ⟨h.bl.below e, h.ex.trans e, h.is, h.mem, h.pw⟩
/-- Not bound. -/
theorem Ins.skip (h : Ins G top D w5 i A acc c bd wr) (hn : ¬ ((nd G i).tm.kind = 1 ∧ top i ≠ i)) : Ins G top D w5 (i + 1) A acc c bd wr :=
  ⟨h.bl, h.ex, h.is, fun m => by
    rw [h.mem m]
    constructor
    · rintro ⟨h1, h2⟩; exact ⟨by omega, h2⟩
    · rintro ⟨h1, h2⟩
      by_cases e : m = i
      · rw [e] at h2; exact absurd h2 hn
      · exact ⟨by omega, h2⟩, h.pw⟩
theorem Ins.bound (h : Ins G top D w5 G.length A acc c bd wr) : BoundIs G top bd := ⟨fun m => h.mem m, h.pw⟩
theorem Ins.len (h : Ins G top D w5 i A acc c bd wr) : acc.length = bd.length := by
  have := congrArg List.length h.is
  rw [stripB_len] at this
  simpa [bindsOf] using this
/-- The variable at place k. -/
theorem Ins.var (h : Ins G top D w5 i A acc c bd wr) {k : Nat} (hk : k < acc.length) : (acc.getD k default).var = (nd G (bd.getD k 0)).tm.num := by
  have hl := h.len
  have h1 := stripB_getD acc hk
  have h2 : (bindsOf G top D bd).getD k default = ⟨(nd G (bd.getD k 0)).tm.num, sol G top D (bd.getD k 0)⟩ := by
    simp [bindsOf, List.getD, show k < bd.length by omega]
  rw [h.is, h2] at h1
  have := congrArg Bd.var h1
  simpa [Bd.strip] using this.symm
theorem take_strip (acc : List Bd) (k : Nat) : stripB (acc.take k) = (stripB acc).take k := by simp [stripB, List.map_take]
theorem drop_strip (acc : List Bd) (k : Nat) : stripB (acc.drop k) = (stripB acc).drop k := by simp [stripB, List.map_drop]
/-- A binding is put in at place k. -/
theorem Ins.put (h : Ins G top D w5 i A acc c bd wr) (hv : VarU G) (hi : i < G.length) (hb : (nd G i).tm.kind = 1 ∧ top i ≠ i) {k : Nat} (hk : k ≤ acc.length) (h1 : ∀ m, m < k → (acc.getD m default).var < (nd G i).tm.num) (h2 : k < acc.length → ¬ (acc.getD k default).var < (nd G i).tm.num)
    {u : Tm} (hu : u.strip = sol G top D i) {A' : Option Addr} {c' : Nat} (hbl : BLst w' A' (acc.take k ++ [⟨(nd G i).tm.num, u⟩] ++ acc.drop k) c') (he : Ext w5 w') :
    Ins G top D w5 (i + 1) A' (acc.take k ++ [⟨(nd G i).tm.num, u⟩] ++ acc.drop k) c' (bd.take k ++ [i] ++ bd.drop k) w' := by
  have hl := h.len
  have hne : ∀ m ∈ bd, (nd G m).tm.num ≠ (nd G i).tm.num := fun m hm e => by
    have := (h.mem m).1 hm
    have := hv m i (by omega) hi this.2.1 hb.1 e
    omega
  have hlt : ∀ m ∈ bd.take k, (nd G m).tm.num < (nd G i).tm.num := fun m hm => by
    obtain ⟨j, hj, e⟩ := List.mem_iff_getElem.1 hm
    rw [List.length_take] at hj
    have h3 := h1 j (by omega)
    rw [h.var (by omega)] at h3
    rw [List.getElem_take] at e
    rwa [show bd.getD j 0 = m by simp [List.getD, show j < bd.length by omega, e]] at h3
  have hgt : ∀ m ∈ bd.drop k, (nd G i).tm.num < (nd G m).tm.num := fun m hm => by
    obtain ⟨j, hj, e⟩ := List.mem_iff_getElem.1 hm
    rw [List.length_drop] at hj
    have hk' : k < acc.length := by omega
    have h3 := h2 hk'
    rw [h.var hk'] at h3
    have hmem : bd.getD k 0 ∈ bd := nat_getD_mem (by omega)
    have h4 := hne _ hmem
    rw [List.getElem_drop] at e
    by_cases ej : j = 0
    · subst ej
      have : bd.getD k 0 = m := by
        simp only [Nat.add_zero] at e
        simp [List.getD, show k < bd.length by omega, e]
      rw [this] at h3 h4
      omega
    · have hp := List.pairwise_iff_getElem.1 h.pw k (k + j) (by omega) (by omega) (by omega)
      rw [e] at hp
      have : bd.getD k 0 = bd[k] := by simp [List.getD, show k < bd.length by omega]
      rw [this] at h3 h4
      omega
  refine ⟨hbl, he, ?_, fun m => ?_, ?_⟩
  · rw [stripB_append, stripB_append, take_strip, drop_strip, h.is]
    simp [stripB, bindsOf, Bd.strip, hu, List.map_take, List.map_drop]
  · have hsplit : m ∈ bd ↔ m ∈ bd.take k ∨ m ∈ bd.drop k := by rw [← List.mem_append, List.take_append_drop]
    simp only [List.mem_append, List.mem_singleton]
    constructor
    · rintro ((hm | rfl) | hm)
      · have := (h.mem m).1 (hsplit.2 (.inl hm)); exact ⟨by omega, this.2⟩
      · exact ⟨by omega, hb⟩
      · have := (h.mem m).1 (hsplit.2 (.inr hm)); exact ⟨by omega, this.2⟩
    · rintro ⟨hm, hm2⟩
      by_cases e : m = i
      · exact .inl (.inr e)
      · rcases hsplit.1 ((h.mem m).2 ⟨by omega, hm2⟩) with h3 | h3
        · exact .inl (.inl h3)
        · exact .inr h3
  · rw [List.append_assoc, List.pairwise_append]
    refine ⟨h.pw.sublist (List.take_sublist k bd), ?_, fun a ha b hb' => ?_⟩
    · rw [List.singleton_append, List.pairwise_cons]
      exact ⟨hgt, h.pw.sublist (List.drop_sublist k bd)⟩
    · rcases List.mem_append.1 hb' with hb' | hb'
      · rw [List.mem_singleton.1 hb']; exact hlt a ha
      · exact Int.lt_trans (hlt a ha) (hgt b hb')
end
/-- A node that is bound is too large. -/
theorem sol_large {G : List Nd} {E : List (Nat × Nat)} {top r : Nat → Nat} {D i : Nat} {F : List (Tm × Tm)} (h : Closed G E top) (hr : Ranked G top r D) (hF : ∀ f, Unif F f ↔ ∀ p ∈ E, ndv f G p.1 = ndv f G p.2) (hi : i < G.length) (hb : (nd G i).tm.kind = 1 ∧ top i ≠ i) (hs : ¬ ((sol G top D i).size ≤ 200 ∧ (sol G top D i).depth ≤ 20)) : Out F [] 6 := by
  obtain ⟨bd, hbd⟩ := bound_exists (top := top) h.varu
  refine .inr ⟨_, closed_sol h hr hbd hF, .inr ⟨?_, rfl, rfl⟩⟩
  rw [Bool.eq_false_iff]
  intro ha
  have h1 := List.all_eq_true.1 ha ⟨(nd G i).tm.num, sol G top D i⟩ (List.mem_map.2 ⟨i, (hbd.1 i).2 ⟨hi, hb⟩, rfl⟩)
  unfold Tm.right at h1
  simp only [Bool.and_eq_true, decide_eq_true_eq] at h1
  exact hs h1.2
/-- None is. -/
theorem sol_fine {G : List Nd} {E : List (Nat × Nat)} {top r : Nat → Nat} {D : Nat} {F : List (Tm × Tm)} {bd : List Nat} (h : Closed G E top) (hr : Ranked G top r D) (hF : ∀ f, Unif F f ↔ ∀ p ∈ E, ndv f G p.1 = ndv f G p.2) (hb : BoundIs G top bd) (hs : ∀ i ∈ bd, (sol G top D i).size ≤ 200 ∧ (sol G top D i).depth ≤ 20) : Out F (bindsOf G top D bd) 0 := by
  refine .inr ⟨_, closed_sol h hr hb hF, .inl ⟨?_, rfl, rfl⟩⟩
  refine List.all_eq_true.2 fun x hx => ?_
  obtain ⟨i, hi, rfl⟩ := List.mem_map.1 hx
  unfold Tm.right
  simp only [Bool.and_eq_true, decide_eq_true_eq]
  exact ⟨(sol_form h hr i ((hb.1 i).1 hi).1).2, hs i hi⟩
end Go.Proofs.YtelkmnjoboekmaaGreat
namespace Go.Proofs.YtelkmnjoboekmaaGreat
open Go.RowKit

theorem ins_at {x : Bd} : ∀ {l : List Bd} {k : Nat}, k ≤ l.length → (∀ i, i < k → (l.getD i default).var < x.var) → (k < l.length → ¬ (l.getD k default).var < x.var) → insB x l = l.take k ++ [x] ++ l.drop k := by
  intro l
  induction l with
  | nil =>
    intro k hk _ _
    obtain rfl : k = 0 := by simpa using hk
    rfl
  | cons y r ih =>
    intro k hk h1 h2
    cases k with
    | zero =>
      have := h2 (by simp)
      simp only [List.getD_cons_zero] at this
      simp only [insB, if_neg this, List.take_zero, List.drop_zero, List.nil_append, List.singleton_append]
    | succ k =>
      have h0 := h1 0 (by omega)
      simp only [List.getD_cons_zero] at h0
      simp only [insB, if_pos h0, List.take_succ_cons, List.drop_succ_cons, List.cons_append]
      rw [ih (by simpa using hk) (fun i hi => by simpa using h1 (i + 1) (by omega)) (fun hk => by simpa using h2 (by simpa using hk))]

/-- append onto a row of the call's own, of whatever there is (nothing, too). -/
theorem wpList_append_b {ops : Array Oper} {rest : List Oper} {o : Oper} {a : Act} {Q : Exit → Act → World → Prop} {w : World} (hgd : o.guard = none) (s x : Operand)
    (ho : o.op = .call { callee := .builtin .append, args := #[s, x], argTypes := #[23, 23] })
    (base : Nat) (g n cap : Nat) (xs : List Value) (hs : a.eval s = .slice (some ⟨g, 0, none⟩) n cap) (hown : w.ownsRow base 41 5 (.slice (some ⟨g, 0, none⟩) n cap) n xs)
    (A : Option Addr) (m c : Nat) (news : List Value) (hx : a.eval x = .slice A m c) (hl : news.length = m * 5) (hA : A = none → m = 0) (hnews : ∀ ad, A = some ad → ∀ j u, news[j]? = some u → w.cell? (ad.add j) = some u) (h1 : ∀ u ∈ news, u.oneCell' = true)
    (hb : n + m ≤ 2000001) (hbase : base ≤ w.heap.size)
    (h : ∀ g' cap' w', w'.ownsRow base 41 5 (.slice (some ⟨g', 0, none⟩) (n + m) cap') (n + m) (xs ++ news) → w.grownBy w' (some g) → (some g = some g' ∨ g' = w.heap.size) → wpList Tryz.prog ops Q rest (a.put o.dst (.slice (some ⟨g', 0, none⟩) (n + m) cap')) w') :
    wpList Tryz.prog ops Q (o :: rest) a w := by
  obtain ⟨i0, hi, hz0, hz1, hz2⟩ := info_parts bind_info
  have ht : Tryz.prog.underlying 23 = some (.slice 41) := Tryz.underlying23
  refine wpList_plain hgd fun K hK => ?_
  have hrun : ∃ g' cap' w', (Builtin.append_ #[23, 23] o.type #[.slice (some ⟨g, 0, none⟩) n cap, .slice A m c]).run Tryz.prog w = .ok (.slice (some ⟨g', 0, none⟩) (n + m) cap') w' ∧
      w'.ownsRow base 41 5 (.slice (some ⟨g', 0, none⟩) (n + m) cap') (n + m) (xs ++ news) ∧ w.grownBy w' (some g) ∧ (some g = some g' ∨ g' = w.heap.size) := by
    cases A with
    | none =>
      obtain rfl : m = 0 := hA rfl
      obtain rfl : news = [] := List.length_eq_zero_iff.1 (by simpa using hl)
      have hcap : n + 0 ≤ cap := by
        rcases hown.2 with ⟨e, _⟩ | ⟨_, _, _, e, _, _, hle, _⟩
        · injection e with e; cases e
        · injection e with _ _ e3
          subst e3
          omega
      have hr := run_append_room_src (P := Tryz.prog) w 23 23 o.type 41 i0 ht hi g 0 n cap (.slice none 0 c) 0 [] (Src.ofNil w ht c) hcap (fun j hj => by simp at hj) (fun j hj => by simp at hj)
      refine ⟨g, cap, w, hr, ?_, ⟨rfl, rfl, rfl, Nat.le_refl _, fun _ _ _ => rfl⟩, .inl rfl⟩
      rw [List.append_nil]
      exact hown
    | some ad =>
      obtain ⟨v', w', hr, h2, h3, h4, h5⟩ := run_append_own_at (P := Tryz.prog) w base 23 o.type 41 i0 _ 5 64 ht hi hz0 hz1 hz2 rfl (by decide) _ n xs hown ad m c news hl (hnews ad rfl) h1 (by unfold maxLen; omega) (by omega) hbase
      rcases h2.2 with ⟨e, _⟩ | ⟨g', cap', cur, e, _⟩
      · have := (h4.1 e).1
        injection this with this; cases this
      · subst e
        refine ⟨g', cap', w', hr, h2, h3, ?_⟩
        rcases h5 with h5 | h5
        · exact .inl h5.symm
        · exact .inr (by simpa [Value.ownBlock] using h5)
  obtain ⟨g', cap', w', hr, h2, h3, h4⟩ := hrun
  unfold Oper.wp execOp
  simp only [ho, resolve, invoke, builtin, Sem.run_bind, Sem.run_pure, Result.andThen_ok, List.map_toArray, List.map_cons, List.map_nil, hs, hx, hr]
  exact hK _ _ (h g' cap' w' h2 h3 h4)
theorem RowB.of_own {B : World → Prop} {lo g n cap : Nat} {w w' : World} {xs : List Value} {l : List Bd} (hown : w'.ownsRow lo 41 5 (.slice (some ⟨g, 0, none⟩) n cap) n xs) (hx : xs = bcells l) (hn : n = l.length) (he : ∀ x ∈ l, Fits x.var ∧ Lie B lo No w x.tm) (hb : Below w.heap.size w w') (hg : w.heap.size ≤ g) : RowB B lo w' (.slice (some ⟨g, 0, none⟩) n cap) l := by
  subst hx hn
  refine ⟨hown, fun x hx => ⟨(he x hx).1, ((he x hx).2.out (X := fun k => (Value.slice (some ⟨g, 0, none⟩) l.length cap).ownBlock = some k) fun b _ h2 h3 => ?_).below hb⟩⟩
  have : g = b := by simpa [Value.ownBlock] using h3
  omega
/-- The cells of a part of a list. -/
theorem BLst.part {w : World} {b o c : Nat} {l : List Bd} (h : BLst w (some ⟨b, o, none⟩) l c) (k m : Nat) (hkm : k + m ≤ l.length) : ∀ j u, (bcells ((l.drop k).take m))[j]? = some u → w.cell? ⟨b, o + k * 5 + j, none⟩ = some u := by
  intro j u hu
  have hlen : ((l.drop k).take m).length = m := by simp; omega
  have hj : j < m * 5 := by
    have := (List.getElem?_eq_some_iff.1 hu).1
    rwa [bcells_len, hlen] at this
  have h5 : j = (j / 5) * 5 + j % 5 := by omega
  have hi : j / 5 < m := by omega
  have hu' : (bcells ((l.drop k).take m))[j / 5 * 5 + j % 5]? = some u := by rw [← h5]; exact hu
  rw [bcells_get _ (by omega) (by omega)] at hu'
  have e : ((l.drop k).take m).getD (j / 5) default = l.getD (k + j / 5) default := by
    simp [List.getD, hi, List.getElem?_drop]
  rw [e] at hu'
  obtain ⟨b', o', e', hr⟩ := h.2.2 (by omega)
  injection e' with e'
  injection e' with e1 e2 _
  subst e1 e2
  have hc := (hr (k + j / 5) (by omega)).1 (j % 5) u hu'
  have e3 : o + k * 5 + j = o + (k + j / 5) * 5 + j % 5 := by omega
  rw [e3]
  exact hc

/-- What into hands out. -/
def IntoR (w0 : World) (l : List Bd) (u : Bd) (w : World) (e : Ending) (w' : World) : Prop :=
  ∃ A' c', e = .returned (.slice A' (l.length + 1) c') ∧ RowB (From w0) w0.heap.size w' (.slice A' (l.length + 1) c') (insB u l) ∧ Below w.heap.size w w'
theorem insB_len (u : Bd) (l : List Bd) : (insB u l).length = l.length + 1 := by simpa using (insB_perm u l).length_eq
theorem bcells_ones (l : List Bd) : ∀ v ∈ bcells l, v.oneCell' = true := by
  intro v hv
  obtain ⟨x, _, hx⟩ := List.mem_flatMap.1 hv
  exact bcells_one x v hx
theorem BLst.take_cells {w : World} {b o c : Nat} {l : List Bd} (h : BLst w (some ⟨b, o, none⟩) l c) {k : Nat} (hk : k ≤ l.length) : ∀ ad, (some ⟨b, o, none⟩ : Option Addr) = some ad → ∀ j u, (bcells (l.take k))[j]? = some u → w.cell? (ad.add j) = some u := by
  intro ad e j u hu
  injection e with e
  subst e
  have := h.part 0 k (by omega) j u (by simpa using hu)
  rw [add_plain]
  simpa using this
theorem BLst.drop_cells {w : World} {b o c : Nat} {l : List Bd} (h : BLst w (some ⟨b, o, none⟩) l c) {k : Nat} (hk : k ≤ l.length) : ∀ ad, (some ⟨b, o + k * 5, none⟩ : Option Addr) = some ad → ∀ j u, (bcells (l.drop k))[j]? = some u → w.cell? (ad.add j) = some u := by
  intro ad e j u hu
  injection e with e
  subst e
  have := h.part k (l.length - k) (by omega) j u (by rw [List.take_of_length_le (by simp)]; exact hu)
  rw [add_plain]
  exact this

/-- The states behind the three appends. -/
theorem into_one {w wr : World} {cs : Array Value} {T : TypeId} {nq b k g1 cap1 : Nat} {w1 : World} {xs : List Value} (HWD : Below (w.alloc (.cells cs T)).heap.size (w.alloc (.cells cs T)) (wr.drewN nq)) (hsw : w.heap.size + 1 ≤ wr.heap.size)
    (hown1 : w1.ownsRow b 41 5 (.slice (some ⟨g1, 0, none⟩) (0 + k) cap1) (0 + k) ([] ++ xs)) (hg1 : ((wr.drewN nq).alloc (.cells #[] 41)).grownBy w1 (some wr.heap.size)) (hat1 : some wr.heap.size = some g1 ∨ g1 = ((wr.drewN nq).alloc (.cells #[] 41)).heap.size) :
    w.heap.size + 1 ≤ w1.heap.size ∧ w.heap.size + 1 ≤ g1 ∧ Hid (w1.ownsRow b 41 5 (.slice (some ⟨g1, 0, none⟩) k cap1) k xs) ∧ Hid (Below (w.alloc (.cells cs T)).heap.size (w.alloc (.cells cs T)) w1) := by
  rw [Nat.zero_add, List.nil_append] at hown1
  have hb := (HWD.alloc HWD.size _).grown hg1 (by simp; omega) (fun k hk => by injection hk with hk; simp; omega)
  refine ⟨by have := hb.size; simpa using this, ?_, Lib.hid hown1, Lib.hid hb⟩
  rcases hat1 with h | h
  · injection h with h; omega
  · rw [h]; simp; omega
theorem into_two {w w1 w2 : World} {b n g1 g2 cap2 : Nat} {o : Obj} {xs : List Value} (hb : Below w.heap.size w w1) (hg1' : w.heap.size + 1 ≤ g1) (hown2 : w2.ownsRow b 41 5 (.slice (some ⟨g2, 0, none⟩) n cap2) n xs) (hg2 : (w1.alloc o).grownBy w2 (some g1)) (hat2 : some g1 = some g2 ∨ g2 = (w1.alloc o).heap.size) :
    w.heap.size ≤ w2.heap.size ∧ w.heap.size + 1 ≤ g2 ∧ Hid (w2.ownsRow b 41 5 (.slice (some ⟨g2, 0, none⟩) n cap2) n xs) ∧ Hid (Below w.heap.size w w2) := by
  have hs := hb.size
  have hb2 := (hb.alloc hb.size o).grown hg2 (by simp; omega) (fun k hk => by injection hk with hk; omega)
  refine ⟨hb2.size, ?_, Lib.hid hown2, Lib.hid hb2⟩
  rcases hat2 with h | h
  · injection h with h; omega
  · rw [h]; simp; omega
theorem into_three {w w2 w3 : World} {B : World → Prop} {lo n m g2 g3 cap3 : Nat} {xs : List Value} {l : List Bd} (hb : Below w.heap.size w w2) (hs2 : w.heap.size ≤ w2.heap.size) (hg2' : w.heap.size + 1 ≤ g2) (hnm : n = m) (hown3 : w3.ownsRow lo 41 5 (.slice (some ⟨g3, 0, none⟩) n cap3) n xs) (hg3 : w2.grownBy w3 (some g2)) (hat3 : some g2 = some g3 ∨ g3 = w2.heap.size)
    (hl : l.length = m) (he : ∀ x ∈ l, Fits x.var ∧ Lie B lo No w x.tm) (hx : xs = bcells l) : Hid (RowB B lo w3 (.slice (some ⟨g3, 0, none⟩) m cap3) l) ∧ Hid (Below w.heap.size w w3) := by
  subst hnm
  have hb3 := hb.grown hg3 hs2 (fun k hk => by injection hk with hk; omega)
  refine ⟨Lib.hid (RowB.of_own hown3 hx hl.symm he hb3 ?_), Lib.hid hb3⟩
  rcases hat3 with h | h
  · injection h with h; omega
  · rw [h]; exact hs2

end Go.Proofs.YtelkmnjoboekmaaGreat
namespace Go.Proofs.YtelkmnjoboekmaaGreat
open Go.RowKit

theorem run_append_none {P : Program} {w : World} (t ty e : TypeId) (i : TypeInfo) (ht : P.underlying t = some (.slice e)) (hi : P.info? e = some i) (c : Nat) :
    (Builtin.append_ #[t, t] ty #[.slice none 0 0, .slice none 0 c]).run P w = .ok (.slice none 0 0) w := by
  simp [Builtin.append_, run_underlying ht, sizeOf, typeInfo, hi, Builtin.lenOf, run_firstCells_none]
theorem wpList_append_z {ops : Array Oper} {rest : List Oper} {o : Oper} {a : Act} {Q : Exit → Act → World → Prop} {w : World} (hgd : o.guard = none) (s x : Operand)
    (ho : o.op = .call { callee := .builtin .append, args := #[s, x], argTypes := #[23, 23] })
    (base : Nat) (z : Value) (n : Nat) (xs : List Value) (hs : a.eval s = z) (hown : w.ownsRow base 41 5 z n xs)
    (A : Option Addr) (m c : Nat) (news : List Value) (hx : a.eval x = .slice A m c) (hl : news.length = m * 5) (hA : A = none → m = 0) (hnews : ∀ ad, A = some ad → ∀ j u, news[j]? = some u → w.cell? (ad.add j) = some u) (h1 : ∀ u ∈ news, u.oneCell' = true)
    (hb : n + m ≤ 5000001) (hbase : base ≤ w.heap.size)
    (h : ∀ z' w', w'.ownsRow base 41 5 z' (n + m) (xs ++ news) → w.grownBy w' z.ownBlock → wpList Tryz.prog ops Q rest (a.put o.dst z') w') :
    wpList Tryz.prog ops Q (o :: rest) a w := by
  obtain ⟨i0, hi, hz0, hz1, hz2⟩ := info_parts bind_info
  have ht : Tryz.prog.underlying 23 = some (.slice 41) := Tryz.underlying23
  refine wpList_plain hgd fun K hK => ?_
  have hrun : ∃ z' w', (Builtin.append_ #[23, 23] o.type #[z, .slice A m c]).run Tryz.prog w = .ok z' w' ∧
      w'.ownsRow base 41 5 z' (n + m) (xs ++ news) ∧ w.grownBy w' z.ownBlock := by
    cases A with
    | none =>
      obtain rfl : m = 0 := hA rfl
      obtain rfl : news = [] := List.length_eq_zero_iff.1 (by simpa using hl)
      have hown0 := hown
      rcases hown.2 with ⟨rfl, _⟩ | ⟨g, cap, cur, rfl, _, _, hle, _⟩
      · refine ⟨_, w, run_append_none _ _ _ i0 ht hi c, ?_, ⟨rfl, rfl, rfl, Nat.le_refl _, fun _ _ _ => rfl⟩⟩
        rw [List.append_nil]; exact hown0
      · have hr := run_append_room_src (P := Tryz.prog) w 23 23 o.type 41 i0 ht hi g 0 n cap (.slice none 0 c) 0 [] (Src.ofNil w ht c) (by omega) (fun j hj => by simp at hj) (fun j hj => by simp at hj)
        refine ⟨_, w, hr, ?_, ⟨rfl, rfl, rfl, Nat.le_refl _, fun _ _ _ => rfl⟩⟩
        rw [List.append_nil]; exact hown0
    | some ad =>
      obtain ⟨v', w', hr, h2, h3, _, _⟩ := run_append_own_at (P := Tryz.prog) w base 23 o.type 41 i0 _ 5 64 ht hi hz0 hz1 hz2 rfl (by decide) _ n xs hown ad m c news hl (hnews ad rfl) h1 (by unfold maxLen; omega) (by omega) hbase
      exact ⟨v', w', hr, h2, h3⟩
  obtain ⟨z', w', hr, h2, h3⟩ := hrun
  unfold Oper.wp execOp
  simp only [ho, resolve, invoke, builtin, Sem.run_bind, Sem.run_pure, Result.andThen_ok, List.map_toArray, List.map_cons, List.map_nil, hs, hx, hr]
  exact hK _ _ (h z' w' h2 h3)

/-- A list of bindings in a row that was made behind the world w7; what they hold lay there before. -/
structure Cat (w7 : World) (z : Value) (l : List Bd) (W : World) : Prop where
  own : W.ownsRow w7.heap.size 41 5 z l.length (bcells l)
  ex : Ext w7 W
  tm : ∀ x ∈ l, Fits x.var ∧ x.tm.At w7
section
variable {w7 W W' : World} {z z' : Value} {l m : List Bd}
theorem Cat.nil (h : Ext w7 W) : Cat w7 (.slice none 0 0) [] W := ⟨⟨rfl, .inl ⟨rfl, rfl⟩⟩, h, fun x hx => by cases hx⟩
theorem Cat.al (h : Cat w7 z l W) (o : Obj) : Cat w7 z l (W.alloc o) := ⟨h.own.alloc _, h.ex.trans (Ext.al _ _), h.tm⟩
theorem Cat.app {n : Nat} {xs : List Value} (h : Cat w7 z l W) (hm : ∀ x ∈ m, Fits x.var ∧ x.tm.At w7) (hown : W'.ownsRow w7.heap.size 41 5 z' n xs) (hn : n = l.length + m.length) (hx : xs = bcells l ++ bcells m) (hg : W.grownBy W' z.ownBlock) : Cat w7 z' (l ++ m) W' := by
  refine ⟨?_, ?_, fun x hx => ?_⟩
  · rw [List.length_append, bcells_append, ← hn, ← hx]; exact hown
  · exact (FrX.grow (X := fun b => w7.heap.size ≤ b) (FrX.of h.ex) hg fun b e _ => (own_lt h.own b e).1).ext (Ext.refl w7) fun b e => e
  · rcases List.mem_append.1 hx with hx | hx
    · exact h.tm x hx
    · exact hm x hx
theorem Cat.form (h : Cat w7 z l W) : ∃ A c, z = .slice A l.length c ∧ (l = [] ∨ ∃ g, A = some ⟨g, 0, none⟩) := by
  rcases h.own.2 with ⟨rfl, h1⟩ | ⟨g, cap, cur, rfl, _⟩
  · exact ⟨none, 0, by rw [h1], .inl (List.length_eq_zero_iff.1 h1)⟩
  · exact ⟨_, cap, rfl, .inr ⟨g, rfl⟩⟩
theorem Cat.blst {A : Option Addr} {c : Nat} (h : Cat w7 (.slice A l.length c) l W) : BLst W A l c := by
  have hl := bcells_len l
  rcases h.own.2 with ⟨e, h1⟩ | ⟨g, cap, cur, e, hb, hg, hle, hcap, hcs, hcur⟩
  · injection e with e1 _ e3
    obtain rfl : l = [] := List.length_eq_zero_iff.1 h1
    rw [e1, e3]; exact BLst.nil W
  · injection e with e1 _ e3
    subst e1 e3
    refine ⟨hle, hcap, fun h0 => ⟨g, 0, rfl, fun i hi => ⟨fun j u hu => ?_, (h.tm _ (bgetD_mem hi)).1, (h.tm _ (bgetD_mem hi)).2.below h.ex⟩⟩⟩
    have hj := bcells_lt hu
    have hc := World.ownsRow.cellAt h.own (i * 5 + j) (by omega)
    rw [Nat.zero_add, hc]
    exact (bcells_get l hi hj).trans hu
end
/-- A box of a binding. -/
structure BoxB (w : World) (B : Nat) (v : Int) (u : Tm) (W : World) : Prop where
  ex : Ext w W
  lo : w.heap.size ≤ B
  lt : B < W.heap.size
  c0 : W.cell? ⟨B, 0, none⟩ = some (.int .i64 v)
  c1 : W.cell? ⟨B, 1, none⟩ = some (.int .i64 u.kind)
  c2 : W.cell? ⟨B, 2, none⟩ = some (.int .i64 u.num)
  c3 : W.cell? ⟨B, 3, none⟩ = some (.string u.name)
  c4 : W.cell? ⟨B, 4, none⟩ = some (.slice u.at_ u.args.length u.cap)
  tm : u.At W
theorem BoxB.below {w W W' : World} {B : Nat} {v : Int} {u : Tm} (h : BoxB w B v u W) (e : Ext W W') : BoxB w B v u W' :=
  ⟨h.ex.trans e, h.lo, Nat.lt_of_lt_of_le h.lt e.size, keepv e h.c0, keepv e h.c1, keepv e h.c2, keepv e h.c3, keepv e h.c4, h.tm.below e⟩
theorem BoxB.fresh {w w2 : World} {v k n : Int} {s : ByteArray} {A : Option Addr} {c : Nat} {a : List Tm} (h : Ext w w2) (hu : (Tm.mk k n s A c a).At w2) (T : TypeId) : BoxB w w2.heap.size v (.mk k n s A c a) (w2.alloc (.cells #[.int .i64 v, .int .i64 k, .int .i64 n, .string s, .slice A a.length c] T)) :=
  ⟨h.trans (Ext.al _ _), h.size, by simp, World.cell?_alloc_at _ _ _ _ rfl, World.cell?_alloc_at _ _ _ _ rfl, World.cell?_alloc_at _ _ _ _ rfl, World.cell?_alloc_at _ _ _ _ rfl, World.cell?_alloc_at _ _ _ _ rfl, hu.below (Ext.al _ _)⟩
theorem five_facts {u v : World} {T : TypeId} {x0 x1 x2 x3 x4 : Value} {H : Nat} (hH : u.heap.size = H) (h : Ext (u.alloc (.cells #[x0, x1, x2, x3, x4] T)) v) :
    (v.cell? ⟨H, 0, none⟩ = some x0 ∧ v.cell? ⟨H, 1, none⟩ = some x1 ∧ v.cell? ⟨H, 2, none⟩ = some x2 ∧ v.cell? ⟨H, 3, none⟩ = some x3 ∧ v.cell? ⟨H, 4, none⟩ = some x4) ∧
      (∀ j, v.frozen? ⟨H, j, none⟩ = false) ∧ H < v.heap.size := by
  subst hH
  have hs := h.size
  rw [World.size_alloc] at hs
  refine ⟨⟨h.row 0, h.row 1, h.row 2, h.row 3, h.row 4⟩, fun j => ?_, by omega⟩
  exact (World.frozen?_of_block (h.block u.heap.size (by simp))).trans (World.frozen?_alloc_at _ _ _ _ rfl)
theorem set_keep {W : World} {B j k : Nat} {v x : Value} (h : W.cell? ⟨B, j, none⟩ = some x) (hne : k ≠ j) : (W.setCell ⟨B, k, none⟩ v).cell? ⟨B, j, none⟩ = some x := by
  rw [World.cell?_setCell_other _ _ _ _ (fun e => by injection e with _ e _; omega)]; exact h
theorem set_same {W : World} {B j : Nat} {v x : Value} (h : W.cell? ⟨B, j, none⟩ = some x) : (W.setCell ⟨B, j, none⟩ v).cell? ⟨B, j, none⟩ = some v := World.cell?_setCell_same' _ _ _ (by rw [h]; rfl)
theorem BoxB.stored {w u w2 : World} {T : TypeId} {x0 x1 x2 x3 x4 : Value} {v k n : Int} {s : ByteArray} {A : Option Addr} {c : Nat} {a : List Tm} {H : Nat} (hH : u.heap.size = H) (hw : Ext w u) (h : Ext (u.alloc (.cells #[x0, x1, x2, x3, x4] T)) w2) (hu : Lie Any (u.alloc (.cells #[x0, x1, x2, x3, x4] T)).heap.size No w2 (.mk k n s A c a)) :
    BoxB w H v (.mk k n s A c a) (((((w2.setCell ⟨H, 0, none⟩ (.int .i64 v)).setCell ⟨H, 1, none⟩ (.int .i64 k)).setCell ⟨H, 2, none⟩ (.int .i64 n)).setCell ⟨H, 3, none⟩ (.string s)).setCell ⟨H, 4, none⟩ (.slice A a.length c)) := by
  subst hH
  obtain ⟨⟨c0, c1, c2, c3, c4⟩, _, hz⟩ := five_facts rfl h
  have hs := hw.size
  have hl : ∀ j, (⟨u.heap.size, j, none⟩ : Addr).block < (u.alloc (.cells #[x0, x1, x2, x3, x4] T)).heap.size ∨ No (⟨u.heap.size, j, none⟩ : Addr).block := fun j => .inl (by simp)
  refine ⟨?_, hs, by simpa [World.setCell] using hz, ?_, ?_, ?_, ?_, ?_, ?_⟩
  · exact (((((hw.trans ((Ext.al _ _).trans h)).setCell (p := ⟨u.heap.size, 0, none⟩) hs _).setCell (p := ⟨u.heap.size, 1, none⟩) hs _).setCell (p := ⟨u.heap.size, 2, none⟩) hs _).setCell (p := ⟨u.heap.size, 3, none⟩) hs _).setCell (p := ⟨u.heap.size, 4, none⟩) hs _
  · exact set_keep (set_keep (set_keep (set_keep (set_same c0) (by omega)) (by omega)) (by omega)) (by omega)
  · exact set_keep (set_keep (set_keep (set_same (set_keep c1 (by omega))) (by omega)) (by omega)) (by omega)
  · exact set_keep (set_keep (set_same (set_keep (set_keep c2 (by omega)) (by omega))) (by omega)) (by omega)
  · exact set_keep (set_same (set_keep (set_keep (set_keep c3 (by omega)) (by omega)) (by omega))) (by omega)
  · exact set_same (set_keep (set_keep (set_keep (set_keep c4 (by omega)) (by omega)) (by omega)) (by omega))
  · exact (((((hu.set (hl 0) _).set (hl 1) _).set (hl 2) _).set (hl 3) _).set (hl 4) _).at trivial
end Go.Proofs.YtelkmnjoboekmaaGreat
