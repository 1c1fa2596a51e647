/-
  Contract of Fold of the program.
-/
import Derived.Test.YtponcbnghiaclaaArFoldAll
import Derived.Test.YtponcbnghiaclaaArSame
namespace Go.Proofs.Ytponcbnghiaclaa
open Go.RowKit

theorem free2 {w w' : World} {o : Obj} {cs : Array Value} {T : TypeId} (hb : Below ((w.alloc o).alloc (.cells cs T)).heap.size ((w.alloc o).alloc (.cells cs T)) w') : ∀ j, w'.frozen? ⟨w.heap.size + 1, j, none⟩ = false := fun j => by
  rw [hb.frozen (p := ⟨w.heap.size + 1, j, none⟩) (by simp), World.frozen?_alloc_at _ _ _ _ (by simp)]
theorem free1 {w w' : World} {o : Obj} {cs : Array Value} {T : TypeId} (hb : Below ((w.alloc (.cells cs T)).alloc o).heap.size ((w.alloc (.cells cs T)).alloc o) w') : ∀ j, w'.frozen? ⟨w.heap.size, j, none⟩ = false := fun j => by
  rw [hb.frozen (p := ⟨w.heap.size, j, none⟩) (by simp; omega), (below1 (w.alloc (.cells cs T)) o).frozen (p := ⟨w.heap.size, j, none⟩) (by simp), World.frozen?_alloc_at _ _ _ _ rfl]
theorem stays_self (lo : Nat) (w : World) (ex : Nat → Prop) (t : Tm) : Stays lo w ex [t] t := fun _ h _ => h t (by simp)
theorem stays_num (lo : Nat) (w : World) (ex : Nat → Prop) (l : List Tm) {n : Int} (h : inR n = true) : Stays lo w ex l (numT n) := fun W _ _ => num_at W (by have := (inR_iff n).1 h; unfold Fits; omega)
theorem eval_in {t : Tm} (h : t.eval.2 = 0) : inR t.eval.1 = true := by
  rcases eval_codes.1 t with h' | h'
  · exact h'.2
  · rw [h] at h'; omega
theorem fin_like {t u : Tm} (h : t.strip = u.strip) : (fin t).strip = (fin u).strip := by rw [fin_strip, fin_strip, h]
theorem fin_num_of {t : Tm} (h : t.eval.2 = 0) : fin t = numT t.eval.1 := by unfold fin; rw [if_pos h]
theorem fin_self {t : Tm} (h : t.eval.2 ≠ 0) : fin t = t := by unfold fin; rw [if_neg h]

set_option maxHeartbeats 4000000 in
/-- A term that is no functor. -/
theorem fold_plain (k n : Int) (s : ByteArray) (A : Option Addr) (c : Nat) (a : List Tm) (w : World) (hk : k ≠ 2) (hat : (Tm.mk k n s A c a).At w) :
    Calls Try.prog 17 #[.agg #[.int .i64 k, .int .i64 n, .string s, .slice A a.length c]] w (Folded (.mk k n s A c a) w) := by
  have n2 : (k == 2) = false := by simpa using hk
  have HV := Lib.hid (show (Tm.mk k n s A c a).fold = fin (.mk k n s A c a) by simp only [Tm.fold, if_neg hk])
  have Q := Lib.hid (fun W (h : Below w.heap.size w W) => eval_at (.mk k n s A c a) W (hat.below h))
  have HP := Lib.hid (fin_num_of (t := .mk k n s A c a))
  have HM := Lib.hid (fin_self (t := .mk k n s A c a))
  have HI := Lib.hid (eval_in (t := .mk k n s A c a))
  clear hat hk
  generalize (Tm.mk k n s A c a).eval = p at *
  obtain ⟨p1, p2⟩ := p
  go_enter Try.func17, Try.ntmps17
  go_wp2_with fail
  refine (Q.out _ (below2 _ _ _)).mono ?_
  rintro e w1 ⟨rfl, hb⟩
  obtain ⟨⟨d0, d1, d2, d3⟩, ⟨e0, e1, e2, e3⟩, hb1⟩ := box8 hb
  have f0 := free2 hb 0
  have f1 := free2 hb 1
  have f2 := free2 hb 2
  have f3 := free2 hb 3
  have hz : w.heap.size + 1 < w1.heap.size := by have := hb.size; simp at this; omega
  clear hb
  by_cases hp : p2 = 0
  · subst hp
    go_wp2_with fail
    refine (int_tm_at _ _).mono ?_
    rintro e w2 ⟨rfl, hb2⟩
    replace e0 := keepc hb2 e0
    replace e1 := keepc hb2 e1
    replace e2 := keepc hb2 e2
    replace e3 := keepc hb2 e3
    have g0 := (hb2.frozen (p := ⟨w.heap.size + 1, 0, none⟩) hz).trans f0
    have g1 := (hb2.frozen (p := ⟨w.heap.size + 1, 1, none⟩) hz).trans f1
    have g2 := (hb2.frozen (p := ⟨w.heap.size + 1, 2, none⟩) hz).trans f2
    have g3 := (hb2.frozen (p := ⟨w.heap.size + 1, 3, none⟩) hz).trans f3
    clear f0 f1 f2 f3 d0 d1 d2 d3
    simp only [numT, Tm.val, Tm.kind, Tm.num, Tm.name, Tm.at_, Tm.args, Tm.cap, List.length_nil]
    go_wp2_with fail
    refine bodyPost_ret (v := .agg #[.int .i64 0, .int .i64 p1, .string ByteArray.empty, .slice none 0 0]) (by simp [results, Try.results17, go_sem, e0, e1, e2, e3]) rfl ?_
    have hi := HI.out trivial
    refine ⟨numT p1, rfl, by rw [HV.out, HP.out trivial], stays_num _ _ _ _ hi, ?_⟩
    have hb3 := hb1.trans (hb2.mono hb1.size)
    exact (((hb3.setCell (Nat.le_succ _) _).setCell (Nat.le_succ _) _).setCell (Nat.le_succ _) _).setCell (Nat.le_succ _) _
  · have m2 : (p2 == 0) = false := by simpa using hp
    have HX := Lib.hid hp
    clear hp
    go_wp2_with fail
    refine bodyPost_ret (v := .agg #[.int .i64 k, .int .i64 n, .string s, .slice A a.length c]) (by simp [results, Try.results17, go_sem, e0, e1, e2, e3]) rfl ?_
    refine ⟨.mk k n s A c a, rfl, by rw [HV.out, HM.out HX.out], stays_self _ _ _ _, ?_⟩
    exact (((hb1.setCell (Nat.le_succ _) _).setCell (Nat.le_succ _) _).setCell (Nat.le_succ _) _).setCell (Nat.le_succ _) _

theorem length_le_nodes (l : List Tm) : l.length ≤ nodesL l := by
  induction l with
  | nil => simp [nodesL]
  | cons t r ih =>
    have h : 1 ≤ t.nodes := by cases t; simp [Tm.nodes]
    simp only [nodesL, List.length_cons]; omega
/-- Two worlds with the same cells in the blocks from lo to hi. -/
def Agree (lo hi : Nat) (a b : World) : Prop := ∀ p : Addr, lo ≤ p.block → p.block < hi → b.cell? p = a.cell? p
theorem Agree.trans {lo hi : Nat} {a b c : World} (h : Agree lo hi a b) (k : Agree lo hi b c) : Agree lo hi a c := fun p h1 h2 => (k p h1 h2).trans (h p h1 h2)
theorem Agree.below {lo hi : Nat} {a b : World} (h : Below a.heap.size a b) (hs : hi ≤ a.heap.size) : Agree lo hi a b := fun _ _ h2 => h.cell (Nat.lt_of_lt_of_le h2 hs)
theorem Agree.set {lo hi : Nat} {a b : World} (h : Agree lo hi a b) {q : Addr} (hq : q.block < lo) (v : Value) : Agree lo hi a (b.setCell q v) := fun p h1 h2 => by
  rw [World.cell?_setCell_other _ _ _ _ (fun e => by rw [e] at hq; omega)]
  exact h p h1 h2
theorem stays_row {w wc w1 w' : World} {a cur : List Tm} {k n : Int} {s : ByteArray} {A A' : Option Addr} {c cap : Nat}
    (hcl : ∀ W : World, (∀ x ∈ a, x.At W) → (∀ p : Addr, wc.heap.size ≤ p.block → p.block < w1.heap.size → W.cell? p = w1.cell? p) → Lst W A' cur cap)
    (hag : Agree wc.heap.size w1.heap.size w1 w') (h1 : w.heap.size ≤ wc.heap.size) (h2 : w1.heap.size ≤ w'.heap.size) :
    Stays w.heap.size w' (fun _ => False) [.mk k n s A c a] (.mk k n s A' cap cur) := by
  intro W hl hW
  have ht := hl (.mk k n s A c a) (by simp)
  exact (At_iff _ _).2 ⟨((At_iff _ _).1 ht).1, hcl W (fun x hx => ht.lst.mem hx) fun p h3 h4 => (hW p (by omega) (by omega) (fun h => h)).trans (hag p h3 h4)⟩
theorem any_kind {cur a : List Tm} (h : stripL cur = stripL (foldL a)) : cur.any Tm.noInt = true → ∃ x ∈ foldL a, x.kind ≠ 0 := by
  intro hc
  obtain ⟨x, hx, hn⟩ := List.any_eq_true.1 hc
  have hm : x.strip ∈ stripL (foldL a) := by rw [← h, stripL_map]; exact List.mem_map_of_mem hx
  rw [stripL_map] at hm
  obtain ⟨y, hy, e⟩ := List.mem_map.1 hm
  refine ⟨y, hy, ?_⟩
  rw [(strip_parts e).1]
  simpa [Tm.noInt] using hn

/-- The two boxes of a call that began in w: the argument's holds v0 .. v3, the result's is still zero. -/
def Boxes (w w' : World) (v0 v1 v2 v3 : Value) : Prop :=
  (w'.cell? ⟨w.heap.size, 0, none⟩ = some v0 ∧ w'.cell? ⟨w.heap.size, 1, none⟩ = some v1 ∧ w'.cell? ⟨w.heap.size, 2, none⟩ = some v2 ∧ w'.cell? ⟨w.heap.size, 3, none⟩ = some v3) ∧
  (w'.cell? ⟨w.heap.size + 1, 0, none⟩ = some (.int .i64 0) ∧ w'.cell? ⟨w.heap.size + 1, 1, none⟩ = some (.int .i64 0) ∧ w'.cell? ⟨w.heap.size + 1, 2, none⟩ = some (.string ⟨#[]⟩) ∧ w'.cell? ⟨w.heap.size + 1, 3, none⟩ = some (.slice none 0 0)) ∧
  (∀ j, w'.frozen? ⟨w.heap.size + 1, j, none⟩ = false) ∧ w.heap.size + 1 < w'.heap.size
theorem Boxes.below {w w' w'' : World} {v0 v1 v2 v3 : Value} (h : Boxes w w' v0 v1 v2 v3) (hb : Below w'.heap.size w' w'') : Boxes w w'' v0 v1 v2 v3 := by
  obtain ⟨⟨d0, d1, d2, d3⟩, ⟨e0, e1, e2, e3⟩, hf, hz⟩ := h
  exact ⟨⟨keepc hb d0, keepc hb d1, keepc hb d2, keepc hb d3⟩, ⟨keepc hb e0, keepc hb e1, keepc hb e2, keepc hb e3⟩, fun j => (hb.frozen (p := ⟨w.heap.size + 1, j, none⟩) hz).trans (hf j), Nat.lt_of_lt_of_le hz hb.size⟩
theorem Boxes.set {w w' : World} {v0 v1 v2 v3 : Value} (h : Boxes w w' v0 v1 v2 v3) (v : Value) : Boxes w (w'.setCell ⟨w.heap.size, 3, none⟩ v) v0 v1 v2 v := by
  obtain ⟨⟨d0, d1, d2, d3⟩, ⟨e0, e1, e2, e3⟩, hf, hz⟩ := h
  have n : ∀ j, j ≠ 3 → (⟨w.heap.size, 3, none⟩ : Addr) ≠ ⟨w.heap.size, j, none⟩ := fun j hj e => by injection e with _ e _; omega
  have m : ∀ j, (⟨w.heap.size, 3, none⟩ : Addr) ≠ ⟨w.heap.size + 1, j, none⟩ := fun j e => by injection e with e _ _; omega
  refine ⟨⟨?_, ?_, ?_, ?_⟩, ⟨?_, ?_, ?_, ?_⟩, fun j => by rw [World.frozen?_setCell]; exact hf j, by simpa using hz⟩
  · rw [World.cell?_setCell_other _ _ _ _ (n 0 (by omega))]; exact d0
  · rw [World.cell?_setCell_other _ _ _ _ (n 1 (by omega))]; exact d1
  · rw [World.cell?_setCell_other _ _ _ _ (n 2 (by omega))]; exact d2
  · exact World.cell?_setCell_same' _ _ _ (by rw [d3]; rfl)
  · rw [World.cell?_setCell_other _ _ _ _ (m 0)]; exact e0
  · rw [World.cell?_setCell_other _ _ _ _ (m 1)]; exact e1
  · rw [World.cell?_setCell_other _ _ _ _ (m 2)]; exact e2
  · rw [World.cell?_setCell_other _ _ _ _ (m 3)]; exact e3

set_option maxHeartbeats 8000000 in
theorem fold_at (t : Tm) : ∀ w : World, t.At w → t.nodes ≤ 1000000 → Calls Try.prog 17 #[t.val] w (Folded t w) := by
  induction t using Tm.induct with
  | h k n s A c a ih =>
    intro w hat hnodes
    show Calls Try.prog 17 #[.agg #[.int .i64 k, .int .i64 n, .string s, .slice A a.length c]] w _
    by_cases hk : k = 2
    · subst hk
      have hl : Lst w A a c := hat.lst
      have hna : nodesL a ≤ 1000000 := by simp only [Tm.nodes] at hnodes; omega
      have hln : a.length ≤ 1000000 := by have := length_le_nodes a; omega
      have Q1 := Lib.hid (fun W (h : Below w.heap.size w W) => fold_all_at a A c W (hl.below h) hln (fun x hx W' hx' => ih x hx W' hx' (by have := nodes_mem hx; omega)))
      have HV := Lib.hid (show (Tm.mk 2 n s A c a).fold = fin (.mk 2 n s A c (foldL a)) by simp only [Tm.fold, if_true])
      have HA := Lib.hid hat
      clear hat ih hl hna hnodes
      go_enter Try.func17, Try.ntmps17
      go_wp2_with fail
      refine (Q1.out _ (below2 _ _ _)).mono ?_
      rintro e w1 ⟨A', cap, cur, rfl, hcl, hst, hlst, hb⟩
      obtain ⟨dd, ee, hb1⟩ := box8 hb
      have hz : w.heap.size + 1 < w1.heap.size := by have := hb.size; simp at this; omega
      have BX := Lib.hid (show Boxes w w1 _ _ _ _ from ⟨dd, ee, free2 hb, hz⟩)
      have b3 := free1 hb 3
      have hz0 : w.heap.size < w1.heap.size := by omega
      obtain ⟨d0, d1, d2, d3⟩ := dd
      -- the folded arguments are stored
      have BY := Lib.hid (BX.out.set (.slice A' a.length cap))
      have hb2 := hb1.setCell (p := ⟨w.heap.size, 3, none⟩) (Nat.le_refl _) (.slice A' a.length cap)
      have AG := Lib.hid (show Agree (w.heap.size + 2) w1.heap.size w1 (w1.setCell ⟨w.heap.size, 3, none⟩ (.slice A' a.length cap)) from Agree.set (fun _ _ _ => rfl) (by show w.heap.size < _; omega) _)
      have hs2 : ((w.alloc (.cells #[.int .i64 2, .int .i64 n, .string s, .slice A a.length c] 30)).alloc (.cells #[.int .i64 0, .int .i64 0, .string ⟨#[]⟩, .slice none 0 0] 30)).heap.size = w.heap.size + 2 := by simp
      have HL := Lib.hid (fun (W : World) (h1 : Below w.heap.size w W) (h2 : Agree (w.heap.size + 2) w1.heap.size w1 W) => hlst W (fun x hx => (HA.out.below h1).lst.mem hx) (fun p h3 h4 => h2 p (by rw [← hs2]; exact h3) h4))
      have HS := Lib.hid (fun (W : World) (h2 : Agree (w.heap.size + 2) w1.heap.size w1 W) (h3 : w1.heap.size ≤ W.heap.size) => stays_row (w := w) (k := 2) (n := n) (s := s) (A := A) (c := c) (w' := W) hlst (by rw [hs2]; exact h2) (by rw [hs2]; omega) h3)
      have HU := Lib.hid (show (Tm.mk 2 n s A' cap cur).strip = (Tm.mk 2 n s A c (foldL a)).strip by simp only [Tm.strip, hst])
      have HE := Lib.hid (eval_same HU.out)
      obtain ⟨r, hr⟩ : ∃ r, cur.any Tm.noInt = r := ⟨_, rfl⟩
      have QC := Lib.hid (fun W (h : Lst W A' cur cap) => contains_at cur A' cap W h hr)
      rw [hcl] at QC
      have QE := Lib.hid (fun W (h : (Tm.mk 2 n s A' cap cur).At W) => eval_at (.mk 2 n s A' cap cur) W h)
      have hval : (Tm.mk 2 n s A' cap cur).val = .agg #[.int .i64 2, .int .i64 n, .string s, .slice A' a.length cap] := by rw [← hcl]; rfl
      rw [hval] at QE
      have HVL := Lib.hid hval
      have HP := Lib.hid (fin_num_of (t := .mk 2 n s A' cap cur))
      have HM := Lib.hid (fin_self (t := .mk 2 n s A' cap cur))
      have HI := Lib.hid (eval_in (t := .mk 2 n s A' cap cur))
      have HF := Lib.hid (fin_like HU.out)
      clear hval
      have HK := Lib.hid (fun h => any_kind (a := a) hst (hr.trans h))
      clear hlst hb hs2 ee hst hr
      go_wp2_with fail
      refine (QC.out _ (HL.out _ hb2 AG.out)).mono ?_
      rintro e w3 ⟨rfl, hb3⟩
      have BZ := Lib.hid (BY.out.below hb3)
      have AH := Lib.hid (AG.out.trans (Agree.below hb3 (by simp)))
      have hb4 := hb2.trans (hb3.mono hb2.size)
      have hs3 : w1.heap.size ≤ w3.heap.size := by have := hb3.size; simpa using this
      clear d0 d1 d2 d3 b3 BX BY AG hb2 hb3
      obtain ⟨⟨d0, d1, d2, d3⟩, ⟨e0, e1, e2, e3⟩, hf, hz3⟩ := BZ.out
      have f0 := hf 0
      have f1 := hf 1
      have f2 := hf 2
      have f3 := hf 3
      clear hf
      cases r
      · have HT := Lib.hid (HS.out w3 AH.out hs3 w3 (fun x hx => by rw [List.mem_singleton.1 hx]; exact HA.out.below hb4) (fun _ _ _ _ => rfl))
        generalize (Tm.mk 2 n s A' cap cur).eval = p at *
        obtain ⟨p1, p2⟩ := p
        go_wp2_with fail
        refine (QE.out _ HT.out).mono ?_
        rintro e w4 ⟨rfl, hb5⟩
        have BW := Lib.hid (BZ.out.below hb5)
        have AI := Lib.hid (AH.out.trans (Agree.below hb5 hs3))
        have hb6 := hb4.trans (hb5.mono hb4.size)
        have hs4 : w1.heap.size ≤ w4.heap.size := Nat.le_trans hs3 hb5.size
        clear d0 d1 d2 d3 e0 e1 e2 e3 f0 f1 f2 f3 hz3 hb5 BZ AH hb4
        by_cases hp : p2 = 0
        · subst hp
          go_wp2_with fail
          refine (int_tm_at _ _).mono ?_
          rintro e w5 ⟨rfl, hb7⟩
          obtain ⟨_, ⟨e0, e1, e2, e3⟩, hf, hz3⟩ := BW.out.below hb7
          have f0 := hf 0
          have f1 := hf 1
          have f2 := hf 2
          have f3 := hf 3
          clear hf
          simp only [numT, Tm.val, Tm.kind, Tm.num, Tm.name, Tm.at_, Tm.args, Tm.cap, List.length_nil]
          go_wp2_with fail
          refine bodyPost_ret (v := .agg #[.int .i64 0, .int .i64 p1, .string ByteArray.empty, .slice none 0 0]) (by simp [results, Try.results17, go_sem, e0, e1, e2, e3]) rfl ?_
          have hi := HI.out trivial
          refine ⟨numT p1, rfl, by rw [HV.out, ← HF.out, HP.out trivial], stays_num _ _ _ _ hi, ?_⟩
          have hb8 := hb6.trans (hb7.mono hb6.size)
          exact (((hb8.setCell (Nat.le_succ _) _).setCell (Nat.le_succ _) _).setCell (Nat.le_succ _) _).setCell (Nat.le_succ _) _
        · have m2 : (p2 == 0) = false := by simpa using hp
          have HX := Lib.hid hp
          obtain ⟨⟨d0, d1, d2, d3⟩, ⟨e0, e1, e2, e3⟩, hf, hz3⟩ := BW.out
          have f0 := hf 0
          have f1 := hf 1
          have f2 := hf 2
          have f3 := hf 3
          clear hf hp
          go_wp2_with fail
          refine bodyPost_ret (v := .agg #[.int .i64 2, .int .i64 n, .string s, .slice A' a.length cap]) (by simp [results, Try.results17, go_sem, e0, e1, e2, e3]) rfl ?_
          refine ⟨.mk 2 n s A' cap cur, by rw [HVL.out], ?_, HS.out _ ?_ ?_, ?_⟩
          · rw [HV.out, ← HF.out, HM.out HX.out]
          · exact (((AI.out.set (by show w.heap.size + 1 < _; omega) _).set (by show w.heap.size + 1 < _; omega) _).set (by show w.heap.size + 1 < _; omega) _).set (by show w.heap.size + 1 < _; omega) _
          · simpa using hs4
          · exact (((hb6.setCell (Nat.le_succ _) _).setCell (Nat.le_succ _) _).setCell (Nat.le_succ _) _).setCell (Nat.le_succ _) _
      · go_wp2_with fail
        refine bodyPost_ret (v := .agg #[.int .i64 2, .int .i64 n, .string s, .slice A' a.length cap]) (by simp [results, Try.results17, go_sem, e0, e1, e2, e3]) rfl ?_
        refine ⟨.mk 2 n s A' cap cur, ?_, ?_, HS.out _ ?_ ?_, ?_⟩
        · rw [HVL.out]
        · rw [HU.out, HV.out, no_value (HK.out trivial)]
        · exact (((AH.out.set (by show w.heap.size + 1 < _; omega) _).set (by show w.heap.size + 1 < _; omega) _).set (by show w.heap.size + 1 < _; omega) _).set (by show w.heap.size + 1 < _; omega) _
        · simpa using hs3
        · exact (((hb4.setCell (Nat.le_succ _) _).setCell (Nat.le_succ _) _).setCell (Nat.le_succ _) _).setCell (Nat.le_succ _) _
    · exact fold_plain k n s A c a w hk hat
end Go.Proofs.Ytponcbnghiaclaa
