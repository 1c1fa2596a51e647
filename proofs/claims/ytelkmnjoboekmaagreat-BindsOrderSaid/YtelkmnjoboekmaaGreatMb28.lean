/-
  Contract of rightAll of the program: whether all terms of a list are valid.
  Arguments opened: lists of bindings, lists of ints.
  Arguments opened: an array of two terms.
-/
import Derived.Test.YtelkmnjoboekmaaGreatMb6
import Derived.Test.YtelkmnjoboekmaaGreatMb11
import Derived.Test.YtelkmnjoboekmaaGreatMb7
import Derived.Test.YtelkmnjoboekmaaGreatMb2
import Derived.Test.YtelkmnjoboekmaaGreatMb4
import Derived.Test.YtelkmnjoboekmaaGreatMb8
import Derived.OpenShut
namespace Go.Proofs.YtelkmnjoboekmaaGreat
open Go.RowKit

def Tm.wrong (t : Tm) : Bool := !t.right
set_option maxHeartbeats 1000000 in
theorem wrong_at (t : Tm) (w : World) (h : t.At w) : Calls Tryz.prog 64 #[t.val] w fun e w' => e = .returned (.bool t.wrong) ∧ Below w.heap.size w w' := by
  obtain ⟨k, n, s, A, c, a⟩ := t
  have HQ := Lib.hid (fun o => right_tm_at (.mk k n s A c a) (w.alloc o) (h.below ((Below.refl _ w).alloc (Nat.le_refl _) o)) rfl)
  unfold Tm.wrong
  generalize Tm.right (.mk k n s A c a) = r at *
  clear h
  show Calls Tryz.prog 64 #[.agg #[.int .i64 k, .int .i64 n, .string s, .slice A a.length c]] w _
  go_enter Tryz.func64, Tryz.ntmps64
  go_wp2_with (go_at_call 30; refine (HQ.out _).mono ?_; rintro e w3 ⟨rfl, g1⟩; have H1 := Lib.hid (((Below.refl _ w).alloc (Nat.le_refl _) _).trans (g1.mono (by simp))); clear g1)
  go_ret
  exact ⟨rfl, H1.out⟩
def WrongIdx (r : Bool) (w : World) (e : Ending) (w' : World) : Prop := ∃ m : Int, decide (0 ≤ m) = r ∧ e = .returned (.int .i64 m) ∧ Below w.heap.size w w'
theorem tm_take_next {l : List Tm} {i : Nat} (h : i < l.length) : l.take (i + 1) = l.take i ++ [l.getD i default] := by
  rw [List.take_succ_eq_append_getElem h]
  simp [List.getD, List.getElem?_eq_getElem h]
theorem wrong_next {l : List Tm} {j : Nat} (h : j < l.length) : (l.take (j + 1)).any Tm.wrong = ((l.take j).any Tm.wrong || (l.getD j default).wrong) := by
  rw [tm_take_next h, List.any_append, List.any_cons, List.any_nil, Bool.or_false]
theorem wrong_stop {l : List Tm} {k : Nat} (h : k < l.length) (hv : (l.getD k default).wrong = true) : l.any Tm.wrong = true := by
  rw [List.any_eq_true]
  refine ⟨_, ?_, hv⟩
  simp only [List.getD, List.getElem?_eq_getElem h, Option.getD_some]
  exact List.getElem_mem h

set_option maxHeartbeats 2000000 in
theorem wrong_index_at (l : List Tm) (A : Option Addr) (c : Nat) (w : World) (hl : Lst w A l c) {r : Bool} (hr : l.any Tm.wrong = r) :
    Calls Tryz.prog 102 #[.slice A l.length c, .func (.func 64) #[] #[]] w (WrongIdx r w) := by
  have hlen : l.length ≤ 9223372036854775807 := by have := hl.1; have := hl.2.1; unfold maxLen at *; omega
  have HR := Lib.hid hr
  have HL := Lib.hid hl
  clear hl hr
  go_enter Tryz.func102, Tryz.ntmps102
  go_wp2_with fail
  go_loopw [8] (fun i wr => ∃ j : Nat, j ≤ l.length ∧ i = .int .i64 j ∧ Hid ((l.take j).any Tm.wrong = false) ∧ Below w.heap.size w wr) (fun i _ => l.length - (intOf i).toNat)
  case atStart => exact ⟨0, Nat.zero_le _, rfl, Lib.hid rfl, Below.refl _ _⟩
  case round =>
    obtain ⟨j, hj, rfl, HF, hbw⟩ := hrel
    by_cases hlt : j < l.length
    · obtain ⟨b, o, rfl, ⟨c0, c1, c2, c3⟩, hx⟩ := (HL.out.below hbw).get hlt
      have HN := Lib.hid (wrong_next hlt)
      rw [HF.out, Bool.false_or] at HN
      have HS := Lib.hid (wrong_stop hlt)
      generalize l.getD j default = x at *
      have Q := Lib.hid (wrong_at x wr hx)
      clear hx
      generalize x.wrong = N at *
      obtain ⟨k', n', s', A', c', a'⟩ := x
      simp only [Tm.kind, Tm.num, Tm.name, Tm.at_, Tm.args, Tm.cap] at c0 c1 c2 c3
      cases N
      · go_wp2_with fail
        refine (Q.out).mono ?_
        rintro e w2 ⟨rfl, hb3⟩
        go_wp2_with fail
        go_roundw
        case rel => exact ⟨j + 1, by omega, by go_num, HN, hbw.trans (hb3.mono hbw.size)⟩
        case measure => simp [intOf]; omega
      · go_wp2_with fail
        refine (Q.out).mono ?_
        rintro e w2 ⟨rfl, hb3⟩
        go_wp2_with fail
        go_ret
        exact ⟨j, by rw [← HR.out, HS.out trivial]; simp, rfl, hbw.trans (hb3.mono hbw.size)⟩
    · obtain rfl : j = l.length := by omega
      have HE := Lib.hid (show false = r by rw [← HR.out, ← HF.out, List.take_length])
      go_wp2_with fail
      go_ret
      exact ⟨-1, by rw [← HE.out]; rfl, rfl, hbw⟩
theorem wrong_contains_at (l : List Tm) (A : Option Addr) (c : Nat) (w : World) (hl : Lst w A l c) {r : Bool} (hr : l.any Tm.wrong = r) :
    Calls Tryz.prog 63 #[.slice A l.length c, .func (.func 64) #[] #[]] w fun e w' => e = .returned (.bool r) ∧ Below w.heap.size w w' := by
  have Q := Lib.hid (wrong_index_at l A c w hl hr)
  clear hl hr
  go_enter Tryz.func63, Tryz.ntmps63
  go_wp2_with fail
  refine (Q.out).mono ?_
  rintro e w2 ⟨m, hm, rfl, hb⟩
  have HM := Lib.hid hm
  clear hm
  go_wp2_with fail
  go_ret
  exact ⟨by rw [← HM.out]; rfl, hb⟩
theorem all_right : ∀ l : List Tm, l.all Tm.right = !(l.any Tm.wrong) := by
  intro l
  induction l with
  | nil => rfl
  | cons t r ih => rw [List.all_cons, List.any_cons, ih, Bool.not_or]; unfold Tm.wrong; rw [Bool.not_not]
theorem right_all_at (l : List Tm) (A : Option Addr) (c : Nat) (w : World) (hl : Lst w A l c) {r : Bool} (hr : l.all Tm.right = r) :
    Calls Tryz.prog 37 #[.slice A l.length c] w fun e w' => e = .returned (.bool r) ∧ Below w.heap.size w w' := by
  obtain ⟨q, hq⟩ : ∃ q, l.any Tm.wrong = q := ⟨_, rfl⟩
  have Q := Lib.hid (wrong_contains_at l A c w hl hq)
  have HR := Lib.hid (show (!q) = r by rw [← hr, all_right, hq])
  clear hl hr hq
  go_enter Tryz.func37, Tryz.ntmps37
  go_wp2_with fail
  refine (Q.out).mono ?_
  rintro e w2 ⟨rfl, hb⟩
  go_wp2_with fail
  go_ret
  exact ⟨by rw [← HR.out]; rfl, hb⟩
end Go.Proofs.YtelkmnjoboekmaaGreat
namespace Go.Proofs.YtelkmnjoboekmaaGreat
open Go.ChangeShapes Go.WideShapes Go.ChangeAt Go.RowKit
section
variable {H : Type} {enc : TypeId × Value → H} {W : World} {base : Nat} {spare : Nat → Bool} {held : Bool}
set_option maxRecDepth 100000 in
theorem open_bds {r : Reach} {b0 : Nat} {v : Value} {d : DataW H} {p : List MemPlace} (hv : Value.okWide Tryz.prog W r b0 23 v) (h : DataW.Trod enc Tryz.prog W base spare held 23 v d p) :
    ∃ (A : Option Addr) (l : List Bd) (c : Nat), v = .slice A l.length c ∧ BLst W A l c := by
  obtain ⟨a, len, cap, rfl⟩ := okWide_slice typesB.lst hv
  obtain ⟨fuel, hf⟩ := h
  exact bds_of typesB hf
set_option maxRecDepth 100000 in
theorem open_nums {r : Reach} {b0 : Nat} {v : Value} {d : DataW H} {p : List MemPlace} (hv : Value.okWide Tryz.prog W r b0 30 v) (h : DataW.Trod enc Tryz.prog W base spare held 30 v d p) :
    ∃ (A : Option Addr) (l : List Int) (c : Nat), v = .slice A l.length c ∧ Ints W A l ∧ (∀ n ∈ l, Fits n) ∧ l.length ≤ 9223372036854775807 := by
  obtain ⟨a0, len0, cap0, rfl⟩ := okWide_slice Tryz.underlying30 hv
  obtain ⟨fuel, hf⟩ := h
  rcases DataW.trod_slice Tryz.underlying30 hf with ⟨hcs, _⟩ | ⟨a, len, cap, elems, rest, n', hn, hcs, _, _, hl, hm, hlen, hel, _⟩
  · have e : Value.slice a0 len0 cap0 = .slice none 0 0 := (List.cons.inj (show [Value.slice a0 len0 cap0] = [.slice none 0 0] from hcs)).1
    exact ⟨none, [], 0, e, fun h => absurd h (by simp), by simp, by simp⟩
  · have e : Value.slice a0 len0 cap0 = .slice (some a) len cap := (List.cons.inj (show [Value.slice a0 len0 cap0] = [.slice (some a) len cap] from hcs)).1
    have hc : Tryz.prog.cellsOf 3 = 1 := by kernel_rfl
    obtain ⟨f, hf⟩ := Deep.choose_lt (α := Int) (p := fun i y => W.cell? (a.add i) = some (.int .i64 y) ∧ Fits y) (n := len) (fun i hi => by
      have h1 := hel i hi
      rw [hc, List.getElem?_eq_getElem (by omega)] at h1
      obtain ⟨cs', h2, h3⟩ := Option.bind_eq_some_iff.1 h1
      obtain ⟨y, hy, _, wy⟩ := DataW.trod_int Tryz.underlying3 h3
      subst hy
      have := (World.cells?_some h2).2.2 0 (by omega)
      refine ⟨y, ?_, int_fits wy⟩
      rw [Nat.mul_one] at this
      unfold Addr.add at this ⊢
      split at this <;> simp_all)
    have hll : ((List.range len).map f).length = len := by simp
    refine ⟨some a, (List.range len).map f, cap, by rw [hll]; exact e, fun h0 => ?_, fun n hn => ?_, by rw [hll]; unfold maxLen at hm; omega⟩
    · rw [hll] at h0
      obtain ⟨b, o, sp⟩ := a
      have c0 := (hf 0 h0).1
      obtain rfl : sp = none := by simpa [Addr.add] using World.cell?_spot c0
      refine ⟨b, o, rfl, fun i hi => ?_⟩
      rw [hll] at hi
      have e : ((List.range len).map f).getD i 0 = f i := by simp [List.getD, hi]
      rw [e]
      have := (hf i hi).1
      rwa [add_plain] at this
    · obtain ⟨i, hi, rfl⟩ := List.mem_map.1 hn
      exact (hf i (by simpa using hi)).2
end
end Go.Proofs.YtelkmnjoboekmaaGreat
namespace Go.Proofs.YtelkmnjoboekmaaGreat
open Go.ChangeShapes Go.WideShapes Go.ChangeAt Go.RowKit
section
variable {H : Type} {enc : TypeId × Value → H} {W : World} {base : Nat} {spare : Nat → Bool} {held : Bool}
theorem ok_array {P : Program} {w : World} {r : Reach} {b0 : Nat} {t e : TypeId} {n : Nat} {v : Value} (ht : P.underlying t = some (.array n e)) (h : Value.okWide P w r b0 t v) : ∃ cs, v = .agg cs ∧ cs.size = P.cellsOf t := by
  simp only [Value.okWide, ht] at h
  obtain ⟨cs, h1, h2, _⟩ := h
  exact ⟨cs, h1, h2⟩
set_option maxRecDepth 100000 in
theorem open_two {r : Reach} {b0 : Nat} {v : Value} {d : DataW H} {p : List MemPlace} (hv : Value.okWide Tryz.prog W r b0 38 v) (h : DataW.Trod enc Tryz.prog W base spare held 38 v d p) :
    ∃ a b : Tm, v = .agg #[.int .i64 a.kind, .int .i64 a.num, .string a.name, .slice a.at_ a.args.length a.cap, .int .i64 b.kind, .int .i64 b.num, .string b.name, .slice b.at_ b.args.length b.cap] ∧ a.At W ∧ b.At W := by
  obtain ⟨cs, rfl, hsz⟩ := ok_array Tryz.underlying38 hv
  obtain ⟨fuel, hf⟩ := h
  obtain ⟨xs, m, _, _, hcl, hxl, hel⟩ := DataW.trod_array Tryz.underlying38 hf
  have hc : Tryz.prog.cellsOf 26 = 4 := by kernel_rfl
  have h0 := hel 0 (by omega)
  have h1 := hel 1 (by omega)
  rw [hc, List.getElem?_eq_getElem (by omega)] at h0 h1
  obtain ⟨a, ha, hat⟩ := tm_of types _ _ _ h0
  obtain ⟨b, hb, hbt⟩ := tm_of types _ _ _ h1
  refine ⟨a, b, ?_, hat, hbt⟩
  have hc8 : Tryz.prog.cellsOf 38 = 8 := by kernel_rfl
  have hl : cs.toList.length = 8 := by
    rw [hc8] at hsz
    simpa using hsz
  have e : cs.toList = a.cells ++ b.cells := by
    have ha' : (cs.toList.drop (0 * 4)).take 4 = a.cells := ha
    have hb' : (cs.toList.drop (1 * 4)).take 4 = b.cells := hb
    rw [← ha', ← hb', Nat.zero_mul, List.drop_zero, Nat.one_mul, List.take_of_length_le (l := cs.toList.drop 4) (by simp at hl; simp; omega), List.take_append_drop]
  rw [← Array.toArray_toList (xs := cs), e]
  rfl
end
end Go.Proofs.YtelkmnjoboekmaaGreat
