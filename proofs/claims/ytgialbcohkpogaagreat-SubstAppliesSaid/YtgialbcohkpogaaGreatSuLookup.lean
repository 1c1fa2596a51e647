/-
  Contracts of Lookup, copyOfBind, slices.EqualFunc (at bindings) and Same of the program.
-/
import Derived.Test.YtgialbcohkpogaaGreatSuApply
import Derived.Test.YtgialbcohkpogaaGreatSuIdx
import Derived.Test.YtgialbcohkpogaaGreatSuRight
namespace Go.Proofs.YtgialbcohkpogaaGreat
open Go.RowKit Go.Sort

/-- What Lookup hands out. -/
def LookR (l : List Bd) (v : Int) (w : World) (e : Ending) (w' : World) : Prop :=
  ∃ u : Tm, e = .returned (.tuple #[u.val, .bool (look l v).isSome]) ∧ u.strip = (optT (look l v)).strip ∧ Lie Any w.heap.size No w' u ∧ Below w.heap.size w w'
theorem first_look {l : List Bd} {v m : Int} (h : (m = -1 ∧ l.any (fun x => decide (x.var = v)) = false) ∨ ∃ i : Nat, i < l.length ∧ m = i ∧ decide ((l.getD i default).var = v) = true ∧ (l.take i).any (fun x => decide (x.var = v)) = false) :
    (m = -1 ∧ look l v = none) ∨ ∃ i : Nat, i < l.length ∧ m = i ∧ look l v = some (l.getD i default).tm := by
  rcases h with ⟨rfl, h⟩ | ⟨i, hi, rfl, h1, h2⟩
  · refine .inl ⟨rfl, look_none.2 fun x hx e => ?_⟩
    rw [List.any_eq_false] at h
    exact h x hx (by simpa using e)
  · refine .inr ⟨i, hi, rfl, look_at (fun k hk e => ?_) hi (by simpa using h1)⟩
    rw [List.any_eq_false] at h2
    refine h2 (l.getD k default) ?_ (by simpa using e)
    have : (l.take i).getD k default = l.getD k default := by simp [List.getD, hk]
    rw [← this]
    exact bgetD_mem (by simp; omega)
theorem lie_zero {lo : Nat} {X : Nat → Prop} {w : World} : Lie Any lo X w zeroT := Lie.any fun W _ => (At_iff _ _).2 ⟨⟨by simp only [Tm.kind]; unfold Fits; omega, by simp only [Tm.num]; unfold Fits; omega, by unfold maxLen; simp [Tm.name, ByteArray.size]⟩, Lst.nil W⟩

set_option maxHeartbeats 2000000 in
theorem lookup_at (l : List Bd) (A : Option Addr) (c : Nat) (v : Int) (w : World) (hl : BLst w A l c) (hn : ∀ x ∈ l, x.tm.nodes ≤ 1000000) :
    Calls Tryz.prog 13 #[.slice A l.length c, .int .i64 v] w (LookR l v w) := by
  have hmf : ∀ (fn : Fn) (first cap : Array Value) (w : World), (Instr.makeFunc fn first cap).run Tryz.prog w = .ok (.func fn first cap) w := fun _ _ _ _ => rfl
  have HL := Lib.hid hl
  have HN := Lib.hid hn
  have hvc : ((w.alloc (.cells #[.int .i64 v] 3)).alloc zeroBox).cell? ⟨w.heap.size, 0, none⟩ = some (.int .i64 v) := by
    rw [World.cell?_alloc_lt _ _ _ (by simp), World.cell?_alloc_at _ _ _ _ rfl]; rfl
  have H1 := held_new (v0 := .int .i64 0) (v1 := .int .i64 0) (v2 := .string ⟨#[]⟩) (v3 := .slice none 0 0) (w.alloc (.cells #[.int .i64 v] 3)) 29
  rw [World.size_alloc] at H1
  have HM := Lib.hid H1
  have Q := Lib.hid (index_l_at l A c w.heap.size (fun x => decide (x.var = v)) ((w.alloc (.cells #[.int .i64 v] 3)).alloc zeroBox) (hl.below (below2 _ _ _)) (fun W x _ h => lookup_is_at x w.heap.size v W (keepv h hvc)))
  clear hl hn hvc H1
  go_enter Tryz.func13, Tryz.ntmps13
  go_wp2_with fail
  refine (Q.out).mono ?_
  rintro e w1 ⟨m, hm, rfl, hb⟩
  have HB := Lib.hid ((below2 w _ _).trans (hb.mono (by simp; omega)))
  have M1 := Lib.hid (HM.out.below hb)
  have HQ := first_look hm
  clear hm hb Q HM
  rcases HQ with ⟨rfl, hlk⟩ | ⟨i, hi, rfl, hlk⟩
  · have HK := Lib.hid hlk
    obtain ⟨hz, e0, e1, e2, e3, f⟩ := M1.out
    have f0 := f 0
    have f1 := f 1
    have f2 := f 2
    have f3 := f 3
    clear hlk f
    go_wp2_with fail
    refine bodyPost_ret (v := .tuple #[.agg #[.int .i64 0, .int .i64 0, .string ⟨#[]⟩, .slice none 0 0], .bool false]) (by simp [results, Tryz.results13, go_sem, e0, e1, e2, e3]) rfl ?_
    exact ⟨zeroT, by rw [HK.out]; rfl, by rw [HK.out]; rfl, lie_zero, set4c HB.out (Nat.le_succ _)⟩
  · have HK := Lib.hid hlk
    obtain ⟨b, o, rfl, ⟨_, c1, c2, c3, c4⟩, _, hat⟩ := (HL.out.below HB.out).get hi
    have hx := HN.out _ (bgetD_mem hi)
    clear hlk
    generalize (l.getD i default).tm = x at *
    have QX := Lib.hid (fun W (h : Below w1.heap.size w1 W) => copy_at x W (hat.below h) hx)
    clear hat hx
    obtain ⟨k', n', s', A', c', a'⟩ := x
    simp only [Tm.kind, Tm.num, Tm.name, Tm.at_, Tm.args, Tm.cap] at c1 c2 c3 c4
    go_wp2_with fail
    refine (QX.out _ (Below.refl _ _)).mono ?_
    rintro e w2 ⟨u, rfl, hu, hlie, hb2⟩
    have M2 := Lib.hid (M1.out.below hb2)
    have HB2 := Lib.hid (HB.out.trans (hb2.mono HB.out.size))
    have HU := Lib.hid hu
    have HI := Lib.hid (hlie.low (lo' := w.heap.size + 2) (by have := M1.out.lt; omega))
    obtain ⟨hz, e0, e1, e2, e3, f⟩ := M2.out
    have f0 := f 0
    have f1 := f 1
    have f2 := f 2
    have f3 := f 3
    clear f hu hlie hb2 M1 QX c1 c2 c3 c4
    obtain ⟨k2, n2, s2, A2, p2, a2⟩ := u
    go_wp2_with fail
    refine bodyPost_ret (v := .tuple #[.agg #[.int .i64 k2, .int .i64 n2, .string s2, .slice A2 a2.length p2], .bool true]) (by simp [results, Tryz.results13, go_sem, e0, e1, e2, e3, Tm.kind, Tm.num, Tm.name, Tm.at_, Tm.args, Tm.cap]) rfl ?_
    refine ⟨.mk k2 n2 s2 A2 p2 a2, by rw [HK.out]; rfl, by rw [HK.out, HU.out]; rfl, ?_, set4c HB2.out (Nat.le_succ _)⟩
    exact Lie.low ((((HI.out.set (p := ⟨w.heap.size + 1, 0, none⟩) (.inl (by show w.heap.size + 1 < _; omega)) _).set (p := ⟨w.heap.size + 1, 1, none⟩) (.inl (by show w.heap.size + 1 < _; omega)) _).set (p := ⟨w.heap.size + 1, 2, none⟩) (.inl (by show w.heap.size + 1 < _; omega)) _).set (p := ⟨w.heap.size + 1, 3, none⟩) (.inl (by show w.heap.size + 1 < _; omega)) _) (by omega)

/-- A binding like x, in blocks of the call's own. -/
def MadeB (x : Bd) (w : World) (e : Ending) (w' : World) : Prop := ∃ y : Bd, e = .returned y.val ∧ y.strip = x.strip ∧ Lie Any w.heap.size No w' y.tm ∧ Below w.heap.size w w'

set_option maxHeartbeats 2000000 in
theorem copy_bind_at (x : Bd) (w : World) (hx : x.tm.At w) (hn : x.tm.nodes ≤ 1000000) : Calls Tryz.prog 49 #[x.val] w (MadeB x w) := by
  obtain ⟨v, t⟩ := x
  simp only at hx hn
  have QX := Lib.hid (fun W (h : Below w.heap.size w W) => copy_at t W (hx.below h) hn)
  clear hx hn
  obtain ⟨k, n, s, A, c, a⟩ := t
  show Calls Tryz.prog 49 #[.agg #[.int .i64 v, .int .i64 k, .int .i64 n, .string s, .slice A a.length c]] w _
  have hc : ∀ j u, (#[.int .i64 v, .int .i64 k, .int .i64 n, .string s, .slice A a.length c] : Array Value)[j]? = some u → ((w.alloc (.cells #[.int .i64 v, .int .i64 k, .int .i64 n, .string s, .slice A a.length c] 53)).alloc (.cells #[.int .i64 0, .int .i64 0, .int .i64 0, .string ⟨#[]⟩, .slice none 0 0] 53)).cell? ⟨w.heap.size, j, none⟩ = some u := fun j u hu => by
    rw [World.cell?_alloc_lt _ _ _ (by simp), World.cell?_alloc_at _ _ _ _ rfl]; exact hu
  have z0 := hc 0 _ rfl
  have z1 := hc 1 _ rfl
  have z2 := hc 2 _ rfl
  have z3 := hc 3 _ rfl
  have z4 := hc 4 _ rfl
  have HC := Lib.hid hc
  have hr : ∀ j u, (#[.int .i64 0, .int .i64 0, .int .i64 0, .string ⟨#[]⟩, .slice none 0 0] : Array Value)[j]? = some u → ((w.alloc (.cells #[.int .i64 v, .int .i64 k, .int .i64 n, .string s, .slice A a.length c] 53)).alloc (.cells #[.int .i64 0, .int .i64 0, .int .i64 0, .string ⟨#[]⟩, .slice none 0 0] 53)).cell? ⟨w.heap.size + 1, j, none⟩ = some u := fun j u hu => by
    rw [World.cell?_alloc_at _ _ _ _ (by simp)]; exact hu
  have HR := Lib.hid hr
  have hf : ∀ j, ((w.alloc (.cells #[.int .i64 v, .int .i64 k, .int .i64 n, .string s, .slice A a.length c] 53)).alloc (.cells #[.int .i64 0, .int .i64 0, .int .i64 0, .string ⟨#[]⟩, .slice none 0 0] 53)).frozen? ⟨w.heap.size + 1, j, none⟩ = false := fun j => World.frozen?_alloc_at _ _ _ _ (by simp)
  have HF := Lib.hid hf
  clear hc hr hf
  go_enter Tryz.func49, Tryz.ntmps49
  go_wp2_with fail
  go_region_with (go_at_call 40; refine (QX.out _ (by first | exact below2 _ _ _ | exact (below2 _ _ _).drew)).mono ?_; rintro e w1 ⟨u, rfl, hu, hlie, hb1⟩; have hb := undrew hb1; have y0 := keepv hb (HC.out 0 _ rfl); have e0 := keepv hb (HR.out 0 _ rfl); have e1 := keepv hb (HR.out 1 _ rfl); have e2 := keepv hb (HR.out 2 _ rfl); have e3 := keepv hb (HR.out 3 _ rfl); have e4 := keepv hb (HR.out 4 _ rfl); have hzl : w.heap.size + 1 < w1.heap.size := (by have h1 := hb.size; simp at h1; omega); have hff : ∀ j, w1.frozen? ⟨w.heap.size + 1, j, none⟩ = false := fun j => (hb.frozen (p := ⟨w.heap.size + 1, j, none⟩) (by simp)).trans (HF.out j); have f0 := hff 0; have f1 := hff 1; have f2 := hff 2; have f3 := hff 3; have f4 := hff 4; have HB2 := Lib.hid ((below2 w _ _).trans (hb.mono (by simp; omega))); have HU := Lib.hid hu; have HI := Lib.hid (hlie.low (lo' := w.heap.size + 2) (by simp)); obtain ⟨k2, n2, s2, A2, p2, a2⟩ := u; clear hu hlie hb1 hb hff)
  all_goals
    go_wp2_with fail
    refine bodyPost_ret (v := .agg #[.int .i64 v, .int .i64 k2, .int .i64 n2, .string s2, .slice A2 a2.length p2]) (by simp [results, Tryz.results49, go_sem, e0, e1, e2, e3, e4, Tm.kind, Tm.num, Tm.name, Tm.at_, Tm.args, Tm.cap]) rfl ?_
    refine ⟨⟨v, .mk k2 n2 s2 A2 p2 a2⟩, rfl, by simp only [Bd.strip]; rw [HU.out], ?_, ?_⟩
    · exact Lie.low (((((HI.out.set (p := ⟨w.heap.size + 1, 0, none⟩) (.inl (by show w.heap.size + 1 < _; omega)) _).set (p := ⟨w.heap.size + 1, 1, none⟩) (.inl (by show w.heap.size + 1 < _; omega)) _).set (p := ⟨w.heap.size + 1, 2, none⟩) (.inl (by show w.heap.size + 1 < _; omega)) _).set (p := ⟨w.heap.size + 1, 3, none⟩) (.inl (by show w.heap.size + 1 < _; omega)) _).set (p := ⟨w.heap.size + 1, 4, none⟩) (.inl (by show w.heap.size + 1 < _; omega)) _) (by omega)
    · exact ((((HB2.out.setCell (p := ⟨w.heap.size + 1, 0, none⟩) (Nat.le_succ _) _).setCell (p := ⟨w.heap.size + 1, 1, none⟩) (Nat.le_succ _) _).setCell (p := ⟨w.heap.size + 1, 2, none⟩) (Nat.le_succ _) _).setCell (p := ⟨w.heap.size + 1, 3, none⟩) (Nat.le_succ _) _).setCell (p := ⟨w.heap.size + 1, 4, none⟩) (Nat.le_succ _) _
end Go.Proofs.YtgialbcohkpogaaGreat
