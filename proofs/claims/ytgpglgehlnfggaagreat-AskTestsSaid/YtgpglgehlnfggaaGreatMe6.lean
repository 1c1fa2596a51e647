/-
  SuFind.
  SuMath.
  SuSort.
  TmEach.
  TmGround.
  TmInts.
  TmVars.
  TmFirst.
  SuClone.
-/
import Derived.Test.YtgpglgehlnfggaaGreatMe5
import Derived.Test.YtgpglgehlnfggaaGreatMe4
import Derived.Test.YtgpglgehlnfggaaGreatMe3
import Derived.Test.YtgpglgehlnfggaaGreatMe1
import Derived.BigQuiet
import Derived.Deep.QuietTactic
import Derived.OwnWalk
import Derived.Laws.OwnMore
import Derived.Maps.AppendAt
import Derived.Maps.OwnOps
import Derived.Maps.OwnSet
import Derived.Maps.Views
import Derived.Laws.Rows
import Derived.Carry
import Derived.WalkSpells
import Derived.Lib.SliceRun
namespace Go.Proofs.YtgpglgehlnfggaaGreat
open Go.RowKit
abbrev boxB (x : Bd) : Obj := .cells #[.int .i64 x.var, .int .i64 x.tm.kind, .int .i64 x.tm.num, .string x.tm.name, .slice x.tm.at_ x.tm.args.length x.tm.cap] 47
theorem compare_vars_at (x y : Bd) (w : World) : Calls Tryz.prog 144 #[x.val, y.val] w fun e w' => e = .returned (.int .i64 (ints x.var y.var)) ∧ w' = (w.alloc (boxB x)).alloc (boxB y) := by
  obtain ⟨v, k, n, s, A, c, a⟩ := x
  obtain ⟨v', k', n', s', A', c', a'⟩ := y
  show Calls Tryz.prog 144 #[.agg #[.int .i64 v, .int .i64 k, .int .i64 n, .string s, .slice A a.length c], .agg #[.int .i64 v', .int .i64 k', .int .i64 n', .string s', .slice A' a'.length c']] w _
  have q := Lib.hid (fun W => cmp_int_at v v' W rfl)
  generalize ints v v' = r at *
  go_enter Tryz.func144, Tryz.ntmps144
  go_wp2_with fail
  refine (q.out _).mono ?_
  rintro e w' ⟨rfl, rfl⟩
  go_wp2_with fail
  go_ret
  exact ⟨rfl, rfl⟩
theorem find_cmp_at (x : Bd) (v : Int) (w : World) : Calls Tryz.prog 177 #[x.val, .int .i64 v] w fun e w' => e = .returned (.int .i64 (ints x.var v)) ∧ w' = w.alloc (boxB x) := by
  obtain ⟨v', k', n', s', A', c', a'⟩ := x
  show Calls Tryz.prog 177 #[.agg #[.int .i64 v', .int .i64 k', .int .i64 n', .string s', .slice A' a'.length c'], .int .i64 v] w _
  have q := Lib.hid (fun W => cmp_int_at v' v W rfl)
  generalize ints v' v = r at *
  go_enter Tryz.func177, Tryz.ntmps177
  go_wp2_with fail
  refine (q.out _).mono ?_
  rintro e w' ⟨rfl, rfl⟩
  go_wp2_with fail
  go_ret
  exact ⟨rfl, rfl⟩
def Srt (l : List Bd) : Prop := ∀ i j, i ≤ j → j < l.length → (l.getD i default).var ≤ (l.getD j default).var
def Bound (l : List Bd) (v : Int) (i : Nat) : Prop := (∀ k, k < i → (l.getD k default).var < v) ∧ (∀ k, i ≤ k → k < l.length → v ≤ (l.getD k default).var)
theorem Asc.srt {l : List Bd} (h : Asc l) : Srt l := fun i j hij hj => by
  rcases Nat.lt_or_ge i j with h1 | h1
  · have := List.pairwise_iff_getElem.1 h i j (by omega) hj h1
    simp only [List.getD, List.getElem?_eq_getElem hj, List.getElem?_eq_getElem (show i < l.length by omega), Option.getD_some]
    omega
  · obtain rfl : i = j := by omega
    exact Int.le_refl _
theorem look_at {l : List Bd} {v : Int} {i : Nat} (h : ∀ k, k < i → (l.getD k default).var ≠ v) (hi : i < l.length) (e : (l.getD i default).var = v) : look l v = some (l.getD i default).tm := by
  induction l generalizing i with
  | nil => simp at hi
  | cons x r ih =>
    simp only [look]
    cases i with
    | zero => rw [if_pos (by simpa using e)]; rfl
    | succ i =>
      rw [if_neg (by simpa using h 0 (by omega))]
      simpa using ih (fun k hk => by simpa using h (k + 1) (by omega)) (by simpa using hi) (by simpa using e)
theorem look_bound {l : List Bd} {v : Int} {i : Nat} (hs : Srt l) (h : Bound l v i) (hi : i ≤ l.length) : look l v = if i < l.length ∧ (l.getD i default).var = v then some (l.getD i default).tm else none := by
  split
  · rename_i h'
    exact look_at (fun k hk => by have := h.1 k hk; omega) h'.1 h'.2
  · rename_i h'
    rw [look_none]
    intro x hx e
    obtain ⟨k, hk, ek⟩ := List.mem_iff_getElem.1 hx
    have eg : l.getD k default = x := by simp [List.getD, List.getElem?_eq_getElem hk, ek]
    rcases Nat.lt_or_ge k i with h1 | h1
    · have := h.1 k h1; rw [eg] at this; omega
    · have h2 := hs i k h1 hk
      have h3 := h.2 i (Nat.le_refl _) (by omega)
      rw [eg] at h2
      exact h' ⟨by omega, by omega⟩
def Ended (l : List Bd) (v : Int) (w : World) (e : Ending) (w' : World) : Prop :=
  ∃ i : Nat, i ≤ l.length ∧ Bound l v i ∧ (∃ r : Bool, (r = true ↔ i < l.length ∧ (l.getD i default).var = v) ∧ e = .returned (.tuple #[.int .i64 i, .bool r])) ∧ Below w.heap.size w w'
set_option maxHeartbeats 2000000 in
theorem search_at (l : List Bd) (A : Option Addr) (c : Nat) (v : Int) (w : World) (hl : BLst w A l c) (hlen : l.length ≤ 1000000) (hs : Srt l) :
    Calls Tryz.prog 176 #[.slice A l.length c, .int .i64 v, .func (.func 177) #[] #[]] w (Ended l v w) := by
  have HS := Lib.hid hs
  have HL := Lib.hid hl
  clear hl hs
  go_enter Tryz.func176, Tryz.ntmps176
  go_wp2_with fail
  go_loopw [9, 10] (fun s9 s10 wr => ∃ lo hi : Nat, s9 = .int .i64 lo ∧ s10 = .int .i64 hi ∧ lo ≤ hi ∧ hi ≤ l.length ∧ Hid ((∀ k, k < lo → (l.getD k default).var < v) ∧ (∀ k, hi ≤ k → k < l.length → v ≤ (l.getD k default).var)) ∧ Below w.heap.size w wr) (fun s9 s10 _ => (intOf s10).toNat - (intOf s9).toNat)
  case atStart => exact ⟨0, l.length, rfl, rfl, Nat.zero_le _, Nat.le_refl _, Lib.hid ⟨fun k hk => absurd hk (Nat.not_lt_zero _), fun k h1 h2 => by omega⟩, Below.refl _ _⟩
  case round =>
    obtain ⟨lo, hi, rfl, rfl, hlh, hin, HI, hbw⟩ := hrel
    by_cases hlt : lo < hi
    · obtain ⟨b, o, rfl, ⟨c0, c1, c2, c3, c4⟩, _⟩ := (HL.out.below hbw).get (i := (lo + hi) / 2) (by omega)
      obtain ⟨x, hx⟩ : ∃ x, l.getD ((lo + hi) / 2) default = x := ⟨_, rfl⟩
      rw [hx] at c0 c1 c2 c3 c4
      have HX := Lib.hid hx
      have Q := Lib.hid (fun W => find_cmp_at x v W)
      clear hx
      by_cases hxv : x.var < v
      · rw [ints_lt hxv] at Q
        have H2 := Lib.hid (show (∀ k, k < (lo + hi) / 2 + 1 → (l.getD k default).var < v) ∧ (∀ k, hi ≤ k → k < l.length → v ≤ (l.getD k default).var) from ⟨fun k hk => by
          have := HS.out k ((lo + hi) / 2) (by omega) (by omega)
          rw [HX.out] at this
          omega, HI.out.2⟩)
        obtain ⟨v', k', n', s', A', c', a'⟩ := x
        simp only [Tm.kind, Tm.num, Tm.name, Tm.at_, Tm.args, Tm.cap] at c0 c1 c2 c3 c4
        clear hxv
        go_wp2_with fail
        refine (Q.out _).mono ?_
        rintro e w2 ⟨rfl, rfl⟩
        go_wp2_with fail
        go_roundw
        case rel => exact ⟨(lo + hi) / 2 + 1, hi, by rw [show ((lo : Int) + (hi : Int)) / 2 + 1 = (((lo + hi) / 2 + 1 : Nat) : Int) by omega], rfl, by omega, hin, H2, hbw.alloc hbw.size _⟩
        case measure => simp [intOf]; omega
      · have hz : 0 ≤ ints x.var v := by unfold ints; rw [if_neg hxv]; split <;> omega
        have H2 := Lib.hid (show (∀ k, k < lo → (l.getD k default).var < v) ∧ (∀ k, (lo + hi) / 2 ≤ k → k < l.length → v ≤ (l.getD k default).var) from ⟨HI.out.1, fun k h1 h2 => by
          have := HS.out ((lo + hi) / 2) k h1 h2
          rw [HX.out] at this
          omega⟩)
        generalize ints x.var v = r at *
        obtain ⟨v', k', n', s', A', c', a'⟩ := x
        simp only [Tm.kind, Tm.num, Tm.name, Tm.at_, Tm.args, Tm.cap] at c0 c1 c2 c3 c4
        clear hxv
        have hz' : ¬ r < 0 := by omega
        go_wp2_with fail
        refine (Q.out _).mono ?_
        rintro e w2 ⟨rfl, rfl⟩
        go_wp2_with fail
        go_roundw
        case rel => exact ⟨lo, (lo + hi) / 2, rfl, by rw [show ((lo : Int) + (hi : Int)) / 2 = (((lo + hi) / 2 : Nat) : Int) by omega], by omega, by omega, H2, hbw.alloc hbw.size _⟩
        case measure => simp [intOf]; omega
    · obtain rfl : hi = lo := by omega
      by_cases hn : hi < l.length
      · obtain ⟨b, o, rfl, ⟨c0, c1, c2, c3, c4⟩, _⟩ := (HL.out.below hbw).get hn
        obtain ⟨x, hx⟩ : ∃ x, l.getD hi default = x := ⟨_, rfl⟩
        rw [hx] at c0 c1 c2 c3 c4
        have HX := Lib.hid hx
        have Q := Lib.hid (fun W => find_cmp_at x v W)
        have HR := Lib.hid (show (ints x.var v == 0) = true ↔ hi < l.length ∧ (l.getD hi default).var = v by
          rw [hx, beq_iff_eq]
          unfold ints
          constructor
          · intro h
            refine ⟨hn, ?_⟩
            split at h
            · omega
            · split at h <;> omega
          · rintro ⟨_, h⟩
            rw [if_neg (by omega), if_neg (by omega)])
        clear hx
        generalize ints x.var v = r at *
        obtain ⟨v', k', n', s', A', c', a'⟩ := x
        simp only [Tm.kind, Tm.num, Tm.name, Tm.at_, Tm.args, Tm.cap] at c0 c1 c2 c3 c4
        go_wp2_with fail
        refine (Q.out _).mono ?_
        rintro e w2 ⟨rfl, rfl⟩
        go_wp2_with fail
        go_ret2
        exact ⟨hi, hin, HI.out, ⟨_, HR.out, rfl⟩, hbw.alloc hbw.size _⟩
      · have hn' : decide ((hi : Int) < (l.length : Int)) = false := decide_eq_false (by omega)
        go_wp2_with fail
        go_ret2
        exact ⟨hi, hin, HI.out, ⟨false, ⟨fun h => (by cases h), fun h => absurd h.1 hn⟩, rfl⟩, hbw⟩
end Go.Proofs.YtgpglgehlnfggaaGreat
namespace Go.Proofs.YtgpglgehlnfggaaGreat
open Go
theorem lexz_iff {x y : Int} : lex x y = 0 ↔ x = 0 ∧ y = 0 := by
  unfold lex
  split
  · rename_i h; simp [h]
  · rename_i h; simp [h]
theorem ints_zero {a b : Int} : ints a b = 0 ↔ a = b := by
  unfold ints
  split
  · simp; omega
  · split
    · simp; omega
    · simp; omega
theorem cls_one {k : Int} : cls k = 0 ↔ k = 1 := by
  unfold cls; split
  · simp [*]
  · rename_i h; split <;> (try split) <;> simp [h]
theorem cls_two {k : Int} : cls k = 2 ↔ k = 2 := by
  unfold cls; split
  · rename_i h; simp [h]
  · split
    · rename_i h; simp [h]
    · split
      · rename_i h; simp [h]
      · rename_i h; simp [h]
def sameAt (a c : List Bd) (i : Nat) : Bool := decide ((a.getD i default).var = (c.getD i default).var) && (cmpT (a.getD i default).tm (c.getD i default).tm == 0)
def sameUp (a c : List Bd) (j : Nat) : Bool := (List.range j).all (sameAt a c)
def sameB (a c : List Bd) : Bool := decide (a.length = c.length) && sameUp a c a.length
def restr (b : List Bd) (vars : List Int) : List Bd := b.filter fun x => decide (x.var ∈ vars)
end Go.Proofs.YtgpglgehlnfggaaGreat
namespace Go.Proofs.YtgpglgehlnfggaaGreat
open Go.RowKit
def Row5 (w : World) (g : Nat) (l : List Bd) : Prop := g < w.heap.size ∧ (∀ j, w.frozen? ⟨g, j, none⟩ = false) ∧ ∀ i j u, i < l.length → (l.getD i default).cells[j]? = some u → w.cell? ⟨g, i * 5 + j, none⟩ = some u
theorem bcells_length (x : Bd) : x.cells.length = 5 := rfl
theorem bcells_lt {x : Bd} {j : Nat} {u : Value} (h : x.cells[j]? = some u) : j < 5 := by
  have := (List.getElem?_eq_some_iff.1 h).1
  simpa [Bd.cells] using this
end Go.Proofs.YtgpglgehlnfggaaGreat
namespace Go.Proofs.YtgpglgehlnfggaaGreat
open Go.RowKit
section
variable {σ : Type}
def runV (step : σ → Int → Bool × σ) : σ → List Int → Bool × σ
  | s, [] => (true, s)
  | s, x :: r => if (step s x).1 then runV step (step s x).2 r else (false, (step s x).2)
theorem runV_append (step : σ → Int → Bool × σ) (s : σ) (xs ys : List Int) : runV step s (xs ++ ys) = if (runV step s xs).1 then runV step (runV step s xs).2 ys else runV step s xs := by
  induction xs generalizing s with
  | nil => simp [runV]
  | cons x r ih =>
    simp only [List.cons_append, runV]
    by_cases h : (step s x).1 = true
    · simp only [h, if_true]; exact ih _
    · simp [h]
theorem runV_one (step : σ → Int → Bool × σ) (s : σ) (x : Int) : runV step s [x] = step s x := by
  simp only [runV]
  by_cases h : (step s x).1 = true
  · rw [if_pos h]; exact Prod.ext h.symm rfl
  · rw [if_neg h]
    refine Prod.ext ?_ rfl
    have : (step s x).1 = false := by simpa using h
    exact this.symm
structure Visits (step : σ → Int → Bool × σ) (Inv : Nat → σ → World → Prop) (w0 : World) (F : FuncId) (caps : Array Value) : Prop where
  enter : ∀ (args : Array Value) (W : World), (callFunc F args).run Tryz.prog W = .ok (.enter F args) W
  call : ∀ (f : Nat) (s : σ) (n : Int) (W : World), Fits n → Inv (f + 1) s W → Calls Tryz.prog F (#[.int .i64 n] ++ caps) W fun e W' => e = .returned (.bool (step s n).1) ∧ Inv f (step s n).2 W'
  keep : ∀ (f : Nat) (s : σ) (W W' : World), Inv f s W → Below W.heap.size W W' → Inv f s W'
  less : ∀ (f g : Nat) (s : σ) (W : World), g ≤ f → Inv f s W → Inv g s W
  base : ∀ (f : Nat) (s : σ) (W : World), Inv f s W → Below w0.heap.size w0 W
theorem drop_next {us : List Tm} {j : Nat} (h : j < us.length) : occL (us.drop j) = (us.getD j default).occ ++ occL (us.drop (j + 1)) := by
  rw [List.drop_eq_getElem_cons h]
  simp [occL, List.getD, List.getElem?_eq_getElem h]
theorem runV_stop {step : σ → Int → Bool × σ} {s : σ} {us : List Tm} {j : Nat} (h : (runV step s (occL (us.take j))).1 = false) : runV step s (occL us) = runV step s (occL (us.take j)) := by
  have e := occL_append (us.take j) (us.drop j)
  rw [List.take_append_drop] at e
  rw [e, runV_append, h]
  simp
def EachAt (step : σ → Int → Bool × σ) (Inv : Nat → σ → World → Prop) (F : FuncId) (caps : Array Value) (t : Tm) : Prop :=
  ∀ (f : Nat) (s : σ) (W : World), Inv (f + t.occ.length) s W → Calls Tryz.prog 92 #[t.val, .func (.func F) #[] caps] W fun e W' => e = .returned (.bool (runV step s t.occ).1) ∧ Inv f (runV step s t.occ).2 W'
set_option maxHeartbeats 1000000 in
theorem each_at {step : σ → Int → Bool × σ} {Inv : Nat → σ → World → Prop} {w0 : World} {F : FuncId} {caps : Array Value} (hv : Visits step Inv w0 F caps) (t : Tm) : t.At w0 → EachAt step Inv F caps t := by
  induction t using Tm.induct with
  | h k n s A c a ih0 =>
    intro hat f s0 W hI
    have qa := Lib.hid (arguments_at (.mk k n s A c a))
    have hocc := occ_used (.mk k n s A c a)
    have B0 := Lib.hid (show ∀ o, Below W.heap.size W (W.alloc o) from fun o => (Below.refl _ _).alloc (Nat.le_refl _) o)
    have hent := hv.enter
    show Calls Tryz.prog 92 #[.agg #[.int .i64 k, .int .i64 n, .string s, .slice A a.length c], .func (.func F) #[] caps] W _
    by_cases k1 : k = 1
    · subst k1
      have HO := Lib.hid (show (Tm.mk 1 n s A c a).occ = [n] by rw [hocc]; simp [Tm.kind, Tm.num])
      rw [HO.out] at hI
      have hfit : Fits n := ((At_iff _ _).1 hat).1.2.1
      have Q := Lib.hid (fun W' h => hv.call f s0 n W' hfit (hv.keep _ s0 W W' hI h))
      clear ih0 hocc hat hI qa
      go_enter Tryz.func92, Tryz.ntmps92
      go_wp2_with fail
      refine (Q.out _ (B0.out _)).mono ?_
      rintro e w' ⟨rfl, hI'⟩
      go_wp2_with fail
      go_ret
      rw [HO.out, runV_one]
      exact ⟨rfl, hI'⟩
    · have k1' : (k == 1) = false := by simp [k1]
      have hl := hat.ulst
      have ih : ∀ x ∈ (Tm.mk k n s A c a).used, x.At w0 → EachAt step Inv F caps x := by
        unfold Tm.used
        split
        · exact ih0
        · intro x hx; cases hx
      have HO : (Tm.mk k n s A c a).occ = occL (Tm.mk k n s A c a).used := by rw [hocc]; exact if_neg k1
      rw [HO] at hI ⊢
      clear ih0 hocc hat k1 HO
      generalize (Tm.mk k n s A c a).used = us at *
      generalize (Tm.mk k n s A c a).uat = U at *
      generalize (Tm.mk k n s A c a).ucap = uq at *
      have QI := Lib.hid ih
      have HI := Lib.hid hI
      have hlen : us.length ≤ 9223372036854775807 := by have := hl.1; have := hl.2.1; unfold maxLen at *; omega
      have HV := Lib.hid hv
      clear ih hv hI
      go_enter Tryz.func92, Tryz.ntmps92
      go_wp2_with fail
      refine (qa.out _).mono ?_
      rintro e w1 ⟨rfl, hb1⟩
      have HI1 := Lib.hid (HV.out.keep _ s0 W w1 HI.out ((B0.out _).trans (hb1.mono (by simp))))
      clear hb1
      go_wp2_with fail
      go_loopw [17] (fun i wr => ∃ j : Nat, j ≤ us.length ∧ i = .int .i64 j ∧ Hid (∃ s', runV step s0 (occL (us.take j)) = (true, s') ∧ Inv (f + (occL (us.drop j)).length) s' wr)) (fun i _ => us.length - (intOf i).toNat)
      case atStart => exact ⟨0, Nat.zero_le _, rfl, Lib.hid ⟨s0, rfl, HI1.out⟩⟩
      case round =>
        obtain ⟨j, hj, rfl, HX⟩ := hrel
        obtain ⟨s', hrun, hinv⟩ := HX.out
        have HR := Lib.hid hrun
        by_cases hlt : j < us.length
        · obtain ⟨b, o, rfl, ⟨c0, c1, c2, c3⟩, _⟩ := (hl.below (HV.out.base _ _ _ hinv)).get hlt
          have hmem := getD_mem hlt
          have hy := hl.mem hmem
          have HN := Lib.hid (occL_next hlt)
          have hd := drop_next hlt
          have HT := Lib.hid (fun h => runV_stop (step := step) (s := s0) (us := us) (j := j + 1) h)
          generalize us.getD j default = y at *
          rw [hd, List.length_append, Nat.add_comm y.occ.length, ← Nat.add_assoc] at hinv
          clear hd
          have Q1 := Lib.hid (fun o => QI.out y hmem hy (f + (occL (us.drop (j + 1))).length) s' (wr.alloc o) (HV.out.keep _ s' wr _ hinv ((Below.refl _ _).alloc (Nat.le_refl _) o)))
          obtain ⟨p, hp⟩ : ∃ p, runV step s' y.occ = p := ⟨_, rfl⟩
          have HE := Lib.hid (show runV step s0 (occL (us.take (j + 1))) = p by rw [HN.out, runV_append, HR.out]; exact hp)
          rw [HE.out] at HT
          rw [hp] at Q1
          clear hp hmem hy hrun hinv HX HN HR QI
          obtain ⟨b2, s2⟩ := p
          obtain ⟨k', n', s', A', c', a'⟩ := y
          simp only [Tm.kind, Tm.num, Tm.name, Tm.at_, Tm.args, Tm.cap] at c0 c1 c2 c3
          cases b2
          · go_wp2_with fail
            refine (Q1.out _).mono ?_
            rintro e w2 ⟨rfl, hI2⟩
            go_wp2_with fail
            go_ret
            rw [HT.out True.intro]
            exact ⟨rfl, HV.out.less _ _ _ _ (Nat.le_add_right _ _) hI2⟩
          · go_wp2_with fail
            refine (Q1.out _).mono ?_
            rintro e w2 ⟨rfl, hI2⟩
            go_wp2_with fail
            go_roundw
            case rel => exact ⟨j + 1, by omega, by go_num, Lib.hid ⟨s2, HE.out, hI2⟩⟩
            case measure => simp [intOf]; omega
        · obtain rfl : j = us.length := by omega
          have HE := Lib.hid (show runV step s0 (occL us) = (true, s') by rw [← HR.out, List.take_length])
          clear hrun HR
          have HJ := Lib.hid (HV.out.less _ f _ _ (Nat.le_add_right _ _) hinv)
          clear hinv HX
          go_wp2_with fail
          go_ret
          rw [HE.out]
          exact ⟨rfl, HJ.out⟩
end
end Go.Proofs.YtgpglgehlnfggaaGreat
namespace Go.Proofs.YtgpglgehlnfggaaGreat
open Go.RowKit
theorem enters_fn {f : FuncId} {fn : Func} {c : Code} (hf : Tryz.prog.funcs[f]? = some fn) (hname : (fn.name == "runtime.NumGoroutine") = false) (hb : fn.body = some c) (args : Array Value) (W : World) :
    (callFunc f args).run Tryz.prog W = .ok (.enter f args) W := by
  have h1 : fn.name ≠ "runtime.NumGoroutine" := by simpa using hname
  simp [callFunc, hf, h1, hb, mark]
theorem no_at (n : Int) (w : World) : Calls Tryz.prog 93 #[.int .i64 n] w fun e w' => e = .returned (.bool false) ∧ w = w' := by
  go_enter Tryz.func93, Tryz.ntmps93
  go_wp2
  go_ret
  exact ⟨rfl, rfl⟩
def noStep (_ : Unit) (_ : Int) : Bool × Unit := (false, ())
theorem no_visits (w0 : World) : Visits noStep (fun _ _ W => Below w0.heap.size w0 W) w0 93 #[] where
  enter := enters_fn Tryz.func93 (by kernel_rfl) rfl
  call := fun _ _ n W _ h => (no_at n W).mono fun _ _ ⟨he, hw⟩ => ⟨he, by rw [← hw]; exact h⟩
  keep := fun _ _ _ _ h hb => h.trans (hb.mono h.size)
  less := fun _ _ _ _ _ h => h
  base := fun _ _ _ h => h
theorem no_run (xs : List Int) : (runV noStep () xs).1 = decide (xs = []) := by
  cases xs with
  | nil => rfl
  | cons x r => simp [runV, noStep]
theorem ground_at (t : Tm) (w : World) (ht : t.At w) {r : Bool} (hr : decide (t.occ = []) = r) :
    Calls Tryz.prog 63 #[t.val] w fun e w' => e = .returned (.bool r) ∧ Below w.heap.size w w' := by
  have Q := Lib.hid (fun W (h : Below w.heap.size w W) => each_at (no_visits w) t ht 0 () W h)
  rw [no_run, hr] at Q
  obtain ⟨k, n, s, A, c, a⟩ := t
  show Calls Tryz.prog 63 #[.agg #[.int .i64 k, .int .i64 n, .string s, .slice A a.length c]] w _
  clear ht hr
  go_enter Tryz.func63, Tryz.ntmps63
  go_wp2_with fail
  refine (Q.out _ ((Below.refl _ _).alloc (Nat.le_refl _) _)).mono ?_
  rintro e w1 ⟨rfl, hb⟩
  go_wp2_with fail
  go_ret
  exact ⟨rfl, hb⟩
def otherStep (v : Int) (_ : Unit) (n : Int) : Bool × Unit := (n != v, ())
end Go.Proofs.YtgpglgehlnfggaaGreat
namespace Go.Proofs.YtgpglgehlnfggaaGreat
open Go.RowKit
def icells (l : List Int) : List Value := l.map (Value.int .i64)
theorem icells_append (l m : List Int) : icells (l ++ m) = icells l ++ icells m := by simp [icells]
theorem icells_one (l : List Int) : ∀ u ∈ icells l, u.oneCell' = true := by
  intro u hu
  obtain ⟨_, _, rfl⟩ := List.mem_map.1 hu
  rfl
theorem icells_get {l : List Int} {i : Nat} (h : i < l.length) : (icells l)[i]? = some (.int .i64 (l.getD i 0)) := by simp [icells, List.getD, h]
def Ints (w : World) (A : Option Addr) (l : List Int) : Prop := 0 < l.length → ∃ b o, A = some ⟨b, o, none⟩ ∧ ∀ i, i < l.length → w.cell? ⟨b, o + i, none⟩ = some (.int .i64 (l.getD i 0))
theorem Ints.get {w : World} {A : Option Addr} {l : List Int} (h : Ints w A l) {i : Nat} (hi : i < l.length) : ∃ b o, A = some ⟨b, o, none⟩ ∧ w.cell? ⟨b, o + i, none⟩ = some (.int .i64 (l.getD i 0)) := by
  obtain ⟨b, o, e, hc⟩ := h (by omega)
  exact ⟨b, o, e, hc i hi⟩
theorem Ints.below {w w' : World} {A : Option Addr} {l : List Int} (h : Ints w A l) (hb : Below w.heap.size w w') : Ints w' A l := fun hn => by
  obtain ⟨b, o, e, hc⟩ := h hn
  refine ⟨b, o, e, fun i hi => ?_⟩
  rw [hb.cell (World.block_lt_of_cell? w _ (hc i hi))]
  exact hc i hi
def OwnI (w : World) (base : Nat) (v : Value) (l : List Int) : Prop := w.ownsRow base 3 1 v l.length (icells l)
theorem OwnI.nil (w : World) (base : Nat) : OwnI w base (.slice none 0 0) [] := World.ownsRow_nil w base _ _
theorem OwnI.form {w : World} {base : Nat} {v : Value} {l : List Int} (h : OwnI w base v l) : ∃ A c, v = .slice A l.length c ∧ Ints w A l ∧ l.length ≤ c := by
  rcases h.2 with ⟨rfl, h0⟩ | ⟨g, cap, cur, rfl, _, _, hn, _, _, _⟩
  · exact ⟨none, 0, by rw [h0], fun hn => absurd hn (by omega), by omega⟩
  · refine ⟨_, cap, rfl, fun _ => ⟨g, 0, rfl, fun i hi => ?_⟩, hn⟩
    rw [Nat.zero_add, World.ownsRow.cellAt h i (by omega), icells_get hi]
theorem OwnI.alloc {w : World} {base : Nat} {v : Value} {l : List Int} (h : OwnI w base v l) (o : Obj) : OwnI (w.alloc o) base v l := World.ownsRow.alloc h o
theorem OwnI.below {w w' : World} {base : Nat} {v : Value} {l : List Int} (h : OwnI w base v l) (hb : Below w.heap.size w w') : OwnI w' base v l :=
  World.ownsRow.kept (row := none) h ⟨hb.os, hb.tape, hb.output, hb.size, fun k hk _ => hb.block k hk⟩ (by
    rcases h.2 with ⟨rfl, _⟩ | ⟨g, cap, cur, rfl, _⟩
    · exact .inl rfl
    · exact .inr (by simp [Value.ownBlock]))
theorem take_int {l : List Int} {k : Nat} (h : k < l.length) : l.take (k + 1) = l.take k ++ [l.getD k 0] := by
  rw [List.take_succ_eq_append_getElem h]
  simp [List.getD, List.getElem?_eq_getElem h]
theorem getD_int {l : List Int} {k : Nat} (h : k < l.length) : l.getD k 0 ∈ l := by
  simp only [List.getD, List.getElem?_eq_getElem h, Option.getD_some]
  exact List.getElem_mem h
set_option maxHeartbeats 400000 in
theorem has_at (A : Option Addr) (l : List Int) (c : Nat) (n : Int) (w : World) (hI : Ints w A l) (hlen : l.length ≤ 9223372036854775807) {r : Bool} (hr : decide (n ∈ l) = r) :
    Calls Tryz.prog 140 #[.slice A l.length c, .int .i64 n] w fun e w' => e = .returned (.bool r) ∧ w = w' := by
  have HR := Lib.hid hr
  clear hr
  go_enter Tryz.func140, Tryz.ntmps140
  go_wp2
  go_loop [5] (fun i => ∃ j : Nat, j ≤ l.length ∧ i = .int .i64 j ∧ Hid (n ∉ l.take j)) (fun i => l.length - (intOf i).toNat)
  case atStart => exact ⟨0, Nat.zero_le _, rfl, Lib.hid (by simp)⟩
  case round =>
    obtain ⟨j, hj, rfl, HN⟩ := hrel
    by_cases hlt : j < l.length
    · obtain ⟨b, o, rfl, hc⟩ := hI.get hlt
      have HT := Lib.hid (take_int hlt)
      have HM := Lib.hid (getD_int hlt)
      generalize l.getD j 0 = x at *
      by_cases hx : x = n
      · subst hx
        have HE := Lib.hid (show true = r by rw [← HR.out]; simp [HM.out])
        go_wp2
        go_ret
        exact ⟨by rw [← HE.out]; rfl, rfl⟩
      · have hx' : (x == n) = false := by simpa using hx
        have HN' := Lib.hid (show n ∉ l.take (j + 1) by
          rw [HT.out, List.mem_append, List.mem_singleton]
          exact fun h => h.elim HN.out (fun e => hx e.symm))
        clear hx
        go_wp2
        go_round
        case rel => exact ⟨j + 1, by omega, by go_num, HN'⟩
        case measure => simp [intOf]; omega
    · obtain rfl : j = l.length := by omega
      have HE := Lib.hid (show false = r by
        have := HN.out
        rw [List.take_length] at this
        rw [← HR.out]; simp [this])
      go_wp2
      go_ret
      exact ⟨by rw [← HE.out]; rfl, rfl⟩
end Go.Proofs.YtgpglgehlnfggaaGreat
namespace Go.Proofs.YtgpglgehlnfggaaGreat
open Go.RowKit
def addV (l : List Int) (x : Int) : List Int := if x ∈ l then l else l ++ [x]
def addAll (l xs : List Int) : List Int := xs.foldl addV l
theorem addAll_append (l xs ys : List Int) : addAll l (xs ++ ys) = addAll (addAll l xs) ys := by simp [addAll]
theorem addAll_one (l : List Int) (x : Int) : addAll l [x] = addV l x := rfl
theorem addV_length (l : List Int) (x : Int) : (addV l x).length ≤ l.length + 1 := by unfold addV; split <;> simp
theorem addAll_length (l xs : List Int) : (addAll l xs).length ≤ l.length + xs.length := by
  induction xs generalizing l with
  | nil => simp [addAll]
  | cons x r ih =>
    have h1 := ih (addV l x)
    have h2 := addV_length l x
    simp only [addAll, List.foldl_cons, List.length_cons] at *
    omega
theorem occ_length : (∀ t : Tm, t.occ.length ≤ t.size) ∧ (∀ l, (occL l).length ≤ sizeL l) := by
  refine Tm.induct2 (fun k n s A c a ih => ?_) (Nat.le_refl _) (fun t r h1 h2 => ?_)
  · simp only [Tm.occ, Tm.size]
    by_cases h1 : k = 1
    · simp [h1]
    · by_cases h2 : k = 2
      · simp [h2]; omega
      · simp [h1, h2]
  · simp only [occL, sizeL, List.length_append]; omega
theorem mem_addV (l : List Int) (x y : Int) : y ∈ addV l x ↔ y ∈ l ∨ y = x := by
  unfold addV
  split
  · constructor
    · exact .inl
    · rintro (h | rfl)
      · exact h
      · assumption
  · simp
theorem mem_addAll (l xs : List Int) (y : Int) : y ∈ addAll l xs ↔ y ∈ l ∨ y ∈ xs := by
  induction xs generalizing l with
  | nil => simp [addAll]
  | cons x r ih =>
    have := ih (addV l x)
    simp only [addAll, List.foldl_cons] at this ⊢
    rw [this, mem_addV]
    simp [or_assoc]
theorem addAll_nil {xs : List Int} : addAll [] xs = [] ↔ xs = [] := by
  constructor
  · intro h
    cases xs with
    | nil => rfl
    | cons x r =>
      have : x ∈ addAll [] (x :: r) := (mem_addAll _ _ _).2 (.inr (by simp))
      rw [h] at this
      simp at this
  · rintro rfl; rfl
def Grows (w0 : World) (l : List Int) (e : Ending) (w' : World) : Prop := ∃ v, e = .returned v ∧ OwnI w' w0.heap.size v l ∧ Below w0.heap.size w0 w'
theorem int_info : (Tryz.prog.info? 3).map (fun i => (i.zero, i.size, i.bytes)) = some (some (.int .i64 0), 1, 8) := by kernel_rfl
theorem box4g {w w' : World} {v0 v1 v2 v3 : Value} {T : TypeId} {o : Obj} {row : Option Nat} (hg : ((w.alloc (.cells #[v0, v1, v2, v3] T)).alloc o).grownBy w' row) (hr : ∀ k, row = some k → k < w.heap.size) :
    w'.cell? ⟨w.heap.size, 0, none⟩ = some v0 ∧ w'.cell? ⟨w.heap.size, 1, none⟩ = some v1 ∧ w'.cell? ⟨w.heap.size, 2, none⟩ = some v2 ∧ w'.cell? ⟨w.heap.size, 3, none⟩ = some v3 := by
  have h : ∀ j, w'.cell? ⟨w.heap.size, j, none⟩ = (#[v0, v1, v2, v3] : Array Value)[j]? := fun j => by
    rw [World.cell?_of_block (a := ⟨w.heap.size, j, none⟩) (hg.block w.heap.size (by simp; omega) (fun e => by have := hr _ e.symm; omega)), World.cell?_alloc_lt _ _ _ (by simp), World.cell?_alloc_at _ _ _ _ rfl]
  exact ⟨h 0, h 1, h 2, h 3⟩
theorem Grows.mk {w0 w' : World} {l : List Int} {e : Ending} {v : Value} (he : e = .returned v) (h : OwnI w' w0.heap.size v l) (hb : Below w0.heap.size w0 w') : Grows w0 l e w' := ⟨v, he, h, hb⟩
theorem one_new (w : World) (o : Obj) (T : TypeId) (x : Value) : ∀ (j : Nat) (u : Value), [x][j]? = some u → ((w.alloc o).alloc (.cells #[x] T)).cell? ((⟨w.heap.size + 1, 0, none⟩ : Addr).add j) = some u := by
  intro j u hu
  cases j with
  | zero =>
    have e : (w.alloc o).heap.size = w.heap.size + 1 := by simp
    rw [add_plain, Nat.add_zero, ← e, World.cell?_alloc_at _ _ _ _ rfl]
    simpa using hu
  | succ j => simp at hu
theorem OwnI.put {w : World} {base : Nat} {v : Value} {l : List Int} {n : Int} (h : w.ownsRow base 3 1 v (l.length + 1) (icells l ++ [.int .i64 n])) (hn : n ∉ l) : OwnI w base v (addV l n) := by
  unfold OwnI addV
  rw [if_neg hn, List.length_append, icells_append]
  exact h
def VarsAt (t : Tm) : Prop := ∀ (v : Value) (l : List Int) (w0 w : World), t.At w0 → Below w0.heap.size w0 w → OwnI w w0.heap.size v l → l.length + t.size ≤ 1000000 →
    Calls Tryz.prog 97 #[v, t.val] w (Grows w0 (addAll l t.occ))
set_option maxHeartbeats 1000000 in
theorem vars_at (t : Tm) : VarsAt t := by
  induction t using Tm.induct with
  | h k n s A c a ih0 =>
    intro v l w0 w hat hw hown hsz
    obtain ⟨V, q, rfl, hI, hq⟩ := hown.form
    have hat1 := hat.below hw
    have qa := Lib.hid (args_at (.mk k n s A c a))
    have hocc := occ_used (.mk k n s A c a)
    have hsu := size_used (.mk k n s A c a)
    by_cases k1 : k = 1
    · subst k1
      have hus : (Tm.mk 1 n s A c a).used = [] := by simp [Tm.used, Tm.kind]
      have HO := Lib.hid (show (Tm.mk 1 n s A c a).occ = [n] by rw [hocc]; simp [Tm.kind, Tm.num])
      rw [hus] at qa hsu
      generalize (Tm.mk 1 n s A c a).uat = U at qa
      generalize (Tm.mk 1 n s A c a).ucap = uq at qa
      have hlen : l.length ≤ 9223372036854775807 := by omega
      obtain ⟨b1, hb1⟩ : ∃ b, decide (n ∈ l) = b := ⟨_, rfl⟩
      have qh := Lib.hid (fun W (h : Below w.heap.size w W) => has_at V l q n W (hI.below h) hlen hb1)
      have B0 := Lib.hid (show ∀ o, Below w.heap.size w (w.alloc o) from fun o => (Below.refl _ _).alloc (Nat.le_refl _) o)
      have HB := Lib.hid hb1
      have HW := Lib.hid hown
      clear ih0 hocc hb1 hat hat1 hI hown
      show Calls Tryz.prog 97 #[.slice V l.length q, .agg #[.int .i64 1, .int .i64 n, .string s, .slice A a.length c]] w _
      cases b1
      · have hn : n ∉ l := by simpa using HB.out
        have HN := Lib.hid hn
        obtain ⟨i0, hi, hz0, hz1, hz2⟩ := info_parts int_info
        have hw1 := (hw.alloc hw.size (.cells #[.int .i64 1, .int .i64 n, .string s, .slice A a.length c] 40)).alloc (by have := hw.size; simp; omega) (.cells #[.int .i64 n] 3)
        have HS := Lib.hid hw1.size
        clear hn
        go_enter Tryz.func97, Tryz.ntmps97
        go_wp2_with fail
        refine (qh.out _ (B0.out _)).mono ?_
        rintro e w' ⟨rfl, rfl⟩
        go_wp2_with (at_builtin; refine wpList_append_own _ rfl _ _ 73 rfl w0.heap.size 3 i0 (.int .i64 0) 1 8 Tryz.underlying73 hi hz0 hz1 hz2 rfl (by decide) _ l.length (icells l) rfl ((HW.out.alloc _).alloc _) ⟨w.heap.size + 1, 0, none⟩ 1 1 [.int .i64 n] rfl rfl (one_new _ _ _ _) (icells_one [n]) (by unfold maxLen; omega) (by omega) HS.out ?_; intro v' w1 hown1 hg1 _; obtain ⟨d0, d1, d2, d3⟩ := box4g hg1 (fun k hk => (World.ownsRow.lt HW.out k hk).2))
        have hb1 : Below w0.heap.size w0 w1 := hw1.grown hg1 HS.out (fun k hk => (World.ownsRow.lt HW.out k hk).1)
        have HP := Lib.hid (OwnI.put hown1 HN.out)
        clear hown1 hg1
        go_wp2_with fail
        refine (qa.out _).mono ?_
        rintro e w2 ⟨rfl, hb2⟩
        go_wp2_with fail
        refine wp_loop_rounds 1 ?_
        rw [rounds_succ]
        go_wp2_with fail
        go_ret
        refine Grows.mk rfl ?_ (hb1.trans (hb2.mono hb1.size))
        rw [HO.out, addAll_one]
        exact HP.out.below hb2
      · have hn : n ∈ l := by simpa using HB.out
        have HN := Lib.hid hn
        clear hn
        go_enter Tryz.func97, Tryz.ntmps97
        go_wp2_with fail
        refine (qh.out _ (B0.out _)).mono ?_
        rintro e w' ⟨rfl, rfl⟩
        go_wp2_with fail
        refine (qa.out _).mono ?_
        rintro e w2 ⟨rfl, hb2⟩
        have hb3 : Below w.heap.size w w2 := (B0.out _).trans (hb2.mono (by simp))
        go_wp2_with fail
        refine wp_loop_rounds 1 ?_
        rw [rounds_succ]
        go_wp2_with fail
        go_ret
        refine Grows.mk rfl ?_ (hw.trans (hb3.mono hw.size))
        rw [HO.out, addAll_one]
        unfold addV
        rw [if_pos HN.out]
        exact HW.out.below hb3
    · have k1' : (k == 1) = false := by simp [k1]
      have hl := hat.ulst
      have ih : ∀ x ∈ (Tm.mk k n s A c a).used, VarsAt x := by
        unfold Tm.used
        split
        · exact ih0
        · intro x hx; cases hx
      have HO := Lib.hid (show (Tm.mk k n s A c a).occ = occL (Tm.mk k n s A c a).used by rw [hocc]; exact if_neg k1)
      have hol := occ_length.2 (Tm.mk k n s A c a).used
      rw [hsu] at hsz
      rw [HO.out]
      clear ih0 hocc hat hat1 hI k1 HO hsu
      generalize (Tm.mk k n s A c a).used = us at *
      generalize (Tm.mk k n s A c a).uat = U at *
      generalize (Tm.mk k n s A c a).ucap = uq at *
      have QI := Lib.hid ih
      have hlen : us.length ≤ 9223372036854775807 := by have := hl.1; have := hl.2.1; unfold maxLen at *; omega
      have HW := Lib.hid hown
      clear ih hown
      show Calls Tryz.prog 97 #[.slice V l.length q, .agg #[.int .i64 k, .int .i64 n, .string s, .slice A a.length c]] w _
      go_enter Tryz.func97, Tryz.ntmps97
      go_wp2_with fail
      refine (qa.out _).mono ?_
      rintro e w2 ⟨rfl, hb2⟩
      have hb3 : Below w.heap.size w w2 := ((Below.refl _ _).alloc (Nat.le_refl _) _).trans (hb2.mono (by simp))
      have hb4 : Below w0.heap.size w0 w2 := hw.trans (hb3.mono hw.size)
      go_wp2_with fail
      go_loopw [0, 6] (fun z i wr => ∃ (j : Nat) (x : Value), j ≤ us.length ∧ i = .int .i64 j ∧ z = x ∧ Hid (OwnI wr w0.heap.size x (addAll l (occL (us.take j)))) ∧ Below w0.heap.size w0 wr) (fun _ i _ => us.length - (intOf i).toNat)
      case atStart => exact ⟨0, _, Nat.zero_le _, rfl, rfl, Lib.hid (HW.out.below hb3), hb4⟩
      case round =>
        obtain ⟨j, x, hj, rfl, rfl, HX, hb⟩ := hrel
        by_cases hlt : j < us.length
        · obtain ⟨b, o, rfl, ⟨c0, c1, c2, c3⟩, _⟩ := (hl.below hb).get hlt
          have hy := hl.mem (getD_mem hlt)
          have hmem := getD_mem hlt
          have hn := sizeL_next hlt
          have ht := sizeL_take us (j + 1)
          have ho := occ_length.2 (us.take j)
          have ha := addAll_length l (occL (us.take j))
          have HN := Lib.hid (occL_next hlt)
          generalize us.getD j default = y at *
          have hB : (addAll l (occL (us.take j))).length + y.size ≤ 1000000 := by omega
          have Q1 := Lib.hid (QI.out y hmem _ (addAll l (occL (us.take j))) w0 wr hy hb HX.out hB)
          clear hy QI hmem hn ht ho ha hB
          obtain ⟨k', n', s', A', c', a'⟩ := y
          simp only [Tm.kind, Tm.num, Tm.name, Tm.at_, Tm.args, Tm.cap] at c0 c1 c2 c3
          go_wp2_with fail
          refine Q1.out.mono ?_
          rintro e w5 ⟨v5, rfl, hown5, hb5⟩
          go_wp2_with fail
          go_roundw
          case rel => exact ⟨j + 1, v5, by omega, by go_num, rfl, Lib.hid (by rw [HN.out, addAll_append]; exact hown5), hb5⟩
          case measure => simp [intOf]; omega
        · obtain rfl : j = us.length := by omega
          go_wp2_with fail
          go_ret
          refine Grows.mk rfl ?_ hb
          have := HX.out
          rw [List.take_length] at this
          exact this
end Go.Proofs.YtgpglgehlnfggaaGreat
namespace Go.Proofs.YtgpglgehlnfggaaGreat
open Go.RowKit Go.Maps
theorem keyed : Keyed Tryz.prog 3 := int_keyed Tryz.underlying3
theorem fits_wf {n : Int} (h : Fits n) : (Lit.int .i64 n).wf = true := by
  have h1 : IntKind.i64.min = -9223372036854775808 := rfl
  have h2 : IntKind.i64.max = 9223372036854775807 := rfl
  unfold Fits at h
  simp only [Lit.wf, Bool.and_eq_true, decide_eq_true_eq]
  omega
def seenD (l : List Int) : DataW Unit := setOf (.lit (.bool true)) (l.map (Lit.int .i64))
def Seen (w : World) (b : Nat) (l : List Int) : Prop := (∀ n ∈ l, Fits n) ∧ w.ownsMap Tryz.prog 3 (plainElem Tryz.prog 4) b l.length (seenD l)
def addStep (l : List Int) (n : Int) : Bool × List Int := (true, addV l n)
theorem Seen.keep {w w' : World} {b : Nat} {l : List Int} (h : Seen w b l) (hb : Below w.heap.size w w') : Seen w' b l :=
  ⟨h.1, h.2.kept (row := none) ⟨hb.os, hb.tape, hb.output, hb.size, fun k hk _ => hb.block k hk⟩ (by simp)⟩
end Go.Proofs.YtgpglgehlnfggaaGreat
namespace Go.Proofs.YtgpglgehlnfggaaGreat
open Go.RowKit
def tcells (l : List Tm) : List Value := l.flatMap Tm.cells
theorem cells_length (t : Tm) : t.cells.length = 4 := rfl
theorem tcells_length (l : List Tm) : (tcells l).length = l.length * 4 := by
  induction l with
  | nil => rfl
  | cons t r ih => simp only [tcells, List.flatMap_cons, List.length_append, cells_length, List.length_cons] at *; omega
theorem tcells_one (l : List Tm) : ∀ u ∈ tcells l, u.oneCell' = true := by
  intro u hu
  obtain ⟨t, _, ht⟩ := List.mem_flatMap.1 hu
  simp only [Tm.cells, List.mem_cons, List.not_mem_nil, or_false] at ht
  rcases ht with rfl | rfl | rfl | rfl <;> rfl
theorem tcells_get (l : List Tm) {i j : Nat} (hi : i < l.length) (hj : j < 4) : (tcells l)[4 * i + j]? = (l.getD i default).cells[j]? := by
  induction l generalizing i with
  | nil => simp at hi
  | cons t r ih =>
    simp only [tcells, List.flatMap_cons]
    cases i with
    | zero =>
      rw [List.getElem?_append_left (by rw [cells_length]; omega)]
      simp
    | succ i =>
      rw [List.getElem?_append_right (by rw [cells_length]; omega), cells_length, show 4 * (i + 1) + j - 4 = 4 * i + j by omega]
      simpa [tcells] using ih (by simpa using hi)
theorem RowAt.cells {w : World} {l : List Tm} {b o : Nat} (h : RowAt w l b o) : ∀ (j : Nat) (u : Value), (tcells l)[j]? = some u → w.cell? ((⟨b, o, none⟩ : Addr).add j) = some u := by
  induction l generalizing o with
  | nil => intro j u hu; simp [tcells] at hu
  | cons t r ih =>
    intro j u hu
    simp only [RowAt] at h
    obtain ⟨⟨h0, h1, h2, h3⟩, _, hr⟩ := h
    rw [add_plain]
    simp only [tcells, List.flatMap_cons] at hu
    by_cases hj : j < 4
    · rw [List.getElem?_append_left (by rw [cells_length]; exact hj)] at hu
      match j, hj with
      | 0, _ => rw [← hu]; exact h0
      | 1, _ => rw [← hu]; exact h1
      | 2, _ => rw [← hu]; exact h2
      | 3, _ => rw [← hu]; exact h3
    · rw [List.getElem?_append_right (by rw [cells_length]; omega), cells_length] at hu
      have := ih hr (j - 4) u hu
      rw [add_plain, show o + 4 + (j - 4) = o + j by omega] at this
      exact this
theorem term_info : (Tryz.prog.info? 40).map (fun i => (i.zero, i.size, i.bytes)) = some (some (.agg #[.int .i64 0, .int .i64 0, .string ⟨#[]⟩, .slice none 0 0]), 4, 56) := by kernel_rfl
def Row4 (w : World) (g : Nat) (l : List Tm) : Prop := g < w.heap.size ∧ (∀ j, w.frozen? ⟨g, j, none⟩ = false) ∧ ∀ i j u, i < l.length → (l.getD i default).cells[j]? = some u → w.cell? ⟨g, 4 * i + j, none⟩ = some u
theorem Row4.below {w w' : World} {g : Nat} {l : List Tm} (h : Row4 w g l) (hb : Below w.heap.size w w') : Row4 w' g l := by
  refine ⟨Nat.lt_of_lt_of_le h.1 hb.size, fun j => ?_, fun i j u hi hu => ?_⟩
  · rw [hb.frozen (p := ⟨g, j, none⟩) h.1]; exact h.2.1 j
  · rw [hb.cell (p := ⟨g, 4 * i + j, none⟩) h.1]; exact h.2.2 i j u hi hu
theorem own_block_lt {w : World} {base : Nat} {e : TypeId} {size : Nat} {g n c : Nat} {xs : List Value} (h : w.ownsRow base e size (.slice (some ⟨g, 0, none⟩) n c) n xs) : g < w.heap.size := (World.ownsRow.lt h g rfl).2
theorem Row4.of {w : World} {base g c : Nat} {l : List Tm} (h : w.ownsRow base 40 4 (.slice (some ⟨g, 0, none⟩) l.length c) l.length (tcells l)) : Row4 w g l := by
  refine ⟨own_block_lt h, fun j => World.ownsRow.frozenAt h j, fun i j u hi hu => ?_⟩
  have hj : j < 4 := by
    have := (List.getElem?_eq_some_iff.1 hu).1
    simpa [Tm.cells] using this
  rw [World.ownsRow.cellAt h (4 * i + j) (by omega), tcells_get l hi hj]
  exact hu
def Cloned (w : World) (l : List Tm) (e : Ending) (w' : World) : Prop := ∃ A cap, e = .returned (.slice A l.length cap) ∧ l.length ≤ cap ∧ cap ≤ maxLen ∧ (0 < l.length → ∃ g, A = some ⟨g, 0, none⟩ ∧ w.heap.size ≤ g ∧ Row4 w' g l) ∧ Below w.heap.size w w'
set_option maxHeartbeats 1000000 in
theorem clone_at (l : List Tm) (b o c : Nat) (w : World) (h0 : 0 < l.length) (hl : RowAt w l b o) (hsz : l.length ≤ 1000000) :
    Calls Tryz.prog 46 #[.slice (some ⟨b, o, none⟩) l.length c] w (Cloned w l) := by
  obtain ⟨i0, hi, hz0, hz1, hz2⟩ := info_parts term_info
  have hn := fun (W : World) => Lib.run_eql_slice_nil (P := Tryz.prog) W 22 40 (some ⟨b, o, none⟩) l.length c 0 0 Tryz.underlying22
  go_enter Tryz.func46, Tryz.ntmps46
  have hl1 : RowAt (w.alloc (.cells #[] 40)) l b o := (At_keep ((Below.refl _ _).alloc (Nat.le_refl _) _)).2 _ _ _ hl
  have HC := Lib.hid hl1.cells
  have HO := Lib.hid (World.ownsRow_lit (base := w.heap.size) (e := 40) (size := 4) w #[] 0 (Nat.le_refl _) (Nat.zero_le _) rfl)
  clear hl hl1
  go_wp2_with (at_builtin; refine wpList_append_own _ rfl _ _ 22 rfl w.heap.size 40 i0 _ 4 56 Tryz.underlying22 hi hz0 hz1 hz2 rfl (by decide) _ 0 [] rfl HO.out ⟨b, o, none⟩ l.length c (tcells l) rfl (tcells_length l) HC.out (tcells_one l) (by unfold maxLen; omega) (by omega) (by simp) ?_; intro v' w1 hown1 hg1 _)
  have HG := Lib.hid hg1
  have HW := Lib.hid hown1
  clear hg1 hown1
  go_ret
  have hw := HW.out
  simp only [Nat.zero_add, List.nil_append] at hw
  obtain ⟨hlen, hv⟩ := hw
  rcases hv with ⟨_, h⟩ | ⟨g, cap, cur, rfl, hb, hheap, hle, hcap, _, hcur⟩
  · omega
  · refine ⟨_, cap, rfl, hle, hcap, fun _ => ⟨g, rfl, hb, Row4.of (base := w.heap.size) (c := cap) ?_⟩, ?_⟩
    · have hw := HW.out
      simpa only [Nat.zero_add, List.nil_append] using hw
    · exact ((Below.refl _ _).alloc (Nat.le_refl _) _).grown HG.out (by simp) (fun k hk => (World.ownsRow.lt HO.out k hk).1)
set_option maxHeartbeats 1000000 in
theorem clone_none_at (A : Option Addr) (c : Nat) (w : World) :
    Calls Tryz.prog 46 #[.slice A 0 c] w (Cloned w []) := by
  obtain ⟨i0, hi, hz0, hz1, hz2⟩ := info_parts term_info
  have hn := fun (W : World) => Lib.run_eql_slice_nil (P := Tryz.prog) W 22 40 A 0 c 0 0 Tryz.underlying22
  cases A with
  | none =>
    go_enter Tryz.func46, Tryz.ntmps46
    go_wp2_with fail
    go_ret
    exact ⟨none, 0, rfl, Nat.le_refl _, Nat.zero_le _, fun h => by simp at h, Below.refl _ _⟩
  | some a =>
    go_enter Tryz.func46, Tryz.ntmps46
    have HO := Lib.hid (World.ownsRow_lit (base := w.heap.size) (e := 40) (size := 4) w #[] 0 (Nat.le_refl _) (Nat.zero_le _) rfl)
    go_wp2_with (at_builtin; refine wpList_append_own _ rfl _ _ 22 rfl w.heap.size 40 i0 _ 4 56 Tryz.underlying22 hi hz0 hz1 hz2 rfl (by decide) _ 0 [] rfl HO.out a 0 c [] rfl rfl (fun _ _ h => by simp at h) (fun _ h => by simp at h) (by unfold maxLen; omega) (by omega) (by simp) ?_; intro v' w1 hown1 hg1 _)
    have HG := Lib.hid hg1
    have HW := Lib.hid hown1
    clear hg1 hown1
    go_ret
    have hb : Below w.heap.size w w1 := ((Below.refl _ _).alloc (Nat.le_refl _) _).grown HG.out (by simp) (fun k hk => (World.ownsRow.lt HO.out k hk).1)
    rcases HW.out.2 with ⟨rfl, _⟩ | ⟨g, cap, cur, rfl, _, _, _, hcap, _, _⟩
    · exact ⟨none, 0, rfl, Nat.le_refl _, Nat.zero_le _, fun h => by simp at h, hb⟩
    · exact ⟨_, cap, rfl, Nat.zero_le _, hcap, fun h => by simp at h, hb⟩
theorem set4 (w : World) (g q : Nat) (v0 v1 v2 v3 : Value) (h0 : ∀ j, j < 4 → (w.cell? ⟨g, q + j, none⟩).isSome = true) :
    ∀ p : Addr, ((((w.setCell ⟨g, q, none⟩ v0).setCell ⟨g, q + 1, none⟩ v1).setCell ⟨g, q + 2, none⟩ v2).setCell ⟨g, q + 3, none⟩ v3).cell? p =
      if p = ⟨g, q, none⟩ then some v0 else if p = ⟨g, q + 1, none⟩ then some v1 else if p = ⟨g, q + 2, none⟩ then some v2 else if p = ⟨g, q + 3, none⟩ then some v3 else w.cell? p := by
  intro p
  have ne : ∀ i j : Nat, i ≠ j → (⟨g, q + i, none⟩ : Addr) ≠ ⟨g, q + j, none⟩ := fun i j h e => by injection e with _ e _; omega
  have n01 : (⟨g, q, none⟩ : Addr) ≠ ⟨g, q + 1, none⟩ := ne 0 1 (by omega)
  have n02 : (⟨g, q, none⟩ : Addr) ≠ ⟨g, q + 2, none⟩ := ne 0 2 (by omega)
  have n03 : (⟨g, q, none⟩ : Addr) ≠ ⟨g, q + 3, none⟩ := ne 0 3 (by omega)
  have n12 := ne 1 2 (by omega)
  have n13 := ne 1 3 (by omega)
  have n23 := ne 2 3 (by omega)
  have s0 := h0 0 (by omega)
  have s1 := h0 1 (by omega)
  have s2 := h0 2 (by omega)
  have s3 := h0 3 (by omega)
  simp only [Nat.add_zero] at s0
  by_cases e0 : p = ⟨g, q, none⟩
  · subst e0
    rw [if_pos rfl, World.cell?_setCell_other _ _ _ _ n03.symm, World.cell?_setCell_other _ _ _ _ n02.symm, World.cell?_setCell_other _ _ _ _ n01.symm, World.cell?_setCell_same' _ _ _ s0]
  rw [if_neg e0]
  by_cases e1 : p = ⟨g, q + 1, none⟩
  · subst e1
    rw [if_pos rfl, World.cell?_setCell_other _ _ _ _ n13.symm, World.cell?_setCell_other _ _ _ _ n12.symm, World.cell?_setCell_same' _ _ _ (by rw [World.cell?_setCell_other _ _ _ _ n01]; exact s1)]
  rw [if_neg e1]
  by_cases e2 : p = ⟨g, q + 2, none⟩
  · subst e2
    rw [if_pos rfl, World.cell?_setCell_other _ _ _ _ n23.symm, World.cell?_setCell_same' _ _ _ (by rw [World.cell?_setCell_other _ _ _ _ n12, World.cell?_setCell_other _ _ _ _ n02]; exact s2)]
  rw [if_neg e2]
  by_cases e3 : p = ⟨g, q + 3, none⟩
  · subst e3
    rw [if_pos rfl, World.cell?_setCell_same' _ _ _ (by rw [World.cell?_setCell_other _ _ _ _ n23, World.cell?_setCell_other _ _ _ _ n13, World.cell?_setCell_other _ _ _ _ n03]; exact s3)]
  rw [if_neg e3, World.cell?_setCell_other _ _ _ _ (Ne.symm e3), World.cell?_setCell_other _ _ _ _ (Ne.symm e2), World.cell?_setCell_other _ _ _ _ (Ne.symm e1), World.cell?_setCell_other _ _ _ _ (Ne.symm e0)]
theorem Row4.some_cell {w : World} {g : Nat} {l : List Tm} (h : Row4 w g l) {i : Nat} (hi : i < l.length) : ∀ j, j < 4 → (w.cell? ⟨g, i * 4 + j, none⟩).isSome = true := by
  intro j hj
  have e : (l.getD i default).cells.length = 4 := rfl
  rw [Nat.mul_comm, h.2.2 i j _ hi (List.getElem?_eq_getElem (by omega))]
  rfl
theorem Row4.store {w : World} {g : Nat} {l : List Tm} (h : Row4 w g l) {i : Nat} (hi : i < l.length) (u : Tm) :
    Row4 ((((w.setCell ⟨g, i * 4, none⟩ (.int .i64 u.kind)).setCell ⟨g, i * 4 + 1, none⟩ (.int .i64 u.num)).setCell ⟨g, i * 4 + 2, none⟩ (.string u.name)).setCell ⟨g, i * 4 + 3, none⟩ (.slice u.at_ u.args.length u.cap)) g (l.set i u) := by
  refine ⟨by simpa using h.1, fun j => by simp only [World.frozen?_setCell]; exact h.2.1 j, fun i' j v hi' hv => ?_⟩
  rw [List.length_set] at hi'
  rw [set4 _ _ _ _ _ _ _ (h.some_cell hi)]
  have hj : j < 4 := by
    have := (List.getElem?_eq_some_iff.1 hv).1
    simpa [Tm.cells] using this
  by_cases e : i' = i
  · subst e
    have ev : (l.set i' u).getD i' default = u := by simp [List.getD, hi']
    rw [ev] at hv
    have ad : ∀ a b : Nat, a ≠ b → ¬ (⟨g, 4 * i' + a, none⟩ : Addr) = ⟨g, i' * 4 + b, none⟩ := fun a b hab h => by injection h with _ h _; omega
    have ad0 : ∀ a : Nat, a ≠ 0 → ¬ (⟨g, 4 * i' + a, none⟩ : Addr) = ⟨g, i' * 4, none⟩ := fun a ha h => by injection h with _ h _; omega
    match j, hj with
    | 0, _ => rw [if_pos (by rw [Nat.mul_comm]; rfl)]; exact hv
    | 1, _ => rw [if_neg (ad0 1 (by omega)), if_pos (by rw [Nat.mul_comm])]; exact hv
    | 2, _ => rw [if_neg (ad0 2 (by omega)), if_neg (ad 2 1 (by omega)), if_pos (by rw [Nat.mul_comm])]; exact hv
    | 3, _ => rw [if_neg (ad0 3 (by omega)), if_neg (ad 3 1 (by omega)), if_neg (ad 3 2 (by omega)), if_pos (by rw [Nat.mul_comm])]; exact hv
  · have ev : (l.set i u).getD i' default = l.getD i' default := by simp [List.getD, Ne.symm e]
    rw [ev] at hv
    have ad : ∀ b : Nat, b < 4 → ¬ (⟨g, 4 * i' + j, none⟩ : Addr) = ⟨g, i * 4 + b, none⟩ := fun b hb h => by injection h with _ h _; omega
    have ad0 : ¬ (⟨g, 4 * i' + j, none⟩ : Addr) = ⟨g, i * 4, none⟩ := fun h => by injection h with _ h _; omega
    rw [if_neg ad0, if_neg (ad 1 (by omega)), if_neg (ad 2 (by omega)), if_neg (ad 3 (by omega))]
    exact h.2.2 i' j v hi' hv
theorem Row4.at {w : World} {g : Nat} {l : List Tm} (h : Row4 w g l) (W : World) (hc : ∀ j, W.cell? ⟨g, j, none⟩ = w.cell? ⟨g, j, none⟩) (ha : ∀ x ∈ l, x.At W) : RowAt W l g 0 := by
  refine RowAt.of fun i hi => ⟨fun j u hu => ?_, ha _ (getD_mem hi)⟩
  rw [Nat.zero_add, hc]
  exact h.2.2 i j u hi hu
end Go.Proofs.YtgpglgehlnfggaaGreat
