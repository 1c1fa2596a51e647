/-
  Contracts of arguments, Size and Depth of the program, and of the reference's own.
  The contract of eachVar of the program, for whatever function value is handed to it: it is called at the variables from left to right until it answers false.
  Contracts of Ground and Occurs of the program.
  Lists of ints in memory; contracts of has and SameInts of the reference.
  Contracts of vars, Vars, VarsOf, Ground and Occurs of the reference.
  Contracts of firstOccurrences and Vars of the program: a map of the numbers that were seen, and a slice that is appended to, both behind captured variables.
  Contracts of firstOccurrences, Vars, AtomVars and GoalVars of the program.
  Contracts of Vars, VarsOf, Ground and Occurs of the reference.
-/
import Derived.Test.YtpnjjahimhhjkaaProg
import Derived.Test.YtpnjjahimhhjkaaTmBase
import Derived.Outline
import Derived.WalkLawsBesides
import Derived.Test.YtpnjjahimhhjkaaNmAll
import Derived.BigQuiet
import Derived.Deep.QuietTactic
import Derived.OwnWalk
import Derived.Laws.OwnMore
import Derived.Maps.AppendAt
import Derived.Maps.OwnOps
import Derived.Maps.OwnSet
import Derived.Maps.Views
import Derived.Laws.Rows
import Derived.Carry
namespace Go.Proofs.Ytpnjjahimhhjkaa
open Go.RowKit

theorem arguments_at (t : Tm) (w : World) :
    Calls Try.prog 59 #[t.val] w fun e w' => e = .returned (.slice t.uat t.used.length t.ucap) ∧ Below w.heap.size w w' := by
  obtain ⟨k, n, s, A, c, a⟩ := t
  show Calls Try.prog 59 #[.agg #[.int .i64 k, .int .i64 n, .string s, .slice A a.length c]] w _
  by_cases hk : k = 2
  · have HV := Lib.hid (show (Tm.mk k n s A c a).uat = A ∧ (Tm.mk k n s A c a).used = a ∧ (Tm.mk k n s A c a).ucap = c by simp [Tm.uat, Tm.used, Tm.ucap, Tm.kind, Tm.at_, Tm.args, Tm.cap, hk])
    have hk' : (k != 2) = false := by simp [hk]
    clear hk
    go_enter Try.func59, Try.ntmps59
    go_wp2
    go_ret
    obtain ⟨h1, h2, h3⟩ := HV.out
    exact ⟨by rw [h1, h2, h3]; rfl, (Below.refl _ _).alloc (Nat.le_refl _) _⟩
  · have HV := Lib.hid (show (Tm.mk k n s A c a).uat = none ∧ (Tm.mk k n s A c a).used = [] ∧ (Tm.mk k n s A c a).ucap = 0 by simp [Tm.uat, Tm.used, Tm.ucap, Tm.kind, hk])
    have hk' : (k != 2) = true := by simp [hk]
    clear hk
    go_enter Try.func59, Try.ntmps59
    go_wp2
    go_ret
    obtain ⟨h1, h2, h3⟩ := HV.out
    exact ⟨by rw [h1, h2, h3]; rfl, (Below.refl _ _).alloc (Nat.le_refl _) _⟩

set_option maxHeartbeats 1000000 in
theorem size_at (t : Tm) : ∀ w : World, t.At w → t.size ≤ 1000000 →
    Calls Try.prog 29 #[t.val] w fun e w' => e = .returned (.int .i64 (t.size : Int)) ∧ Below w.heap.size w w' := by
  induction t using Tm.induct with
  | h k n s A c a ih0 =>
    intro w hat hs
    have hl := hat.ulst
    have hsz := size_used (.mk k n s A c a)
    have ih : ∀ x ∈ (Tm.mk k n s A c a).used, ∀ w : World, x.At w → x.size ≤ 1000000 → Calls Try.prog 29 #[x.val] w fun e w' => e = .returned (.int .i64 (x.size : Int)) ∧ Below w.heap.size w w' := by
      unfold Tm.used
      split
      · exact ih0
      · intro x hx; cases hx
    have qa := Lib.hid (arguments_at (.mk k n s A c a))
    rw [hsz] at hs ⊢
    clear hat ih0 hsz
    generalize (Tm.mk k n s A c a).used = l at *
    generalize (Tm.mk k n s A c a).uat = U at *
    generalize (Tm.mk k n s A c a).ucap = q at *
    have QI := Lib.hid ih
    clear ih
    have hlen : l.length ≤ 9223372036854775807 := by have := hl.1; have := hl.2.1; unfold maxLen at *; omega
    show Calls Try.prog 29 #[.agg #[.int .i64 k, .int .i64 n, .string s, .slice A a.length c]] w _
    go_enter Try.func29, Try.ntmps29
    go_wp2_with fail
    refine (qa.out _).mono ?_
    rintro e w1 ⟨rfl, hb1⟩
    go_wp2_with fail
    have hb2 : Below w.heap.size w w1 := ((Below.refl _ _).alloc (Nat.le_refl _) _).trans (hb1.mono (by simp))
    clear hb1
    go_loopw [3, 9] (fun z i wr => ∃ j : Nat, j ≤ l.length ∧ i = .int .i64 j ∧ z = .int .i64 ((1 + sizeL (l.take j) : Nat) : Int) ∧ Below w.heap.size w wr) (fun _ i _ => l.length - (intOf i).toNat)
    case atStart => exact ⟨0, Nat.zero_le _, rfl, rfl, hb2⟩
    case round =>
      obtain ⟨j, hj, rfl, rfl, hb⟩ := hrel
      by_cases hlt : j < l.length
      · obtain ⟨b, o, rfl, ⟨c0, c1, c2, c3⟩, hx⟩ := (hl.below hb).get hlt
        have hm := getD_mem hlt
        have hn := sizeL_next hlt
        have ht := sizeL_take l (j + 1)
        have ht' := sizeL_take l j
        generalize l.getD j default = x at *
        have q1 := QI.out x hm
        obtain ⟨k', n', s', A', c', a'⟩ := x
        simp only [Tm.kind, Tm.num, Tm.name, Tm.at_, Tm.args, Tm.cap] at c0 c1 c2 c3
        have hB : sizeL (l.take j) + (Tm.mk k' n' s' A' c' a').size ≤ sizeL l := by omega
        have HN := Lib.hid hn
        clear hn
        have Q1 := Lib.hid q1
        have HX := Lib.hid hx
        clear q1 hx QI qa
        go_wp2_with fail
        refine (Q1.out _ (HX.out.alloc _) (by omega)).mono ?_
        rintro e w2 ⟨rfl, hb3⟩
        go_wp2_with fail
        go_roundw
        case rel => exact ⟨j + 1, by omega, by go_num, by rw [HN.out]; go_num, (hb.alloc hb.size _).trans (hb3.mono (by have := hb.size; simp; omega))⟩
        case measure => simp [intOf]; omega
      · obtain rfl : j = l.length := by omega
        go_wp2_with fail
        go_ret
        exact ⟨by rw [List.take_length]; rfl, hb⟩
theorem args_at (t : Tm) (w : World) :
    Calls Try.prog 86 #[t.val] w fun e w' => e = .returned (.slice t.uat t.used.length t.ucap) ∧ Below w.heap.size w w' := by
  obtain ⟨k, n, s, A, c, a⟩ := t
  show Calls Try.prog 86 #[.agg #[.int .i64 k, .int .i64 n, .string s, .slice A a.length c]] w _
  by_cases hk : k = 2
  · have HV := Lib.hid (show (Tm.mk k n s A c a).uat = A ∧ (Tm.mk k n s A c a).used = a ∧ (Tm.mk k n s A c a).ucap = c by simp [Tm.uat, Tm.used, Tm.ucap, Tm.kind, Tm.at_, Tm.args, Tm.cap, hk])
    have hk' : (k == 2) = true := by simp [hk]
    clear hk
    go_enter Try.func86, Try.ntmps86
    go_wp2
    go_ret
    obtain ⟨h1, h2, h3⟩ := HV.out
    exact ⟨by rw [h1, h2, h3]; rfl, (Below.refl _ _).alloc (Nat.le_refl _) _⟩
  · have HV := Lib.hid (show (Tm.mk k n s A c a).uat = none ∧ (Tm.mk k n s A c a).used = [] ∧ (Tm.mk k n s A c a).ucap = 0 by simp [Tm.uat, Tm.used, Tm.ucap, Tm.kind, hk])
    have hk' : (k == 2) = false := by simp [hk]
    clear hk
    go_enter Try.func86, Try.ntmps86
    go_wp2
    go_ret
    obtain ⟨h1, h2, h3⟩ := HV.out
    exact ⟨by rw [h1, h2, h3]; rfl, (Below.refl _ _).alloc (Nat.le_refl _) _⟩

set_option maxHeartbeats 1000000 in
theorem depth_at (t : Tm) : ∀ w : World, t.At w → t.depth ≤ 1000000 →
    Calls Try.prog 30 #[t.val] w fun e w' => e = .returned (.int .i64 (t.depth : Int)) ∧ Below w.heap.size w w' := by
  induction t using Tm.induct with
  | h k n s A c a ih0 =>
    intro w hat hs
    have hl := hat.ulst
    have hsz := depth_used (.mk k n s A c a)
    have ih : ∀ x ∈ (Tm.mk k n s A c a).used, ∀ w : World, x.At w → x.depth ≤ 1000000 → Calls Try.prog 30 #[x.val] w fun e w' => e = .returned (.int .i64 (x.depth : Int)) ∧ Below w.heap.size w w' := by
      unfold Tm.used
      split
      · exact ih0
      · intro x hx; cases hx
    have qa := Lib.hid (arguments_at (.mk k n s A c a))
    rw [hsz] at hs ⊢
    clear hat ih0 hsz
    generalize (Tm.mk k n s A c a).used = l at *
    generalize (Tm.mk k n s A c a).uat = U at *
    generalize (Tm.mk k n s A c a).ucap = q at *
    have QI := Lib.hid ih
    clear ih
    have hlen : l.length ≤ 9223372036854775807 := by have := hl.1; have := hl.2.1; unfold maxLen at *; omega
    show Calls Try.prog 30 #[.agg #[.int .i64 k, .int .i64 n, .string s, .slice A a.length c]] w _
    go_enter Try.func30, Try.ntmps30
    go_wp2_with fail
    refine (qa.out _).mono ?_
    rintro e w1 ⟨rfl, hb1⟩
    go_wp2_with fail
    have hb2 : Below w.heap.size w w1 := ((Below.refl _ _).alloc (Nat.le_refl _) _).trans (hb1.mono (by simp))
    clear hb1
    go_loopw [3, 9] (fun z i wr => ∃ j : Nat, j ≤ l.length ∧ i = .int .i64 j ∧ z = .int .i64 ((depthL (l.take j) : Nat) : Int) ∧ Below w.heap.size w wr) (fun _ i _ => l.length - (intOf i).toNat)
    case atStart => exact ⟨0, Nat.zero_le _, rfl, rfl, hb2⟩
    case round =>
      obtain ⟨j, hj, rfl, rfl, hb⟩ := hrel
      by_cases hlt : j < l.length
      · obtain ⟨b, o, rfl, ⟨c0, c1, c2, c3⟩, hx⟩ := (hl.below hb).get hlt
        have hm := getD_mem hlt
        have hn := depthL_next hlt
        have ht := depthL_take l (j + 1)
        have ht' := depthL_take l j
        generalize l.getD j default = x at *
        have q1 := QI.out x hm
        obtain ⟨k', n', s', A', c', a'⟩ := x
        simp only [Tm.kind, Tm.num, Tm.name, Tm.at_, Tm.args, Tm.cap] at c0 c1 c2 c3
        have hB : (Tm.mk k' n' s' A' c' a').depth ≤ depthL l := by omega
        have HN := Lib.hid hn
        clear hn
        have Q1 := Lib.hid q1
        have HX := Lib.hid hx
        clear q1 hx QI qa
        go_wp2_with fail
        refine (Q1.out _ (HX.out.alloc _) (by omega)).mono ?_
        rintro e w2 ⟨rfl, hb3⟩
        go_wp2_with fail
        go_roundw
        case rel => exact ⟨j + 1, by omega, by go_num, by rw [HN.out]; go_num, (hb.alloc hb.size _).trans (hb3.mono (by have := hb.size; simp; omega))⟩
        case measure => simp [intOf]; omega
      · obtain rfl : j = l.length := by omega
        go_wp2_with fail
        go_ret
        exact ⟨by rw [List.take_length]; rfl, hb⟩
end Go.Proofs.Ytpnjjahimhhjkaa
namespace Go.Proofs.Ytpnjjahimhhjkaa
open Go.RowKit

section
variable {σ : Type}
/-- The visits of a list, until one answers false. -/
def runV (step : σ → Int → Bool × σ) : σ → List Int → Bool × σ
  | s, [] => (true, s)
  | s, x :: r => if (step s x).1 then runV step (step s x).2 r else (false, (step s x).2)
theorem runV_append (step : σ → Int → Bool × σ) (s : σ) (xs ys : List Int) : runV step s (xs ++ ys) = if (runV step s xs).1 then runV step (runV step s xs).2 ys else runV step s xs := by
  induction xs generalizing s with
  | nil => simp [runV]
  | cons x r ih =>
    simp only [List.cons_append, runV]
    by_cases h : (step s x).1 = true
    · simp only [h, if_true]; exact ih _
    · simp [h]

theorem runV_one (step : σ → Int → Bool × σ) (s : σ) (x : Int) : runV step s [x] = step s x := by
  simp only [runV]
  by_cases h : (step s x).1 = true
  · rw [if_pos h]; exact Prod.ext h.symm rfl
  · rw [if_neg h]
    refine Prod.ext ?_ rfl
    have : (step s x).1 = false := by simpa using h
    exact this.symm

/-- What is known of a function value that eachVar is handed: its contract at a number, in each world that fits the state; the first argument of Inv tells how many calls may still come. -/
structure Visits (step : σ → Int → Bool × σ) (Inv : Nat → σ → World → Prop) (w0 : World) (F : FuncId) (caps : Array Value) : Prop where
  enter : ∀ (args : Array Value) (W : World), (callFunc F args).run Try.prog W = .ok (.enter F args) W
  call : ∀ (f : Nat) (s : σ) (n : Int) (W : World), Fits n → Inv (f + 1) s W → Calls Try.prog F (#[.int .i64 n] ++ caps) W fun e W' => e = .returned (.bool (step s n).1) ∧ Inv f (step s n).2 W'
  keep : ∀ (f : Nat) (s : σ) (W W' : World), Inv f s W → Below W.heap.size W W' → Inv f s W'
  less : ∀ (f g : Nat) (s : σ) (W : World), g ≤ f → Inv f s W → Inv g s W
  base : ∀ (f : Nat) (s : σ) (W : World), Inv f s W → Below w0.heap.size w0 W

theorem drop_next {us : List Tm} {j : Nat} (h : j < us.length) : occL (us.drop j) = (us.getD j default).occ ++ occL (us.drop (j + 1)) := by
  rw [List.drop_eq_getElem_cons h]
  simp [occL, List.getD, List.getElem?_eq_getElem h]
theorem runV_stop {step : σ → Int → Bool × σ} {s : σ} {us : List Tm} {j : Nat} (h : (runV step s (occL (us.take j))).1 = false) : runV step s (occL us) = runV step s (occL (us.take j)) := by
  have e := occL_append (us.take j) (us.drop j)
  rw [List.take_append_drop] at e
  rw [e, runV_append, h]
  simp

def EachAt (step : σ → Int → Bool × σ) (Inv : Nat → σ → World → Prop) (F : FuncId) (caps : Array Value) (t : Tm) : Prop :=
  ∀ (f : Nat) (s : σ) (W : World), Inv (f + t.occ.length) s W → Calls Try.prog 87 #[t.val, .func (.func F) #[] caps] W fun e W' => e = .returned (.bool (runV step s t.occ).1) ∧ Inv f (runV step s t.occ).2 W'

set_option maxHeartbeats 1000000 in
theorem each_at {step : σ → Int → Bool × σ} {Inv : Nat → σ → World → Prop} {w0 : World} {F : FuncId} {caps : Array Value} (hv : Visits step Inv w0 F caps) (t : Tm) : t.At w0 → EachAt step Inv F caps t := by
  induction t using Tm.induct with
  | h k n s A c a ih0 =>
    intro hat f s0 W hI
    have qa := Lib.hid (arguments_at (.mk k n s A c a))
    have hocc := occ_used (.mk k n s A c a)
    have B0 := Lib.hid (show ∀ o, Below W.heap.size W (W.alloc o) from fun o => (Below.refl _ _).alloc (Nat.le_refl _) o)
    have hent := hv.enter
    show Calls Try.prog 87 #[.agg #[.int .i64 k, .int .i64 n, .string s, .slice A a.length c], .func (.func F) #[] caps] W _
    by_cases k1 : k = 1
    · subst k1
      have HO := Lib.hid (show (Tm.mk 1 n s A c a).occ = [n] by rw [hocc]; simp [Tm.kind, Tm.num])
      rw [HO.out] at hI
      have hfit : Fits n := ((At_iff _ _).1 hat).1.2.1
      have Q := Lib.hid (fun W' h => hv.call f s0 n W' hfit (hv.keep _ s0 W W' hI h))
      clear ih0 hocc hat hI qa
      go_enter Try.func87, Try.ntmps87
      go_wp2_with fail
      refine (Q.out _ (B0.out _)).mono ?_
      rintro e w' ⟨rfl, hI'⟩
      go_wp2_with fail
      go_ret
      rw [HO.out, runV_one]
      exact ⟨rfl, hI'⟩
    · have k1' : (k == 1) = false := by simp [k1]
      have hl := hat.ulst
      have ih : ∀ x ∈ (Tm.mk k n s A c a).used, x.At w0 → EachAt step Inv F caps x := by
        unfold Tm.used
        split
        · exact ih0
        · intro x hx; cases hx
      have HO : (Tm.mk k n s A c a).occ = occL (Tm.mk k n s A c a).used := by rw [hocc]; exact if_neg k1
      rw [HO] at hI ⊢
      clear ih0 hocc hat k1 HO
      generalize (Tm.mk k n s A c a).used = us at *
      generalize (Tm.mk k n s A c a).uat = U at *
      generalize (Tm.mk k n s A c a).ucap = uq at *
      have QI := Lib.hid ih
      have HI := Lib.hid hI
      have hlen : us.length ≤ 9223372036854775807 := by have := hl.1; have := hl.2.1; unfold maxLen at *; omega
      have HV := Lib.hid hv
      clear ih hv hI
      go_enter Try.func87, Try.ntmps87
      go_wp2_with fail
      refine (qa.out _).mono ?_
      rintro e w1 ⟨rfl, hb1⟩
      have HI1 := Lib.hid (HV.out.keep _ s0 W w1 HI.out ((B0.out _).trans (hb1.mono (by simp))))
      clear hb1
      go_wp2_with fail
      go_loopw [17] (fun i wr => ∃ j : Nat, j ≤ us.length ∧ i = .int .i64 j ∧ Hid (∃ s', runV step s0 (occL (us.take j)) = (true, s') ∧ Inv (f + (occL (us.drop j)).length) s' wr)) (fun i _ => us.length - (intOf i).toNat)
      case atStart => exact ⟨0, Nat.zero_le _, rfl, Lib.hid ⟨s0, rfl, HI1.out⟩⟩
      case round =>
        obtain ⟨j, hj, rfl, HX⟩ := hrel
        obtain ⟨s', hrun, hinv⟩ := HX.out
        have HR := Lib.hid hrun
        by_cases hlt : j < us.length
        · obtain ⟨b, o, rfl, ⟨c0, c1, c2, c3⟩, _⟩ := (hl.below (HV.out.base _ _ _ hinv)).get hlt
          have hmem := getD_mem hlt
          have hy := hl.mem hmem
          have HN := Lib.hid (occL_next hlt)
          have hd := drop_next hlt
          have HT := Lib.hid (fun h => runV_stop (step := step) (s := s0) (us := us) (j := j + 1) h)
          generalize us.getD j default = y at *
          rw [hd, List.length_append, Nat.add_comm y.occ.length, ← Nat.add_assoc] at hinv
          clear hd
          have Q1 := Lib.hid (fun o => QI.out y hmem hy (f + (occL (us.drop (j + 1))).length) s' (wr.alloc o) (HV.out.keep _ s' wr _ hinv ((Below.refl _ _).alloc (Nat.le_refl _) o)))
          obtain ⟨p, hp⟩ : ∃ p, runV step s' y.occ = p := ⟨_, rfl⟩
          have HE := Lib.hid (show runV step s0 (occL (us.take (j + 1))) = p by rw [HN.out, runV_append, HR.out]; exact hp)
          rw [HE.out] at HT
          rw [hp] at Q1
          clear hp hmem hy hrun hinv HX HN HR QI
          obtain ⟨b2, s2⟩ := p
          obtain ⟨k', n', s', A', c', a'⟩ := y
          simp only [Tm.kind, Tm.num, Tm.name, Tm.at_, Tm.args, Tm.cap] at c0 c1 c2 c3
          cases b2
          · go_wp2_with fail
            refine (Q1.out _).mono ?_
            rintro e w2 ⟨rfl, hI2⟩
            go_wp2_with fail
            go_ret
            rw [HT.out True.intro]
            exact ⟨rfl, HV.out.less _ _ _ _ (Nat.le_add_right _ _) hI2⟩
          · go_wp2_with fail
            refine (Q1.out _).mono ?_
            rintro e w2 ⟨rfl, hI2⟩
            go_wp2_with fail
            go_roundw
            case rel => exact ⟨j + 1, by omega, by go_num, Lib.hid ⟨s2, HE.out, hI2⟩⟩
            case measure => simp [intOf]; omega
        · obtain rfl : j = us.length := by omega
          have HE := Lib.hid (show runV step s0 (occL us) = (true, s') by rw [← HR.out, List.take_length])
          clear hrun HR
          have HJ := Lib.hid (HV.out.less _ f _ _ (Nat.le_add_right _ _) hinv)
          clear hinv HX
          go_wp2_with fail
          go_ret
          rw [HE.out]
          exact ⟨rfl, HJ.out⟩
end
end Go.Proofs.Ytpnjjahimhhjkaa
namespace Go.Proofs.Ytpnjjahimhhjkaa
open Go.RowKit

theorem enters_fn {f : FuncId} {fn : Func} {c : Code} (hf : Try.prog.funcs[f]? = some fn) (hname : (fn.name == "runtime.NumGoroutine") = false) (hb : fn.body = some c) (args : Array Value) (W : World) :
    (callFunc f args).run Try.prog W = .ok (.enter f args) W := by
  have h1 : fn.name ≠ "runtime.NumGoroutine" := by simpa using hname
  simp [callFunc, hf, h1, hb, mark]

def noStep (_ : Unit) (_ : Int) : Bool × Unit := (false, ())
theorem no_run (xs : List Int) : (runV noStep () xs).1 = decide (xs = []) := by
  cases xs with
  | nil => rfl
  | cons x r => simp [runV, noStep]

def otherStep (v : Int) (_ : Unit) (n : Int) : Bool × Unit := (n != v, ())
theorem other_run (v : Int) (xs : List Int) : (runV (otherStep v) () xs).1 = decide (v ∉ xs) := by
  induction xs with
  | nil => simp [runV]
  | cons x r ih =>
    by_cases h : x = v
    · subst h
      simp [runV, otherStep]
    · have h' : (otherStep v () x).1 = true := by simpa [otherStep] using h
      simp only [runV]
      rw [if_pos h']
      show (runV (otherStep v) () r).1 = _
      rw [ih, decide_eq_decide, List.mem_cons, not_or]
      exact ⟨fun e => ⟨fun q => h q.symm, e⟩, fun e => e.2⟩

end Go.Proofs.Ytpnjjahimhhjkaa
namespace Go.Proofs.Ytpnjjahimhhjkaa
open Go.RowKit

def icells (l : List Int) : List Value := l.map (Value.int .i64)
theorem icells_length (l : List Int) : (icells l).length = l.length := by simp [icells]
theorem icells_append (l m : List Int) : icells (l ++ m) = icells l ++ icells m := by simp [icells]
theorem icells_one (l : List Int) : ∀ u ∈ icells l, u.oneCell' = true := by
  intro u hu
  obtain ⟨_, _, rfl⟩ := List.mem_map.1 hu
  rfl
theorem icells_get {l : List Int} {i : Nat} (h : i < l.length) : (icells l)[i]? = some (.int .i64 (l.getD i 0)) := by simp [icells, List.getD, h]

/-- The ints l lie at A. -/
def Ints (w : World) (A : Option Addr) (l : List Int) : Prop := 0 < l.length → ∃ b o, A = some ⟨b, o, none⟩ ∧ ∀ i, i < l.length → w.cell? ⟨b, o + i, none⟩ = some (.int .i64 (l.getD i 0))
theorem Ints.get {w : World} {A : Option Addr} {l : List Int} (h : Ints w A l) {i : Nat} (hi : i < l.length) : ∃ b o, A = some ⟨b, o, none⟩ ∧ w.cell? ⟨b, o + i, none⟩ = some (.int .i64 (l.getD i 0)) := by
  obtain ⟨b, o, e, hc⟩ := h (by omega)
  exact ⟨b, o, e, hc i hi⟩
theorem Ints.below {w w' : World} {A : Option Addr} {l : List Int} (h : Ints w A l) (hb : Below w.heap.size w w') : Ints w' A l := fun hn => by
  obtain ⟨b, o, e, hc⟩ := h hn
  refine ⟨b, o, e, fun i hi => ?_⟩
  rw [hb.cell (World.block_lt_of_cell? w _ (hc i hi))]
  exact hc i hi

/-- A slice of ints of the call's own (from block base on). -/
def OwnI (w : World) (base : Nat) (v : Value) (l : List Int) : Prop := w.ownsRow base 3 1 v l.length (icells l)
theorem OwnI.nil (w : World) (base : Nat) : OwnI w base (.slice none 0 0) [] := World.ownsRow_nil w base _ _
theorem OwnI.form {w : World} {base : Nat} {v : Value} {l : List Int} (h : OwnI w base v l) : ∃ A c, v = .slice A l.length c ∧ Ints w A l ∧ l.length ≤ c := by
  rcases h.2 with ⟨rfl, h0⟩ | ⟨g, cap, cur, rfl, _, _, hn, _, _, _⟩
  · exact ⟨none, 0, by rw [h0], fun hn => absurd hn (by omega), by omega⟩
  · refine ⟨_, cap, rfl, fun _ => ⟨g, 0, rfl, fun i hi => ?_⟩, hn⟩
    rw [Nat.zero_add, World.ownsRow.cellAt h i (by omega), icells_get hi]
theorem OwnI.alloc {w : World} {base : Nat} {v : Value} {l : List Int} (h : OwnI w base v l) (o : Obj) : OwnI (w.alloc o) base v l := World.ownsRow.alloc h o
theorem OwnI.below {w w' : World} {base : Nat} {v : Value} {l : List Int} (h : OwnI w base v l) (hb : Below w.heap.size w w') : OwnI w' base v l :=
  World.ownsRow.kept (row := none) h ⟨hb.os, hb.tape, hb.output, hb.size, fun k hk _ => hb.block k hk⟩ (by
    rcases h.2 with ⟨rfl, _⟩ | ⟨g, cap, cur, rfl, _⟩
    · exact .inl rfl
    · exact .inr (by simp [Value.ownBlock]))

theorem take_int {l : List Int} {k : Nat} (h : k < l.length) : l.take (k + 1) = l.take k ++ [l.getD k 0] := by
  rw [List.take_succ_eq_append_getElem h]
  simp [List.getD, List.getElem?_eq_getElem h]
theorem getD_int {l : List Int} {k : Nat} (h : k < l.length) : l.getD k 0 ∈ l := by
  simp only [List.getD, List.getElem?_eq_getElem h, Option.getD_some]
  exact List.getElem_mem h

set_option maxHeartbeats 400000 in
theorem has_at (A : Option Addr) (l : List Int) (c : Nat) (n : Int) (w : World) (hI : Ints w A l) (hlen : l.length ≤ 9223372036854775807) {r : Bool} (hr : decide (n ∈ l) = r) :
    Calls Try.prog 85 #[.slice A l.length c, .int .i64 n] w fun e w' => e = .returned (.bool r) ∧ w = w' := by
  have HR := Lib.hid hr
  clear hr
  go_enter Try.func85, Try.ntmps85
  go_wp2
  go_loop [5] (fun i => ∃ j : Nat, j ≤ l.length ∧ i = .int .i64 j ∧ Hid (n ∉ l.take j)) (fun i => l.length - (intOf i).toNat)
  case atStart => exact ⟨0, Nat.zero_le _, rfl, Lib.hid (by simp)⟩
  case round =>
    obtain ⟨j, hj, rfl, HN⟩ := hrel
    by_cases hlt : j < l.length
    · obtain ⟨b, o, rfl, hc⟩ := hI.get hlt
      have HT := Lib.hid (take_int hlt)
      have HM := Lib.hid (getD_int hlt)
      generalize l.getD j 0 = x at *
      by_cases hx : x = n
      · subst hx
        have HE := Lib.hid (show true = r by rw [← HR.out]; simp [HM.out])
        go_wp2
        go_ret
        exact ⟨by rw [← HE.out]; rfl, rfl⟩
      · have hx' : (x == n) = false := by simpa using hx
        have HN' := Lib.hid (show n ∉ l.take (j + 1) by
          rw [HT.out, List.mem_append, List.mem_singleton]
          exact fun h => h.elim HN.out (fun e => hx e.symm))
        clear hx
        go_wp2
        go_round
        case rel => exact ⟨j + 1, by omega, by go_num, HN'⟩
        case measure => simp [intOf]; omega
    · obtain rfl : j = l.length := by omega
      have HE := Lib.hid (show false = r by
        have := HN.out
        rw [List.take_length] at this
        rw [← HR.out]; simp [this])
      go_wp2
      go_ret
      exact ⟨by rw [← HE.out]; rfl, rfl⟩

set_option maxHeartbeats 400000 in
theorem same_ints_at (A B : Option Addr) (l m : List Int) (c d : Nat) (w : World) (hI : Ints w A l) (hJ : Ints w B m) (_hlen : l.length ≤ 9223372036854775807) (hlen' : m.length ≤ 9223372036854775807) {r : Bool} (hr : decide (l = m) = r) :
    Calls Try.prog 22 #[.slice A l.length c, .slice B m.length d] w fun e w' => e = .returned (.bool r) ∧ Below w.heap.size w w' := by
  have HR := Lib.hid hr
  clear hr
  by_cases hlm : l.length = m.length
  · have e0 : ((l.length : Int) != (m.length : Int)) = false := by simp [hlm]
    have HL := Lib.hid hlm
    have hle : l.length ≤ m.length := by omega
    clear hlm
    go_enter Try.func22, Try.ntmps22
    go_wp2_with fail
    go_loopw [5] (fun i wr => ∃ j : Nat, j ≤ l.length ∧ i = .int .i64 j ∧ Hid (l.take j = m.take j) ∧ Below w.heap.size w wr) (fun i _ => l.length - (intOf i).toNat)
    case atStart => exact ⟨0, Nat.zero_le _, rfl, Lib.hid (by simp), Below.refl _ _⟩
    case round =>
      obtain ⟨j, hj, rfl, HN, hb⟩ := hrel
      by_cases hlt : j < l.length
      · have hlt' : j < m.length := by omega
        obtain ⟨b, o, rfl, hc⟩ := (hI.below hb).get hlt
        obtain ⟨b', o', rfl, hc'⟩ := (hJ.below hb).get hlt'
        have HT := Lib.hid (take_int hlt)
        have HT' := Lib.hid (take_int hlt')
        have HG := Lib.hid (show l.getD j 0 ≠ m.getD j 0 → l ≠ m from fun h e => h (by rw [e]))
        generalize l.getD j 0 = x at *
        generalize m.getD j 0 = y at *
        by_cases hx : x = y
        · subst hx
          have HN' := Lib.hid (show l.take (j + 1) = m.take (j + 1) by rw [HT.out, HT'.out, HN.out])
          go_wp2_with fail
          go_quiet (fail)
          go_wp2_with fail
          go_roundw
          case rel => exact ⟨j + 1, by omega, by go_num, HN', below_drewN hb nq⟩
          case measure => simp [intOf]; omega
        · have hx' : (x != y) = true := by simpa using hx
          have HE := Lib.hid (show false = r by rw [← HR.out]; simp [HG.out hx])
          clear hx
          go_wp2_with fail
          go_quiet (fail)
          go_wp2_with fail
          go_ret
          exact ⟨by rw [← HE.out]; rfl, below_drewN hb nq⟩
      · obtain rfl : j = l.length := by omega
        have HE := Lib.hid (show true = r by
          have := HN.out
          rw [List.take_length, HL.out, List.take_length] at this
          rw [← HR.out]; simp [this])
        go_wp2_with fail
        go_ret
        exact ⟨by rw [← HE.out]; rfl, hb⟩
  · have e0 : ((l.length : Int) != (m.length : Int)) = true := by simp; omega
    have HE := Lib.hid (show false = r by rw [← HR.out]; simp; intro e; exact hlm (by rw [e]))
    clear hlm
    go_enter Try.func22, Try.ntmps22
    go_wp2_with fail
    go_ret
    exact ⟨by rw [← HE.out]; rfl, Below.refl _ _⟩
end Go.Proofs.Ytpnjjahimhhjkaa
namespace Go.Proofs.Ytpnjjahimhhjkaa
open Go.RowKit

/-- The list with a number behind it, if it is new. -/
def addV (l : List Int) (x : Int) : List Int := if x ∈ l then l else l ++ [x]
def addAll (l xs : List Int) : List Int := xs.foldl addV l
theorem addAll_append (l xs ys : List Int) : addAll l (xs ++ ys) = addAll (addAll l xs) ys := by simp [addAll]
theorem addAll_one (l : List Int) (x : Int) : addAll l [x] = addV l x := rfl
theorem addV_length (l : List Int) (x : Int) : (addV l x).length ≤ l.length + 1 := by unfold addV; split <;> simp
theorem addAll_length (l xs : List Int) : (addAll l xs).length ≤ l.length + xs.length := by
  induction xs generalizing l with
  | nil => simp [addAll]
  | cons x r ih =>
    have h1 := ih (addV l x)
    have h2 := addV_length l x
    simp only [addAll, List.foldl_cons, List.length_cons] at *
    omega
theorem occ_length : (∀ t : Tm, t.occ.length ≤ t.size) ∧ (∀ l, (occL l).length ≤ sizeL l) := by
  refine Tm.induct2 (fun k n s A c a ih => ?_) (Nat.le_refl _) (fun t r h1 h2 => ?_)
  · simp only [Tm.occ, Tm.size]
    by_cases h1 : k = 1
    · simp [h1]
    · by_cases h2 : k = 2
      · simp [h2]; omega
      · simp [h1, h2]
  · simp only [occL, sizeL, List.length_append]; omega
theorem mem_addV (l : List Int) (x y : Int) : y ∈ addV l x ↔ y ∈ l ∨ y = x := by
  unfold addV
  split
  · constructor
    · exact .inl
    · rintro (h | rfl)
      · exact h
      · assumption
  · simp
theorem mem_addAll (l xs : List Int) (y : Int) : y ∈ addAll l xs ↔ y ∈ l ∨ y ∈ xs := by
  induction xs generalizing l with
  | nil => simp [addAll]
  | cons x r ih =>
    have := ih (addV l x)
    simp only [addAll, List.foldl_cons] at this ⊢
    rw [this, mem_addV]
    simp [or_assoc]
theorem addAll_nil {xs : List Int} : addAll [] xs = [] ↔ xs = [] := by
  constructor
  · intro h
    cases xs with
    | nil => rfl
    | cons x r =>
      have : x ∈ addAll [] (x :: r) := (mem_addAll _ _ _).2 (.inr (by simp))
      rw [h] at this
      simp at this
  · rintro rfl; rfl

/-- What comes back: a slice of the call's own that holds the list. -/
def Grows (w0 : World) (l : List Int) (e : Ending) (w' : World) : Prop := ∃ v, e = .returned v ∧ OwnI w' w0.heap.size v l ∧ Below w0.heap.size w0 w'

theorem int_info : (Try.prog.info? 3).map (fun i => (i.zero, i.size, i.bytes)) = some (some (.int .i64 0), 1, 8) := by kernel_rfl

/-- A struct of four cells that was laid, behind one block more and an append to a row that was there, or a new one. -/
theorem box4g {w w' : World} {v0 v1 v2 v3 : Value} {T : TypeId} {o : Obj} {row : Option Nat} (hg : ((w.alloc (.cells #[v0, v1, v2, v3] T)).alloc o).grownBy w' row) (hr : ∀ k, row = some k → k < w.heap.size) :
    w'.cell? ⟨w.heap.size, 0, none⟩ = some v0 ∧ w'.cell? ⟨w.heap.size, 1, none⟩ = some v1 ∧ w'.cell? ⟨w.heap.size, 2, none⟩ = some v2 ∧ w'.cell? ⟨w.heap.size, 3, none⟩ = some v3 := by
  have h : ∀ j, w'.cell? ⟨w.heap.size, j, none⟩ = (#[v0, v1, v2, v3] : Array Value)[j]? := fun j => by
    rw [World.cell?_of_block (a := ⟨w.heap.size, j, none⟩) (hg.block w.heap.size (by simp; omega) (fun e => by have := hr _ e.symm; omega)), World.cell?_alloc_lt _ _ _ (by simp), World.cell?_alloc_at _ _ _ _ rfl]
  exact ⟨h 0, h 1, h 2, h 3⟩

theorem Grows.mk {w0 w' : World} {l : List Int} {e : Ending} {v : Value} (he : e = .returned v) (h : OwnI w' w0.heap.size v l) (hb : Below w0.heap.size w0 w') : Grows w0 l e w' := ⟨v, he, h, hb⟩
theorem one_new (w : World) (o : Obj) (T : TypeId) (x : Value) : ∀ (j : Nat) (u : Value), [x][j]? = some u → ((w.alloc o).alloc (.cells #[x] T)).cell? ((⟨w.heap.size + 1, 0, none⟩ : Addr).add j) = some u := by
  intro j u hu
  cases j with
  | zero =>
    have e : (w.alloc o).heap.size = w.heap.size + 1 := by simp
    rw [add_plain, Nat.add_zero, ← e, World.cell?_alloc_at _ _ _ _ rfl]
    simpa using hu
  | succ j => simp at hu
theorem OwnI.put {w : World} {base : Nat} {v : Value} {l : List Int} {n : Int} (h : w.ownsRow base 3 1 v (l.length + 1) (icells l ++ [.int .i64 n])) (hn : n ∉ l) : OwnI w base v (addV l n) := by
  unfold OwnI addV
  rw [if_neg hn, List.length_append, icells_append]
  exact h

def VarsAt (t : Tm) : Prop := ∀ (v : Value) (l : List Int) (w0 w : World), t.At w0 → Below w0.heap.size w0 w → OwnI w w0.heap.size v l → l.length + t.size ≤ 1000000 →
    Calls Try.prog 58 #[v, t.val] w (Grows w0 (addAll l t.occ))

set_option maxHeartbeats 1000000 in
theorem vars_at (t : Tm) : VarsAt t := by
  induction t using Tm.induct with
  | h k n s A c a ih0 =>
    intro v l w0 w hat hw hown hsz
    obtain ⟨V, q, rfl, hI, hq⟩ := hown.form
    have hat1 := hat.below hw
    have qa := Lib.hid (args_at (.mk k n s A c a))
    have hocc := occ_used (.mk k n s A c a)
    have hsu := size_used (.mk k n s A c a)
    by_cases k1 : k = 1
    · subst k1
      have hus : (Tm.mk 1 n s A c a).used = [] := by simp [Tm.used, Tm.kind]
      have HO := Lib.hid (show (Tm.mk 1 n s A c a).occ = [n] by rw [hocc]; simp [Tm.kind, Tm.num])
      rw [hus] at qa hsu
      generalize (Tm.mk 1 n s A c a).uat = U at qa
      generalize (Tm.mk 1 n s A c a).ucap = uq at qa
      have hlen : l.length ≤ 9223372036854775807 := by omega
      obtain ⟨b1, hb1⟩ : ∃ b, decide (n ∈ l) = b := ⟨_, rfl⟩
      have qh := Lib.hid (fun W (h : Below w.heap.size w W) => has_at V l q n W (hI.below h) hlen hb1)
      have B0 := Lib.hid (show ∀ o, Below w.heap.size w (w.alloc o) from fun o => (Below.refl _ _).alloc (Nat.le_refl _) o)
      have HB := Lib.hid hb1
      have HW := Lib.hid hown
      clear ih0 hocc hb1 hat hat1 hI hown
      show Calls Try.prog 58 #[.slice V l.length q, .agg #[.int .i64 1, .int .i64 n, .string s, .slice A a.length c]] w _
      cases b1
      · have hn : n ∉ l := by simpa using HB.out
        have HN := Lib.hid hn
        obtain ⟨i0, hi, hz0, hz1, hz2⟩ := info_parts int_info
        have hw1 := (hw.alloc hw.size (.cells #[.int .i64 1, .int .i64 n, .string s, .slice A a.length c] 24)).alloc (by have := hw.size; simp; omega) (.cells #[.int .i64 n] 3)
        have HS := Lib.hid hw1.size
        clear hn
        go_enter Try.func58, Try.ntmps58
        go_wp2_with fail
        refine (qh.out _ (B0.out _)).mono ?_
        rintro e w' ⟨rfl, rfl⟩
        go_wp2_with (at_builtin; refine wpList_append_own _ rfl _ _ 39 rfl w0.heap.size 3 i0 (.int .i64 0) 1 8 Try.underlying39 hi hz0 hz1 hz2 rfl (by decide) _ l.length (icells l) rfl ((HW.out.alloc _).alloc _) ⟨w.heap.size + 1, 0, none⟩ 1 1 [.int .i64 n] rfl rfl (one_new _ _ _ _) (icells_one [n]) (by unfold maxLen; omega) (by omega) HS.out ?_; intro v' w1 hown1 hg1 _; obtain ⟨d0, d1, d2, d3⟩ := box4g hg1 (fun k hk => (World.ownsRow.lt HW.out k hk).2))
        have hb1 : Below w0.heap.size w0 w1 := hw1.grown hg1 HS.out (fun k hk => (World.ownsRow.lt HW.out k hk).1)
        have HP := Lib.hid (OwnI.put hown1 HN.out)
        clear hown1 hg1
        go_wp2_with fail
        refine (qa.out _).mono ?_
        rintro e w2 ⟨rfl, hb2⟩
        go_wp2_with fail
        refine wp_loop_rounds 1 ?_
        rw [rounds_succ]
        go_wp2_with fail
        go_ret
        refine Grows.mk rfl ?_ (hb1.trans (hb2.mono hb1.size))
        rw [HO.out, addAll_one]
        exact HP.out.below hb2
      · have hn : n ∈ l := by simpa using HB.out
        have HN := Lib.hid hn
        clear hn
        go_enter Try.func58, Try.ntmps58
        go_wp2_with fail
        refine (qh.out _ (B0.out _)).mono ?_
        rintro e w' ⟨rfl, rfl⟩
        go_wp2_with fail
        refine (qa.out _).mono ?_
        rintro e w2 ⟨rfl, hb2⟩
        have hb3 : Below w.heap.size w w2 := (B0.out _).trans (hb2.mono (by simp))
        go_wp2_with fail
        refine wp_loop_rounds 1 ?_
        rw [rounds_succ]
        go_wp2_with fail
        go_ret
        refine Grows.mk rfl ?_ (hw.trans (hb3.mono hw.size))
        rw [HO.out, addAll_one]
        unfold addV
        rw [if_pos HN.out]
        exact HW.out.below hb3
    · have k1' : (k == 1) = false := by simp [k1]
      have hl := hat.ulst
      have ih : ∀ x ∈ (Tm.mk k n s A c a).used, VarsAt x := by
        unfold Tm.used
        split
        · exact ih0
        · intro x hx; cases hx
      have HO := Lib.hid (show (Tm.mk k n s A c a).occ = occL (Tm.mk k n s A c a).used by rw [hocc]; exact if_neg k1)
      have hol := occ_length.2 (Tm.mk k n s A c a).used
      rw [hsu] at hsz
      rw [HO.out]
      clear ih0 hocc hat hat1 hI k1 HO hsu
      generalize (Tm.mk k n s A c a).used = us at *
      generalize (Tm.mk k n s A c a).uat = U at *
      generalize (Tm.mk k n s A c a).ucap = uq at *
      have QI := Lib.hid ih
      have hlen : us.length ≤ 9223372036854775807 := by have := hl.1; have := hl.2.1; unfold maxLen at *; omega
      have HW := Lib.hid hown
      clear ih hown
      show Calls Try.prog 58 #[.slice V l.length q, .agg #[.int .i64 k, .int .i64 n, .string s, .slice A a.length c]] w _
      go_enter Try.func58, Try.ntmps58
      go_wp2_with fail
      refine (qa.out _).mono ?_
      rintro e w2 ⟨rfl, hb2⟩
      have hb3 : Below w.heap.size w w2 := ((Below.refl _ _).alloc (Nat.le_refl _) _).trans (hb2.mono (by simp))
      have hb4 : Below w0.heap.size w0 w2 := hw.trans (hb3.mono hw.size)
      go_wp2_with fail
      go_loopw [0, 6] (fun z i wr => ∃ (j : Nat) (x : Value), j ≤ us.length ∧ i = .int .i64 j ∧ z = x ∧ Hid (OwnI wr w0.heap.size x (addAll l (occL (us.take j)))) ∧ Below w0.heap.size w0 wr) (fun _ i _ => us.length - (intOf i).toNat)
      case atStart => exact ⟨0, _, Nat.zero_le _, rfl, rfl, Lib.hid (HW.out.below hb3), hb4⟩
      case round =>
        obtain ⟨j, x, hj, rfl, rfl, HX, hb⟩ := hrel
        by_cases hlt : j < us.length
        · obtain ⟨b, o, rfl, ⟨c0, c1, c2, c3⟩, _⟩ := (hl.below hb).get hlt
          have hy := hl.mem (getD_mem hlt)
          have hmem := getD_mem hlt
          have hn := sizeL_next hlt
          have ht := sizeL_take us (j + 1)
          have ho := occ_length.2 (us.take j)
          have ha := addAll_length l (occL (us.take j))
          have HN := Lib.hid (occL_next hlt)
          generalize us.getD j default = y at *
          have hB : (addAll l (occL (us.take j))).length + y.size ≤ 1000000 := by omega
          have Q1 := Lib.hid (QI.out y hmem _ (addAll l (occL (us.take j))) w0 wr hy hb HX.out hB)
          clear hy QI hmem hn ht ho ha hB
          obtain ⟨k', n', s', A', c', a'⟩ := y
          simp only [Tm.kind, Tm.num, Tm.name, Tm.at_, Tm.args, Tm.cap] at c0 c1 c2 c3
          go_wp2_with fail
          refine Q1.out.mono ?_
          rintro e w5 ⟨v5, rfl, hown5, hb5⟩
          go_wp2_with fail
          go_roundw
          case rel => exact ⟨j + 1, v5, by omega, by go_num, rfl, Lib.hid (by rw [HN.out, addAll_append]; exact hown5), hb5⟩
          case measure => simp [intOf]; omega
        · obtain rfl : j = us.length := by omega
          go_wp2_with fail
          go_ret
          refine Grows.mk rfl ?_ hb
          have := HX.out
          rw [List.take_length] at this
          exact this
end Go.Proofs.Ytpnjjahimhhjkaa
namespace Go.Proofs.Ytpnjjahimhhjkaa
open Go.RowKit Go.Maps

theorem keyed : Keyed Try.prog 3 := int_keyed Try.underlying3
theorem zero_bool (w : World) : (zeroValue 4).run Try.prog w = .ok (.bool false) w := by kernel_rfl
theorem fits_wf {n : Int} (h : Fits n) : (Lit.int .i64 n).wf = true := by
  have h1 : IntKind.i64.min = -9223372036854775808 := rfl
  have h2 : IntKind.i64.max = 9223372036854775807 := rfl
  unfold Fits at h
  simp only [Lit.wf, Bool.and_eq_true, decide_eq_true_eq]
  omega
theorem bool_inv {P : Program} {e : TypeId} {H : Type} (he : P.underlying e = some .bool) {v : Value} {z : DataW H × List MemPlace} (h : plainElem P e v = some z) : ∃ x, v = .bool x ∧ z = (.lit (.bool x), []) := by
  unfold plainElem at h
  rw [he] at h
  cases v <;> simp at h
  exact ⟨_, rfl, h.symm⟩

/-- The map in block b holds true at the numbers of the list, and nothing else. -/
def seenD (l : List Int) : DataW Unit := setOf (.lit (.bool true)) (l.map (Lit.int .i64))
def Seen (w : World) (b : Nat) (l : List Int) : Prop := (∀ n ∈ l, Fits n) ∧ w.ownsMap Try.prog 3 (plainElem Try.prog 4) b l.length (seenD l)
theorem seen_at (l : List Int) (n : Int) (hl : ∀ m ∈ l, Fits m) : (seenD l).atKey (.int .i64 n) (.lit (.bool false)) = .lit (.bool (decide (n ∈ l))) := by
  have key : ∀ r : List Int, (∀ m ∈ r, Fits m) → (seenD r.reverse).atKey (.int .i64 n) (.lit (.bool false)) = .lit (.bool (decide (n ∈ r))) ∧ IsMap (seenD r.reverse) := by
    intro r
    induction r with
    | nil => intro _; exact ⟨rfl, isMap_empty⟩
    | cons x r ih =>
      intro h
      obtain ⟨h1, h2⟩ := ih (fun m hm => h m (List.mem_cons_of_mem _ hm))
      have e : seenD (x :: r).reverse = (seenD r.reverse).put (.int .i64 x) (.lit (.bool true)) := by
        unfold seenD
        rw [List.reverse_cons, List.map_append]
        exact setOf_snoc _ _ _
      rw [e]
      refine ⟨?_, h2.put _ _⟩
      by_cases hx : n = x
      · subst hx
        rw [atKey_put_same h2 (by first | exact fits_wf (h n List.mem_cons_self) | exact trivial | simp [WideAt.IsKeyLit])]
        simp
      · rw [atKey_put_other (fun e => hx (by injection e)), h1]
        simp [hx]
  have := (key l.reverse (fun m hm => hl m (by simpa using hm))).1
  simpa using this

theorem wpList_seen (w : World) {ops : Array Oper} {rest : List Oper} {o : Oper} {a : Act} {Q : Exit → Act → World → Prop}
    (hg : o.guard = none) (m x : Operand) (hop : o.op = Op.lookup 102 m x false) (b : Nat) (l : List Int) (hm : a.eval m = .map (some b)) (h : Seen w b l) (n : Int) (hx : a.eval x = .int .i64 n) (hf : Fits n) (r : Bool) (hr : decide (n ∈ l) = r)
    (hK : wpList Try.prog ops Q rest (a.put o.dst (.bool r)) w) : wpList Try.prog ops Q (o :: rest) a w := by
  refine wpList_plain hg fun K' hK' => ?_
  obtain ⟨v, ps, hrun, hv⟩ := h.2.lookup keyed Try.underlying102 (zero_bool w) (plainElem_bool Try.underlying4 false) (keyOf_int_mk Try.underlying3 (fits_wf hf))
  rw [seen_at l n h.1, hr] at hv
  obtain ⟨y, rfl, hy⟩ := bool_inv Try.underlying4 hv
  simp only [Prod.mk.injEq, DataW.lit.injEq, Lit.bool.injEq] at hy
  obtain ⟨rfl, _⟩ := hy
  unfold Oper.wp
  simp [execOp, hop, hm, hx, hrun, Result.andThen]
  exact hK' _ _ hK
theorem wpList_see (w : World) {ops : Array Oper} {rest : List Oper} {o : Oper} {a : Act} {Q : Exit → Act → World → Prop}
    (hg : o.guard = none) (m x v : Operand) (hop : o.op = Op.mapUpdate 102 m x v) (b : Nat) (l : List Int) (hm : a.eval m = .map (some b)) (h : Seen w b l) (hl : l.length ≤ 1000000) (n : Int) (hx : a.eval x = .int .i64 n) (hf : Fits n) (hv : a.eval v = .bool true)
    (hK : ∀ w', Seen w' b (l ++ [n]) → w.grownBy w' (some b) → wpList Try.prog ops Q rest (a.put o.dst undef) w') : wpList Try.prog ops Q (o :: rest) a w := by
  refine wpList_mapUpdate_own w hg m x v 102 hop 3 4 keyed Try.underlying102 _ b l.length (seenD l) hm h.2 (by unfold maxLen; omega) _ _ (.int .i64 n) hx hv (keyOf_int_mk Try.underlying3 (fits_wf hf)) (.lit (.bool true)) [] (plainElem_bool Try.underlying4 true) fun w' h1 h2 => hK w' ⟨?_, ?_⟩ h2
  · intro k hk
    rcases List.mem_append.1 hk with h' | h'
    · exact h.1 k h'
    · obtain rfl := List.mem_singleton.1 h'
      exact hf
  · have e : seenD (l ++ [n]) = (seenD l).put (.int .i64 n) (.lit (.bool true)) := by
      unfold seenD
      rw [List.map_append]
      exact setOf_snoc _ _ _
    rw [e, List.length_append]
    exact h1

/-- What holds while the variables are visited: where the map, its variable and the variable of the slice lie. -/
structure Kept (w0 : World) (f : Nat) (l : List Int) (W : World) : Prop where
  below : Below w0.heap.size w0 W
  size : w0.heap.size + 3 ≤ W.heap.size
  seenVar : W.heap[w0.heap.size + 2]? = some (.cells #[.map (some (w0.heap.size + 1))] 102 (0, 0))
  listVar : ∃ x, W.heap[w0.heap.size]? = some (.cells #[x] 39 (0, 0)) ∧ OwnI W (w0.heap.size + 3) x l
  seen : Seen W (w0.heap.size + 1) l
  len : l.length + f ≤ 1000000

def addStep (l : List Int) (n : Int) : Bool × List Int := (true, addV l n)
theorem add_run (l xs : List Int) : runV addStep l xs = (true, addAll l xs) := by
  induction xs generalizing l with
  | nil => rfl
  | cons x r ih =>
    simp only [runV, addStep, if_true] at ih ⊢
    exact ih _

theorem Seen.keep {w w' : World} {b : Nat} {l : List Int} (h : Seen w b l) (hb : Below w.heap.size w w') : Seen w' b l :=
  ⟨h.1, h.2.kept (row := none) ⟨hb.os, hb.tape, hb.output, hb.size, fun k hk _ => hb.block k hk⟩ (by simp)⟩
theorem Kept.keep {w0 : World} {f : Nat} {l : List Int} {W W' : World} (h : Kept w0 f l W) (hb : Below W.heap.size W W') : Kept w0 f l W' where
  below := h.below.trans (hb.mono h.below.size)
  size := Nat.le_trans h.size hb.size
  seenVar := (hb.block _ (by have := h.size; omega)).trans h.seenVar
  listVar := by
    obtain ⟨x, h1, h2⟩ := h.listVar
    exact ⟨x, (hb.block _ (by have := h.size; omega)).trans h1, h2.below hb⟩
  seen := h.seen.keep hb
  len := h.len

/-- Behind the store into the map. -/
theorem after_map {w0 : World} {f : Nat} {l : List Int} {W w1 : World} {x : Value} (h : Kept w0 f l W) (hx : W.heap[w0.heap.size]? = some (.cells #[x] 39 (0, 0))) (hown : OwnI W (w0.heap.size + 3) x l) (hg : W.grownBy w1 (some (w0.heap.size + 1))) :
    w1.heap[w0.heap.size + 2]? = some (.cells #[.map (some (w0.heap.size + 1))] 102 (0, 0)) ∧ w1.heap[w0.heap.size]? = some (.cells #[x] 39 (0, 0)) ∧ OwnI w1 (w0.heap.size + 3) x l ∧ Below w0.heap.size w0 w1 ∧ w0.heap.size + 3 ≤ w1.heap.size := by
  have hz := h.size
  refine ⟨(hg.block _ (by omega) (by simp)).trans h.seenVar, (hg.block _ (by omega) (by simp)).trans hx, ?_, h.below.grown hg h.below.size (fun k hk => by injection hk with hk; omega), Nat.le_trans hz hg.size⟩
  refine World.ownsRow.kept hown hg ?_
  rcases Option.eq_none_or_eq_some x.ownBlock with e | ⟨k, e⟩
  · exact .inl e
  · refine .inr fun e' => ?_
    have := (World.ownsRow.lt hown k e).1
    rw [e] at e'
    injection e' with e'
    omega
/-- Behind the append. -/
theorem after_append {w0 w1 w2 : World} {l : List Int} {n : Int} {x : Value} (hx : w1.heap[w0.heap.size]? = some (.cells #[x] 39 (0, 0))) (hown : OwnI w1 (w0.heap.size + 3) x l) (hz : w0.heap.size + 3 ≤ w1.heap.size)
    (hg : (w1.alloc (.cells #[.int .i64 n] 3)).grownBy w2 x.ownBlock) : w2.cell? ⟨w0.heap.size, 0, none⟩ = some x ∧ w2.frozen? ⟨w0.heap.size, 0, none⟩ = false ∧ (∀ k, k < w0.heap.size + 3 → w2.heap[k]? = w1.heap[k]?) ∧ w1.heap.size ≤ w2.heap.size := by
  have hk : ∀ k, k < w0.heap.size + 3 → w2.heap[k]? = w1.heap[k]? := fun k hk => by
    rw [hg.block k (by simp; omega) (fun e => by have := (World.ownsRow.lt hown k e.symm).1; omega), Below.heap_alloc _ _ _ (by omega)]
  have h2 := (hk w0.heap.size (by omega)).trans hx
  exact ⟨by rw [cell_of_row _ _ _ _ _ _ h2]; rfl, frozen_of_row _ _ _ _ _ h2, hk, Nat.le_trans (by simp) hg.size⟩
theorem visit_end {w0 w1 w2 : World} {f : Nat} {l : List Int} {n : Int} {x v : Value} (hlen : l.length + (f + 1) ≤ 1000000) (hn : n ∉ l) (hs : w1.heap[w0.heap.size + 2]? = some (.cells #[.map (some (w0.heap.size + 1))] 102 (0, 0)))
    (hx : w1.heap[w0.heap.size]? = some (.cells #[x] 39 (0, 0))) (hown : OwnI w1 (w0.heap.size + 3) x l) (hb : Below w0.heap.size w0 w1) (hz : w0.heap.size + 3 ≤ w1.heap.size) (hseen : Seen w1 (w0.heap.size + 1) (l ++ [n]))
    (hg : (w1.alloc (.cells #[.int .i64 n] 3)).grownBy w2 x.ownBlock) (hown2 : OwnI w2 (w0.heap.size + 3) v (addV l n)) : Kept w0 f (addV l n) (w2.setCell ⟨w0.heap.size, 0, none⟩ v) := by
  obtain ⟨_, _, hk, hsz⟩ := after_append hx hown hz hg
  have ea : addV l n = l ++ [n] := by unfold addV; rw [if_neg hn]
  have hb2 : Below w0.heap.size w0 w2 := (hb.alloc hb.size _).grown hg (by have := hb.size; simp; omega) (fun k hk => by have := (World.ownsRow.lt hown k hk).1; omega)
  refine ⟨hb2.setCell (Nat.le_refl _) _, by simp [World.setCell]; omega, ?_, ⟨v, ?_, ?_⟩, ?_, ?_⟩
  · rw [heap_setCell_other _ _ _ _ (by simp), hk _ (by omega), hs]
  · rw [heap_setCell_same _ _ _ _ _ _ ((hk _ (by omega)).trans hx)]
    rfl
  · exact ownsRow_setCell_below hown2 (by show w0.heap.size < w0.heap.size + 3; omega) _
  · rw [ea]
    refine ⟨hseen.1, World.ownsMap.setCell (h := ?_) (by simp) _⟩
    have h1 := hseen.2.alloc (.cells #[.int .i64 n] 3)
    exact h1.kept hg (fun e => by have := (World.ownsRow.lt hown _ e.symm).1; omega)
  · rw [ea]; simp; omega

set_option maxHeartbeats 1000000 in
theorem visit_at (w0 : World) (f : Nat) (l : List Int) (n : Int) (W : World) (hf : Fits n) (h : Kept w0 (f + 1) l W) :
    Calls Try.prog 88 #[.int .i64 n, .pointer (some ⟨w0.heap.size + 2, 0, none⟩), .pointer (some ⟨w0.heap.size, 0, none⟩)] W fun e W' => e = .returned (.bool true) ∧ Kept w0 f (addV l n) W' := by
  have c1 : W.cell? ⟨w0.heap.size + 2, 0, none⟩ = some (.map (some (w0.heap.size + 1))) := by rw [cell_of_row _ _ _ _ _ _ h.seenVar]; rfl
  obtain ⟨x, hx, hown⟩ := h.listVar
  obtain ⟨b, hb⟩ : ∃ b, decide (n ∈ l) = b := ⟨_, rfl⟩
  have HB := Lib.hid hb
  have hlen := h.len
  cases b
  · obtain ⟨i0, hi, hz0, hz1, hz2⟩ := info_parts int_info
    have c2 : W.cell? ⟨w0.heap.size, 0, none⟩ = some x := by rw [cell_of_row _ _ _ _ _ _ hx]; rfl
    have HX := Lib.hid hx
    have HO := Lib.hid hown
    have HH := Lib.hid h
    clear hx hown h hb
    go_enter Try.func88, Try.ntmps88
    go_wp2_with (first
      | (at_lookup; refine wpList_seen _ rfl _ _ rfl _ l rfl HH.out.seen n rfl hf false HB.out ?_)
      | (at_mapUpdate; refine wpList_see _ rfl _ _ _ rfl _ l rfl HH.out.seen (by omega) n rfl hf rfl ?_; intro w1 hseen1 hg1; have c3 := (after_map HH.out HX.out HO.out hg1); have HA := Lib.hid c3; have c4 : w1.cell? ⟨w0.heap.size, 0, none⟩ = some x := (by rw [cell_of_row _ _ _ _ _ _ c3.2.1]; rfl); clear c3 hg1)
      | (at_builtin; refine wpList_append_own _ rfl _ _ 39 rfl (w0.heap.size + 3) 3 i0 (.int .i64 0) 1 8 Try.underlying39 hi hz0 hz1 hz2 rfl (by decide) x l.length (icells l) rfl (HA.out.2.2.1.alloc _) ⟨w1.heap.size, 0, none⟩ 1 1 [.int .i64 n] rfl rfl (cell_one_new _ _ _) (icells_one [n]) (by unfold maxLen; omega) (by omega) (by have := HA.out.2.2.2.2; simp; omega) ?_; intro v' w2 hown2 hg2 _; have HP := Lib.hid (OwnI.put hown2 (by simpa using HB.out)); obtain ⟨c5, c6, _, _⟩ := after_append HA.out.2.1 HA.out.2.2.1 HA.out.2.2.2.2 hg2; have HG := Lib.hid hg2; obtain ⟨A', c', hv', _, _⟩ := HP.out.form; subst hv'; clear hown2 hg2))
    go_ret
    exact ⟨rfl, visit_end hlen (by simpa using HB.out) HA.out.1 HA.out.2.1 HA.out.2.2.1 HA.out.2.2.2.1 HA.out.2.2.2.2 hseen1 HG.out HP.out⟩
  · have HH := Lib.hid h
    clear hx hown h hb
    go_enter Try.func88, Try.ntmps88
    go_wp2_with (at_lookup; refine wpList_seen _ rfl _ _ rfl _ l rfl HH.out.seen n rfl hf true HB.out ?_)
    go_ret
    refine ⟨rfl, ?_⟩
    have hn : n ∈ l := by simpa using HB.out
    have e : addV l n = l := by unfold addV; rw [if_pos hn]
    rw [e]
    obtain ⟨q1, q2, q3, q4, q5, q6⟩ := HH.out
    exact ⟨q1, q2, q3, q4, q5, by omega⟩
end Go.Proofs.Ytpnjjahimhhjkaa
namespace Go.Proofs.Ytpnjjahimhhjkaa
open Go.RowKit Go.Maps

theorem add_visits (w0 : World) : Visits addStep (Kept w0) w0 88 #[.pointer (some ⟨w0.heap.size + 2, 0, none⟩), .pointer (some ⟨w0.heap.size, 0, none⟩)] where
  enter := enters_fn Try.func88 (by kernel_rfl) rfl
  call := fun f s n W hf h => visit_at w0 f s n W hf h
  keep := fun _ _ _ _ h hb => h.keep hb
  less := fun f g s W hle h => ⟨h.below, h.size, h.seenVar, h.listVar, h.seen, by have := h.len; omega⟩
  base := fun _ _ _ h => h.below

theorem kept_start (w : World) (f : Nat) (hf : f ≤ 1000000) :
    Kept w f [] (((w.alloc (.cells #[.slice none 0 0] 39)).alloc (.map #[] 0)).alloc (.cells #[.map (some (w.heap.size + 1))] 102)) := by
  have e1 : (w.alloc (.cells #[.slice none 0 0] 39)).heap.size = w.heap.size + 1 := by simp
  have e2 : ((w.alloc (.cells #[.slice none 0 0] 39)).alloc (.map #[] 0)).heap.size = w.heap.size + 2 := by simp
  refine ⟨(((Below.refl _ _).alloc (Nat.le_refl _) _).alloc (by simp) _).alloc (by simp; omega) _, by simp, ?_, ⟨.slice none 0 0, ?_, OwnI.nil _ _⟩, ⟨by simp, ?_⟩, by simpa using hf⟩
  · rw [← e2]; exact heap_alloc_new _ _
  · rw [Below.heap_alloc _ _ _ (by simp; omega), Below.heap_alloc _ _ _ (by simp)]
    exact heap_alloc_new _ _
  · have h := World.ownsMap_made (w.alloc (.cells #[.slice none 0 0] 39)) Try.prog 3 (plainElem (H := Unit) Try.prog 4)
    rw [e1] at h
    exact h.alloc _

theorem OwnI.mono {w : World} {base base' : Nat} {v : Value} {l : List Int} (h : OwnI w base v l) (hb : base' ≤ base) : OwnI w base' v l := by
  refine ⟨h.1, ?_⟩
  rcases h.2 with h | ⟨g, cap, cur, h1, h2, h3⟩
  · exact .inl h
  · exact .inr ⟨g, cap, cur, h1, Nat.le_trans hb h2, h3⟩

set_option maxHeartbeats 1000000 in
theorem first_at (us : List Tm) (U : Option Addr) (uq : Nat) (w : World) (hl : Lst w U us uq) (hsz : sizeL us ≤ 1000000) :
    Calls Try.prog 60 #[.slice U us.length uq] w (Grows w (addAll [] (occL us))) := by
  have hmf : ∀ (fn : Fn) (first cap : Array Value) (w : World), (Instr.makeFunc fn first cap).run Try.prog w = .ok (.func fn first cap) w := fun _ _ _ _ => rfl
  have hmm := @run_makeMap Try.prog
  have hlen : us.length ≤ 9223372036854775807 := by have := hl.1; have := hl.2.1; unfold maxLen at *; omega
  have hol := occ_length.2 us
  have HK := Lib.hid (kept_start w (occL us).length (by omega))
  go_enter Try.func60, Try.ntmps60
  go_wp2_with fail
  clear hmm
  go_loopw [10] (fun i wr => ∃ j : Nat, j ≤ us.length ∧ i = .int .i64 j ∧ Hid (Kept w (occL (us.drop j)).length (addAll [] (occL (us.take j))) wr)) (fun i _ => us.length - (intOf i).toNat)
  case atStart => exact ⟨0, Nat.zero_le _, rfl, HK⟩
  case round =>
    obtain ⟨j, hj, rfl, HX⟩ := hrel
    by_cases hlt : j < us.length
    · obtain ⟨b, o, rfl, ⟨c0, c1, c2, c3⟩, _⟩ := (hl.below HX.out.below).get hlt
      have hy := hl.mem (getD_mem hlt)
      have HN := Lib.hid (occL_next hlt)
      have hd := drop_next hlt
      generalize us.getD j default = y at *
      have hk := HX.out
      rw [hd, List.length_append, Nat.add_comm y.occ.length] at hk
      have Q1 := Lib.hid (fun ob => each_at (add_visits w) y hy (occL (us.drop (j + 1))).length (addAll [] (occL (us.take j))) (wr.alloc ob) (hk.keep ((Below.refl _ _).alloc (Nat.le_refl _) ob)))
      simp only [add_run, ← addAll_append] at Q1
      rw [← HN.out] at Q1
      clear hy hd hk HN
      obtain ⟨k', n', s', A', c', a'⟩ := y
      simp only [Tm.kind, Tm.num, Tm.name, Tm.at_, Tm.args, Tm.cap] at c0 c1 c2 c3
      go_wp2_with fail
      refine (Q1.out _).mono ?_
      rintro e w5 ⟨rfl, hK5⟩
      go_wp2_with fail
      go_roundw
      case rel => exact ⟨j + 1, by omega, by go_num, Lib.hid hK5⟩
      case measure => simp [intOf]; omega
    · obtain rfl : j = us.length := by omega
      obtain ⟨x, hx, hown⟩ := HX.out.listVar
      have c1 : wr.cell? ⟨w.heap.size, 0, none⟩ = some x := by rw [cell_of_row _ _ _ _ _ _ hx]; rfl
      have hb := HX.out.below
      rw [List.take_length] at hown
      have HO := Lib.hid hown
      clear hx hown
      go_wp2_with fail
      go_ret
      exact Grows.mk rfl (HO.out.mono (by omega)) hb
end Go.Proofs.Ytpnjjahimhhjkaa
namespace Go.Proofs.Ytpnjjahimhhjkaa
open Go.RowKit

theorem ref_vars_at (t : Tm) (w : World) (ht : t.At w) (hs : t.size ≤ 1000000) : Calls Try.prog 28 #[t.val] w (Grows w (addAll [] t.occ)) := by
  have Q := Lib.hid (fun W (h : Below w.heap.size w W) => vars_at t (.slice none 0 0) [] w W ht h (OwnI.nil _ _) (by simpa using hs))
  obtain ⟨k, n, s, A, c, a⟩ := t
  show Calls Try.prog 28 #[.agg #[.int .i64 k, .int .i64 n, .string s, .slice A a.length c]] w _
  generalize (Tm.mk k n s A c a).occ = oc at *
  clear ht hs
  go_enter Try.func28, Try.ntmps28
  go_wp2_with fail
  refine (Q.out _ ((Below.refl _ _).alloc (Nat.le_refl _) _)).mono ?_
  rintro e w1 ⟨v, rfl, hown, hb⟩
  go_wp2_with fail
  go_ret
  exact Grows.mk rfl hown hb

set_option maxHeartbeats 400000 in
theorem ref_vars_of_at (us : List Tm) (U : Option Addr) (uq : Nat) (w : World) (hl : Lst w U us uq) (hsz : sizeL us ≤ 1000000) :
    Calls Try.prog 34 #[.slice U us.length uq] w (Grows w (addAll [] (occL us))) := by
  have hlen : us.length ≤ 9223372036854775807 := by have := hl.1; have := hl.2.1; unfold maxLen at *; omega
  go_enter Try.func34, Try.ntmps34
  go_wp2_with fail
  go_loopw [3, 4] (fun z i wr => ∃ j : Nat, j ≤ us.length ∧ i = .int .i64 j ∧ Hid (OwnI wr w.heap.size z (addAll [] (occL (us.take j)))) ∧ Below w.heap.size w wr) (fun _ i _ => us.length - (intOf i).toNat)
  case atStart => exact ⟨0, Nat.zero_le _, rfl, Lib.hid (OwnI.nil _ _), Below.refl _ _⟩
  case round =>
    obtain ⟨j, hj, rfl, HX, hb⟩ := hrel
    by_cases hlt : j < us.length
    · obtain ⟨b, o, rfl, ⟨c0, c1, c2, c3⟩, _⟩ := (hl.below hb).get hlt
      have hy := hl.mem (getD_mem hlt)
      have hn := sizeL_next hlt
      have ht := sizeL_take us (j + 1)
      have ho := occ_length.2 (us.take j)
      have ha := addAll_length [] (occL (us.take j))
      have HN := Lib.hid (occL_next hlt)
      generalize us.getD j default = y at *
      have hB : (addAll [] (occL (us.take j))).length + y.size ≤ 1000000 := by simp only [List.length_nil] at ha; omega
      have Q1 := Lib.hid (vars_at y _ (addAll [] (occL (us.take j))) w wr hy hb HX.out hB)
      clear hy hn ht ho ha hB
      obtain ⟨k', n', s', A', c', a'⟩ := y
      simp only [Tm.kind, Tm.num, Tm.name, Tm.at_, Tm.args, Tm.cap] at c0 c1 c2 c3
      go_wp2_with fail
      refine Q1.out.mono ?_
      rintro e w5 ⟨v5, rfl, hown5, hb5⟩
      go_wp2_with fail
      go_roundw
      case rel => exact ⟨j + 1, by omega, by go_num, Lib.hid (by rw [HN.out, addAll_append]; exact hown5), hb5⟩
      case measure => simp [intOf]; omega
    · obtain rfl : j = us.length := by omega
      go_wp2_with fail
      go_ret
      refine Grows.mk rfl ?_ hb
      have := HX.out
      rw [List.take_length] at this
      exact this
end Go.Proofs.Ytpnjjahimhhjkaa
