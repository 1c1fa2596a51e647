/-
  The contract of eachVar of the program, for whatever function value is handed to it: it is called at the variables from left to right until it answers false.
-/
import Derived.Test.YtgialbcohkpogaaTmSize
namespace Go.Proofs.Ytgialbcohkpogaa
open Go.RowKit

section
variable {σ : Type}
/-- The visits of a list, until one answers false. -/
def runV (step : σ → Int → Bool × σ) : σ → List Int → Bool × σ
  | s, [] => (true, s)
  | s, x :: r => if (step s x).1 then runV step (step s x).2 r else (false, (step s x).2)
theorem runV_append (step : σ → Int → Bool × σ) (s : σ) (xs ys : List Int) : runV step s (xs ++ ys) = if (runV step s xs).1 then runV step (runV step s xs).2 ys else runV step s xs := by
  induction xs generalizing s with
  | nil => simp [runV]
  | cons x r ih =>
    simp only [List.cons_append, runV]
    by_cases h : (step s x).1 = true
    · simp only [h, if_true]; exact ih _
    · simp [h]

theorem runV_one (step : σ → Int → Bool × σ) (s : σ) (x : Int) : runV step s [x] = step s x := by
  simp only [runV]
  by_cases h : (step s x).1 = true
  · rw [if_pos h]; exact Prod.ext h.symm rfl
  · rw [if_neg h]
    refine Prod.ext ?_ rfl
    have : (step s x).1 = false := by simpa using h
    exact this.symm

/-- What is known of a function value that eachVar is handed: its contract at a number, in each world that fits the state; the first argument of Inv tells how many calls may still come. -/
structure Visits (step : σ → Int → Bool × σ) (Inv : Nat → σ → World → Prop) (w0 : World) (F : FuncId) (caps : Array Value) : Prop where
  enter : ∀ (args : Array Value) (W : World), (callFunc F args).run Try.prog W = .ok (.enter F args) W
  call : ∀ (f : Nat) (s : σ) (n : Int) (W : World), Fits n → Inv (f + 1) s W → Calls Try.prog F (#[.int .i64 n] ++ caps) W fun e W' => e = .returned (.bool (step s n).1) ∧ Inv f (step s n).2 W'
  keep : ∀ (f : Nat) (s : σ) (W W' : World), Inv f s W → Below W.heap.size W W' → Inv f s W'
  less : ∀ (f g : Nat) (s : σ) (W : World), g ≤ f → Inv f s W → Inv g s W
  base : ∀ (f : Nat) (s : σ) (W : World), Inv f s W → Below w0.heap.size w0 W

theorem drop_next {us : List Tm} {j : Nat} (h : j < us.length) : occL (us.drop j) = (us.getD j default).occ ++ occL (us.drop (j + 1)) := by
  rw [List.drop_eq_getElem_cons h]
  simp [occL, List.getD, List.getElem?_eq_getElem h]
theorem runV_stop {step : σ → Int → Bool × σ} {s : σ} {us : List Tm} {j : Nat} (h : (runV step s (occL (us.take j))).1 = false) : runV step s (occL us) = runV step s (occL (us.take j)) := by
  have e := occL_append (us.take j) (us.drop j)
  rw [List.take_append_drop] at e
  rw [e, runV_append, h]
  simp

def EachAt (step : σ → Int → Bool × σ) (Inv : Nat → σ → World → Prop) (F : FuncId) (caps : Array Value) (t : Tm) : Prop :=
  ∀ (f : Nat) (s : σ) (W : World), Inv (f + t.occ.length) s W → Calls Try.prog 35 #[t.val, .func (.func F) #[] caps] W fun e W' => e = .returned (.bool (runV step s t.occ).1) ∧ Inv f (runV step s t.occ).2 W'

set_option maxHeartbeats 1000000 in
theorem each_at {step : σ → Int → Bool × σ} {Inv : Nat → σ → World → Prop} {w0 : World} {F : FuncId} {caps : Array Value} (hv : Visits step Inv w0 F caps) (t : Tm) : t.At w0 → EachAt step Inv F caps t := by
  induction t using Tm.induct with
  | h k n s A c a ih0 =>
    intro hat f s0 W hI
    have qa := Lib.hid (arguments_at (.mk k n s A c a))
    have hocc := occ_used (.mk k n s A c a)
    have B0 := Lib.hid (show ∀ o, Below W.heap.size W (W.alloc o) from fun o => (Below.refl _ _).alloc (Nat.le_refl _) o)
    have hent := hv.enter
    show Calls Try.prog 35 #[.agg #[.int .i64 k, .int .i64 n, .string s, .slice A a.length c], .func (.func F) #[] caps] W _
    by_cases k1 : k = 1
    · subst k1
      have HO := Lib.hid (show (Tm.mk 1 n s A c a).occ = [n] by rw [hocc]; simp [Tm.kind, Tm.num])
      rw [HO.out] at hI
      have hfit : Fits n := ((At_iff _ _).1 hat).1.2.1
      have Q := Lib.hid (fun W' h => hv.call f s0 n W' hfit (hv.keep _ s0 W W' hI h))
      clear ih0 hocc hat hI qa
      go_enter Try.func35, Try.ntmps35
      go_wp2_with fail
      refine (Q.out _ (B0.out _)).mono ?_
      rintro e w' ⟨rfl, hI'⟩
      go_wp2_with fail
      go_ret
      rw [HO.out, runV_one]
      exact ⟨rfl, hI'⟩
    · have k1' : (k == 1) = false := by simp [k1]
      have hl := hat.ulst
      have ih : ∀ x ∈ (Tm.mk k n s A c a).used, x.At w0 → EachAt step Inv F caps x := by
        unfold Tm.used
        split
        · exact ih0
        · intro x hx; cases hx
      have HO : (Tm.mk k n s A c a).occ = occL (Tm.mk k n s A c a).used := by rw [hocc]; exact if_neg k1
      rw [HO] at hI ⊢
      clear ih0 hocc hat k1 HO
      generalize (Tm.mk k n s A c a).used = us at *
      generalize (Tm.mk k n s A c a).uat = U at *
      generalize (Tm.mk k n s A c a).ucap = uq at *
      have QI := Lib.hid ih
      have HI := Lib.hid hI
      have hlen : us.length ≤ 9223372036854775807 := by have := hl.1; have := hl.2.1; unfold maxLen at *; omega
      have HV := Lib.hid hv
      clear ih hv hI
      go_enter Try.func35, Try.ntmps35
      go_wp2_with fail
      refine (qa.out _).mono ?_
      rintro e w1 ⟨rfl, hb1⟩
      have HI1 := Lib.hid (HV.out.keep _ s0 W w1 HI.out ((B0.out _).trans (hb1.mono (by simp))))
      clear hb1
      go_wp2_with fail
      go_loopw [17] (fun i wr => ∃ j : Nat, j ≤ us.length ∧ i = .int .i64 j ∧ Hid (∃ s', runV step s0 (occL (us.take j)) = (true, s') ∧ Inv (f + (occL (us.drop j)).length) s' wr)) (fun i _ => us.length - (intOf i).toNat)
      case atStart => exact ⟨0, Nat.zero_le _, rfl, Lib.hid ⟨s0, rfl, HI1.out⟩⟩
      case round =>
        obtain ⟨j, hj, rfl, HX⟩ := hrel
        obtain ⟨s', hrun, hinv⟩ := HX.out
        have HR := Lib.hid hrun
        by_cases hlt : j < us.length
        · obtain ⟨b, o, rfl, ⟨c0, c1, c2, c3⟩, _⟩ := (hl.below (HV.out.base _ _ _ hinv)).get hlt
          have hmem := getD_mem hlt
          have hy := hl.mem hmem
          have HN := Lib.hid (occL_next hlt)
          have hd := drop_next hlt
          have HT := Lib.hid (fun h => runV_stop (step := step) (s := s0) (us := us) (j := j + 1) h)
          generalize us.getD j default = y at *
          rw [hd, List.length_append, Nat.add_comm y.occ.length, ← Nat.add_assoc] at hinv
          clear hd
          have Q1 := Lib.hid (fun o => QI.out y hmem hy (f + (occL (us.drop (j + 1))).length) s' (wr.alloc o) (HV.out.keep _ s' wr _ hinv ((Below.refl _ _).alloc (Nat.le_refl _) o)))
          obtain ⟨p, hp⟩ : ∃ p, runV step s' y.occ = p := ⟨_, rfl⟩
          have HE := Lib.hid (show runV step s0 (occL (us.take (j + 1))) = p by rw [HN.out, runV_append, HR.out]; exact hp)
          rw [HE.out] at HT
          rw [hp] at Q1
          clear hp hmem hy hrun hinv HX HN HR QI
          obtain ⟨b2, s2⟩ := p
          obtain ⟨k', n', s', A', c', a'⟩ := y
          simp only [Tm.kind, Tm.num, Tm.name, Tm.at_, Tm.args, Tm.cap] at c0 c1 c2 c3
          cases b2
          · go_wp2_with fail
            refine (Q1.out _).mono ?_
            rintro e w2 ⟨rfl, hI2⟩
            go_wp2_with fail
            go_ret
            rw [HT.out True.intro]
            exact ⟨rfl, HV.out.less _ _ _ _ (Nat.le_add_right _ _) hI2⟩
          · go_wp2_with fail
            refine (Q1.out _).mono ?_
            rintro e w2 ⟨rfl, hI2⟩
            go_wp2_with fail
            go_roundw
            case rel => exact ⟨j + 1, by omega, by go_num, Lib.hid ⟨s2, HE.out, hI2⟩⟩
            case measure => simp [intOf]; omega
        · obtain rfl : j = us.length := by omega
          have HE := Lib.hid (show runV step s0 (occL us) = (true, s') by rw [← HR.out, List.take_length])
          clear hrun HR
          have HJ := Lib.hid (HV.out.less _ f _ _ (Nat.le_add_right _ _) hinv)
          clear hinv HX
          go_wp2_with fail
          go_ret
          rw [HE.out]
          exact ⟨rfl, HJ.out⟩
end
end Go.Proofs.Ytgialbcohkpogaa
