/-
  Contracts of slices.IndexFunc over bindings (with the method bindsVarIn, and with the closure of Lookup), slices.ContainsFunc over bindings, the closure of Lookup.
  Contract of Right of the program.
  Contracts of Vars, VarsOf, Ground and Occurs of the reference.
  Contracts of Lookup, apart and Right of the reference.
  Contract of Right of the reference.
  Contracts of valid and fresh of the reference.
  Contracts of the operators: isOperator, isInRange, quotient, compute and Apply of the program; operator, in, floor and Apply of the reference.
  Contracts of quotient, compute and Apply of the program, of floor and Apply of the reference.
-/
import Derived.Test.YtelkmnjoboekmaaGreatMb9
import Derived.Test.YtelkmnjoboekmaaGreatMb7
import Derived.BigQuiet
import Derived.Deep.QuietTactic
import Derived.Test.YtelkmnjoboekmaaGreatMb5
import Derived.Test.YtelkmnjoboekmaaGreatMb10
import Derived.Test.YtelkmnjoboekmaaGreatProg
import Derived.Test.YtelkmnjoboekmaaGreatMb2
import Derived.IntWalk
import Derived.Outline
import Derived.WalkLawsBesides
namespace Go.Proofs.YtelkmnjoboekmaaGreat
open Go.RowKit

/-- Where the first binding with a property stands, or -1. -/
def FirstIdx (l : List Bd) (p : Bd → Bool) (w : World) (e : Ending) (w' : World) : Prop :=
  ∃ m : Int, ((m = -1 ∧ l.any p = false) ∨ ∃ i : Nat, i < l.length ∧ m = i ∧ p (l.getD i default) = true ∧ (l.take i).any p = false) ∧ e = .returned (.int .i64 m) ∧ Below w.heap.size w w'
theorem bany_next {l : List Bd} {k : Nat} (p : Bd → Bool) (h : k < l.length) : (l.take (k + 1)).any p = ((l.take k).any p || p (l.getD k default)) := by
  rw [btake_next h]; simp

set_option maxHeartbeats 2000000 in
theorem index_m_at (l : List Bd) (A : Option Addr) (c : Nat) (A0 : Option Addr) (n0 c0 : Nat) (p : Bd → Bool) (w : World) (hl : BLst w A l c)
    (Q0 : ∀ W, ∀ x ∈ l, Below w.heap.size w W → Calls Tryz.prog 35 #[.slice A0 n0 c0, x.val] W fun e w' => e = .returned (.bool (p x)) ∧ Below W.heap.size W w') :
    Calls Tryz.prog 58 #[.slice A l.length c, .func (.func 35) #[.slice A0 n0 c0] #[]] w (FirstIdx l p w) := by
  have hlen := hl.len
  have HL := Lib.hid hl
  have Q := Lib.hid Q0
  clear hl Q0
  go_enter Tryz.func58, Tryz.ntmps58
  go_wp2_with fail
  go_loopw [8] (fun i wr => ∃ j : Nat, j ≤ l.length ∧ i = .int .i64 j ∧ Hid ((l.take j).any p = false) ∧ Below w.heap.size w wr) (fun i _ => l.length - (intOf i).toNat)
  case atStart => exact ⟨0, Nat.zero_le _, rfl, Lib.hid rfl, Below.refl _ _⟩
  case round =>
    obtain ⟨j, hj, rfl, HF, hbw⟩ := hrel
    by_cases hlt : j < l.length
    · obtain ⟨b, o, rfl, ⟨c0, c1, c2, c3, c4⟩, _⟩ := (HL.out.below hbw).get hlt
      have HN := Lib.hid (bany_next p hlt)
      rw [HF.out, Bool.false_or] at HN
      have Q1 := Lib.hid (Q.out wr _ (bgetD_mem hlt) hbw)
      have HX := Lib.hid (show p (l.getD j default) = p (l.getD j default) from rfl)
      obtain ⟨x, hx⟩ : ∃ x, l.getD j default = x := ⟨_, rfl⟩
      rw [hx] at c0 c1 c2 c3 c4 Q1 HN
      have HE := Lib.hid hx
      clear HX hx
      obtain ⟨N, hN⟩ : ∃ N, p x = N := ⟨_, rfl⟩
      rw [hN] at Q1 HN
      have HP := Lib.hid (show p (l.getD j default) = N by rw [HE.out, hN])
      clear hN
      obtain ⟨v', k', n', s', A', c', a'⟩ := x
      simp only [Tm.kind, Tm.num, Tm.name, Tm.at_, Tm.args, Tm.cap] at c0 c1 c2 c3 c4
      cases N
      · go_wp2_with fail
        refine (Q1.out).mono ?_
        rintro e w2 ⟨rfl, hb3⟩
        go_wp2_with fail
        go_roundw
        case rel => exact ⟨j + 1, by omega, by go_num, HN, hbw.trans (hb3.mono hbw.size)⟩
        case measure => simp [intOf]; omega
      · go_wp2_with fail
        refine (Q1.out).mono ?_
        rintro e w2 ⟨rfl, hb3⟩
        go_wp2_with fail
        go_ret
        exact ⟨j, .inr ⟨j, hlt, rfl, HP.out, HF.out⟩, rfl, hbw.trans (hb3.mono hbw.size)⟩
    · obtain rfl : j = l.length := by omega
      have HE := Lib.hid (show l.any p = false by rw [← HF.out, List.take_length])
      go_wp2_with fail
      go_ret
      exact ⟨-1, .inl ⟨rfl, HE.out⟩, rfl, hbw⟩

theorem contains_m_at (l : List Bd) (A : Option Addr) (c : Nat) (A0 : Option Addr) (n0 c0 : Nat) (p : Bd → Bool) (w : World) (hl : BLst w A l c)
    (Q0 : ∀ W, ∀ x ∈ l, Below w.heap.size w W → Calls Tryz.prog 35 #[.slice A0 n0 c0, x.val] W fun e w' => e = .returned (.bool (p x)) ∧ Below W.heap.size W w') :
    Calls Tryz.prog 34 #[.slice A l.length c, .func (.func 35) #[.slice A0 n0 c0] #[]] w fun e w' => e = .returned (.bool (l.any p)) ∧ Below w.heap.size w w' := by
  have Q := Lib.hid (index_m_at l A c A0 n0 c0 p w hl Q0)
  have HP : ∀ m : Int, ((m = -1 ∧ l.any p = false) ∨ ∃ i : Nat, i < l.length ∧ m = i ∧ p (l.getD i default) = true ∧ (l.take i).any p = false) → decide (0 ≤ m) = l.any p := by
    rintro m (⟨rfl, h⟩ | ⟨i, hi, rfl, h, _⟩)
    · rw [h]; rfl
    · rw [List.any_eq_true.2 ⟨_, bgetD_mem hi, h⟩]; simp
  have HQ := Lib.hid HP
  clear hl Q0 HP
  go_enter Tryz.func34, Tryz.ntmps34
  go_wp2_with fail
  refine (Q.out).mono ?_
  rintro e w2 ⟨m, hm, rfl, hb⟩
  have HM := Lib.hid (HQ.out m hm)
  clear hm
  go_wp2_with fail
  go_ret
  exact ⟨by rw [← HM.out]; rfl, hb⟩

end Go.Proofs.YtelkmnjoboekmaaGreat
namespace Go.Proofs.YtelkmnjoboekmaaGreat
open Go.RowKit Go.Sort

theorem apart_any (l : List Bd) : (!(l.any fun x => hasB l x.tm)) = apartB l := by
  have h1 : ∀ t : Tm, hasB l t = !(t.occ.all fun v => (look l v).isNone) := fun t => by
    unfold hasB
    rw [List.not_all_eq_any_not]
    congr 1
    funext v
    cases look l v <;> rfl
  simp only [h1, apartB, ← List.not_all_eq_any_not, Bool.not_not]
/-- A struct of five cells that was laid, behind a call. -/
theorem box5 {w w' : World} {v0 v1 v2 v3 v4 : Value} {T : TypeId} (hb : Below (w.alloc (.cells #[v0, v1, v2, v3, v4] T)).heap.size (w.alloc (.cells #[v0, v1, v2, v3, v4] T)) w') :
    w'.cell? ⟨w.heap.size, 0, none⟩ = some v0 ∧ w'.cell? ⟨w.heap.size, 1, none⟩ = some v1 ∧ w'.cell? ⟨w.heap.size, 2, none⟩ = some v2 ∧ w'.cell? ⟨w.heap.size, 3, none⟩ = some v3 ∧ w'.cell? ⟨w.heap.size, 4, none⟩ = some v4 ∧ Below w.heap.size w w' := by
  have h : ∀ j, w'.cell? ⟨w.heap.size, j, none⟩ = (#[v0, v1, v2, v3, v4] : Array Value)[j]? := fun j => by
    rw [hb.cell (p := ⟨w.heap.size, j, none⟩) (by simp), World.cell?_alloc_at _ _ _ _ rfl]
  exact ⟨h 0, h 1, h 2, h 3, h 4, ((Below.refl _ _).alloc (Nat.le_refl _) _).trans (hb.mono (by simp))⟩

theorem okAt_parts (l : List Bd) (i : Nat) : okAt l i = ((decide (0 ≤ (l.getD i default).var) && decide ((l.getD i default).var ≤ 1048576)) && ((l.getD i default).tm.right && (decide (i = 0) || decide ((l.getD (i - 1) default).var < (l.getD i default).var)))) := rfl

set_option maxHeartbeats 4000000 in
theorem right_s_at (l : List Bd) (A : Option Addr) (c : Nat) (w : World) (hl : BLst w A l c) (hlen : l.length ≤ 1000000) :
    Calls Tryz.prog 19 #[.slice A l.length c] w fun e w' => e = .returned (.bool (rightS l)) ∧ Below w.heap.size w w' := by
  have hmf : ∀ (fn : Fn) (first cap : Array Value) (w : World), (Instr.makeFunc fn first cap).run Tryz.prog w = .ok (.func fn first cap) w := fun _ _ _ _ => rfl
  have HL := Lib.hid hl
  clear hl
  go_enter Tryz.func19, Tryz.ntmps19
  go_wp2_with fail
  go_loopw [7] (fun i wr => ∃ j : Nat, j ≤ l.length ∧ i = .int .i64 j ∧ Hid (okUp l j = true) ∧ Below w.heap.size w wr) (fun i _ => l.length - (intOf i).toNat)
  case atStart => exact ⟨0, Nat.zero_le _, rfl, Lib.hid rfl, Below.refl _ _⟩
  case round =>
    obtain ⟨j, hj, rfl, HF, hbw⟩ := hrel
    by_cases hlt : j < l.length
    · obtain ⟨b, o, rfl, ⟨c0, c1, c2, c3, c4⟩, _, ht⟩ := (HL.out.below hbw).get hlt
      have HO := Lib.hid (okUp_next l j)
      have HS := Lib.hid (fun h => show rightS l = false by unfold rightS; rw [okUp_stop hlt h]; rfl)
      have HP := Lib.hid (okAt_parts l j)
      obtain ⟨x, hx⟩ : ∃ x, l.getD j default = x := ⟨_, rfl⟩
      rw [hx] at c0 c1 c2 c3 c4 ht HP
      clear hx
      obtain ⟨r, hr⟩ : ∃ r, x.tm.right = r := ⟨_, rfl⟩
      rw [hr] at HP
      have Q1 := Lib.hid (fun W (h : Below wr.heap.size wr W) => right_tm_at x.tm W (ht.below h) hr)
      clear ht hr
      obtain ⟨v', k', n', s', A', c', a'⟩ := x
      simp only [Tm.kind, Tm.num, Tm.name, Tm.at_, Tm.args, Tm.cap] at c0 c1 c2 c3 c4
      simp only at HP
      by_cases h0 : v' < 0
      · have HE := Lib.hid (HS.out (by rw [HP.out]; simp; omega))
        go_wp2_with fail
        go_ret
        exact ⟨by rw [HE.out]; rfl, hbw.alloc hbw.size _⟩
      · by_cases h1 : v' > 1048576
        · have HE := Lib.hid (HS.out (by rw [HP.out]; simp; omega))
          have h0' : decide (v' < 0) = false := decide_eq_false h0
          go_wp2_with fail
          go_ret
          exact ⟨by rw [HE.out]; rfl, hbw.alloc hbw.size _⟩
        · have h0' : decide (v' < 0) = false := decide_eq_false h0
          have h1' : decide (v' > 1048576) = false := decide_eq_false h1
          cases r
          · have HE := Lib.hid (HS.out (by rw [HP.out]; simp))
            go_wp2_with fail
            refine (Q1.out _ (below1 _ _)).mono ?_
            rintro e w2 ⟨rfl, hb2⟩
            go_wp2_with fail
            go_ret
            exact ⟨by rw [HE.out]; rfl, hbw.trans (((below1 _ _).trans (hb2.mono (by simp))).mono hbw.size)⟩
          · have HP2 := Lib.hid (show okAt l j = (decide (j = 0) || decide ((l.getD (j - 1) default).var < v')) by rw [HP.out]; simp [show (0 : Int) ≤ v' by omega, show v' ≤ 1048576 by omega])
            go_wp2_with fail
            refine (Q1.out _ (below1 _ _)).mono ?_
            rintro e w2 ⟨rfl, hb2⟩
            obtain ⟨d0, d1, d2, d3, d4, hb3⟩ := box5 hb2
            have hbw2 := hbw.trans (hb3.mono hbw.size)
            clear hb2 hb3 c0 c1 c2 c3 c4 HP h0 h1 h0' h1'
            by_cases hj0 : j = 0
            · subst hj0
              have HN := Lib.hid (show okUp l (0 + 1) = true by rw [HO.out, HP2.out, HF.out]; rfl)
              go_wp2_with fail
              go_quiet (fail)
              go_wp2_with fail
              go_roundw
              case rel => exact ⟨0 + 1, by omega, by go_num, HN, below_drewN hbw2 _⟩
              case measure => simp [intOf]; omega
            · obtain ⟨jp, rfl⟩ : ∃ jp, j = jp + 1 := ⟨j - 1, by omega⟩
              obtain ⟨b', o', e', ⟨p0, _⟩, _⟩ := (HL.out.below hbw2).get (show jp < l.length by omega)
              injection e' with e'
              injection e' with e1 e2 _
              subst e1 e2
              have HP3 := Lib.hid (show okAt l (jp + 1) = decide ((l.getD jp default).var < v') by rw [HP2.out]; simp)
              generalize (l.getD jp default).var = u at *
              by_cases hu : u < v'
              · have HN := Lib.hid (show okUp l (jp + 1 + 1) = true by rw [HO.out, HP3.out, HF.out]; simp [hu])
                have hu' : decide (u ≥ v') = false := decide_eq_false (by omega)
                have hj' : decide ((jp : Int) + 1 > 0) = true := decide_eq_true (by omega)
                go_wp2_with fail
                go_quiet (fail)
                go_wp2_with fail
                go_roundw
                case rel => exact ⟨jp + 1 + 1, by omega, by go_num, HN, below_drewN hbw2 _⟩
                case measure => simp [intOf]; omega
              · have HE := Lib.hid (HS.out (by rw [HP3.out]; simp [hu]))
                have hu' : decide (u ≥ v') = true := decide_eq_true (by omega)
                have hj' : decide ((jp : Int) + 1 > 0) = true := decide_eq_true (by omega)
                go_wp2_with fail
                go_quiet (fail)
                go_wp2_with fail
                go_ret
                exact ⟨by rw [HE.out]; rfl, below_drewN hbw2 _⟩
    · obtain rfl : j = l.length := by omega
      have hok := (okUp_iff l).1 HF.out
      have Q2 := Lib.hid (contains_m_at l A c A l.length c (fun x => hasB l x.tm) wr (HL.out.below hbw) (fun W x hx h => binds_at l A c x W ((HL.out.below hbw).below h) hlen hok.2.srt (((HL.out.below hbw).mem hx).2.below h) (by
        have := (hok.1 x hx).2.2
        unfold Tm.right at this
        simp only [Bool.and_eq_true, decide_eq_true_eq] at this
        omega)))
      have HE := Lib.hid (show (!(l.any fun x => hasB l x.tm)) = rightS l by rw [apart_any]; unfold rightS; rw [HF.out]; rfl)
      clear hok
      go_wp2_with fail
      refine (Q2.out).mono ?_
      rintro e w2 ⟨rfl, hb2⟩
      go_wp2_with fail
      go_ret
      exact ⟨by rw [← HE.out]; rfl, hbw.trans (hb2.mono hbw.size)⟩
end Go.Proofs.YtelkmnjoboekmaaGreat
namespace Go.Proofs.YtelkmnjoboekmaaGreat
open Go.RowKit

theorem ref_vars_at (t : Tm) (w : World) (ht : t.At w) (hs : t.size ≤ 1000000) : Calls Tryz.prog 109 #[t.val] w (Grows w (addAll [] t.occ)) := by
  have Q := Lib.hid (fun W (h : Below w.heap.size w W) => vars_at t (.slice none 0 0) [] w W ht h (OwnI.nil _ _) (by simpa using hs))
  obtain ⟨k, n, s, A, c, a⟩ := t
  show Calls Tryz.prog 109 #[.agg #[.int .i64 k, .int .i64 n, .string s, .slice A a.length c]] w _
  generalize (Tm.mk k n s A c a).occ = oc at *
  clear ht hs
  go_enter Tryz.func109, Tryz.ntmps109
  go_wp2_with fail
  refine (Q.out _ ((Below.refl _ _).alloc (Nat.le_refl _) _)).mono ?_
  rintro e w1 ⟨v, rfl, hown, hb⟩
  go_wp2_with fail
  go_ret
  exact Grows.mk rfl hown hb

end Go.Proofs.YtelkmnjoboekmaaGreat
namespace Go.Proofs.YtelkmnjoboekmaaGreat
open Go.RowKit Go.Sort

set_option maxHeartbeats 2000000 in
theorem ref_lookup_at (l : List Bd) (A : Option Addr) (c : Nat) (v : Int) (w : World) (hl : BLst w A l c) :
    Calls Tryz.prog 45 #[.slice A l.length c, .int .i64 v] w fun e w' => e = .returned (.tuple #[(optT (look l v)).val, .bool (look l v).isSome]) ∧ Below w.heap.size w w' := by
  have hlen := hl.len
  have HL := Lib.hid hl
  have H0 := Lib.hid (held_new (v0 := .int .i64 0) (v1 := .int .i64 0) (v2 := .string ⟨#[]⟩) (v3 := .slice none 0 0) w 26)
  clear hl
  go_enter Tryz.func45, Tryz.ntmps45
  go_wp2_with fail
  go_loopw [6] (fun i wr => ∃ j : Nat, j ≤ l.length ∧ i = .int .i64 j ∧ Hid (look (l.take j) v = none) ∧ wr = w.alloc zeroBox) (fun i _ => l.length - (intOf i).toNat)
  case atStart => exact ⟨0, Nat.zero_le _, rfl, Lib.hid rfl, rfl⟩
  case round =>
    obtain ⟨j, hj, rfl, HF, rfl⟩ := hrel
    obtain ⟨hz, e0, e1, e2, e3, f⟩ := H0.out
    have f0 := f 0
    have f1 := f 1
    have f2 := f 2
    have f3 := f 3
    clear f
    by_cases hlt : j < l.length
    · obtain ⟨b, o, rfl, ⟨c0, c1, c2, c3, c4⟩, _, _⟩ := (HL.out.below (below1 w zeroBox)).get hlt
      have HN := Lib.hid (look_next hlt HF.out)
      have HT := Lib.hid (fun t (h : look (l.take (j + 1)) v = some t) => look_take h)
      generalize l.getD j default = x at *
      obtain ⟨xv, k', n', s', A', c', a'⟩ := x
      simp only [Tm.kind, Tm.num, Tm.name, Tm.at_, Tm.args, Tm.cap] at c0 c1 c2 c3 c4
      by_cases hv : xv = v
      · subst hv
        have hq : (xv == xv) = true := by simp
        have HE := Lib.hid (HT.out _ (by rw [HN.out, if_pos rfl]))
        go_wp2_with fail
        refine bodyPost_ret (v := .tuple #[.agg #[.int .i64 k', .int .i64 n', .string s', .slice A' a'.length c'], .bool true]) (by simp [results, Tryz.results45, go_sem]) rfl ⟨by rw [HE.out]; rfl, below1 _ _⟩
      · have hq : (xv == v) = false := by simpa using hv
        have HE := Lib.hid (show look (l.take (j + 1)) v = none by rw [HN.out, if_neg hv])
        clear hv
        go_wp2_with fail
        go_roundw
        case rel => exact ⟨j + 1, by omega, by go_num, HE, trivial⟩
        case measure => simp [intOf]; omega
    · obtain rfl : j = l.length := by omega
      have hE := HF.out
      rw [List.take_length] at hE
      have HE := Lib.hid hE
      clear hE HF
      go_wp2_with fail
      refine bodyPost_ret (v := .tuple #[.agg #[.int .i64 0, .int .i64 0, .string ⟨#[]⟩, .slice none 0 0], .bool false]) (by simp [results, Tryz.results45, go_sem, e0, e1, e2, e3]) rfl ⟨by rw [HE.out]; rfl, below1 _ _⟩

/-- Whether none of a term's variables is bound. -/
def freeB (b : List Bd) (t : Tm) : Bool := t.occ.all fun v => (look b v).isNone
theorem free_vars (b : List Bd) (t : Tm) : ((addAll [] t.occ).all fun v => (look b v).isNone) = freeB b t := by
  unfold freeB
  rw [Bool.eq_iff_iff, List.all_eq_true, List.all_eq_true]
  simp only [mem_addAll, List.not_mem_nil, false_or]
theorem ball_next {l : List Bd} {k : Nat} (p : Bd → Bool) (h : k < l.length) : (l.take (k + 1)).all p = ((l.take k).all p && p (l.getD k default)) := by
  rw [btake_next h]; simp
theorem iall_next {l : List Int} {k : Nat} (p : Int → Bool) (h : k < l.length) : (l.take (k + 1)).all p = ((l.take k).all p && p (l.getD k 0)) := by
  rw [take_int h]; simp
theorem iall_stop {l : List Int} {k : Nat} {p : Int → Bool} (h : k < l.length) (hv : p (l.getD k 0) = false) : l.all p = false := by
  rw [List.all_eq_false]
  exact ⟨_, getD_int h, by rw [hv]; simp⟩
theorem ball_stop {l : List Bd} {x : Bd} {p : Bd → Bool} (h : x ∈ l) (hv : p x = false) : l.all p = false := by
  rw [List.all_eq_false]
  exact ⟨x, h, by simp [hv]⟩

set_option maxHeartbeats 4000000 in
theorem apart_at (b : List Bd) (A : Option Addr) (c : Nat) (w : World) (hb : BLst w A b c) (hz : ∀ x ∈ b, x.tm.size ≤ 1000000) :
    Calls Tryz.prog 74 #[.slice A b.length c] w fun e w' => e = .returned (.bool (apartB b)) ∧ Below w.heap.size w w' := by
  have hlen := hb.len
  have HB := Lib.hid hb
  have HZ := Lib.hid hz
  clear hb hz
  go_enter Tryz.func74, Tryz.ntmps74
  go_wp2_with fail
  go_loopw [3] (fun i wr => ∃ j : Nat, j ≤ b.length ∧ i = .int .i64 j ∧ Hid ((b.take j).all (fun x => freeB b x.tm) = true) ∧ Below w.heap.size w wr) (fun i _ => b.length - (intOf i).toNat)
  case atStart => exact ⟨0, Nat.zero_le _, rfl, Lib.hid rfl, Below.refl _ _⟩
  case round =>
    obtain ⟨j, hj, rfl, HF, hbw⟩ := hrel
    by_cases hlt : j < b.length
    · obtain ⟨b0, o, rfl, ⟨c0, c1, c2, c3, c4⟩, _, hx⟩ := (HB.out.below hbw).get hlt
      have HN := Lib.hid (ball_next (fun x => freeB b x.tm) hlt)
      have HM := Lib.hid (fun h => show apartB b = false from ball_stop (p := fun x => freeB b x.tm) (bgetD_mem hlt) h)
      have hsz := HZ.out _ (bgetD_mem hlt)
      generalize b.getD j default = x at *
      have QV := Lib.hid (ref_vars_at x.tm wr hx hsz)
      have HV := Lib.hid (free_vars b x.tm)
      have HAl := Lib.hid (Nat.le_trans (addAll_length [] x.tm.occ) (show _ ≤ 9223372036854775807 by have := occ_length.1 x.tm; simp; omega))
      generalize addAll [] x.tm.occ = os at *
      generalize hfr : freeB b x.tm = fr at *
      have HM2 := Lib.hid (show fr = false → apartB b = false from HM.out)
      have HN2 := Lib.hid (show ((b.take (j + 1)).all fun x => freeB b x.tm) = ((b.take j).all (fun x => freeB b x.tm) && fr) from HN.out)
      clear hx hsz HM HN hfr
      obtain ⟨v, k', n', s', A', c', a'⟩ := x
      simp only [Tm.kind, Tm.num, Tm.name, Tm.at_, Tm.args, Tm.cap] at c0 c1 c2 c3 c4
      go_wp2_with fail
      refine (QV.out).mono ?_
      rintro e w2 ⟨v2, rfl, hown, hb2⟩
      obtain ⟨V, q, rfl, hI, _⟩ := hown.form
      have HI := Lib.hid hI
      have HW := Lib.hid (hbw.trans (hb2.mono hbw.size))
      have hos := HAl.out
      clear hown hI hb2 c0 c1 c2 c3 c4 hbw QV
      go_wp2_with fail
      go_loopw [5] (fun i2 wr2 => ∃ k : Nat, k ≤ os.length ∧ i2 = .int .i64 k ∧ Hid ((os.take k).all (fun v => (look b v).isNone) = true) ∧ Below w2.heap.size w2 wr2) (fun i2 _ => os.length - (intOf i2).toNat)
      case atStart => exact ⟨0, Nat.zero_le _, rfl, Lib.hid rfl, Below.refl _ _⟩
      case round =>
        obtain ⟨k, hk, rfl, HG, hbw2⟩ := hrel
        by_cases hlk : k < os.length
        · obtain ⟨b1, o1, rfl, v0⟩ := (HI.out.below hbw2).get hlk
          have HN3 := Lib.hid (iall_next (fun v => (look b v).isNone) hlk)
          have HS3 := Lib.hid (iall_stop (p := fun v => (look b v).isNone) hlk)
          generalize os.getD k 0 = u at *
          have QL := Lib.hid (fun (W : World) (h : Below w2.heap.size w2 W) => ref_lookup_at b (some ⟨b0, o, none⟩) c u W (HB.out.below (HW.out.trans (h.mono HW.out.size))))
          obtain ⟨t, ht⟩ : ∃ t, optT (look b u) = t := ⟨_, rfl⟩
          rw [ht] at QL
          clear ht
          obtain ⟨tk, tn, ts, tA, tc, ta⟩ := t
          cases hlu : look b u with
          | none =>
            rw [hlu] at QL
            simp only [Option.isSome_none] at QL
            have HE := Lib.hid (show ((os.take (k + 1)).all fun v => (look b v).isNone) = true by rw [HN3.out, HG.out, hlu]; rfl)
            clear hlu
            go_wp2_with fail
            refine (QL.out _ hbw2).mono ?_
            rintro e w3 ⟨rfl, hb3⟩
            have hb4 := hbw2.trans (hb3.mono hbw2.size)
            go_wp2_with fail
            go_roundw
            case rel => exact ⟨k + 1, by omega, by go_num, HE, hb4.alloc hb4.size _⟩
            case measure => simp [intOf]; omega
          | some y =>
            rw [hlu] at QL
            simp only [Option.isSome_some] at QL
            have HE := Lib.hid (HM2.out (by rw [← HV.out]; exact HS3.out (by rw [hlu]; rfl)))
            clear hlu
            go_wp2_with fail
            refine (QL.out _ hbw2).mono ?_
            rintro e w3 ⟨rfl, hb3⟩
            have hb4 := HW.out.trans ((hbw2.trans (hb3.mono hbw2.size)).mono HW.out.size)
            go_wp2_with fail
            go_ret
            exact ⟨by rw [HE.out]; rfl, hb4.alloc hb4.size _⟩
        · obtain rfl : k = os.length := by omega
          have hG := HG.out
          rw [List.take_length, HV.out] at hG
          have HE := Lib.hid (show ((b.take (j + 1)).all fun x => freeB b x.tm) = true by rw [HN2.out, HF.out, hG]; rfl)
          clear hG HG
          go_wp2_with fail
          go_roundw
          case rel => exact ⟨j + 1, by omega, by go_num, HE, HW.out.trans (hbw2.mono HW.out.size)⟩
          case measure => simp [intOf]; omega
    · obtain rfl : j = b.length := by omega
      have hF := HF.out
      rw [List.take_length] at hF
      have HE := Lib.hid (show apartB b = true from hF)
      clear hF HF
      go_wp2_with fail
      go_ret
      exact ⟨by rw [HE.out]; rfl, hbw⟩
end Go.Proofs.YtelkmnjoboekmaaGreat
namespace Go.Proofs.YtelkmnjoboekmaaGreat
open Go.RowKit Go.Sort

set_option maxHeartbeats 4000000 in
set_option maxRecDepth 100000 in
theorem ref_right_s_at (l : List Bd) (A : Option Addr) (c : Nat) (w : World) (hl : BLst w A l c) (hz : ∀ x ∈ l, x.tm.size ≤ 1000000) :
    Calls Tryz.prog 42 #[.slice A l.length c] w fun e w' => e = .returned (.bool (rightS l)) ∧ Below w.heap.size w w' := by
  have hlen := hl.len
  have HL := Lib.hid hl
  have HZ := Lib.hid hz
  clear hl hz
  go_enter Tryz.func42, Tryz.ntmps42
  go_wp2_with fail
  go_loopw [3] (fun i wr => ∃ j : Nat, j ≤ l.length ∧ i = .int .i64 j ∧ Hid (okUp l j = true) ∧ Below w.heap.size w wr) (fun i _ => l.length - (intOf i).toNat)
  case atStart => exact ⟨0, Nat.zero_le _, rfl, Lib.hid rfl, Below.refl _ _⟩
  case round =>
    obtain ⟨j, hj, rfl, HF, hbw⟩ := hrel
    by_cases hlt : j < l.length
    · obtain ⟨b, o, rfl, ⟨c0, c1, c2, c3, c4⟩, _, ht⟩ := (HL.out.below hbw).get hlt
      have hsz := HZ.out _ (bgetD_mem hlt)
      have HO := Lib.hid (okUp_next l j)
      have HS := Lib.hid (fun h => show rightS l = false by unfold rightS; rw [okUp_stop hlt h]; rfl)
      have HP := Lib.hid (okAt_parts l j)
      obtain ⟨x, hx⟩ : ∃ x, l.getD j default = x := ⟨_, rfl⟩
      rw [hx] at c0 c1 c2 c3 c4 ht HP hsz
      clear hx
      obtain ⟨r, hr⟩ : ∃ r, x.tm.right = r := ⟨_, rfl⟩
      rw [hr] at HP
      have Q1 := Lib.hid (fun W (h : Below wr.heap.size wr W) => ref_right_tm_at x.tm W (ht.below h) hsz hr)
      clear ht hr hsz
      obtain ⟨v', k', n', s', A', c', a'⟩ := x
      simp only [Tm.kind, Tm.num, Tm.name, Tm.at_, Tm.args, Tm.cap] at c0 c1 c2 c3 c4
      simp only at HP
      have c0' := cell_regrown c0
      have c1' := cell_regrown c1
      have c2' := cell_regrown c2
      have c3' := cell_regrown c3
      have c4' := cell_regrown c4
      have jlt : decide ((j : Int) < (l.length : Int)) = true := decide_eq_true (by omega)
      by_cases h0 : v' < 0
      · have HE := Lib.hid (HS.out (by rw [HP.out]; simp; omega))
        have h0' : decide (v' < 0) = true := decide_eq_true h0
        clear h0
        go_wp2_with fail
        refine wp_region_quiet_below (by kernel_rfl) (by kernel_rfl) ?_
        repeat (go_big_quiet_step (fail))
        refine wpQuiet_nil ?_
        intro w1 hw'
        have hb1 := regrown_below hw'
        go_wp2_with fail
        go_ret
        exact ⟨by rw [HE.out]; rfl, hbw.trans (hb1.mono hbw.size)⟩
      · by_cases h1 : v' > 1048576
        · have HE := Lib.hid (HS.out (by rw [HP.out]; simp; omega))
          have h0' : decide (v' < 0) = false := decide_eq_false h0
          have h1' : decide (v' > 1048576) = true := decide_eq_true h1
          clear h0 h1
          go_wp2_with fail
          refine wp_region_quiet_below (by kernel_rfl) (by kernel_rfl) ?_
          repeat (go_big_quiet_step (fail))
          refine wpQuiet_nil ?_
          intro w1 hw'
          have hb1 := regrown_below hw'
          go_wp2_with fail
          go_ret
          exact ⟨by rw [HE.out]; rfl, hbw.trans (hb1.mono hbw.size)⟩
        · have h0' : decide (v' < 0) = false := decide_eq_false h0
          have h1' : decide (v' > 1048576) = false := decide_eq_false h1
          by_cases hj0 : j = 0
          · have HPz := Lib.hid (show okAt l j = r by rw [HP.out]; simp [show (0 : Int) ≤ v' by omega, show v' ≤ 1048576 by omega, hj0])
            have hj' : decide (0 < j) = false := decide_eq_false (by omega)
            clear h0 h1 HP hj0
            cases r
            · have HE := Lib.hid (HS.out HPz.out)
              go_wp2_with fail
              refine wp_region_quiet_below (by kernel_rfl) (by kernel_rfl) ?_
              repeat (go_big_quiet_step (first | (go_at_call 43; exact Calls.regrown_of (Q1.out _ (below_regrown _ _ _)))))
              refine wpQuiet_nil ?_
              intro w1 hw'
              have hb1 := regrown_below hw'
              go_wp2_with fail
              go_ret
              exact ⟨by rw [HE.out]; rfl, hbw.trans (hb1.mono hbw.size)⟩
            · have HN := Lib.hid (show okUp l (j + 1) = true by rw [HO.out, HPz.out, HF.out]; rfl)
              go_wp2_with fail
              refine wp_region_quiet_below (by kernel_rfl) (by kernel_rfl) ?_
              repeat (go_big_quiet_step (first | (go_at_call 43; exact Calls.regrown_of (Q1.out _ (below_regrown _ _ _)))))
              refine wpQuiet_nil ?_
              intro w1 hw'
              have hb1 := regrown_below hw'
              go_wp2_with fail
              go_roundw
              case rel => exact ⟨j + 1, by omega, by go_num, HN, hbw.trans (hb1.mono hbw.size)⟩
              case measure => simp [intOf]; omega
          · obtain ⟨jp, rfl⟩ : ∃ jp, j = jp + 1 := ⟨j - 1, by omega⟩
            obtain ⟨b', o', e', ⟨p0, _⟩, _⟩ := (HL.out.below hbw).get (show jp < l.length by omega)
            injection e' with e'
            injection e' with e1 e2 _
            subst e1 e2
            have HP3 := Lib.hid (show okAt l (jp + 1) = (r && decide ((l.getD jp default).var < v')) by rw [HP.out]; simp [show (0 : Int) ≤ v' by omega, show v' ≤ 1048576 by omega])
            generalize (l.getD jp default).var = u at *
            have p0' := cell_regrown p0
            have hj' : decide ((jp : Int) + 1 > 0) = true := decide_eq_true (by omega)
            clear h0 h1 HP
            by_cases hu : u < v'
            · have hu' : decide (v' ≤ u) = false := decide_eq_false (by omega)
              have HP4 := Lib.hid (show okAt l (jp + 1) = r by rw [HP3.out, decide_eq_true hu, Bool.and_true])
              clear hu HP3
              cases r
              · have HE := Lib.hid (HS.out HP4.out)
                go_wp2_with fail
                refine wp_region_quiet_below (by kernel_rfl) (by kernel_rfl) ?_
                repeat (go_big_quiet_step (first | (go_at_call 43; exact Calls.regrown_of (Q1.out _ (below_regrown _ _ _)))))
                refine wpQuiet_nil ?_
                intro w1 hw'
                have hb1 := regrown_below hw'
                go_wp2_with fail
                go_ret
                exact ⟨by rw [HE.out]; rfl, hbw.trans (hb1.mono hbw.size)⟩
              · have HN := Lib.hid (show okUp l (jp + 1 + 1) = true by rw [HO.out, HP4.out, HF.out]; rfl)
                go_wp2_with fail
                refine wp_region_quiet_below (by kernel_rfl) (by kernel_rfl) ?_
                repeat (go_big_quiet_step (first | (go_at_call 43; exact Calls.regrown_of (Q1.out _ (below_regrown _ _ _)))))
                refine wpQuiet_nil ?_
                intro w1 hw'
                have hb1 := regrown_below hw'
                go_wp2_with fail
                go_roundw
                case rel => exact ⟨jp + 1 + 1, by omega, by go_num, HN, hbw.trans (hb1.mono hbw.size)⟩
                case measure => simp [intOf]; omega
            · have HE := Lib.hid (HS.out (by rw [HP3.out, decide_eq_false hu, Bool.and_false]))
              have hu' : decide (v' ≤ u) = true := decide_eq_true (by omega)
              clear hu
              go_wp2_with fail
              refine wp_region_quiet_below (by kernel_rfl) (by kernel_rfl) ?_
              repeat (go_big_quiet_step (fail))
              refine wpQuiet_nil ?_
              intro w1 hw'
              have hb1 := regrown_below hw'
              go_wp2_with fail
              go_ret
              exact ⟨by rw [HE.out]; rfl, hbw.trans (hb1.mono hbw.size)⟩
    · obtain rfl : j = l.length := by omega
      have Q2 := Lib.hid (apart_at l A c wr (HL.out.below hbw) HZ.out)
      have HE := Lib.hid (show apartB l = rightS l by unfold rightS; rw [HF.out]; rfl)
      have jlt : decide ((l.length : Int) < (l.length : Int)) = false := decide_eq_false (by omega)
      go_wp2_with fail
      refine (Q2.out).mono ?_
      rintro e w2 ⟨rfl, hb2⟩
      go_wp2_with fail
      go_ret
      exact ⟨by rw [← HE.out]; rfl, hbw.trans (hb2.mono hbw.size)⟩
end Go.Proofs.YtelkmnjoboekmaaGreat
namespace Go.Proofs.YtelkmnjoboekmaaGreat
open Go.RowKit

set_option maxHeartbeats 2000000 in
theorem rvalid_at (b : List Bd) (A : Option Addr) (c : Nat) (s t : Tm) (w : World) (hb : BLst w A b c) (hs : s.At w) (ht : t.At w) (hzb : ∀ x ∈ b, x.tm.size ≤ 1000000) (hzs : s.size ≤ 1000000) (hzt : t.size ≤ 1000000) {r : Bool} (hr : (rightS b && (s.right && t.right)) = r) :
    Calls Tryz.prog 23 #[.slice A b.length c, s.val, t.val] w fun e w' => e = .returned (.bool r) ∧ Ext w w' := by
  have Q1 := Lib.hid (fun W (h : Ext w W) => ref_right_s_at b A c W (hb.below h) hzb)
  have Q2 := Lib.hid (fun W (h : Ext w W) => ref_right_tm_at s W (hs.below h) hzs rfl)
  have Q3 := Lib.hid (fun W (h : Ext w W) => ref_right_tm_at t W (ht.below h) hzt rfl)
  have B0 := Lib.hid (show ∀ o1 o2, Ext w ((w.alloc o1).alloc o2) from fun o1 o2 => (Ext.al _ _).trans (Ext.al _ _))
  have HR := Lib.hid hr
  clear hb hs ht hzb hzs hzt hr
  generalize rightS b = r1 at *
  generalize s.right = r2 at *
  generalize t.right = r3 at *
  obtain ⟨k, n, s, A1, c1, a⟩ := s
  obtain ⟨k2, n2, s2, A2, c2, a2⟩ := t
  show Calls Tryz.prog 23 #[.slice A b.length c, .agg #[.int .i64 k, .int .i64 n, .string s, .slice A1 a.length c1], .agg #[.int .i64 k2, .int .i64 n2, .string s2, .slice A2 a2.length c2]] w _
  go_enter Tryz.func23, Tryz.ntmps23
  go_wp2_with fail
  refine (Q1.out _ (B0.out _ _)).mono ?_
  rintro e w1 ⟨rfl, hb1⟩
  have E1 := Lib.hid ((B0.out _ _).trans hb1)
  have D1 := Lib.hid (show ∀ j v, (#[.int .i64 k, .int .i64 n, .string s, .slice A1 a.length c1] : Array Value)[j]? = some v → w1.cell? ⟨w.heap.size, j, none⟩ = some v from fun j v e => by
    rw [hb1.cell (p := ⟨w.heap.size, j, none⟩) (by simp; omega), World.cell?_alloc_past _ _ _ (by simp), World.cell?_alloc_at _ _ _ _ rfl]; exact e)
  have D2 := Lib.hid (show ∀ j v, (#[.int .i64 k2, .int .i64 n2, .string s2, .slice A2 a2.length c2] : Array Value)[j]? = some v → w1.cell? ⟨w.heap.size + 1, j, none⟩ = some v from fun j v e => by
    rw [hb1.cell (p := ⟨w.heap.size + 1, j, none⟩) (by simp), World.cell?_alloc_at _ _ _ _ (by simp)]; exact e)
  clear hb1
  have d0 := D1.out 0 _ rfl
  have d1 := D1.out 1 _ rfl
  have d2 := D1.out 2 _ rfl
  have d3 := D1.out 3 _ rfl
  have x0 := D2.out 0 _ rfl
  have x1 := D2.out 1 _ rfl
  have x2 := D2.out 2 _ rfl
  have x3 := D2.out 3 _ rfl
  cases r1
  · go_wp2_with fail
    go_ret
    exact ⟨by rw [← HR.out]; rfl, E1.out⟩
  · go_wp2_with fail
    refine (Q2.out _ E1.out).mono ?_
    rintro e w2 ⟨rfl, hb2⟩
    have hlt : w.heap.size + 1 < w1.heap.size := by have := (World.block_lt_of_cell? w1 _ x0); exact this
    have y0 := (hb2.cell (p := ⟨w.heap.size + 1, 0, none⟩) hlt).trans x0
    have y1 := (hb2.cell (p := ⟨w.heap.size + 1, 1, none⟩) hlt).trans x1
    have y2 := (hb2.cell (p := ⟨w.heap.size + 1, 2, none⟩) hlt).trans x2
    have y3 := (hb2.cell (p := ⟨w.heap.size + 1, 3, none⟩) hlt).trans x3
    have E2 := Lib.hid (E1.out.trans hb2)
    clear hb2 d0 d1 d2 d3 x0 x1 x2 x3
    cases r2
    · go_wp2_with fail
      go_ret
      exact ⟨by rw [← HR.out]; rfl, E2.out⟩
    · go_wp2_with fail
      refine (Q3.out _ E2.out).mono ?_
      rintro e w3 ⟨rfl, hb3⟩
      go_wp2_with fail
      go_ret
      exact ⟨by rw [← HR.out]; simp, E2.out.trans hb3⟩

theorem freshL_len (b l : List Bd) (j : Nat) : (freshL b (l.take j)).length ≤ j := by
  unfold freshL
  rw [List.length_map]
  exact Nat.le_trans (List.length_filter_le _ _) (List.length_take_le _ _)
theorem own_put {w : World} {base : Nat} {v : Value} {l : List Int} {n : Int} (h : w.ownsRow base 3 1 v (l.length + 1) (icells l ++ [.int .i64 n])) : OwnI w base v (l ++ [n]) := by
  unfold OwnI
  rw [List.length_append, icells_append]
  exact h
set_option maxHeartbeats 4000000 in
set_option maxRecDepth 100000 in
theorem rfresh_at (b l : List Bd) (A C : Option Addr) (c d : Nat) (w : World) (hb : BLst w A b c) (hl : BLst w C l d) (hlen : l.length ≤ 1000000000) :
    Calls Tryz.prog 25 #[.slice A b.length c, .slice C l.length d] w fun e w' => ∃ D q, e = .returned (.slice D (freshL b l).length q) ∧ Ints w' D (freshL b l) ∧ Ext w w' := by
  obtain ⟨i0, hi, hz0, hz1, hz2⟩ := info_parts int_info
  have HB := Lib.hid hb
  have HL := Lib.hid hl
  clear hb hl
  go_enter Tryz.func25, Tryz.ntmps25
  go_wp2_with fail
  go_loopw [5, 6] (fun z i wr => ∃ (j : Nat) (x : Value), j ≤ l.length ∧ i = .int .i64 j ∧ z = x ∧ Hid (OwnI wr w.heap.size x (freshL b (l.take j))) ∧ Hid (Ext w wr)) (fun _ i _ => l.length - (intOf i).toNat)
  case atStart => exact ⟨0, _, Nat.zero_le _, rfl, rfl, Lib.hid (OwnI.nil _ _), Lib.hid (Ext.refl _)⟩
  case round =>
    obtain ⟨j, z, hj, rfl, hz, HK, HW⟩ := hrel
    have hz' := hz.symm
    subst hz'
    clear hz
    by_cases hlt : j < l.length
    · obtain ⟨b0, o, rfl, ⟨c0, _, _, _, _⟩, _, _⟩ := (HL.out.below HW.out).get hlt
      have HC := Lib.hid (fun W (h : Ext w W) => (HL.out.below h).getA hlt)
      have HN := Lib.hid (freshL_next b hlt)
      have hal : (freshL b (l.take j)).length ≤ 1000000000 := Nat.le_trans (freshL_len b l j) (by omega)
      generalize freshL b (l.take j) = acc at *
      generalize (l.getD j default).var = v at *
      have QL := Lib.hid (ref_lookup_at b A c v wr (HB.out.below HW.out))
      have hlo : w.heap.size ≤ wr.heap.size := HW.out.size
      cases hlk : look b v with
      | none =>
        rw [hlk] at QL HN
        obtain ⟨z0, hz0⟩ : ∃ z, optT none = z := ⟨_, rfl⟩
        rw [hz0] at QL
        clear hz0 hlk
        obtain ⟨zk, zn, zs, zA, zc, za⟩ := z0
        have QF := Lib.hid (show Calls Tryz.prog 45 #[.slice A b.length c, .int .i64 v] wr fun e w' => e = .returned (.tuple #[.agg #[.int .i64 zk, .int .i64 zn, .string zs, .slice zA za.length zc], .bool false]) ∧ Below wr.heap.size wr w' from QL.out)
        clear QL
        go_wp2_with fail
        refine QF.out.mono ?_
        rintro e w2 ⟨rfl, hb2⟩
        have E2 := Lib.hid (fun o => show Ext w (w2.alloc o) from (HW.out.trans hb2).trans (Ext.al _ _))
        have K2 := Lib.hid (fun o => (HK.out.below hb2).alloc o)
        obtain ⟨e0, _, _, _, _⟩ := HC.out _ (E2.out (.cells #[.int .i64 zk, .int .i64 zn, .string zs, .slice zA za.length zc] 26))
        have hlo2 : w.heap.size ≤ w2.heap.size := by have := hb2.size; omega
        clear hb2 HK QF c0 HC
        go_wp2_with (at_builtin; refine wpList_append_own _ rfl _ _ 30 rfl w.heap.size 3 i0 (.int .i64 0) 1 8 Tryz.underlying30 hi hz0 hz1 hz2 rfl (by decide) _ acc.length (icells acc) rfl ((K2.out _).alloc _) ⟨w2.heap.size + 1, 0, none⟩ 1 1 [.int .i64 v] rfl rfl (one_new _ _ _ _) (icells_one [v]) (by unfold maxLen; omega) (by omega) (by simp; omega) ?_; intro v' w5 hown1 hg1 _)
        have HP := Lib.hid (own_put hown1)
        have E5 := Lib.hid (show Ext w w5 from (((E2.out _).trans (Ext.al _ _)).grown hg1 (by simp; omega) (fun k hk => (World.ownsRow.lt (K2.out (.cells #[.int .i64 zk, .int .i64 zn, .string zs, .slice zA za.length zc] 26)) k hk).1)))
        clear hown1 hg1
        go_wp2_with fail
        go_roundw
        case rel => exact ⟨j + 1, _, by omega, by go_num, rfl, by rw [HN.out]; exact HP, E5⟩
        case measure => simp [intOf]; omega
      | some x =>
        rw [hlk] at QL HN
        clear hlk HC
        obtain ⟨z0, hz0⟩ : ∃ z, optT (some x) = z := ⟨_, rfl⟩
        rw [hz0] at QL
        clear hz0
        obtain ⟨zk, zn, zs, zA, zc, za⟩ := z0
        have QF := Lib.hid (show Calls Tryz.prog 45 #[.slice A b.length c, .int .i64 v] wr fun e w' => e = .returned (.tuple #[.agg #[.int .i64 zk, .int .i64 zn, .string zs, .slice zA za.length zc], .bool true]) ∧ Below wr.heap.size wr w' from QL.out)
        have HP := Lib.hid (show freshL b (l.take (j + 1)) = acc by rw [HN.out]; simp)
        clear QL HN
        go_wp2_with fail
        refine QF.out.mono ?_
        rintro e w2 ⟨rfl, hb2⟩
        have E2 := Lib.hid (fun o => show Ext w (w2.alloc o) from (HW.out.trans hb2).trans (Ext.al _ _))
        have K2 := Lib.hid (fun o => (HK.out.below hb2).alloc o)
        clear hb2 HK QF c0
        go_wp2_with fail
        go_roundw
        case rel => exact ⟨j + 1, _, by omega, by go_num, rfl, by rw [HP.out]; exact Lib.hid (K2.out _), Lib.hid (E2.out _)⟩
        case measure => simp [intOf]; omega
    · obtain rfl : j = l.length := by omega
      have hK := HK.out
      rw [List.take_length] at hK
      obtain ⟨A', cz, hz, hI, hcz⟩ := hK.form
      subst hz
      have HI := Lib.hid hI
      clear hK HK hlt hcz hI
      go_wp2_with fail
      go_ret
      exact ⟨A', cz, rfl, HI.out, HW.out⟩
end Go.Proofs.YtelkmnjoboekmaaGreat
namespace Go.Proofs.YtelkmnjoboekmaaGreat
open Go.RowKit

theorem araw_list (s : ByteArray) : s.toList = s.data.toList := ByteArray.toList_eq s
theorem astr_of {s : ByteArray} {l : List UInt8} (h : s.data.toList = l) : s = ⟨l.toArray⟩ := by
  subst h
  rfl
theorem araw_ne {s : ByteArray} {l : List UInt8} (h : s.data.toList ≠ l) : (s.toList == l) = false := by
  rw [araw_list]
  simpa using h

set_option maxHeartbeats 1000000 in
theorem is_op_at (s : ByteArray) (w : World) {r : Bool} (hr : opB s.data.toList = r) :
    Calls Tryz.prog 95 #[.string s] w fun e w' => e = .returned (.bool r) ∧ w = w' := by
  by_cases h0 : s.data.toList = [43]
  · obtain rfl := astr_of h0
    obtain rfl : true = r := by rw [← hr]; decide
    clear h0 hr
    go_enter Tryz.func95, Tryz.ntmps95
    go_wp2
    go_ret
    exact ⟨rfl, rfl⟩
  by_cases h1 : s.data.toList = [45]
  · obtain rfl := astr_of h1
    obtain rfl : true = r := by rw [← hr]; decide
    clear h0 h1 hr
    go_enter Tryz.func95, Tryz.ntmps95
    go_wp2
    go_ret
    exact ⟨rfl, rfl⟩
  by_cases h2 : s.data.toList = [42]
  · obtain rfl := astr_of h2
    obtain rfl : true = r := by rw [← hr]; decide
    clear h0 h1 h2 hr
    go_enter Tryz.func95, Tryz.ntmps95
    go_wp2
    go_ret
    exact ⟨rfl, rfl⟩
  by_cases h3 : s.data.toList = [47]
  · obtain rfl := astr_of h3
    obtain rfl : true = r := by rw [← hr]; decide
    clear h0 h1 h2 h3 hr
    go_enter Tryz.func95, Tryz.ntmps95
    go_wp2
    go_ret
    exact ⟨rfl, rfl⟩
  by_cases h4 : s.data.toList = [37]
  · obtain rfl := astr_of h4
    obtain rfl : true = r := by rw [← hr]; decide
    clear h0 h1 h2 h3 h4 hr
    go_enter Tryz.func95, Tryz.ntmps95
    go_wp2
    go_ret
    exact ⟨rfl, rfl⟩
  obtain rfl : false = r := by
    rw [← hr]
    simp only [opB, operators, List.mem_cons, List.not_mem_nil, or_false, h0, h1, h2, h3, h4, decide_false]
  have n0 := araw_ne h0
  have n1 := araw_ne h1
  have n2 := araw_ne h2
  have n3 := araw_ne h3
  have n4 := araw_ne h4
  clear h0 h1 h2 h3 h4 hr
  go_enter Tryz.func95, Tryz.ntmps95
  go_wp2
  go_ret
  exact ⟨rfl, rfl⟩

set_option maxHeartbeats 1000000 in
theorem ref_oper_at (s : ByteArray) (w : World) {r : Bool} (hr : opB s.data.toList = r) :
    Calls Tryz.prog 56 #[.string s] w fun e w' => e = .returned (.bool r) ∧ w = w' := by
  by_cases h0 : s.data.toList = [43]
  · obtain rfl := astr_of h0
    obtain rfl : true = r := by rw [← hr]; decide
    clear h0 hr
    go_enter Tryz.func56, Tryz.ntmps56
    go_wp2
    go_ret
    exact ⟨rfl, rfl⟩
  by_cases h1 : s.data.toList = [45]
  · obtain rfl := astr_of h1
    obtain rfl : true = r := by rw [← hr]; decide
    clear h0 h1 hr
    go_enter Tryz.func56, Tryz.ntmps56
    go_wp2
    go_ret
    exact ⟨rfl, rfl⟩
  by_cases h2 : s.data.toList = [42]
  · obtain rfl := astr_of h2
    obtain rfl : true = r := by rw [← hr]; decide
    clear h0 h1 h2 hr
    go_enter Tryz.func56, Tryz.ntmps56
    go_wp2
    go_ret
    exact ⟨rfl, rfl⟩
  by_cases h3 : s.data.toList = [47]
  · obtain rfl := astr_of h3
    obtain rfl : true = r := by rw [← hr]; decide
    clear h0 h1 h2 h3 hr
    go_enter Tryz.func56, Tryz.ntmps56
    go_wp2
    go_ret
    exact ⟨rfl, rfl⟩
  by_cases h4 : s.data.toList = [37]
  · obtain rfl := astr_of h4
    obtain rfl : true = r := by rw [← hr]; decide
    clear h0 h1 h2 h3 h4 hr
    go_enter Tryz.func56, Tryz.ntmps56
    go_wp2
    go_ret
    exact ⟨rfl, rfl⟩
  obtain rfl : false = r := by
    rw [← hr]
    simp only [opB, operators, List.mem_cons, List.not_mem_nil, or_false, h0, h1, h2, h3, h4, decide_false]
  have n0 := araw_ne h0
  have n1 := araw_ne h1
  have n2 := araw_ne h2
  have n3 := araw_ne h3
  have n4 := araw_ne h4
  clear h0 h1 h2 h3 h4 hr
  go_enter Tryz.func56, Tryz.ntmps56
  go_wp2
  go_ret
  exact ⟨rfl, rfl⟩

theorem in_range_at (n : Int) (w : World) {r : Bool} (hr : inR n = r) :
    Calls Tryz.prog 52 #[.int .i64 n] w fun e w' => e = .returned (.bool r) ∧ w = w' := by
  by_cases h1 : -2147483648 ≤ n
  · obtain ⟨b, hb⟩ : ∃ b, decide (n ≤ 2147483648) = b := ⟨_, rfl⟩
    obtain rfl : b = r := by rw [← hr, ← hb]; simp [inR, h1]
    clear hr
    have HB := Lib.hid hb
    clear hb
    go_enter Tryz.func52, Tryz.ntmps52
    go_wp2
    go_ret
    exact ⟨by rw [← HB.out]; rfl, rfl⟩
  · have h2 : decide (-2147483648 ≤ n) = false := by simpa using h1
    obtain rfl : false = r := by rw [← hr]; simp [inR, h1]
    clear hr h1
    go_enter Tryz.func52, Tryz.ntmps52
    go_wp2
    go_ret
    exact ⟨rfl, rfl⟩

theorem ref_in_at (n : Int) (w : World) {r : Bool} (hr : inR n = r) :
    Calls Tryz.prog 55 #[.int .i64 n] w fun e w' => e = .returned (.bool r) ∧ w = w' := by
  by_cases h1 : -2147483648 ≤ n
  · obtain ⟨b, hb⟩ : ∃ b, decide (n ≤ 2147483648) = b := ⟨_, rfl⟩
    obtain rfl : b = r := by rw [← hr, ← hb]; simp [inR, h1]
    clear hr
    have HB := Lib.hid hb
    clear hb
    go_enter Tryz.func55, Tryz.ntmps55
    go_wp2
    go_ret
    exact ⟨by rw [← HB.out]; rfl, rfl⟩
  · have h2 : decide (-2147483648 ≤ n) = false := by simpa using h1
    obtain rfl : false = r := by rw [← hr]; simp [inR, h1]
    clear hr h1
    go_enter Tryz.func55, Tryz.ntmps55
    go_wp2
    go_ret
    exact ⟨rfl, rfl⟩
end Go.Proofs.YtelkmnjoboekmaaGreat
namespace Go.Proofs.YtelkmnjoboekmaaGreat
open Go.RowKit

theorem tdiv_fit {a b : Int} (ha : inR a = true) (hb : b ≠ 0) : -2147483648 ≤ a.tdiv b ∧ a.tdiv b ≤ 2147483648 := by
  rw [inR_iff] at ha
  have key : ∀ c d : Int, 0 ≤ c → 0 < d → c ≤ 2147483648 → 0 ≤ c / d ∧ c / d ≤ 2147483648 := fun c d h1 h2 h3 => by
    have := div_small h2 h1; omega
  have k2 : ∀ d : Int, 0 < d → -2147483648 ≤ a.tdiv d ∧ a.tdiv d ≤ 2147483648 := fun d hd => by
    by_cases h : 0 ≤ a
    · rw [(tdivmod_pos h).1]; have := key a d h hd (by omega); omega
    · obtain ⟨c, rfl⟩ : ∃ c, a = -c := ⟨-a, by omega⟩
      rw [Int.neg_tdiv, (tdivmod_pos (by omega)).1]
      have := key c d (by omega) hd (by omega); omega
  by_cases h : 0 < b
  · exact k2 b h
  · obtain ⟨d, rfl⟩ : ∃ d, b = -d := ⟨-b, by omega⟩
    rw [Int.tdiv_neg]
    have := k2 d (by omega); omega

theorem tq_yes {a b : Int} (h1 : (a.tmod b != 0) = true) (h2 : (!decide (a < 0) == decide (b < 0)) = true) : tq a b = a.tdiv b - 1 := by
  have e : (decide (a < 0) != decide (b < 0)) = true := by
    cases h3 : decide (a < 0) <;> cases h4 : decide (b < 0) <;> simp_all
  unfold tq
  rw [if_pos ⟨by simpa using h1, e⟩]
theorem tq_no {a b : Int} (h1 : (a.tmod b != 0) = false ∨ (!decide (a < 0) == decide (b < 0)) = false) : tq a b = a.tdiv b := by
  unfold tq
  rw [if_neg]
  rintro ⟨h2, h3⟩
  rcases h1 with h1 | h1
  · exact h2 (by simpa using h1)
  · cases h5 : decide (a < 0) <;> cases h4 : decide (b < 0) <;> simp_all

set_option maxHeartbeats 1000000 in
theorem quotient_at (a b : Int) (w : World) (ha : inR a = true) (hb : inR b = true) (h0 : b ≠ 0) :
    Calls Tryz.prog 125 #[.int .i64 a, .int .i64 b] w fun e w' => e = .returned (.int .i64 (flr a b)) ∧ w = w' := by
  have hq := tdiv_fit ha h0
  have HF := Lib.hid (tq_flr (a := a) h0)
  rw [inR_iff] at ha hb
  obtain ⟨hb1, hb2⟩ := hb
  obtain ⟨ha1, ha2⟩ := ha
  obtain ⟨hq1, hq2⟩ := hq
  have hz : (b == 0) = false := by simpa using h0
  cases hx : a.tmod b != 0
  · have HV := Lib.hid (show flr a b = a.tdiv b by rw [← HF.out]; exact tq_no (.inl hx))
    clear HF
    go_enter Tryz.func125, Tryz.ntmps125
    go_wp2
    go_ret
    exact ⟨by rw [HV.out]; rfl, rfl⟩
  · cases hy : !decide (a < 0) == decide (b < 0)
    · have HV := Lib.hid (show flr a b = a.tdiv b by rw [← HF.out]; exact tq_no (.inr hy))
      clear HF
      go_enter Tryz.func125, Tryz.ntmps125
      go_wp2
      go_ret
      exact ⟨by rw [HV.out]; rfl, rfl⟩
    · have HV := Lib.hid (show flr a b = a.tdiv b - 1 by rw [← HF.out]; exact tq_yes hx hy)
      clear HF
      go_enter Tryz.func125, Tryz.ntmps125
      go_wp2
      go_ret
      exact ⟨by rw [HV.out]; rfl, rfl⟩

theorem mul_fit {a b : Int} (ha : -2147483648 ≤ a ∧ a ≤ 2147483648) (hb : -2147483648 ≤ b ∧ b ≤ 2147483648) : -4611686018427387904 ≤ a * b ∧ a * b ≤ 4611686018427387904 := by
  have key : ∀ c d : Int, 0 ≤ c → c ≤ 2147483648 → 0 ≤ d → d ≤ 2147483648 → 0 ≤ c * d ∧ c * d ≤ 4611686018427387904 := fun c d h1 h2 h3 h4 => by
    refine ⟨Int.mul_nonneg h1 h3, ?_⟩
    have e1 : c * d ≤ 2147483648 * d := Int.mul_le_mul_of_nonneg_right h2 h3
    omega
  by_cases h1 : 0 ≤ a <;> by_cases h2 : 0 ≤ b
  · have := key a b h1 (by omega) h2 (by omega); omega
  · have := key a (-b) h1 (by omega) (by omega) (by omega)
    rw [Int.mul_neg] at this; omega
  · have := key (-a) b (by omega) (by omega) h2 (by omega)
    rw [Int.neg_mul] at this; omega
  · have := key (-a) (-b) (by omega) (by omega) (by omega) (by omega)
    rw [Int.neg_mul_neg] at this; omega
theorem comp_fit {s : List UInt8} {a b : Int} (ha : -2147483648 ≤ a ∧ a ≤ 2147483648) (hb : -2147483648 ≤ b ∧ b ≤ 2147483648) (h0 : opB s = true) (hz : zeroB s b = false) :
    -4611686018427387904 ≤ acomp s a b ∧ acomp s a b ≤ 4611686018427387904 := by
  have hm := mul_fit ha hb
  unfold acomp
  split
  · omega
  · split
    · omega
    · split
      · omega
      · have hb0 : b ≠ 0 := by
          rintro rfl
          rcases op_cases h0 with rfl | rfl | rfl | rfl | rfl <;> simp_all [zeroB]
        split
        · have := flr_small hb0 ha.1 ha.2; omega
        · have h1 := flr_rem (a := a) hb0
          rcases Int.lt_or_gt_of_ne hb0 with h | h
          · have := h1.2 h; omega
          · have := h1.1 h; omega

set_option maxHeartbeats 1000000 in
theorem compute_at (s : ByteArray) (a b : Int) (w : World) (hs : opB s.data.toList = true) (ha : inR a = true) (hb : inR b = true) (h0 : zeroB s.data.toList b = false) :
    Calls Tryz.prog 96 #[.string s, .int .i64 a, .int .i64 b] w fun e w' => e = .returned (.int .i64 (acomp s.data.toList a b)) ∧ w = w' := by
  have ha' := (inR_iff a).1 ha
  have hb' := (inR_iff b).1 hb
  have hm := mul_fit ha' hb'
  obtain ⟨hb1, hb2⟩ := hb'
  obtain ⟨ha1, ha2⟩ := ha'
  obtain ⟨hm1, hm2⟩ := hm
  rcases op_cases hs with h | h | h | h | h
  · obtain rfl := astr_of h
    clear h hs h0 ha hb
    go_enter Tryz.func96, Tryz.ntmps96
    go_wp2
    go_ret
    exact ⟨rfl, rfl⟩
  · obtain rfl := astr_of h
    clear h hs h0 ha hb
    go_enter Tryz.func96, Tryz.ntmps96
    go_wp2
    go_ret
    exact ⟨rfl, rfl⟩
  · obtain rfl := astr_of h
    clear h hs h0 ha hb
    go_enter Tryz.func96, Tryz.ntmps96
    go_wp2
    go_ret
    exact ⟨rfl, rfl⟩
  · obtain rfl := astr_of h
    have hb0 : b ≠ 0 := by rintro rfl; simp [zeroB] at h0
    have Q := Lib.hid (fun W => quotient_at a b W ha hb hb0)
    clear h hs h0 ha hb hb0
    go_enter Tryz.func96, Tryz.ntmps96
    go_wp2_with fail
    refine (Q.out _).mono ?_
    rintro e w1 ⟨rfl, rfl⟩
    go_wp2_with fail
    go_ret
    exact ⟨rfl, rfl⟩
  · obtain rfl := astr_of h
    have hb0 : b ≠ 0 := by rintro rfl; simp [zeroB] at h0
    have Q := Lib.hid (fun W => quotient_at a b W ha hb hb0)
    have hq := flr_small hb0 ha1 ha2
    have hr := flr_rem (a := a) hb0
    have hx : -2147483648 ≤ a - flr a b * b ∧ a - flr a b * b ≤ 2147483648 := by
      rcases Int.lt_or_gt_of_ne hb0 with h | h
      · have := hr.2 h; omega
      · have := hr.1 h; omega
    obtain ⟨hx1, hx2⟩ := hx
    obtain ⟨hq1, hq2⟩ := mul_fit hq ⟨hb1, hb2⟩
    have HV := Lib.hid (show acomp [37] a b = a - flr a b * b from rfl)
    clear h hs h0 ha hb hb0 hr hq
    generalize flr a b = q at *
    go_enter Tryz.func96, Tryz.ntmps96
    go_wp2_with fail
    refine (Q.out _).mono ?_
    rintro e w1 ⟨rfl, rfl⟩
    go_wp2_with fail
    go_ret
    exact ⟨by show Ending.returned _ = Ending.returned (.int .i64 (acomp [37] a b)); rw [HV.out]; rfl, rfl⟩

/-- The value and the error. -/
abbrev pairV (p : Int × Int) : Value := .tuple #[.int .i64 p.1, .int .i64 p.2]
set_option maxHeartbeats 1000000 in
theorem aapply_at (s : ByteArray) (a b : Int) (w : World) :
    Calls Tryz.prog 54 #[.string s, .int .i64 a, .int .i64 b] w fun e w' => e = .returned (pairV (app s.data.toList a b)) ∧ w = w' := by
  obtain ⟨o, ho⟩ : ∃ o, opB s.data.toList = o := ⟨_, rfl⟩
  have Q1 := Lib.hid (fun W => is_op_at s W ho)
  cases o
  · have HV := Lib.hid (show app s.data.toList a b = (0, 7) by unfold app; rw [if_pos ho])
    clear ho
    go_enter Tryz.func54, Tryz.ntmps54
    go_wp2_with fail
    refine (Q1.out _).mono ?_
    rintro e w1 ⟨rfl, rfl⟩
    go_wp2_with fail
    go_ret2
    exact ⟨by rw [HV.out]; rfl, rfl⟩
  obtain ⟨x, hx⟩ : ∃ x, inR a = x := ⟨_, rfl⟩
  have Q2 := Lib.hid (fun W => in_range_at a W hx)
  cases x
  · have HV := Lib.hid (show app s.data.toList a b = (0, 5) by unfold app; rw [if_neg (by rw [ho]; simp), if_pos (by rw [hx]; rfl)])
    clear ho hx
    go_enter Tryz.func54, Tryz.ntmps54
    go_wp2_with fail
    refine (Q1.out _).mono ?_
    rintro e w1 ⟨rfl, rfl⟩
    go_wp2_with fail
    refine (Q2.out _).mono ?_
    rintro e w1 ⟨rfl, rfl⟩
    go_wp2_with fail
    go_ret2
    exact ⟨by rw [HV.out]; rfl, rfl⟩
  obtain ⟨y, hy⟩ : ∃ y, inR b = y := ⟨_, rfl⟩
  have Q3 := Lib.hid (fun W => in_range_at b W hy)
  cases y
  · have HV := Lib.hid (show app s.data.toList a b = (0, 5) by unfold app; rw [if_neg (by rw [ho]; simp), if_pos (by rw [hx, hy]; rfl)])
    clear ho hx hy
    go_enter Tryz.func54, Tryz.ntmps54
    go_wp2_with fail
    refine (Q1.out _).mono ?_
    rintro e w1 ⟨rfl, rfl⟩
    go_wp2_with fail
    refine (Q2.out _).mono ?_
    rintro e w1 ⟨rfl, rfl⟩
    go_wp2_with fail
    refine (Q3.out _).mono ?_
    rintro e w1 ⟨rfl, rfl⟩
    go_wp2_with fail
    go_ret2
    exact ⟨by rw [HV.out]; rfl, rfl⟩
  obtain ⟨z, hz⟩ : ∃ z, zeroB s.data.toList b = z := ⟨_, rfl⟩
  cases z
  · have Q4 := Lib.hid (fun W => compute_at s a b W ho hx hy hz)
    obtain ⟨v, hv⟩ : ∃ v, inR (acomp s.data.toList a b) = v := ⟨_, rfl⟩
    have Q5 := Lib.hid (fun W => in_range_at (acomp s.data.toList a b) W hv)
    have HV := Lib.hid (show app s.data.toList a b = if v = true then (acomp s.data.toList a b, 0) else (0, 5) by unfold app; rw [if_neg (by rw [ho]; simp), if_neg (by rw [hx, hy]; simp), if_neg (by rw [hz]; simp), hv])
    have HZ : (b == 0) = false ∨ ((b == 0) = true ∧ (s.toList == [47]) = false ∧ (s.toList == [37]) = false) := by
      by_cases hb0 : b = 0
      · subst hb0
        simp only [zeroB, decide_true, Bool.true_and, Bool.or_eq_false_iff, decide_eq_false_iff_not] at hz
        exact .inr ⟨rfl, araw_ne hz.1, araw_ne hz.2⟩
      · exact .inl (by simpa using hb0)
    have HI := Lib.hid (show inR a = true ∧ inR b = true from ⟨hx, hy⟩)
    clear ho hx hy hz hv
    generalize acomp s.data.toList a b = n at *
    rcases HZ with h0 | ⟨h0, h1, h2⟩
    all_goals
      cases v
      all_goals
        go_enter Tryz.func54, Tryz.ntmps54
        go_wp2_with fail
        refine (Q1.out _).mono ?_
        rintro e w1 ⟨rfl, rfl⟩
        go_wp2_with fail
        refine (Q2.out _).mono ?_
        rintro e w1 ⟨rfl, rfl⟩
        go_wp2_with fail
        refine (Q3.out _).mono ?_
        rintro e w1 ⟨rfl, rfl⟩
        go_wp2_with fail
        refine (Q4.out _).mono ?_
        rintro e w1 ⟨rfl, rfl⟩
        go_wp2_with fail
        refine (Q5.out _).mono ?_
        rintro e w1 ⟨rfl, rfl⟩
        go_wp2_with fail
        go_ret2
        exact ⟨by rw [HV.out]; rfl, rfl⟩
  · have HV := Lib.hid (show app s.data.toList a b = (0, 12) by unfold app; rw [if_neg (by rw [ho]; simp), if_neg (by rw [hx, hy]; simp), if_pos hz])
    have HZ : b = 0 ∧ (s.data.toList = [47] ∨ s.data.toList = [37]) := by simpa [zeroB] using hz
    clear ho hx hy hz
    obtain ⟨rfl, h | h⟩ := HZ
    all_goals
      obtain rfl := astr_of h
      clear h
      go_enter Tryz.func54, Tryz.ntmps54
      go_wp2_with fail
      refine (Q1.out _).mono ?_
      rintro e w1 ⟨rfl, rfl⟩
      go_wp2_with fail
      refine (Q2.out _).mono ?_
      rintro e w1 ⟨rfl, rfl⟩
      go_wp2_with fail
      refine (Q3.out _).mono ?_
      rintro e w1 ⟨rfl, rfl⟩
      go_wp2_with fail
      go_ret2
      exact ⟨by rw [HV.out]; rfl, rfl⟩
end Go.Proofs.YtelkmnjoboekmaaGreat
