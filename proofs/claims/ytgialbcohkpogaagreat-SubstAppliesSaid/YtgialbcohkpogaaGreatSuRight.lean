/-
  Contract of Right of the program.
-/
import Derived.Test.YtgialbcohkpogaaGreatSuIdx
import Derived.Test.YtgialbcohkpogaaGreatTmValid
import Derived.BigQuiet
import Derived.Deep.QuietTactic
namespace Go.Proofs.YtgialbcohkpogaaGreat
open Go.RowKit Go.Sort

theorem apart_any (l : List Bd) : (!(l.any fun x => hasB l x.tm)) = apartB l := by
  have h1 : ∀ t : Tm, hasB l t = !(t.occ.all fun v => (look l v).isNone) := fun t => by
    unfold hasB
    rw [List.not_all_eq_any_not]
    congr 1
    funext v
    cases look l v <;> rfl
  simp only [h1, apartB, ← List.not_all_eq_any_not, Bool.not_not]
/-- A struct of five cells that was laid, behind a call. -/
theorem box5 {w w' : World} {v0 v1 v2 v3 v4 : Value} {T : TypeId} (hb : Below (w.alloc (.cells #[v0, v1, v2, v3, v4] T)).heap.size (w.alloc (.cells #[v0, v1, v2, v3, v4] T)) w') :
    w'.cell? ⟨w.heap.size, 0, none⟩ = some v0 ∧ w'.cell? ⟨w.heap.size, 1, none⟩ = some v1 ∧ w'.cell? ⟨w.heap.size, 2, none⟩ = some v2 ∧ w'.cell? ⟨w.heap.size, 3, none⟩ = some v3 ∧ w'.cell? ⟨w.heap.size, 4, none⟩ = some v4 ∧ Below w.heap.size w w' := by
  have h : ∀ j, w'.cell? ⟨w.heap.size, j, none⟩ = (#[v0, v1, v2, v3, v4] : Array Value)[j]? := fun j => by
    rw [hb.cell (p := ⟨w.heap.size, j, none⟩) (by simp), World.cell?_alloc_at _ _ _ _ rfl]
  exact ⟨h 0, h 1, h 2, h 3, h 4, ((Below.refl _ _).alloc (Nat.le_refl _) _).trans (hb.mono (by simp))⟩

theorem okAt_parts (l : List Bd) (i : Nat) : okAt l i = ((decide (0 ≤ (l.getD i default).var) && decide ((l.getD i default).var ≤ 1048576)) && ((l.getD i default).tm.right && (decide (i = 0) || decide ((l.getD (i - 1) default).var < (l.getD i default).var)))) := rfl

set_option maxHeartbeats 4000000 in
theorem right_s_at (l : List Bd) (A : Option Addr) (c : Nat) (w : World) (hl : BLst w A l c) (hlen : l.length ≤ 1000000) :
    Calls Tryz.prog 7 #[.slice A l.length c] w fun e w' => e = .returned (.bool (rightS l)) ∧ Below w.heap.size w w' := by
  have hmf : ∀ (fn : Fn) (first cap : Array Value) (w : World), (Instr.makeFunc fn first cap).run Tryz.prog w = .ok (.func fn first cap) w := fun _ _ _ _ => rfl
  have HL := Lib.hid hl
  clear hl
  go_enter Tryz.func7, Tryz.ntmps7
  go_wp2_with fail
  go_loopw [7] (fun i wr => ∃ j : Nat, j ≤ l.length ∧ i = .int .i64 j ∧ Hid (okUp l j = true) ∧ Below w.heap.size w wr) (fun i _ => l.length - (intOf i).toNat)
  case atStart => exact ⟨0, Nat.zero_le _, rfl, Lib.hid rfl, Below.refl _ _⟩
  case round =>
    obtain ⟨j, hj, rfl, HF, hbw⟩ := hrel
    by_cases hlt : j < l.length
    · obtain ⟨b, o, rfl, ⟨c0, c1, c2, c3, c4⟩, _, ht⟩ := (HL.out.below hbw).get hlt
      have HO := Lib.hid (okUp_next l j)
      have HS := Lib.hid (fun h => show rightS l = false by unfold rightS; rw [okUp_stop hlt h]; rfl)
      have HP := Lib.hid (okAt_parts l j)
      obtain ⟨x, hx⟩ : ∃ x, l.getD j default = x := ⟨_, rfl⟩
      rw [hx] at c0 c1 c2 c3 c4 ht HP
      clear hx
      obtain ⟨r, hr⟩ : ∃ r, x.tm.right = r := ⟨_, rfl⟩
      rw [hr] at HP
      have Q1 := Lib.hid (fun W (h : Below wr.heap.size wr W) => right_tm_at x.tm W (ht.below h) hr)
      clear ht hr
      obtain ⟨v', k', n', s', A', c', a'⟩ := x
      simp only [Tm.kind, Tm.num, Tm.name, Tm.at_, Tm.args, Tm.cap] at c0 c1 c2 c3 c4
      simp only at HP
      by_cases h0 : v' < 0
      · have HE := Lib.hid (HS.out (by rw [HP.out]; simp; omega))
        go_wp2_with fail
        go_ret
        exact ⟨by rw [HE.out]; rfl, hbw.alloc hbw.size _⟩
      · by_cases h1 : v' > 1048576
        · have HE := Lib.hid (HS.out (by rw [HP.out]; simp; omega))
          have h0' : decide (v' < 0) = false := decide_eq_false h0
          go_wp2_with fail
          go_ret
          exact ⟨by rw [HE.out]; rfl, hbw.alloc hbw.size _⟩
        · have h0' : decide (v' < 0) = false := decide_eq_false h0
          have h1' : decide (v' > 1048576) = false := decide_eq_false h1
          cases r
          · have HE := Lib.hid (HS.out (by rw [HP.out]; simp))
            go_wp2_with fail
            refine (Q1.out _ (below1 _ _)).mono ?_
            rintro e w2 ⟨rfl, hb2⟩
            go_wp2_with fail
            go_ret
            exact ⟨by rw [HE.out]; rfl, hbw.trans (((below1 _ _).trans (hb2.mono (by simp))).mono hbw.size)⟩
          · have HP2 := Lib.hid (show okAt l j = (decide (j = 0) || decide ((l.getD (j - 1) default).var < v')) by rw [HP.out]; simp [show (0 : Int) ≤ v' by omega, show v' ≤ 1048576 by omega])
            go_wp2_with fail
            refine (Q1.out _ (below1 _ _)).mono ?_
            rintro e w2 ⟨rfl, hb2⟩
            obtain ⟨d0, d1, d2, d3, d4, hb3⟩ := box5 hb2
            have hbw2 := hbw.trans (hb3.mono hbw.size)
            clear hb2 hb3 c0 c1 c2 c3 c4 HP h0 h1 h0' h1'
            by_cases hj0 : j = 0
            · subst hj0
              have HN := Lib.hid (show okUp l (0 + 1) = true by rw [HO.out, HP2.out, HF.out]; rfl)
              go_wp2_with fail
              go_quiet (fail)
              go_wp2_with fail
              go_roundw
              case rel => exact ⟨0 + 1, by omega, by go_num, HN, below_drewN hbw2 _⟩
              case measure => simp [intOf]; omega
            · obtain ⟨jp, rfl⟩ : ∃ jp, j = jp + 1 := ⟨j - 1, by omega⟩
              obtain ⟨b', o', e', ⟨p0, _⟩, _⟩ := (HL.out.below hbw2).get (show jp < l.length by omega)
              injection e' with e'
              injection e' with e1 e2 _
              subst e1 e2
              have HP3 := Lib.hid (show okAt l (jp + 1) = decide ((l.getD jp default).var < v') by rw [HP2.out]; simp)
              generalize (l.getD jp default).var = u at *
              by_cases hu : u < v'
              · have HN := Lib.hid (show okUp l (jp + 1 + 1) = true by rw [HO.out, HP3.out, HF.out]; simp [hu])
                have hu' : decide (u ≥ v') = false := decide_eq_false (by omega)
                have hj' : decide ((jp : Int) + 1 > 0) = true := decide_eq_true (by omega)
                go_wp2_with fail
                go_quiet (fail)
                go_wp2_with fail
                go_roundw
                case rel => exact ⟨jp + 1 + 1, by omega, by go_num, HN, below_drewN hbw2 _⟩
                case measure => simp [intOf]; omega
              · have HE := Lib.hid (HS.out (by rw [HP3.out]; simp [hu]))
                have hu' : decide (u ≥ v') = true := decide_eq_true (by omega)
                have hj' : decide ((jp : Int) + 1 > 0) = true := decide_eq_true (by omega)
                go_wp2_with fail
                go_quiet (fail)
                go_wp2_with fail
                go_ret
                exact ⟨by rw [HE.out]; rfl, below_drewN hbw2 _⟩
    · obtain rfl : j = l.length := by omega
      have hok := (okUp_iff l).1 HF.out
      have Q2 := Lib.hid (contains_m_at l A c A l.length c (fun x => hasB l x.tm) wr (HL.out.below hbw) (fun W x hx h => binds_at l A c x W ((HL.out.below hbw).below h) hlen hok.2.srt (((HL.out.below hbw).mem hx).2.below h) (by
        have := (hok.1 x hx).2.2
        unfold Tm.right at this
        simp only [Bool.and_eq_true, decide_eq_true_eq] at this
        omega)))
      have HE := Lib.hid (show (!(l.any fun x => hasB l x.tm)) = rightS l by rw [apart_any]; unfold rightS; rw [HF.out]; rfl)
      clear hok
      go_wp2_with fail
      refine (Q2.out).mono ?_
      rintro e w2 ⟨rfl, hb2⟩
      go_wp2_with fail
      go_ret
      exact ⟨by rw [← HE.out]; rfl, hbw.trans (hb2.mono hbw.size)⟩
end Go.Proofs.YtgialbcohkpogaaGreat
