/-
  Contracts of firstOccurrences, Vars, AtomVars and GoalVars of the program.
-/
import Derived.Test.YtgialbcohkpogaaTmFirst
namespace Go.Proofs.Ytgialbcohkpogaa
open Go.RowKit Go.Maps

theorem add_visits (w0 : World) : Visits addStep (Kept w0) w0 91 #[.pointer (some ⟨w0.heap.size + 2, 0, none⟩), .pointer (some ⟨w0.heap.size, 0, none⟩)] where
  enter := enters_fn Try.func91 (by kernel_rfl) rfl
  call := fun f s n W hf h => visit_at w0 f s n W hf h
  keep := fun _ _ _ _ h hb => h.keep hb
  less := fun f g s W hle h => ⟨h.below, h.size, h.seenVar, h.listVar, h.seen, by have := h.len; omega⟩
  base := fun _ _ _ h => h.below

theorem kept_start (w : World) (f : Nat) (hf : f ≤ 1000000) :
    Kept w f [] (((w.alloc (.cells #[.slice none 0 0] 43)).alloc (.map #[] 0)).alloc (.cells #[.map (some (w.heap.size + 1))] 66)) := by
  have e1 : (w.alloc (.cells #[.slice none 0 0] 43)).heap.size = w.heap.size + 1 := by simp
  have e2 : ((w.alloc (.cells #[.slice none 0 0] 43)).alloc (.map #[] 0)).heap.size = w.heap.size + 2 := by simp
  refine ⟨(((Below.refl _ _).alloc (Nat.le_refl _) _).alloc (by simp) _).alloc (by simp; omega) _, by simp, ?_, ⟨.slice none 0 0, ?_, OwnI.nil _ _⟩, ⟨by simp, ?_⟩, by simpa using hf⟩
  · rw [← e2]; exact heap_alloc_new _ _
  · rw [Below.heap_alloc _ _ _ (by simp; omega), Below.heap_alloc _ _ _ (by simp)]
    exact heap_alloc_new _ _
  · have h := World.ownsMap_made (w.alloc (.cells #[.slice none 0 0] 43)) Try.prog 3 (plainElem (H := Unit) Try.prog 4)
    rw [e1] at h
    exact h.alloc _

theorem OwnI.mono {w : World} {base base' : Nat} {v : Value} {l : List Int} (h : OwnI w base v l) (hb : base' ≤ base) : OwnI w base' v l := by
  refine ⟨h.1, ?_⟩
  rcases h.2 with h | ⟨g, cap, cur, h1, h2, h3⟩
  · exact .inl h
  · exact .inr ⟨g, cap, cur, h1, Nat.le_trans hb h2, h3⟩

set_option maxHeartbeats 1000000 in
theorem first_at (us : List Tm) (U : Option Addr) (uq : Nat) (w : World) (hl : Lst w U us uq) (hsz : sizeL us ≤ 1000000) :
    Calls Try.prog 80 #[.slice U us.length uq] w (Grows w (addAll [] (occL us))) := by
  have hmf : ∀ (fn : Fn) (first cap : Array Value) (w : World), (Instr.makeFunc fn first cap).run Try.prog w = .ok (.func fn first cap) w := fun _ _ _ _ => rfl
  have hmm := @run_makeMap Try.prog
  have hlen : us.length ≤ 9223372036854775807 := by have := hl.1; have := hl.2.1; unfold maxLen at *; omega
  have hol := occ_length.2 us
  have HK := Lib.hid (kept_start w (occL us).length (by omega))
  go_enter Try.func80, Try.ntmps80
  go_wp2_with fail
  clear hmm
  go_loopw [10] (fun i wr => ∃ j : Nat, j ≤ us.length ∧ i = .int .i64 j ∧ Hid (Kept w (occL (us.drop j)).length (addAll [] (occL (us.take j))) wr)) (fun i _ => us.length - (intOf i).toNat)
  case atStart => exact ⟨0, Nat.zero_le _, rfl, HK⟩
  case round =>
    obtain ⟨j, hj, rfl, HX⟩ := hrel
    by_cases hlt : j < us.length
    · obtain ⟨b, o, rfl, ⟨c0, c1, c2, c3⟩, _⟩ := (hl.below HX.out.below).get hlt
      have hy := hl.mem (getD_mem hlt)
      have HN := Lib.hid (occL_next hlt)
      have hd := drop_next hlt
      generalize us.getD j default = y at *
      have hk := HX.out
      rw [hd, List.length_append, Nat.add_comm y.occ.length] at hk
      have Q1 := Lib.hid (fun ob => each_at (add_visits w) y hy (occL (us.drop (j + 1))).length (addAll [] (occL (us.take j))) (wr.alloc ob) (hk.keep ((Below.refl _ _).alloc (Nat.le_refl _) ob)))
      simp only [add_run, ← addAll_append] at Q1
      rw [← HN.out] at Q1
      clear hy hd hk HN
      obtain ⟨k', n', s', A', c', a'⟩ := y
      simp only [Tm.kind, Tm.num, Tm.name, Tm.at_, Tm.args, Tm.cap] at c0 c1 c2 c3
      go_wp2_with fail
      refine (Q1.out _).mono ?_
      rintro e w5 ⟨rfl, hK5⟩
      go_wp2_with fail
      go_roundw
      case rel => exact ⟨j + 1, by omega, by go_num, Lib.hid hK5⟩
      case measure => simp [intOf]; omega
    · obtain rfl : j = us.length := by omega
      obtain ⟨x, hx, hown⟩ := HX.out.listVar
      have c1 : wr.cell? ⟨w.heap.size, 0, none⟩ = some x := by rw [cell_of_row _ _ _ _ _ _ hx]; rfl
      have hb := HX.out.below
      rw [List.take_length] at hown
      have HO := Lib.hid hown
      clear hx hown
      go_wp2_with fail
      go_ret
      exact Grows.mk rfl (HO.out.mono (by omega)) hb
end Go.Proofs.Ytgialbcohkpogaa
