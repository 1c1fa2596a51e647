/-
  GreatGoals of a slice of one.
-/
import Derived.Test.YtgialbcohkpogaaGreatTmGreat
import Derived.Test.YtgialbcohkpogaaGreatTmOpen
namespace Go.Proofs.YtgialbcohkpogaaGreat
open Go.RowKit

theorem weighN_bound {s : ByteArray} {l : List Tm} {m : Int} (h : decide (weighN s l m < 0) = false) : (nodesL l : Int) ≤ m := weighN_size (Int.not_lt.1 (by simpa using h))

set_option maxHeartbeats 1000000 in
theorem great_goals_one (t : Gl) (W : World) (b : Nat) (hb : b = W.heap.size) (ht : t.At W) {r : Bool} (hr : decide (weighN t.name t.args 300 < 0) = r) :
    Calls Tryz.prog 11 #[.slice (some ⟨b, 0, none⟩) 1 1, .int .i64 300] (W.alloc (.cells #[.int .i64 t.op, .string t.name, .slice t.at_ t.args.length t.cap] 31)) fun e w' => e = .returned (.bool r) ∧ ∃ n, w' = (W.alloc (.cells #[.int .i64 t.op, .string t.name, .slice t.at_ t.args.length t.cap] 31)).drewN n := by
  subst hb
  have h1 := ht.2.2
  have y1 := ht.2.1
  obtain ⟨o1, s1, A1, c1, l1⟩ := t
  simp only at h1 y1 hr
  have z1 : s1.size ≤ 9223372036854775807 := by unfold maxLen at y1; exact y1
  have m1 := weighN_hi s1 l1 300
  have HR := Lib.hid hr
  have Q1 := Lib.hid (fun W' (h : Below W.heap.size W W') => weigh64 l1 A1 c1 (300 - 1 - (s1.size : Int) / 8) W' (h1.below h) (by omega) (by omega))
  have w1 := Lib.hid (show weighN s1 l1 300 = weigh l1 (300 - 1 - (s1.size : Int) / 8) 64 by unfold weighN; rw [if_neg (by omega)])
  have k0 : (W.alloc (.cells #[.int .i64 o1, .string s1, .slice A1 l1.length c1] 31)).cell? ⟨W.heap.size, 0, none⟩ = some (.int .i64 o1) := by rw [World.cell?_alloc_at _ _ _ _ rfl]; rfl
  have k1 : (W.alloc (.cells #[.int .i64 o1, .string s1, .slice A1 l1.length c1] 31)).cell? ⟨W.heap.size, 1, none⟩ = some (.string s1) := by rw [World.cell?_alloc_at _ _ _ _ rfl]; rfl
  have k2 : (W.alloc (.cells #[.int .i64 o1, .string s1, .slice A1 l1.length c1] 31)).cell? ⟨W.heap.size, 2, none⟩ = some (.slice A1 l1.length c1) := by rw [World.cell?_alloc_at _ _ _ _ rfl]; rfl
  obtain ⟨X, hX⟩ : ∃ X, (W.alloc (.cells #[.int .i64 o1, .string s1, .slice A1 l1.length c1] 31)) = X := ⟨_, rfl⟩
  have hWX : Below W.heap.size W X := by rw [← hX]; exact below1 _ _
  show Calls _ _ #[.slice (some ⟨W.heap.size, 0, none⟩) 1 1, .int .i64 300] (W.alloc (.cells #[.int .i64 o1, .string s1, .slice A1 l1.length c1] 31)) fun e w' => e = .returned (.bool r) ∧ ∃ n, w' = (W.alloc (.cells #[.int .i64 o1, .string s1, .slice A1 l1.length c1] 31)).drewN n
  rw [hX]
  rw [hX] at k0
  rw [hX] at k1
  rw [hX] at k2
  generalize weighN s1 l1 300 = v1 at *
  clear hX hr y1 h1 ht
  go_enter Tryz.func11, Tryz.ntmps11
  go_wp2_with fail
  go_loopw [1, 5] (fun z i wr => ((i = .int .i64 0 ∧ z = .int .i64 300) ∨ (i = .int .i64 1 ∧ z = .int .i64 v1)) ∧ Hid (∃ n, wr = X.drewN n)) (fun _ i _ => 1 - (intOf i).toNat)
  case atStart => exact ⟨.inl ⟨rfl, rfl⟩, Lib.hid ⟨0, rfl⟩⟩
  case round =>
    obtain ⟨hc, hn⟩ := hrel
    have hxr : Below X.heap.size X wr := by obtain ⟨n, rfl⟩ := hn.out; exact below_drewN (Below.refl _ _) n
    have hb := hWX.trans (hxr.mono hWX.size)
    replace k0 := (hxr.cell (block_lt_of_cell k0)).trans k0
    replace k1 := (hxr.cell (block_lt_of_cell k1)).trans k1
    replace k2 := (hxr.cell (block_lt_of_cell k2)).trans k2
    rcases hc with ⟨rfl, rfl⟩ | ⟨rfl, rfl⟩
    · have P1 := Lib.hid (fun n => Q1.out (wr.drewN n) (below_drewN hb n))
      rw [← w1.out] at P1
      clear Q1 w1
      go_wp2_with fail
      go_quiet ((go_at_call 36; exact Calls.quiet_of (P1.out _)))
      go_wp2_with fail
      go_roundw
      case rel => exact ⟨.inr ⟨rfl, rfl⟩, by obtain ⟨n, hn⟩ := hn.out; exact Lib.hid ⟨n + nq, by rw [hn, World.drewN_drewN]⟩⟩
      case measure => simp [intOf]
    · clear Q1 w1
      go_wp2_with fail
      go_ret
      exact ⟨by rw [← HR.out]; rfl, hn.out⟩
end Go.Proofs.YtgialbcohkpogaaGreat
