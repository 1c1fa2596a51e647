/-
  GreatAtoms and GreatGoals of the reference, of two constraints or goals that were just laid.
-/
import Derived.Test.YtgialbcohkpogaaGreatTmAtom
import Derived.Test.YtgialbcohkpogaaGreatTmWeigh
import Derived.Test.YtgialbcohkpogaaGreatTmBelow
namespace Go.Proofs.YtgialbcohkpogaaGreat
open Go.ChangeShapes Go.WideShapes Go.ChangeAt Go.RowKit
set_option linter.unusedVariables false

def weighN (s : ByteArray) (l : List Tm) (m : Int) : Int := if m < 0 then m else weigh l (m - 1 - (s.size : Int) / 8) 64
theorem weigh64 (l : List Tm) (A : Option Addr) (c : Nat) (left : Int) (w : World) (h : Lst w A l c) (h1 : -4611686018427387904 ≤ left) (h2 : left ≤ 1000000) :
    Calls Tryz.prog 36 #[.slice A l.length c, .int .i64 left, .int .i64 64] w fun e w' => e = .returned (.int .i64 (weigh l left 64)) ∧ ∃ n, w' = w.drewN n := weigh_at 64 l A c left w h (Nat.le_refl _) h1 h2
theorem weighN_hi (s : ByteArray) (l : List Tm) (m : Int) : weighN s l m ≤ m ∨ weighN s l m = -1 := by
  unfold weighN
  split
  · omega
  · unfold weigh
    split
    · omega
    · have := weighL_hi l (m - 1 - (s.size : Int) / 8) 64 (by omega)
      omega
theorem weighN_size {s : ByteArray} {l : List Tm} {m : Int} (h : 0 ≤ weighN s l m) : (nodesL l : Int) ≤ m := by
  unfold weighN at h
  split at h
  · omega
  · have := weigh_nodes h
    omega

set_option maxHeartbeats 1000000 in
theorem great_goals_at (t u : Gl) (W : World) (b : Nat) (hb : b = W.heap.size) (ht : t.At W) (hu : u.At W) {r : Bool} (hr : decide (weighN u.name u.args (weighN t.name t.args 600) < 0) = r) :
    Calls Tryz.prog 11 #[.slice (some ⟨b, 0, none⟩) 2 2, .int .i64 600] (W.alloc (.cells #[.int .i64 t.op, .string t.name, .slice t.at_ t.args.length t.cap, .int .i64 u.op, .string u.name, .slice u.at_ u.args.length u.cap] 31)) fun e w' => e = .returned (.bool r) ∧ Below W.heap.size W w' := by
  subst hb
  have h1 := ht.2.2
  have h2 := hu.2.2
  have y1 := ht.2.1
  have y2 := hu.2.1
  obtain ⟨o1, s1, A1, c1, l1⟩ := t
  obtain ⟨o2, s2, A2, c2, l2⟩ := u
  simp only at h1 h2 y1 y2 hr
  have z1 : s1.size ≤ 9223372036854775807 := by unfold maxLen at y1; exact y1
  have z2 : s2.size ≤ 9223372036854775807 := by unfold maxLen at y2; exact y2
  have m1 := weighN_hi s1 l1 600
  have m2 := weighN_hi s2 l2 (weighN s1 l1 600)
  have HR := Lib.hid hr
  have Q1 := Lib.hid (fun W' (h : Below W.heap.size W W') => weigh64 l1 A1 c1 (600 - 1 - (s1.size : Int) / 8) W' (h1.below h) (by omega) (by omega))
  have Q2 := Lib.hid (fun W' (m : Int) (h : Below W.heap.size W W') (g : 0 ≤ m) (g' : m ≤ 600) => weigh64 l2 A2 c2 (m - 1 - (s2.size : Int) / 8) W' (h2.below h) (by omega) (by omega))
  have w1 := Lib.hid (show weighN s1 l1 600 = weigh l1 (600 - 1 - (s1.size : Int) / 8) 64 by unfold weighN; rw [if_neg (by omega)])
  have w2 := Lib.hid (fun (h : 0 ≤ weighN s1 l1 600) => (show weighN s2 l2 (weighN s1 l1 600) = weigh l2 (weighN s1 l1 600 - 1 - (s2.size : Int) / 8) 64 by unfold weighN; rw [if_neg (by unfold weighN at h; omega)]))
  have w3 := Lib.hid (fun (h : weighN s1 l1 600 < 0) => (show weighN s2 l2 (weighN s1 l1 600) = weighN s1 l1 600 by rw [show weighN s2 l2 (weighN s1 l1 600) = if weighN s1 l1 600 < 0 then weighN s1 l1 600 else weigh l2 (weighN s1 l1 600 - 1 - (s2.size : Int) / 8) 64 from rfl, if_pos h]))
  have k0 : (W.alloc (.cells #[.int .i64 o1, .string s1, .slice A1 l1.length c1, .int .i64 o2, .string s2, .slice A2 l2.length c2] 31)).cell? ⟨W.heap.size, 0, none⟩ = some (.int .i64 o1) := by rw [World.cell?_alloc_at _ _ _ _ rfl]; rfl
  have k1 : (W.alloc (.cells #[.int .i64 o1, .string s1, .slice A1 l1.length c1, .int .i64 o2, .string s2, .slice A2 l2.length c2] 31)).cell? ⟨W.heap.size, 1, none⟩ = some (.string s1) := by rw [World.cell?_alloc_at _ _ _ _ rfl]; rfl
  have k2 : (W.alloc (.cells #[.int .i64 o1, .string s1, .slice A1 l1.length c1, .int .i64 o2, .string s2, .slice A2 l2.length c2] 31)).cell? ⟨W.heap.size, 2, none⟩ = some (.slice A1 l1.length c1) := by rw [World.cell?_alloc_at _ _ _ _ rfl]; rfl
  have k3 : (W.alloc (.cells #[.int .i64 o1, .string s1, .slice A1 l1.length c1, .int .i64 o2, .string s2, .slice A2 l2.length c2] 31)).cell? ⟨W.heap.size, 3, none⟩ = some (.int .i64 o2) := by rw [World.cell?_alloc_at _ _ _ _ rfl]; rfl
  have k4 : (W.alloc (.cells #[.int .i64 o1, .string s1, .slice A1 l1.length c1, .int .i64 o2, .string s2, .slice A2 l2.length c2] 31)).cell? ⟨W.heap.size, 4, none⟩ = some (.string s2) := by rw [World.cell?_alloc_at _ _ _ _ rfl]; rfl
  have k5 : (W.alloc (.cells #[.int .i64 o1, .string s1, .slice A1 l1.length c1, .int .i64 o2, .string s2, .slice A2 l2.length c2] 31)).cell? ⟨W.heap.size, 5, none⟩ = some (.slice A2 l2.length c2) := by rw [World.cell?_alloc_at _ _ _ _ rfl]; rfl
  obtain ⟨X, hX⟩ : ∃ X, (W.alloc (.cells #[.int .i64 o1, .string s1, .slice A1 l1.length c1, .int .i64 o2, .string s2, .slice A2 l2.length c2] 31)) = X := ⟨_, rfl⟩
  have hWX : Below W.heap.size W X := by rw [← hX]; exact below1 _ _
  show Calls _ _ #[.slice (some ⟨W.heap.size, 0, none⟩) 2 2, .int .i64 600] (W.alloc (.cells #[.int .i64 o1, .string s1, .slice A1 l1.length c1, .int .i64 o2, .string s2, .slice A2 l2.length c2] 31)) _
  rw [hX]
  rw [hX] at k0
  rw [hX] at k1
  rw [hX] at k2
  rw [hX] at k3
  rw [hX] at k4
  rw [hX] at k5
  generalize weighN s2 l2 (weighN s1 l1 600) = v2 at *
  generalize weighN s1 l1 600 = v1 at *
  clear hX hr y1 y2 h1 h2 ht hu
  go_enter Tryz.func11, Tryz.ntmps11
  go_wp2_with fail
  go_loopw [1, 5] (fun z i wr => ((i = .int .i64 0 ∧ z = .int .i64 600) ∨ (i = .int .i64 1 ∧ z = .int .i64 v1) ∨ (i = .int .i64 2 ∧ z = .int .i64 v2)) ∧ Hid (∃ n, wr = X.drewN n)) (fun _ i _ => 2 - (intOf i).toNat)
  case atStart => exact ⟨.inl ⟨rfl, rfl⟩, Lib.hid ⟨0, rfl⟩⟩
  case round =>
    obtain ⟨hc, hn⟩ := hrel
    have hxr : Below X.heap.size X wr := by obtain ⟨n, rfl⟩ := hn.out; exact below_drewN (Below.refl _ _) n
    have hb := hWX.trans (hxr.mono hWX.size)
    replace k0 := (hxr.cell (block_lt_of_cell k0)).trans k0
    replace k1 := (hxr.cell (block_lt_of_cell k1)).trans k1
    replace k2 := (hxr.cell (block_lt_of_cell k2)).trans k2
    replace k3 := (hxr.cell (block_lt_of_cell k3)).trans k3
    replace k4 := (hxr.cell (block_lt_of_cell k4)).trans k4
    replace k5 := (hxr.cell (block_lt_of_cell k5)).trans k5
    rcases hc with ⟨rfl, rfl⟩ | ⟨rfl, rfl⟩ | ⟨rfl, rfl⟩
    · have P1 := Lib.hid (fun n => Q1.out (wr.drewN n) (below_drewN hb n))
      rw [← w1.out] at P1
      clear Q1 Q2 w1 w2 w3
      go_wp2_with fail
      go_quiet ((go_at_call 36; exact Calls.quiet_of (P1.out _)))
      go_wp2_with fail
      go_roundw
      case rel => exact ⟨.inr (.inl ⟨rfl, rfl⟩), by obtain ⟨n, hn⟩ := hn.out; exact Lib.hid ⟨n + nq, by rw [hn, World.drewN_drewN]⟩⟩
      case measure => simp [intOf]
    · by_cases g : 0 ≤ v1
      · have P1 := Lib.hid (fun n => Q2.out (wr.drewN n) v1 (below_drewN hb n) g (by omega))
        rw [← w2.out g] at P1
        clear Q1 Q2 w1 w2 w3
        go_wp2_with fail
        go_quiet ((go_at_call 36; exact Calls.quiet_of (P1.out _)))
        go_wp2_with fail
        go_roundw
        case rel => exact ⟨.inr (.inr ⟨rfl, rfl⟩), by obtain ⟨n, hn⟩ := hn.out; exact Lib.hid ⟨n + nq, by rw [hn, World.drewN_drewN]⟩⟩
        case measure => simp [intOf]
      · have g' : v1 < 0 := by omega
        obtain rfl := w3.out g'
        clear Q1 Q2 w1 w2 w3
        go_wp2_with fail
        go_ret
        exact ⟨by rw [← HR.out, decide_eq_true g']; rfl, hb⟩
    · clear Q1 Q2 w1 w2 w3
      go_wp2_with fail
      go_ret
      exact ⟨by rw [← HR.out]; rfl, hb⟩
end Go.Proofs.YtgialbcohkpogaaGreat
