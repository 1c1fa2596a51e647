/-
  Contracts of arguments, Size and Depth of the program, and of the reference's own.
-/
import Derived.Test.YtclhmdgiffemlaaProg
import Derived.Test.YtclhmdgiffemlaaTmMem
import Derived.Outline
import Derived.WalkLawsBesides
namespace Go.Proofs.Ytclhmdgiffemlaa
open Go.RowKit

theorem arguments_at (t : Tm) (w : World) :
    Calls Try.prog 52 #[t.val] w fun e w' => e = .returned (.slice t.uat t.used.length t.ucap) ∧ Below w.heap.size w w' := by
  obtain ⟨k, n, s, A, c, a⟩ := t
  show Calls Try.prog 52 #[.agg #[.int .i64 k, .int .i64 n, .string s, .slice A a.length c]] w _
  by_cases hk : k = 2
  · have HV := Lib.hid (show (Tm.mk k n s A c a).uat = A ∧ (Tm.mk k n s A c a).used = a ∧ (Tm.mk k n s A c a).ucap = c by simp [Tm.uat, Tm.used, Tm.ucap, Tm.kind, Tm.at_, Tm.args, Tm.cap, hk])
    have hk' : (k != 2) = false := by simp [hk]
    clear hk
    go_enter Try.func52, Try.ntmps52
    go_wp2
    go_ret
    obtain ⟨h1, h2, h3⟩ := HV.out
    exact ⟨by rw [h1, h2, h3]; rfl, (Below.refl _ _).alloc (Nat.le_refl _) _⟩
  · have HV := Lib.hid (show (Tm.mk k n s A c a).uat = none ∧ (Tm.mk k n s A c a).used = [] ∧ (Tm.mk k n s A c a).ucap = 0 by simp [Tm.uat, Tm.used, Tm.ucap, Tm.kind, hk])
    have hk' : (k != 2) = true := by simp [hk]
    clear hk
    go_enter Try.func52, Try.ntmps52
    go_wp2
    go_ret
    obtain ⟨h1, h2, h3⟩ := HV.out
    exact ⟨by rw [h1, h2, h3]; rfl, (Below.refl _ _).alloc (Nat.le_refl _) _⟩

set_option maxHeartbeats 1000000 in
theorem size_at (t : Tm) : ∀ w : World, t.At w → t.size ≤ 1000000 →
    Calls Try.prog 14 #[t.val] w fun e w' => e = .returned (.int .i64 (t.size : Int)) ∧ Below w.heap.size w w' := by
  induction t using Tm.induct with
  | h k n s A c a ih0 =>
    intro w hat hs
    have hl := hat.ulst
    have hsz := size_used (.mk k n s A c a)
    have ih : ∀ x ∈ (Tm.mk k n s A c a).used, ∀ w : World, x.At w → x.size ≤ 1000000 → Calls Try.prog 14 #[x.val] w fun e w' => e = .returned (.int .i64 (x.size : Int)) ∧ Below w.heap.size w w' := by
      unfold Tm.used
      split
      · exact ih0
      · intro x hx; cases hx
    have qa := Lib.hid (arguments_at (.mk k n s A c a))
    rw [hsz] at hs ⊢
    clear hat ih0 hsz
    generalize (Tm.mk k n s A c a).used = l at *
    generalize (Tm.mk k n s A c a).uat = U at *
    generalize (Tm.mk k n s A c a).ucap = q at *
    have QI := Lib.hid ih
    clear ih
    have hlen : l.length ≤ 9223372036854775807 := by have := hl.1; have := hl.2.1; unfold maxLen at *; omega
    show Calls Try.prog 14 #[.agg #[.int .i64 k, .int .i64 n, .string s, .slice A a.length c]] w _
    go_enter Try.func14, Try.ntmps14
    go_wp2_with fail
    refine (qa.out _).mono ?_
    rintro e w1 ⟨rfl, hb1⟩
    go_wp2_with fail
    have hb2 : Below w.heap.size w w1 := ((Below.refl _ _).alloc (Nat.le_refl _) _).trans (hb1.mono (by simp))
    clear hb1
    go_loopw [3, 9] (fun z i wr => ∃ j : Nat, j ≤ l.length ∧ i = .int .i64 j ∧ z = .int .i64 ((1 + sizeL (l.take j) : Nat) : Int) ∧ Below w.heap.size w wr) (fun _ i _ => l.length - (intOf i).toNat)
    case atStart => exact ⟨0, Nat.zero_le _, rfl, rfl, hb2⟩
    case round =>
      obtain ⟨j, hj, rfl, rfl, hb⟩ := hrel
      by_cases hlt : j < l.length
      · obtain ⟨b, o, rfl, ⟨c0, c1, c2, c3⟩, hx⟩ := (hl.below hb).get hlt
        have hm := getD_mem hlt
        have hn := sizeL_next hlt
        have ht := sizeL_take l (j + 1)
        have ht' := sizeL_take l j
        generalize l.getD j default = x at *
        have q1 := QI.out x hm
        obtain ⟨k', n', s', A', c', a'⟩ := x
        simp only [Tm.kind, Tm.num, Tm.name, Tm.at_, Tm.args, Tm.cap] at c0 c1 c2 c3
        have hB : sizeL (l.take j) + (Tm.mk k' n' s' A' c' a').size ≤ sizeL l := by omega
        have HN := Lib.hid hn
        clear hn
        have Q1 := Lib.hid q1
        have HX := Lib.hid hx
        clear q1 hx QI qa
        go_wp2_with fail
        refine (Q1.out _ (HX.out.alloc _) (by omega)).mono ?_
        rintro e w2 ⟨rfl, hb3⟩
        go_wp2_with fail
        go_roundw
        case rel => exact ⟨j + 1, by omega, by go_num, by rw [HN.out]; go_num, (hb.alloc hb.size _).trans (hb3.mono (by have := hb.size; simp; omega))⟩
        case measure => simp [intOf]; omega
      · obtain rfl : j = l.length := by omega
        go_wp2_with fail
        go_ret
        exact ⟨by rw [List.take_length]; rfl, hb⟩
theorem args_at (t : Tm) (w : World) :
    Calls Try.prog 53 #[t.val] w fun e w' => e = .returned (.slice t.uat t.used.length t.ucap) ∧ Below w.heap.size w w' := by
  obtain ⟨k, n, s, A, c, a⟩ := t
  show Calls Try.prog 53 #[.agg #[.int .i64 k, .int .i64 n, .string s, .slice A a.length c]] w _
  by_cases hk : k = 2
  · have HV := Lib.hid (show (Tm.mk k n s A c a).uat = A ∧ (Tm.mk k n s A c a).used = a ∧ (Tm.mk k n s A c a).ucap = c by simp [Tm.uat, Tm.used, Tm.ucap, Tm.kind, Tm.at_, Tm.args, Tm.cap, hk])
    have hk' : (k == 2) = true := by simp [hk]
    clear hk
    go_enter Try.func53, Try.ntmps53
    go_wp2
    go_ret
    obtain ⟨h1, h2, h3⟩ := HV.out
    exact ⟨by rw [h1, h2, h3]; rfl, (Below.refl _ _).alloc (Nat.le_refl _) _⟩
  · have HV := Lib.hid (show (Tm.mk k n s A c a).uat = none ∧ (Tm.mk k n s A c a).used = [] ∧ (Tm.mk k n s A c a).ucap = 0 by simp [Tm.uat, Tm.used, Tm.ucap, Tm.kind, hk])
    have hk' : (k == 2) = false := by simp [hk]
    clear hk
    go_enter Try.func53, Try.ntmps53
    go_wp2
    go_ret
    obtain ⟨h1, h2, h3⟩ := HV.out
    exact ⟨by rw [h1, h2, h3]; rfl, (Below.refl _ _).alloc (Nat.le_refl _) _⟩

set_option maxHeartbeats 1000000 in
theorem ref_size_at (t : Tm) : ∀ w : World, t.At w → t.size ≤ 1000000 →
    Calls Try.prog 15 #[t.val] w fun e w' => e = .returned (.int .i64 (t.size : Int)) ∧ Below w.heap.size w w' := by
  induction t using Tm.induct with
  | h k n s A c a ih0 =>
    intro w hat hs
    have hl := hat.ulst
    have hsz := size_used (.mk k n s A c a)
    have ih : ∀ x ∈ (Tm.mk k n s A c a).used, ∀ w : World, x.At w → x.size ≤ 1000000 → Calls Try.prog 15 #[x.val] w fun e w' => e = .returned (.int .i64 (x.size : Int)) ∧ Below w.heap.size w w' := by
      unfold Tm.used
      split
      · exact ih0
      · intro x hx; cases hx
    have qa := Lib.hid (args_at (.mk k n s A c a))
    rw [hsz] at hs ⊢
    clear hat ih0 hsz
    generalize (Tm.mk k n s A c a).used = l at *
    generalize (Tm.mk k n s A c a).uat = U at *
    generalize (Tm.mk k n s A c a).ucap = q at *
    have QI := Lib.hid ih
    clear ih
    have hlen : l.length ≤ 9223372036854775807 := by have := hl.1; have := hl.2.1; unfold maxLen at *; omega
    show Calls Try.prog 15 #[.agg #[.int .i64 k, .int .i64 n, .string s, .slice A a.length c]] w _
    go_enter Try.func15, Try.ntmps15
    go_wp2_with fail
    refine (qa.out _).mono ?_
    rintro e w1 ⟨rfl, hb1⟩
    go_wp2_with fail
    have hb2 : Below w.heap.size w w1 := ((Below.refl _ _).alloc (Nat.le_refl _) _).trans (hb1.mono (by simp))
    clear hb1
    go_loopw [3, 5] (fun z i wr => ∃ j : Nat, j ≤ l.length ∧ i = .int .i64 j ∧ z = .int .i64 ((1 + sizeL (l.take j) : Nat) : Int) ∧ Below w.heap.size w wr) (fun _ i _ => l.length - (intOf i).toNat)
    case atStart => exact ⟨0, Nat.zero_le _, rfl, rfl, hb2⟩
    case round =>
      obtain ⟨j, hj, rfl, rfl, hb⟩ := hrel
      by_cases hlt : j < l.length
      · obtain ⟨b, o, rfl, ⟨c0, c1, c2, c3⟩, hx⟩ := (hl.below hb).get hlt
        have hm := getD_mem hlt
        have hn := sizeL_next hlt
        have ht := sizeL_take l (j + 1)
        have ht' := sizeL_take l j
        generalize l.getD j default = x at *
        have q1 := QI.out x hm
        obtain ⟨k', n', s', A', c', a'⟩ := x
        simp only [Tm.kind, Tm.num, Tm.name, Tm.at_, Tm.args, Tm.cap] at c0 c1 c2 c3
        have hB : sizeL (l.take j) + (Tm.mk k' n' s' A' c' a').size ≤ sizeL l := by omega
        have HN := Lib.hid hn
        clear hn
        have Q1 := Lib.hid q1
        have HX := Lib.hid hx
        clear q1 hx QI qa
        go_wp2_with fail
        refine (Q1.out _ (HX.out) (by omega)).mono ?_
        rintro e w2 ⟨rfl, hb3⟩
        go_wp2_with fail
        go_roundw
        case rel => exact ⟨j + 1, by omega, by go_num, by rw [HN.out]; go_num, hb.trans (hb3.mono hb.size)⟩
        case measure => simp [intOf]; omega
      · obtain rfl : j = l.length := by omega
        go_wp2_with fail
        go_ret
        exact ⟨by rw [List.take_length]; rfl, hb⟩
set_option maxHeartbeats 1000000 in
theorem depth_at (t : Tm) : ∀ w : World, t.At w → t.depth ≤ 1000000 →
    Calls Try.prog 16 #[t.val] w fun e w' => e = .returned (.int .i64 (t.depth : Int)) ∧ Below w.heap.size w w' := by
  induction t using Tm.induct with
  | h k n s A c a ih0 =>
    intro w hat hs
    have hl := hat.ulst
    have hsz := depth_used (.mk k n s A c a)
    have ih : ∀ x ∈ (Tm.mk k n s A c a).used, ∀ w : World, x.At w → x.depth ≤ 1000000 → Calls Try.prog 16 #[x.val] w fun e w' => e = .returned (.int .i64 (x.depth : Int)) ∧ Below w.heap.size w w' := by
      unfold Tm.used
      split
      · exact ih0
      · intro x hx; cases hx
    have qa := Lib.hid (arguments_at (.mk k n s A c a))
    rw [hsz] at hs ⊢
    clear hat ih0 hsz
    generalize (Tm.mk k n s A c a).used = l at *
    generalize (Tm.mk k n s A c a).uat = U at *
    generalize (Tm.mk k n s A c a).ucap = q at *
    have QI := Lib.hid ih
    clear ih
    have hlen : l.length ≤ 9223372036854775807 := by have := hl.1; have := hl.2.1; unfold maxLen at *; omega
    show Calls Try.prog 16 #[.agg #[.int .i64 k, .int .i64 n, .string s, .slice A a.length c]] w _
    go_enter Try.func16, Try.ntmps16
    go_wp2_with fail
    refine (qa.out _).mono ?_
    rintro e w1 ⟨rfl, hb1⟩
    go_wp2_with fail
    have hb2 : Below w.heap.size w w1 := ((Below.refl _ _).alloc (Nat.le_refl _) _).trans (hb1.mono (by simp))
    clear hb1
    go_loopw [3, 9] (fun z i wr => ∃ j : Nat, j ≤ l.length ∧ i = .int .i64 j ∧ z = .int .i64 ((depthL (l.take j) : Nat) : Int) ∧ Below w.heap.size w wr) (fun _ i _ => l.length - (intOf i).toNat)
    case atStart => exact ⟨0, Nat.zero_le _, rfl, rfl, hb2⟩
    case round =>
      obtain ⟨j, hj, rfl, rfl, hb⟩ := hrel
      by_cases hlt : j < l.length
      · obtain ⟨b, o, rfl, ⟨c0, c1, c2, c3⟩, hx⟩ := (hl.below hb).get hlt
        have hm := getD_mem hlt
        have hn := depthL_next hlt
        have ht := depthL_take l (j + 1)
        have ht' := depthL_take l j
        generalize l.getD j default = x at *
        have q1 := QI.out x hm
        obtain ⟨k', n', s', A', c', a'⟩ := x
        simp only [Tm.kind, Tm.num, Tm.name, Tm.at_, Tm.args, Tm.cap] at c0 c1 c2 c3
        have hB : (Tm.mk k' n' s' A' c' a').depth ≤ depthL l := by omega
        have HN := Lib.hid hn
        clear hn
        have Q1 := Lib.hid q1
        have HX := Lib.hid hx
        clear q1 hx QI qa
        go_wp2_with fail
        refine (Q1.out _ (HX.out.alloc _) (by omega)).mono ?_
        rintro e w2 ⟨rfl, hb3⟩
        go_wp2_with fail
        go_roundw
        case rel => exact ⟨j + 1, by omega, by go_num, by rw [HN.out]; go_num, (hb.alloc hb.size _).trans (hb3.mono (by have := hb.size; simp; omega))⟩
        case measure => simp [intOf]; omega
      · obtain rfl : j = l.length := by omega
        go_wp2_with fail
        go_ret
        exact ⟨by rw [List.take_length]; rfl, hb⟩
set_option maxHeartbeats 1000000 in
theorem ref_depth_at (t : Tm) : ∀ w : World, t.At w → t.depth ≤ 1000000 →
    Calls Try.prog 17 #[t.val] w fun e w' => e = .returned (.int .i64 (t.depth : Int)) ∧ Below w.heap.size w w' := by
  induction t using Tm.induct with
  | h k n s A c a ih0 =>
    intro w hat hs
    have hl := hat.ulst
    have hsz := depth_used (.mk k n s A c a)
    have ih : ∀ x ∈ (Tm.mk k n s A c a).used, ∀ w : World, x.At w → x.depth ≤ 1000000 → Calls Try.prog 17 #[x.val] w fun e w' => e = .returned (.int .i64 (x.depth : Int)) ∧ Below w.heap.size w w' := by
      unfold Tm.used
      split
      · exact ih0
      · intro x hx; cases hx
    have qa := Lib.hid (args_at (.mk k n s A c a))
    rw [hsz] at hs ⊢
    clear hat ih0 hsz
    generalize (Tm.mk k n s A c a).used = l at *
    generalize (Tm.mk k n s A c a).uat = U at *
    generalize (Tm.mk k n s A c a).ucap = q at *
    have QI := Lib.hid ih
    clear ih
    have hlen : l.length ≤ 9223372036854775807 := by have := hl.1; have := hl.2.1; unfold maxLen at *; omega
    show Calls Try.prog 17 #[.agg #[.int .i64 k, .int .i64 n, .string s, .slice A a.length c]] w _
    go_enter Try.func17, Try.ntmps17
    go_wp2_with fail
    refine (qa.out _).mono ?_
    rintro e w1 ⟨rfl, hb1⟩
    go_wp2_with fail
    have hb2 : Below w.heap.size w w1 := ((Below.refl _ _).alloc (Nat.le_refl _) _).trans (hb1.mono (by simp))
    clear hb1
    go_loopw [3, 5] (fun z i wr => ∃ j : Nat, j ≤ l.length ∧ i = .int .i64 j ∧ z = .int .i64 ((depthL (l.take j) : Nat) : Int) ∧ Below w.heap.size w wr) (fun _ i _ => l.length - (intOf i).toNat)
    case atStart => exact ⟨0, Nat.zero_le _, rfl, rfl, hb2⟩
    case round =>
      obtain ⟨j, hj, rfl, rfl, hb⟩ := hrel
      by_cases hlt : j < l.length
      · obtain ⟨b, o, rfl, ⟨c0, c1, c2, c3⟩, hx⟩ := (hl.below hb).get hlt
        have hm := getD_mem hlt
        have hn := depthL_next hlt
        have ht := depthL_take l (j + 1)
        have ht' := depthL_take l j
        generalize l.getD j default = x at *
        have q1 := QI.out x hm
        obtain ⟨k', n', s', A', c', a'⟩ := x
        simp only [Tm.kind, Tm.num, Tm.name, Tm.at_, Tm.args, Tm.cap] at c0 c1 c2 c3
        have hB : (Tm.mk k' n' s' A' c' a').depth ≤ depthL l := by omega
        have HN := Lib.hid hn
        clear hn
        have Q1 := Lib.hid q1
        have HX := Lib.hid hx
        clear q1 hx QI qa
        go_wp2_with fail
        refine (Q1.out _ (HX.out) (by omega)).mono ?_
        rintro e w2 ⟨rfl, hb3⟩
        go_wp2_with fail
        go_roundw
        case rel => exact ⟨j + 1, by omega, by go_num, by rw [HN.out]; go_num, hb.trans (hb3.mono hb.size)⟩
        case measure => simp [intOf]; omega
      · obtain rfl : j = l.length := by omega
        go_wp2_with fail
        go_ret
        exact ⟨by rw [List.take_length]; rfl, hb⟩
end Go.Proofs.Ytclhmdgiffemlaa
