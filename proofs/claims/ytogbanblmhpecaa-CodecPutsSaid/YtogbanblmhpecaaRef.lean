/-
  Contracts of the reference's functions that append encodings.
-/
import Derived.Test.YtogbanblmhpecaaPut
namespace Go.Proofs.Ytogbanblmhpecaa
open Go.RowKit

theorem ref_unsigned (n : Int) (w : World) (h1 : -9223372036854775808 ≤ n) (h2 : n ≤ 9223372036854775807) :
    Calls Try.prog 21 #[.int .i64 n] w fun e w' => e = .returned (.int .u64 (zig n : Int)) ∧ w = w' := by
  by_cases h : 0 ≤ n
  · have hz := zig_pos h
    have HZ := Lib.hid hz
    clear hz
    go_enter Try.func21, Try.ntmps21
    go_wp2
    go_ret
    exact ⟨ret_int (by rw [HZ.out]), rfl⟩
  · have hz := zig_neg (n := n) (by omega)
    have HZ := Lib.hid hz
    clear hz
    have h' : n < 0 := by omega
    go_enter Try.func21, Try.ntmps21
    go_wp2
    go_ret
    exact ⟨ret_int (by rw [HZ.out]), rfl⟩

set_option maxRecDepth 100000 in
theorem ref_int (A : Option Addr) (l : List UInt8) (c : Nat) (n : Int) (w : World) (hl : Lies w A l) (hb : l.length ≤ 1000000000) (h1 : -9223372036854775808 ≤ n) (h2 : n ≤ 9223372036854775807) :
    Calls Try.prog 10 #[.slice A l.length c, .int .i64 n] w (Gives w.heap.size w (l ++ enc (zig n))) := by
  obtain ⟨i0, hi0, hz0, hz1, hz2⟩ := info_parts u8_info
  have HZ := Lib.hid (zig_lt h1 h2)
  have HU := fun W => ref_unsigned n W h1 h2
  have HC := Lib.hid HU
  clear HU h1 h2
  go_enter Try.func10, Try.ntmps10
  go_wp2_with (first
    | (at_builtin; refine wpList_append_bytes _ rfl (.tmp 7) (.tmp 8) _ _ rfl w.heap.size i0 _ Try.underlying22 hi0 hz0 hz1 hz2 rfl _ [] rfl (Own.empty rfl (Nat.le_refl _)) _ l rfl ((hl.alloc _).src Try.underlying22 c) (by simp; omega) (by simp) ?_; intro v1 w1 hown1 hb1)
    | (go_at_call 21; refine (HC.out _).mono ?_; rintro e w' ⟨rfl, rfl⟩))
  simp only [List.nil_append] at hown1
  have hbel1 : Below w.heap.size w w1 := ((Below.refl _ _).alloc (Nat.le_refl _) _).trans hb1
  clear hb1
  go_loopw [5, 6] (fun b u wr => ∃ m : Nat, Hid (m < 18446744073709551616) ∧ u = .int .u64 (m : Int) ∧ Part w.heap.size w l (zig n) b m wr) (fun _ u _ => (intOf u).toNat)
  case atStart => exact ⟨zig n, HZ, rfl, [], by simpa using hown1, rfl, hbel1⟩
  case round =>
    obtain ⟨m, hm, rfl, pre, hown, hpre, hbel⟩ := hrel
    have HPre := Lib.hid hpre
    have hln : (l ++ pre).length ≤ 2000000000 := by
      have h1 := congrArg List.length hpre
      have h2 := enc_len_10 HZ.out
      rw [List.length_append] at h1 ⊢
      omega
    have hsz := hbel.size
    clear hpre
    by_cases hlt : m < 128
    · have hx : ((m : Nat) : Int) = ((UInt8.ofNat m).toNat : Int) := by rw [byte_toNat (by omega)]
      have HX := Lib.hid hx
      clear hx
      go_wp2_with (at_builtin; refine wpList_append_bytes _ rfl (.tmp 23) (.tmp 26) _ _ rfl w.heap.size i0 _ Try.underlying22 hi0 hz0 hz1 hz2 rfl _ _ rfl (hown.alloc _) _ [UInt8.ofNat m] rfl ((Lies.one _ _ HX.out).src Try.underlying22 1) (by simp only [List.length_singleton]; omega) (by simp; omega) ?_; intro v2 w2 hown2 hb2)
      go_ret
      refine ⟨v2, rfl, ?_, (hbel.alloc (by omega) _).trans hb2⟩
      rw [← HPre.out, enc_small hlt, ← List.append_assoc]
      exact hown2
    · have hq : ((m : Nat) : Int) / 128 ≤ 9223372036854775807 := by have := hm.out; omega
      have hx : ((m : Nat) : Int) % 128 + 128 = ((UInt8.ofNat (m % 128 + 128)).toNat : Int) := by rw [byte_toNat (by omega)]; omega
      have HX := Lib.hid hx
      clear hx
      go_wp2_with (at_builtin; refine wpList_append_bytes _ rfl (.tmp 14) (.tmp 19) _ _ rfl w.heap.size i0 _ Try.underlying22 hi0 hz0 hz1 hz2 rfl _ _ rfl (hown.alloc _) _ [UInt8.ofNat (m % 128 + 128)] rfl ((Lies.one _ _ HX.out).src Try.underlying22 1) (by simp only [List.length_singleton]; omega) (by simp; omega) ?_; intro v2 w2 hown2 hb2)
      go_roundw
      case rel =>
        refine ⟨m / 128, ?_, ?_, pre ++ [UInt8.ofNat (m % 128 + 128)], ?_, ?_, (hbel.alloc (by omega) _).trans hb2⟩
        · have := hm.out
          show _ < _
          omega
        · go_num
        · rw [← List.append_assoc]
          exact hown2
        · rw [← HPre.out, enc_big (u := m) (by omega), List.append_assoc]
          rfl
      case measure => simp [intOf]; omega

theorem ref_bool (A : Option Addr) (l : List UInt8) (c : Nat) (x : Bool) (w : World) (hl : Lies w A l) (hb : l.length ≤ 100000000) :
    Calls Try.prog 14 #[.slice A l.length c, .bool x] w (Gives w.heap.size w (l ++ [if x then 1 else 0])) := by
  obtain ⟨i0, hi0, hz0, hz1, hz2⟩ := info_parts u8_info
  have HX1 := Lib.hid (show (1 : Int) = ((1 : UInt8).toNat : Int) from rfl)
  have HX0 := Lib.hid (show (0 : Int) = ((0 : UInt8).toNat : Int) from rfl)
  cases x
  · go_enter Try.func14, Try.ntmps14
    go_wp2_with (first
      | (at_builtin; refine wpList_append_bytes _ rfl (.tmp 11) (.tmp 12) _ _ rfl w.heap.size i0 _ Try.underlying22 hi0 hz0 hz1 hz2 rfl _ [] rfl (Own.empty rfl (Nat.le_refl _)) _ l rfl ((hl.alloc _).src Try.underlying22 c) (by simp; omega) (by simp) ?_; intro v1 w1 hown1 hb1)
      | (at_builtin; refine wpList_append_bytes _ rfl (.tmp 13) (.tmp 14) _ _ rfl w.heap.size i0 _ Try.underlying22 hi0 hz0 hz1 hz2 rfl _ _ rfl (hown1.alloc _) _ [0] rfl ((Lies.one _ _ HX0.out).src Try.underlying22 1) (by simp only [List.length_singleton, List.length_append, List.length_nil]; omega) (by have := hb1.size; simp at this ⊢; omega) ?_; intro v2 w2 hown2 hb2))
    go_ret
    exact ⟨v2, rfl, hown2, ((((Below.refl _ _).alloc (Nat.le_refl _) _).trans hb1).alloc (by have := hb1.size; simp at this; omega) _).trans hb2⟩
  · go_enter Try.func14, Try.ntmps14
    go_wp2_with (first
      | (at_builtin; refine wpList_append_bytes _ rfl (.tmp 6) (.tmp 7) _ _ rfl w.heap.size i0 _ Try.underlying22 hi0 hz0 hz1 hz2 rfl _ [] rfl (Own.empty rfl (Nat.le_refl _)) _ l rfl ((hl.alloc _).src Try.underlying22 c) (by simp; omega) (by simp) ?_; intro v1 w1 hown1 hb1)
      | (at_builtin; refine wpList_append_bytes _ rfl (.tmp 8) (.tmp 9) _ _ rfl w.heap.size i0 _ Try.underlying22 hi0 hz0 hz1 hz2 rfl _ _ rfl (hown1.alloc _) _ [1] rfl ((Lies.one _ _ HX1.out).src Try.underlying22 1) (by simp only [List.length_singleton, List.length_append, List.length_nil]; omega) (by have := hb1.size; simp at this ⊢; omega) ?_; intro v2 w2 hown2 hb2))
    go_ret
    exact ⟨v2, rfl, hown2, ((((Below.refl _ _).alloc (Nat.le_refl _) _).trans hb1).alloc (by have := hb1.size; simp at this; omega) _).trans hb2⟩

theorem getD_take {s : ByteArray} {k : Nat} (h : k < s.size) : s.data.toList.take (k + 1) = s.data.toList.take k ++ [s[k]] := by
  rw [List.take_succ_eq_append_getElem (by simpa using h)]; rfl

set_option maxRecDepth 100000 in
theorem ref_text (A : Option Addr) (l : List UInt8) (c : Nat) (s : ByteArray) (w : World) (hl : Lies w A l) (hb : l.length ≤ 100000000) (hs : s.size ≤ 100000000) :
    Calls Try.prog 12 #[.slice A l.length c, .string s] w (Gives w.heap.size w (l ++ enc (zig s.size) ++ s.data.toList)) := by
  obtain ⟨i0, hi0, hz0, hz1, hz2⟩ := info_parts u8_info
  have HR := Lib.hid (ref_int A l c s.size w hl (by omega) (by omega) (by omega))
  have HL := enc_len_10 (zig_lt (n := (s.size : Int)) (by omega) (by omega))
  obtain ⟨x, hx⟩ : ∃ x, x = l ++ enc (zig s.size) := ⟨_, rfl⟩
  have hxl : x.length ≤ 200000000 := by rw [hx, List.length_append]; omega
  rw [← hx] at HR ⊢
  clear HL hx
  go_enter Try.func12, Try.ntmps12
  go_wp2_with fail
  refine HR.out.mono ?_
  rintro e w1 ⟨v1, rfl, hown1, hb1⟩
  go_wp2_with fail
  go_loopw [5, 6] (fun b i wr => ∃ k : Nat, k ≤ s.size ∧ i = .int .i64 (k : Int) ∧ Own wr w.heap.size b (x ++ s.data.toList.take k) ∧ Below w.heap.size w wr) (fun _ i _ => s.size - (intOf i).toNat)
  case atStart => exact ⟨0, Nat.zero_le _, rfl, by simpa using hown1, hb1⟩
  case round =>
    obtain ⟨k, hk, rfl, hown, hbel⟩ := hrel
    have hsz := hbel.size
    have hln : (x ++ s.data.toList.take k).length ≤ 400000000 := by
      rw [List.length_append, List.length_take]
      omega
    by_cases hlt : k < s.size
    · have hts := getD_take hlt
      have HT := Lib.hid hts
      have HX := Lib.hid (show ((s[k].toNat : Nat) : Int) = (s[k].toNat : Int) from rfl)
      clear hts
      go_wp2_with (at_builtin; refine wpList_append_bytes _ rfl (.tmp 17) (.tmp 21) _ _ rfl w.heap.size i0 _ Try.underlying22 hi0 hz0 hz1 hz2 rfl _ _ rfl (hown.alloc _) _ [s[k]] rfl ((Lies.one _ _ HX.out).src Try.underlying22 1) (by simp only [List.length_singleton]; omega) (by simp; omega) ?_; intro v2 w2 hown2 hb2)
      go_roundw
      case rel => exact ⟨k + 1, by omega, by go_num, by rw [HT.out, ← List.append_assoc]; exact hown2, (hbel.alloc (by omega) _).trans hb2⟩
      case measure => simp [intOf]; omega
    · have hks : s.data.toList.take k = s.data.toList := List.take_of_length_le (by rw [len_string]; omega)
      rw [hks] at hown
      clear hks
      go_wp2
      go_ret
      exact ⟨_, rfl, hown, hbel⟩
end Go.Proofs.Ytogbanblmhpecaa
