/-
  Contracts of the codec's functions that append encodings.
-/
import Derived.Test.YtogbanblmhpecaaProg
import Derived.Test.YtogbanblmhpecaaWords
import Derived.Outline
import Derived.IntWalk
namespace Go.Proofs.Ytogbanblmhpecaa
open Go.RowKit

theorem u8_info : (Try.prog.info? 5).map (fun i => (i.zero, i.size, i.bytes)) = some (some (.int .u8 0), 1, 1) := by kernel_rfl

theorem unsigned_any (n : Int) (w : World) (h1 : -9223372036854775808 ≤ n) (h2 : n ≤ 9223372036854775807) :
    Calls Try.prog 25 #[.int .i64 n] w fun e w' => e = .returned (.int .u64 (zig n : Int)) ∧ w = w' := by
  by_cases h : 0 ≤ n
  · have hz := zig_pos h
    have HZ := Lib.hid hz
    clear hz
    go_enter Try.func25, Try.ntmps25
    go_wp2
    go_ret
    exact ⟨ret_int (by rw [HZ.out]), rfl⟩
  · have hz := zig_neg (n := n) (by omega)
    have HZ := Lib.hid hz
    clear hz
    have h' : n < 0 := by omega
    go_enter Try.func25, Try.ntmps25
    go_wp2
    go_ret
    exact ⟨ret_int (by rw [HZ.out]), rfl⟩

/-- The call returns a slice of its own that holds l; what was there before stays. -/
def Gives (B : Nat) (w : World) (l : List UInt8) (e : Ending) (w' : World) : Prop := ∃ v, e = .returned v ∧ Own w' B v l ∧ Below B w w'

theorem copy_any (A : Option Addr) (l : List UInt8) (c r : Nat) (w : World) (hl : Lies w A l) (hb : l.length + r ≤ 140737488355328) :
    Calls Try.prog 20 #[.slice A l.length c, .int .i64 (r : Int)] w (Gives w.heap.size w l) := by
  obtain ⟨i0, hi0, hz0, hz1, hz2⟩ := info_parts u8_info
  go_enter Try.func20, Try.ntmps20
  go_wp2_with (first
    | (at_make; refine wpList_make_own _ rfl (.const (.int .i64 0)) (.tmp 8) 22 rfl w.heap.size 5 i0 _ 1 Try.underlying22 hi0 hz0 hz1 _ _ _ (l.length + r) rfl rfl (by simp) (by rw [hz2]; omega) (by unfold maxLen; omega) (Nat.le_refl _) ?_; intro w1 hown1 hg1)
    | (at_builtin; refine wpList_append_bytes _ rfl (.tmp 9) (.tmp 10) _ _ rfl w.heap.size i0 _ Try.underlying22 hi0 hz0 hz1 hz2 rfl _ [] rfl hown1 _ l rfl ((hl.below ((Below.refl _ _).grown hg1 (Nat.le_refl _) (by simp))).src Try.underlying22 c) (by simp; omega) hg1.size ?_; intro v2 w2 hown2 hb2))
  go_ret
  exact ⟨v2, rfl, hown2, ((Below.refl _ _).grown hg1 (Nat.le_refl _) (by simp)).trans hb2⟩

/-- The head of the loop in appendInt: of the groups of u0 those ahead of m's are appended. -/
def Part (base : Nat) (w : World) (l : List UInt8) (u0 : Nat) (b : Value) (m : Nat) (wr : World) : Prop := ∃ pre, Own wr base b (l ++ pre) ∧ pre ++ enc m = enc u0 ∧ Below base w wr

set_option maxRecDepth 100000 in
theorem append_any (base : Nat) (v : Value) (l : List UInt8) (n : Int) (w : World) (hv : Own w base v l) (hb : l.length ≤ 1000000000) (hbase : base ≤ w.heap.size) (h1 : -9223372036854775808 ≤ n) (h2 : n ≤ 9223372036854775807) :
    Calls Try.prog 19 #[v, .int .i64 n] w (Gives base w (l ++ enc (zig n))) := by
  obtain ⟨i0, hi0, hz0, hz1, hz2⟩ := info_parts u8_info
  have HZ := Lib.hid (zig_lt h1 h2)
  have HU := unsigned_any n w h1 h2
  have HC := Lib.hid HU
  clear HU h1 h2
  go_enter Try.func19, Try.ntmps19
  go_wp2_with (go_at_call 25; refine HC.out.mono ?_; rintro e w' ⟨rfl, rfl⟩)
  go_loopw [0, 5] (fun b u wr => ∃ m : Nat, Hid (m < 18446744073709551616) ∧ u = .int .u64 (m : Int) ∧ Part base w l (zig n) b m wr) (fun _ u _ => (intOf u).toNat)
  case atStart => exact ⟨zig n, HZ, rfl, [], by simpa using hv, rfl, Below.refl _ _⟩
  case round =>
    obtain ⟨m, hm, rfl, pre, hown, hpre, hbel⟩ := hrel
    have HPre := Lib.hid hpre
    have hln : (l ++ pre).length ≤ 2000000000 := by
      have h1 := congrArg List.length hpre
      have h2 := enc_len_10 HZ.out
      rw [List.length_append] at h1 ⊢
      omega
    have hsz := hbel.size
    clear hpre
    by_cases hlt : m < 128
    · have hx : ((m : Nat) : Int) = ((UInt8.ofNat m).toNat : Int) := by rw [byte_toNat (by omega)]
      have HX := Lib.hid hx
      clear hx
      go_wp2_with (at_builtin; refine wpList_append_bytes _ rfl (.tmp 19) (.tmp 22) _ _ rfl base i0 _ Try.underlying22 hi0 hz0 hz1 hz2 rfl _ _ rfl (hown.alloc _) _ [UInt8.ofNat m] rfl ((Lies.one _ _ HX.out).src Try.underlying22 1) (by simp only [List.length_singleton]; omega) (by simp; omega) ?_; intro v2 w2 hown2 hb2)
      go_ret
      refine ⟨v2, rfl, ?_, (hbel.alloc (by omega) _).trans hb2⟩
      rw [← HPre.out, enc_small hlt, ← List.append_assoc]
      exact hown2
    · have hx : ((m : Nat) : Int) % 128 + 128 = ((UInt8.ofNat (m % 128 + 128)).toNat : Int) := by rw [byte_toNat (by omega)]; omega
      have HX := Lib.hid hx
      clear hx
      go_wp2_with (at_builtin; refine wpList_append_bytes _ rfl (.tmp 10) (.tmp 15) _ _ rfl base i0 _ Try.underlying22 hi0 hz0 hz1 hz2 rfl _ _ rfl (hown.alloc _) _ [UInt8.ofNat (m % 128 + 128)] rfl ((Lies.one _ _ HX.out).src Try.underlying22 1) (by simp only [List.length_singleton]; omega) (by simp; omega) ?_; intro v2 w2 hown2 hb2)
      go_roundw
      case rel =>
        refine ⟨m / 128, ?_, ?_, pre ++ [UInt8.ofNat (m % 128 + 128)], ?_, ?_, (hbel.alloc (by omega) _).trans hb2⟩
        · have := hm.out
          show _ < _
          omega
        · go_num
        · rw [← List.append_assoc]
          exact hown2
        · rw [← HPre.out, enc_big (u := m) (by omega), List.append_assoc]
          rfl
      case measure => simp [intOf]; omega

theorem put_int (A : Option Addr) (l : List UInt8) (c : Nat) (n : Int) (w : World) (hl : Lies w A l) (hb : l.length ≤ 100000000) (h1 : -9223372036854775808 ≤ n) (h2 : n ≤ 9223372036854775807) :
    Calls Try.prog 9 #[.slice A l.length c, .int .i64 n] w (Gives w.heap.size w (l ++ enc (zig n))) := by
  have HN := Lib.hid (And.intro h1 h2)
  clear h1 h2
  go_enter Try.func9, Try.ntmps9
  go_wp2_with fail
  refine (copy_any A l c 10 w hl (by omega)).mono ?_
  rintro e w1 ⟨v1, rfl, hown1, hb1⟩
  go_wp2_with fail
  refine (append_any w.heap.size v1 l n w1 hown1 (by omega) hb1.size HN.out.1 HN.out.2).mono ?_
  rintro e w2 ⟨v2, rfl, hown2, hb2⟩
  go_wp2_with fail
  go_ret
  exact ⟨v2, rfl, hown2, hb1.trans hb2⟩

theorem put_bool (A : Option Addr) (l : List UInt8) (c : Nat) (x : Bool) (w : World) (hl : Lies w A l) (hb : l.length ≤ 100000000) :
    Calls Try.prog 13 #[.slice A l.length c, .bool x] w (Gives w.heap.size w (l ++ [if x then 1 else 0])) := by
  obtain ⟨i0, hi0, hz0, hz1, hz2⟩ := info_parts u8_info
  have HX1 := Lib.hid (show (1 : Int) = ((1 : UInt8).toNat : Int) from rfl)
  have HX0 := Lib.hid (show (0 : Int) = ((0 : UInt8).toNat : Int) from rfl)
  cases x
  · go_enter Try.func13, Try.ntmps13
    go_wp2_with fail
    refine (copy_any A l c 1 w hl (by omega)).mono ?_
    rintro e w1 ⟨v1, rfl, hown1, hb1⟩
    have hsz := hb1.size
    go_wp2_with (at_builtin; refine wpList_append_bytes _ rfl (.tmp 12) (.tmp 13) _ _ rfl w.heap.size i0 _ Try.underlying22 hi0 hz0 hz1 hz2 rfl _ _ rfl (hown1.alloc _) _ [0] rfl ((Lies.one _ _ HX0.out).src Try.underlying22 1) (by simp only [List.length_singleton]; omega) (by simp; omega) ?_; intro v2 w2 hown2 hb2)
    go_ret
    exact ⟨v2, rfl, hown2, (hb1.alloc hsz _).trans hb2⟩
  · go_enter Try.func13, Try.ntmps13
    go_wp2_with fail
    refine (copy_any A l c 1 w hl (by omega)).mono ?_
    rintro e w1 ⟨v1, rfl, hown1, hb1⟩
    have hsz := hb1.size
    go_wp2_with (at_builtin; refine wpList_append_bytes _ rfl (.tmp 9) (.tmp 10) _ _ rfl w.heap.size i0 _ Try.underlying22 hi0 hz0 hz1 hz2 rfl _ _ rfl (hown1.alloc _) _ [1] rfl ((Lies.one _ _ HX1.out).src Try.underlying22 1) (by simp only [List.length_singleton]; omega) (by simp; omega) ?_; intro v2 w2 hown2 hb2)
    go_ret
    exact ⟨v2, rfl, hown2, (hb1.alloc hsz _).trans hb2⟩

theorem put_text (A : Option Addr) (l : List UInt8) (c : Nat) (s : ByteArray) (w : World) (hl : Lies w A l) (hb : l.length ≤ 100000000) (hs : s.size ≤ 100000000) :
    Calls Try.prog 11 #[.slice A l.length c, .string s] w (Gives w.heap.size w (l ++ enc (zig s.size) ++ s.data.toList)) := by
  obtain ⟨i0, hi0, hz0, hz1, hz2⟩ := info_parts u8_info
  have HL := enc_len_10 (zig_lt (n := (s.size : Int)) (by omega) (by omega))
  have HD := len_string s
  have hd := Lib.hid HD
  clear HD
  go_enter Try.func11, Try.ntmps11
  go_wp2_with fail
  rw [show (10 : Int) + (s.size : Int) = ((10 + s.size : Nat) : Int) by omega]
  refine (copy_any A l c (10 + s.size) w hl (by omega)).mono ?_
  rintro e w1 ⟨v1, rfl, hown1, hb1⟩
  go_wp2_with fail
  refine (append_any w.heap.size v1 l s.size w1 hown1 (by omega) hb1.size (by omega) (by omega)).mono ?_
  rintro e w2 ⟨v2, rfl, hown2, hb2⟩
  have hsz := (hb1.trans hb2).size
  go_wp2_with (at_builtin; refine wpList_append_bytes _ rfl (.tmp 14) (.tmp 15) _ _ rfl w.heap.size i0 _ Try.underlying22 hi0 hz0 hz1 hz2 rfl _ _ rfl hown2 _ s.data.toList rfl (src_string Try.underlying9 s _) (by rw [hd.out, List.length_append]; omega) hsz ?_; intro v3 w3 hown3 hb3)
  go_ret
  exact ⟨v3, rfl, hown3, (hb1.trans hb2).trans hb3⟩
end Go.Proofs.Ytogbanblmhpecaa
