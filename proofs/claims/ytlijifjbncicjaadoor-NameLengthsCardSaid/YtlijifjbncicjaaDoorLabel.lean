/-
  Contracts of strconv.Itoa and strconv.Atoi as the program's Label and Number call them, and of Label and Number themselves.
-/
import Derived.Test.YtlijifjbncicjaaDoorLaid
import Derived.Test.YtlijifjbncicjaaDoorShelf
import Derived.Test.YtlijifjbncicjaaDoorKinds
import Derived.Lib.AtoiErrMem
import Derived.Lib.ItoaMem
namespace Go.Proofs.YtlijifjbncicjaaDoor
open Go.RowKit

theorem below_grow (w : World) (k : Nat) (os : Array Obj) : Below w.heap.size w (Sort.grow (w.drewN k) os) := by
  refine ⟨rfl, rfl, rfl, ?_, fun j hj => ?_⟩
  · show w.heap.size ≤ (w.heap ++ os).size
    rw [Array.size_append]
    omega
  · show (w.heap ++ os)[j]? = _
    rw [Array.getElem?_append_left hj]

theorem itoa_at (n : Nat) (w : World) (hn : n ≤ 1048576) (hL : Laid w) :
    Calls Tryd.prog 27 #[.int .i64 (n : Int)] w fun e w' => e = .returned (.string ⟨(Lib.decDigits n).toArray⟩) ∧ Below w.heap.size w w' := by
  refine (Tryd.strconv_Itoa (n : Int) (by omega) (by omega) w hL.tab).mono ?_
  rintro e w' ⟨rfl, k, os, rfl⟩
  rw [Lib.itoa_nonneg]
  exact ⟨rfl, below_grow _ _ _⟩

theorem atoi_ok (s : ByteArray) (v : Int) (w : World) (hs : s.size ≤ 1000000000000) (h : Lib.atoiAll s.data.toList = .ok v) :
    Calls Tryd.prog 29 #[.string s] w fun e w' => e = .returned (.tuple #[.int .i64 v, .nilIface]) ∧ Below w.heap.size w w' := by
  refine (Tryd.strconv_Atoi_ok s (by omega) v h w).mono ?_
  rintro e w' ⟨rfl, hw⟩
  refine ⟨rfl, ?_⟩
  rcases hw with rfl | ⟨t, rfl⟩
  · exact Below.refl _ _
  · exact Lib.bytesWorld_below _ _ _

/-- Not a number: some number and an error that is not nil. -/
def Fails (w : World) (e : Ending) (w' : World) : Prop := ∃ (x : Int) (p : Value), e = .returned (.tuple #[.int .i64 x, .iface 40 p]) ∧ Below w.heap.size w w'
theorem atoi_fails (s : ByteArray) (w : World) (hs : s.size ≤ 1000000000000) (hL : Laid w) (h : ∀ v, Lib.atoiAll s.data.toList ≠ .ok v) :
    Calls Tryd.prog 29 #[.string s] w (Fails w) := by
  rcases ha : Lib.atoiAll s.data.toList with v | _ | _
  · exact absurd ha (h v)
  · obtain ⟨tp, p, hv⟩ := hL.syn
    refine (Any.strconv_Atoi_syntax_var Tryd.laysC172 s (by omega) ha tp p w hv).mono ?_
    rintro e w' ⟨N, rfl, -, -, hb⟩
    exact ⟨_, _, rfl, hb⟩
  · obtain ⟨tp, p, hv⟩ := hL.rng
    refine (Any.strconv_Atoi_range_var Tryd.laysC172 s (by omega) ha tp p w hv).mono ?_
    rintro e w' ⟨N, rfl, -, -, hb⟩
    exact ⟨_, _, rfl, hb⟩

theorem append_str (l m : List UInt8) : (⟨l.toArray⟩ : ByteArray) ++ ⟨m.toArray⟩ = ⟨(l ++ m).toArray⟩ := by
  apply WideShapes.bytes_inj
  simp
theorem ret_str {a b : ByteArray} (h : a = b) : Ending.returned (.string a) = .returned (.string b) := by rw [h]

theorem label_in (n : Nat) (w : World) (hn : n ≤ 1048576) (hL : Laid w) :
    Calls Tryd.prog 17 #[.int .i64 (n : Int)] w fun e w' => e = .returned (.string ⟨(label n).toArray⟩) ∧ Below w.heap.size w w' := by
  have h1 : decide ((n : Int) < 0) = false := by simp
  have h2 : decide ((1048576 : Int) < (n : Int)) = false := by simp; omega
  have HI := Lib.hid (itoa_at n w hn hL)
  have h3 : ¬ 9223372036854775807 < 1 + (Lib.decDigits n).length := by have := dec_len7 hn; omega
  clear hn hL
  go_enter Tryd.func17, Tryd.ntmps17
  go_wp2_with (go_at_call 27; refine HI.out.mono ?_; rintro e w' ⟨rfl, hb⟩)
  go_ret
  exact ⟨ret_str (append_str [86] _), hb⟩
theorem label_out (n : Int) (w : World) (hn : n < 0 ∨ 1048576 < n) :
    Calls Tryd.prog 17 #[.int .i64 n] w fun e w' => e = .returned (.string ⟨#[]⟩) ∧ w = w' := by
  by_cases h1 : n < 0
  · go_enter Tryd.func17, Tryd.ntmps17
    go_wp2
    go_ret
    exact ⟨rfl, rfl⟩
  · have h1' : decide (n < 0) = false := by simpa using h1
    have h2 : 1048576 < n := by omega
    clear hn h1
    go_enter Tryd.func17, Tryd.ntmps17
    go_wp2
    go_ret
    exact ⟨rfl, rfl⟩

theorem trim_at (s : ByteArray) (w : World) : Calls Tryd.prog 30 #[.string s, .string ⟨#[86]⟩] w fun e w' => e = .returned (.string ⟨(Lib.trimPrefix s.data.toList [86]).toArray⟩) ∧ w = w' := by
  refine (Tryd.strings_TrimPrefix s ⟨#[86]⟩ w).mono ?_
  rintro e w' ⟨rfl, rfl⟩
  exact ⟨rfl, rfl⟩
theorem trim_size (l : List UInt8) : (Lib.trimPrefix l [86]).length ≤ l.length := by
  unfold Lib.trimPrefix
  split
  · rw [List.length_drop]; omega
  · exact Nat.le_refl _
theorem str_other {x y : ByteArray} (h : x.data.toList ≠ y.data.toList) : (x.toList == y.toList) = false := by
  rw [raw_list, raw_list]
  simpa using h
theorem str_full {x : ByteArray} (h : x.data.toList ≠ []) : x.toList.isEmpty = false := by
  rw [raw_list]
  simpa using h

set_option maxHeartbeats 1000000 in
theorem number_yes (s : ByteArray) (n : Nat) (w : World) (hl : IsLabel s.data.toList n) (hL : Laid w) :
    Calls Tryd.prog 19 #[.string s] w fun e w' => e = .returned (.tuple #[.int .i64 (n : Int), .bool true]) ∧ Below w.heap.size w w' := by
  obtain ⟨hn, hl⟩ := hl
  obtain ⟨t, ht⟩ : ∃ t : ByteArray, t = ⟨(Lib.trimPrefix s.data.toList [86]).toArray⟩ := ⟨_, rfl⟩
  have htl : t.data.toList = Lib.decDigits n := by rw [ht, hl, trim_label]
  have hts : t.size ≤ 1000000000000 := by rw [← len_str, htl]; have := dec_len7 hn; omega
  have HT := trim_at s w
  rw [← ht] at HT
  have HA := atoi_ok t (n : Int) w hts (by rw [htl]; exact atoi_dec hn)
  have HB := fun w' (hb : Below w.heap.size w w') => label_in n w' hn (hL.below hb)
  have hs : (⟨(label n).toArray⟩ : ByteArray) = s := by rw [← hl]
  rw [hs] at HB
  have q1 := Lib.hid HT
  have q2 := Lib.hid HA
  have q3 := Lib.hid HB
  clear HT HA HB hs htl hts ht hl hn hL
  go_enter Tryd.func19, Tryd.ntmps19
  go_wp2_with fail
  refine q1.out.mono ?_
  rintro e w' ⟨rfl, rfl⟩
  go_wp2_with fail
  refine q2.out.mono ?_
  rintro e w1 ⟨rfl, hb1⟩
  go_wp2_with fail
  refine (q3.out w1 hb1).mono ?_
  rintro e w2 ⟨rfl, hb2⟩
  go_wp2_with fail
  go_ret2
  exact ⟨rfl, hb1.trans (hb2.mono hb1.size)⟩

set_option maxHeartbeats 1000000 in
theorem number_no (s : ByteArray) (w : World) (hs : s.size ≤ 1000000000000) (hl : NoLabel s.data.toList) (hL : Laid w) :
    Calls Tryd.prog 19 #[.string s] w fun e w' => e = .returned (.tuple #[.int .i64 0, .bool false]) ∧ Below w.heap.size w w' := by
  obtain ⟨t, ht⟩ : ∃ t : ByteArray, t = ⟨(Lib.trimPrefix s.data.toList [86]).toArray⟩ := ⟨_, rfl⟩
  have htl : t.data.toList = Lib.trimPrefix s.data.toList [86] := by rw [ht]
  have hts : t.size ≤ 1000000000000 := by rw [← len_str, htl]; have := trim_size s.data.toList; rw [len_str] at this; omega
  have HT := trim_at s w
  rw [← ht] at HT
  by_cases hv : ∃ v, Lib.atoiAll t.data.toList = .ok v
  · obtain ⟨v, hv⟩ := hv
    have HA := atoi_ok t v w hts hv
    by_cases hr : 0 ≤ v ∧ v ≤ 1048576
    · obtain ⟨n, rfl⟩ : ∃ n : Nat, v = n := ⟨v.toNat, by omega⟩
      obtain ⟨S, hS⟩ : ∃ S : ByteArray, S = ⟨(label n).toArray⟩ := ⟨_, rfl⟩
      have HB := fun w' (hb : Below w.heap.size w w') => label_in n w' (by omega) (hL.below hb)
      rw [← hS] at HB
      have hne : (S.toList == s.toList) = false := str_other (by rw [hS]; exact fun e => hl n (by omega) e.symm)
      have q1 := Lib.hid HT
      have q2 := Lib.hid HA
      have q3 := Lib.hid HB
      clear HT HA HB htl hts ht hl hL hv hr hS
      go_enter Tryd.func19, Tryd.ntmps19
      go_wp2_with fail
      refine q1.out.mono ?_
      rintro e w' ⟨rfl, rfl⟩
      go_wp2_with fail
      refine q2.out.mono ?_
      rintro e w1 ⟨rfl, hb1⟩
      go_wp2_with fail
      refine (q3.out w1 hb1).mono ?_
      rintro e w2 ⟨rfl, hb2⟩
      go_wp2_with fail
      go_ret2
      exact ⟨rfl, hb1.trans (hb2.mono hb1.size)⟩
    · have HB := fun w' => label_out v w' (by omega)
      have hne : s.toList.isEmpty = false := str_full (by
        intro e
        rw [htl, e] at hv
        cases hv)
      have q1 := Lib.hid HT
      have q2 := Lib.hid HA
      have q3 := Lib.hid HB
      clear HT HA HB htl hts ht hl hL hv hr
      go_enter Tryd.func19, Tryd.ntmps19
      go_wp2_with fail
      refine q1.out.mono ?_
      rintro e w' ⟨rfl, rfl⟩
      go_wp2_with fail
      refine q2.out.mono ?_
      rintro e w1 ⟨rfl, hb1⟩
      go_wp2_with fail
      refine (q3.out w1).mono ?_
      rintro e w2 ⟨rfl, rfl⟩
      go_wp2_with fail
      go_ret2
      exact ⟨rfl, hb1⟩
  · have HA := atoi_fails t w hts hL (fun v e => hv ⟨v, e⟩)
    have q1 := Lib.hid HT
    have q2 := Lib.hid HA
    clear HT HA htl hts ht hl hL hv
    go_enter Tryd.func19, Tryd.ntmps19
    go_wp2_with fail
    refine q1.out.mono ?_
    rintro e w' ⟨rfl, rfl⟩
    go_wp2_with fail
    refine q2.out.mono ?_
    rintro e w1 ⟨x, p, rfl, hb1⟩
    go_wp2_with fail
    go_ret2
    exact ⟨rfl, hb1⟩
end Go.Proofs.YtlijifjbncicjaaDoor
