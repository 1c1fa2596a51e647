/-
  Contracts of the reference's Decimal, Label and Number.
-/
import Derived.Test.YtlijifjbncicjaaDoorLabel
import Derived.Test.YtlijifjbncicjaaDoorLies
import Derived.IntWalk
namespace Go.Proofs.YtlijifjbncicjaaDoor
open Go.RowKit

/-- string([]byte{x}), the slice laid last. -/
theorem str_one (w : World) (X : Int) (x : UInt8) (h : X = (x.toNat : Int)) :
    (convert 28 9 (.slice (some ⟨w.heap.size, 0, none⟩) 1 1)).run Tryd.prog (w.alloc (.cells #[.int .u8 X] 5)) = .ok (.string ⟨#[x]⟩) (w.alloc (.cells #[.int .u8 X] 5)) :=
  (Lies.one w 5 h).str 1 Tryd.underlying28 Tryd.underlying5 Tryd.underlying9

set_option maxHeartbeats 1000000 in
theorem ref_decimal (n : Nat) : ∀ (w : World), n ≤ 1048576 →
    Calls Tryd.prog 28 #[.int .i64 (n : Int)] w fun e w' => e = .returned (.string ⟨(Lib.decDigits n).toArray⟩) ∧ Below w.heap.size w w' := by
  induction n using Nat.strongRecOn with
  | _ n ih =>
    intro w hn
    have h0 : decide ((n : Int) < 0) = false := by simp
    obtain ⟨y, hy⟩ : ∃ y : UInt8, y = UInt8.ofNat (48 + n % 10) := ⟨_, rfl⟩
    have hcv := str_one w (48 + (n : Int) % 10) y (by rw [hy, digit_nat (by omega)]; omega)
    by_cases h : n < 10
    · have h' : (n : Int) < 10 := by omega
      have HV := Lib.hid (show Lib.decDigits n = [y] by rw [dec_small h, hy, show n % 10 = n by omega])
      clear ih h hn hy
      go_enter Tryd.func28, Tryd.ntmps28
      go_wp2_with fail
      go_ret
      exact ⟨ret_str (by rw [HV.out]), (Below.refl _ _).alloc (Nat.le_refl _) _⟩
    · have h' : decide ((n : Int) < 10) = false := by simp; omega
      have HV := dec_big h
      rw [← hy] at HV
      have hb : (n : Int) ≤ 1048576 := by omega
      have IH := fun w' => ih (n / 10) (by omega) w' (by omega)
      have e : ((n / 10 : Nat) : Int) = (n : Int) / 10 := by omega
      rw [e] at IH
      have hl := dec_len7 (n := n / 10) (by omega)
      obtain ⟨x, hx⟩ : ∃ x : List UInt8, x = Lib.decDigits (n / 10) := ⟨_, rfl⟩
      rw [← hx] at IH hl HV
      have q := Lib.hid IH
      have HV := Lib.hid HV
      have hz : ¬ 9223372036854775807 < x.length + 1 := by omega
      clear ih h hn e IH hx hl hy
      go_enter Tryd.func28, Tryd.ntmps28
      go_wp2_with fail
      ((with_reducible refine (q.out _).mono ?_); rintro e w' ⟨rfl, hb2⟩)
      go_wp2_with fail
      go_ret
      exact ⟨ret_str (by rw [HV.out]; exact append_str _ [_]), ((Below.refl _ _).alloc (Nat.le_refl _) _).trans (hb2.mono (by simp))⟩

theorem ref_label_in (n : Nat) (w : World) (hn : n ≤ 1048576) :
    Calls Tryd.prog 18 #[.int .i64 (n : Int)] w fun e w' => e = .returned (.string ⟨(label n).toArray⟩) ∧ Below w.heap.size w w' := by
  have h1 : decide ((n : Int) < 0) = false := by simp
  have h2 : decide ((1048576 : Int) < (n : Int)) = false := by simp; omega
  have HI := Lib.hid (ref_decimal n w hn)
  have h3 : ¬ 9223372036854775807 < 1 + (Lib.decDigits n).length := by have := dec_len7 hn; omega
  clear hn
  go_enter Tryd.func18, Tryd.ntmps18
  go_wp2_with (go_at_call 28; refine HI.out.mono ?_; rintro e w' ⟨rfl, hb⟩)
  go_ret
  exact ⟨ret_str (append_str [86] _), hb⟩
theorem ref_label_out (n : Int) (w : World) (hn : n < 0 ∨ 1048576 < n) :
    Calls Tryd.prog 18 #[.int .i64 n] w fun e w' => e = .returned (.string ⟨#[]⟩) ∧ w = w' := by
  by_cases h1 : n < 0
  · go_enter Tryd.func18, Tryd.ntmps18
    go_wp2
    go_ret
    exact ⟨rfl, rfl⟩
  · have h1' : decide (n < 0) = false := by simpa using h1
    have h2 : 1048576 < n := by omega
    clear hn h1
    go_enter Tryd.func18, Tryd.ntmps18
    go_wp2
    go_ret
    exact ⟨rfl, rfl⟩

/-- What Number answers. -/
def Numb (l : List UInt8) (w : World) (e : Ending) (w' : World) : Prop :=
  ((∃ n, IsLabel l n ∧ e = .returned (.tuple #[.int .i64 (n : Int), .bool true])) ∨ (NoLabel l ∧ e = .returned (.tuple #[.int .i64 0, .bool false]))) ∧ Below w.heap.size w w'
theorem Numb.yes {l : List UInt8} {w w' : World} {e : Ending} {n : Nat} (h : Numb l w e w') (hl : IsLabel l n) : e = .returned (.tuple #[.int .i64 (n : Int), .bool true]) ∧ Below w.heap.size w w' := by
  obtain ⟨⟨m, hm, rfl⟩ | ⟨hn, -⟩, hb⟩ := h
  · obtain rfl : m = n := label_inj (hm.2.symm.trans hl.2)
    exact ⟨rfl, hb⟩
  · exact absurd hl.2 (hn n hl.1)
theorem Numb.no {l : List UInt8} {w w' : World} {e : Ending} (h : Numb l w e w') (hl : NoLabel l) : e = .returned (.tuple #[.int .i64 0, .bool false]) ∧ Below w.heap.size w w' := by
  obtain ⟨⟨m, hm, -⟩ | ⟨-, rfl⟩, hb⟩ := h
  · exact absurd hm.2 (hl m hm.1)
  · exact ⟨rfl, hb⟩

/-- The bytes between the first one and place k. -/
def tail (s : ByteArray) (k : Nat) : List UInt8 := (s.data.toList.take k).drop 1
def Digits (l : List UInt8) : Prop := ∀ c ∈ l, 48 ≤ c.toNat ∧ c.toNat ≤ 57
theorem tail_next {s : ByteArray} {k : Nat} (h1 : 1 ≤ k) (h : k < s.size) : tail s (k + 1) = tail s k ++ [s[k]] := by
  unfold tail
  rw [take_next h, List.drop_append_of_le_length (by rw [List.length_take, len_str]; omega)]
theorem tail_all (s : ByteArray) : tail s s.size = s.data.toList.drop 1 := by
  unfold tail
  rw [List.take_of_length_le (by rw [len_str]; omega)]
theorem tail_one (s : ByteArray) : tail s 1 = [] := by
  unfold tail
  rw [List.drop_eq_nil_of_le]
  rw [List.length_take]
  omega
theorem digits_next {l : List UInt8} {c : UInt8} (hl : Digits l) (h1 : 48 ≤ c.toNat) (h2 : c.toNat ≤ 57) : Digits (l ++ [c]) := by
  intro x hx
  rcases List.mem_append.1 hx with h | h
  · exact hl x h
  · obtain rfl := List.mem_singleton.1 h
    exact ⟨h1, h2⟩
theorem tail_len (s : ByteArray) (k : Nat) : (tail s k).length ≤ k - 1 := by
  unfold tail
  rw [List.length_drop, List.length_take]
  omega
theorem spell_bound {s : ByteArray} {k : Nat} (hk : k ≤ 10) (hd : Digits (tail s k)) : spell (tail s k) < 1000000000 := by
  have h1 := spell_lt (tail s k) (fun c hc => (hd c hc).2)
  have h2 : 10 ^ (tail s k).length ≤ 10 ^ 9 := Nat.pow_le_pow_right (by omega) (by have := tail_len s k; omega)
  omega
theorem label_digits {s : ByteArray} {n k : Nat} (h : s.data.toList = label n) (h1 : 1 ≤ k) (hk : k < s.size) : 48 ≤ s[k].toNat ∧ s[k].toNat ≤ 57 := by
  refine dec_digit n s[k] ?_
  have hm : s[k] ∈ s.data.toList.drop 1 := by
    rw [List.mem_iff_getElem]
    have hb : k - 1 < (s.data.toList.drop 1).length := by rw [List.length_drop, len_str]; omega
    refine ⟨k - 1, hb, ?_⟩
    rw [List.getElem_drop]
    simp only [show 1 + (k - 1) = k by omega]
    rfl
  rw [h] at hm
  exact hm
theorem no_size {s : ByteArray} (h : s.size < 2 ∨ 10 < s.size) : NoLabel s.data.toList := fun n hn e => by
  have h1 := label_len hn
  rw [← e, len_str] at h1
  omega
theorem no_head {s : ByteArray} (h0 : 0 < s.size) (h : s[0].toNat ≠ 86) : NoLabel s.data.toList := fun n _ e => by
  apply h
  rw [← head_at h0, e]
  rfl
theorem no_digit {s : ByteArray} {k : Nat} (h1 : 1 ≤ k) (hk : k < s.size) (h : s[k].toNat < 48 ∨ 57 < s[k].toNat) : NoLabel s.data.toList := fun n _ e => by
  have := label_digits e h1 hk
  omega
theorem spell_label {l : List UInt8} {n : Nat} (h : l = label n) : n = spell (l.drop 1) := by
  rw [h]
  exact (spell_dec n).symm
theorem end_label {s : ByteArray} {n : Nat} (h : s.data.toList = label n) : spell (tail s s.size) = n := by
  rw [tail_all]
  exact (spell_label h).symm

set_option maxHeartbeats 2000000 in
set_option maxRecDepth 10000 in
theorem ref_number (s : ByteArray) (w : World) (hs : s.size ≤ 1000000000000) :
    Calls Tryd.prog 20 #[.string s] w (Numb s.data.toList w) := by
  by_cases c1 : s.size < 2
  · have c1' : ((s.size : Nat) : Int) < 2 := by omega
    have HN := Lib.hid (no_size (.inl c1))
    clear c1
    go_enter Tryd.func20, Tryd.ntmps20
    go_wp2_with fail
    go_ret2
    exact ⟨.inr ⟨HN.out, rfl⟩, Below.refl _ _⟩
  have c1' : decide (((s.size : Nat) : Int) < 2) = false := by simp; omega
  by_cases c2 : 10 < s.size
  · have c2' : (10 : Int) < ((s.size : Nat) : Int) := by omega
    have HN := Lib.hid (no_size (.inr c2))
    clear c1 c2
    go_enter Tryd.func20, Tryd.ntmps20
    go_wp2_with fail
    go_ret2
    exact ⟨.inr ⟨HN.out, rfl⟩, Below.refl _ _⟩
  have c2' : decide ((10 : Int) < ((s.size : Nat) : Int)) = false := by simp; omega
  have h0 : 0 < s.size := by omega
  by_cases c3 : s[0].toNat = 86
  case neg =>
    have c3' : ((s[0].toNat : Int) != 86) = true := by simp; omega
    have HN := Lib.hid (no_head h0 c3)
    clear c1 c2 c3
    go_enter Tryd.func20, Tryd.ntmps20
    go_wp2_with fail
    go_ret2
    exact ⟨.inr ⟨HN.out, rfl⟩, Below.refl _ _⟩
  have c3' : ((s[0].toNat : Int) != 86) = false := by simp; omega
  have H10 := Lib.hid (show s.size ≤ 10 by omega)
  have H2 := Lib.hid (show 2 ≤ s.size by omega)
  clear c1 c2 c3
  go_enter Tryd.func20, Tryd.ntmps20
  go_wp2_with fail
  go_loop [4, 2] (fun i v => ∃ k : Nat, Hid (1 ≤ k) ∧ k ≤ s.size ∧ i = .int .i64 (k : Int) ∧ v = .int .i64 ((spell (tail s k) : Nat) : Int) ∧ Hid (Digits (tail s k))) (fun i _ => s.size - (intOf i).toNat)
  case atStart => exact ⟨1, Nat.le_refl _, by omega, rfl, by rw [tail_one]; rfl, by rw [tail_one]; exact fun c hc => absurd hc (by simp)⟩
  case round =>
    obtain ⟨k, hk1, hk, rfl, rfl, hd⟩ := hrel
    obtain ⟨a, ha⟩ : ∃ a, a = spell (tail s k) := ⟨_, rfl⟩
    have hb : (a : Int) ≤ 1000000000 := by have := spell_bound (s := s) (k := k) (by have := H10.out; omega) hd.out; omega
    rw [← ha]
    have HA := Lib.hid ha
    clear ha
    by_cases hlt : k < s.size
    · by_cases h5 : s[k].toNat < 48
      · have h5' : (s[k].toNat : Int) < 48 := by omega
        have HN := Lib.hid (no_digit hk1.out hlt (.inl h5))
        clear h5
        go_wp2_with fail
        go_ret2
        exact ⟨.inr ⟨HN.out, rfl⟩, Below.refl _ _⟩
      have h5' : decide ((s[k].toNat : Int) < 48) = false := by simp; omega
      by_cases h6 : 57 < s[k].toNat
      · have h6' : (57 : Int) < (s[k].toNat : Int) := by omega
        have HN := Lib.hid (no_digit hk1.out hlt (.inr h6))
        clear h5 h6
        go_wp2_with fail
        go_ret2
        exact ⟨.inr ⟨HN.out, rfl⟩, Below.refl _ _⟩
      have h6' : decide ((57 : Int) < (s[k].toNat : Int)) = false := by simp; omega
      have h7 : (48 : Int) ≤ (s[k].toNat : Int) := by omega
      have h8 : (s[k].toNat : Int) ≤ 57 := by omega
      have HD := Lib.hid (digits_next hd.out (by omega : 48 ≤ s[k].toNat) (by omega))
      have HS := Lib.hid (show (spell (tail s (k + 1)) : Int) = 10 * (a : Int) + ((s[k].toNat : Int) - 48) by rw [tail_next hk1.out hlt, spell_snoc, ← HA.out]; omega)
      rw [← tail_next hk1.out hlt] at HD
      clear h5 h6
      go_wp2_with fail
      go_round
      case rel => exact ⟨k + 1, by show 1 ≤ k + 1; omega, by omega, by go_num, by rw [HS.out], HD⟩
      case measure => simp [intOf]; omega
    · obtain rfl : k = s.size := by omega
      by_cases h9 : a ≤ 1048576
      · obtain ⟨S, hS⟩ : ∃ S : ByteArray, S = ⟨(label a).toArray⟩ := ⟨_, rfl⟩
        have HL := ref_label_in a w h9
        rw [← hS] at HL
        have q := Lib.hid HL
        by_cases hsame : s.data.toList = label a
        · have e : S = s := WideShapes.bytes_inj (by rw [hS, hsame])
          subst e
          have HI := Lib.hid (show IsLabel S.data.toList a from ⟨h9, hsame⟩)
          clear HL hS h9 hsame
          go_wp2_with fail
          refine q.out.mono ?_
          rintro e w' ⟨rfl, hb'⟩
          go_wp2_with fail
          go_ret2
          exact ⟨.inl ⟨a, HI.out, rfl⟩, hb'⟩
        · have hne : (S.toList == s.toList) = false := str_other (by rw [hS]; exact fun e => hsame e.symm)
          have HN := Lib.hid (show NoLabel s.data.toList from fun n _ e => hsame (by rw [e, HA.out, end_label e]))
          clear HL hS h9 hsame
          go_wp2_with fail
          refine q.out.mono ?_
          rintro e w' ⟨rfl, hb'⟩
          go_wp2_with fail
          go_ret2
          exact ⟨.inr ⟨HN.out, rfl⟩, hb'⟩
      · have q := Lib.hid (ref_label_out (a : Int) w (by omega))
        have hne : s.toList.isEmpty = false := str_full (by
          intro e
          have := len_str s
          rw [e] at this
          have h2 := H2.out
          simp at this
          omega)
        have HN := Lib.hid (show NoLabel s.data.toList from fun n hn e => h9 (by rw [HA.out, end_label e]; exact hn))
        clear h9
        go_wp2_with fail
        refine q.out.mono ?_
        rintro e w' ⟨rfl, rfl⟩
        go_wp2_with fail
        go_ret2
        exact ⟨.inr ⟨HN.out, rfl⟩, Below.refl _ _⟩
end Go.Proofs.YtlijifjbncicjaaDoor
