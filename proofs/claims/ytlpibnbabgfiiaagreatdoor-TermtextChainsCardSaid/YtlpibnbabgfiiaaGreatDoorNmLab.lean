/-
  Words for byte slices in memory: a slice that reads as a list of bytes, and what string(..) makes of it.
  Contracts of strconv.Itoa and strconv.Atoi as the program's Label and Number call them, and of Label and Number themselves.
  Contracts of the reference's Decimal, Label and Number.
-/
import Derived.Test.YtlpibnbabgfiiaaGreatDoorTmMem
import Derived.WalkKit
import Derived.Below
import Derived.Laws.BytesArg
import Derived.Lib.Hide
import Derived.Deep.Draws
import Derived.Test.YtlpibnbabgfiiaaGreatDoorLaid
import Derived.Test.YtlpibnbabgfiiaaGreatDoorShelf
import Derived.Test.YtlpibnbabgfiiaaGreatDoorNmAll
import Derived.Lib.AtoiErrMem
import Derived.Lib.ItoaMem
import Derived.IntWalk
namespace Go.Proofs.YtlpibnbabgfiiaaGreatDoor
open Go.RowKit

/-- The cells of bytes. -/
def bcells (l : List UInt8) : List Value := l.map fun x => Value.int .u8 (x.toNat : Int)
theorem bcells_length (l : List UInt8) : (bcells l).length = l.length := by simp [bcells]
theorem bcells_append (l m : List UInt8) : bcells (l ++ m) = bcells l ++ bcells m := by simp [bcells]
theorem bcells_one (l : List UInt8) : ∀ u ∈ bcells l, u.oneCell' = true := by
  intro u hu
  obtain ⟨_, _, rfl⟩ := List.mem_map.1 hu
  rfl
theorem bcells_get {l : List UInt8} {i : Nat} (h : i < l.length) : (bcells l)[i]? = some (.int .u8 ((l.getD i 0).toNat : Int)) := by simp [bcells, List.getD, h]

/-- The bytes l lie at A: where there is one: at an address, cell by cell. -/
def Lies (w : World) (A : Option Addr) (l : List UInt8) : Prop :=
  0 < l.length → ∃ b o, A = some ⟨b, o, none⟩ ∧ ∀ i, i < l.length → w.cell? ⟨b, o + i, none⟩ = some (.int .u8 ((l.getD i 0).toNat : Int))

section
variable {w w' : World} {A : Option Addr} {l : List UInt8}
theorem Lies.nil (w : World) (A : Option Addr) : Lies w A [] := fun h => absurd h (by simp)
theorem Lies.below (h : Lies w A l) (hb : Below w.heap.size w w') : Lies w' A l := fun hn => by
  obtain ⟨b, o, e, hc⟩ := h hn
  refine ⟨b, o, e, fun i hi => ?_⟩
  rw [hb.cell (p := ⟨b, o + i, none⟩) (World.block_lt_of_cell? w _ (hc i hi))]
  exact hc i hi
theorem Lies.alloc (h : Lies w A l) (o : Obj) : Lies (w.alloc o) A l := h.below ((Below.refl _ _).alloc (Nat.le_refl _) o)
theorem Lies.drew (h : Lies w A l) : Lies w.drew A l := h
theorem Lies.drewN (h : Lies w A l) (n : Nat) : Lies (w.drewN n) A l := h
theorem Lies.cell (h : Lies w A l) {i : Nat} (hi : i < l.length) : ∃ b o, A = some ⟨b, o, none⟩ ∧ w.cell? ⟨b, o + i, none⟩ = some (.int .u8 ((l.getD i 0).toNat : Int)) := by
  obtain ⟨b, o, e, hc⟩ := h (by omega)
  exact ⟨b, o, e, hc i hi⟩
theorem Lies.cells {a : Addr} (h : Lies w (some a) l) : ∀ j u, (bcells l)[j]? = some u → w.cell? (a.add j) = some u := by
  intro j u hu
  have hj : j < l.length := by
    have := (List.getElem?_eq_some_iff.1 hu).1
    rwa [bcells_length] at this
  obtain ⟨b, o, e, hc⟩ := h.cell hj
  injection e with e
  subst e
  rw [add_plain, hc, ← hu, bcells_get hj]
theorem Lies.cut1 {k : Nat} (hk : l.length ≤ k) : Lies w A (l.drop k) := by
  rw [List.drop_eq_nil_of_le hk]
  exact Lies.nil _ _
theorem Lies.cut2 (h : Lies w A l) (k : Nat) : Lies w (A.map (·.add k)) (l.drop k) := fun hn => by
  rw [List.length_drop] at hn
  obtain ⟨b, o, rfl, hcell⟩ := h (by omega)
  refine ⟨b, o + k, by simp [add_plain], fun i hi => ?_⟩
  rw [List.length_drop] at hi
  rw [show o + k + i = o + (k + i) by omega, hcell (k + i) (by omega)]
  simp [List.getD]
theorem Lies.take (h : Lies w A l) (k : Nat) : Lies w A (l.take k) := fun hn => by
  rw [List.length_take] at hn
  obtain ⟨b, o, e, hcell⟩ := h (by omega)
  refine ⟨b, o, e, fun i hi => ?_⟩
  rw [List.length_take] at hi
  rw [hcell i (by omega)]
  simp [List.getD, show i < k by omega]
theorem Lies.mk {b : Nat} (h : ∀ i, i < l.length → w.cell? ⟨b, i, none⟩ = some (.int .u8 ((l.getD i 0).toNat : Int))) : Lies w (some ⟨b, 0, none⟩) l := fun _ => ⟨b, 0, rfl, fun i hi => by rw [Nat.zero_add]; exact h i hi⟩
/-- A row of cells that was just laid. -/
theorem Lies.new (w : World) (e : TypeId) (l : List UInt8) : Lies (w.alloc (.cells (bcells l).toArray e)) (some ⟨w.heap.size, 0, none⟩) l := Lies.mk fun i hi => by
  rw [World.cell?_alloc_at _ _ _ _ rfl]
  simp only [List.getElem?_toArray]
  exact bcells_get hi

theorem Lies.one (w : World) (e : TypeId) {X : Int} {x : UInt8} (h : X = (x.toNat : Int)) : Lies (w.alloc (.cells #[.int .u8 X] e)) (some ⟨w.heap.size, 0, none⟩) [x] := by
  subst h
  exact Lies.new w e [x]

/-- A row of cells that was laid last, given cell by cell. -/
theorem Lies.last {w : World} {g : Nat} {cs : Array Value} {e : TypeId} (l : List UInt8) (hg : g = w.heap.size) (hcs : (bcells l).toArray = cs) : Lies (w.alloc (.cells cs e)) (some ⟨g, 0, none⟩) l := by
  subst hg hcs
  exact Lies.new w e l

end

/-- string(b). -/
theorem Lies.str {P : Program} {w : World} {A : Option Addr} {l : List UInt8} (h : Lies w A l) (c : Nat) {src e dst : TypeId} (hs : P.underlying src = some (.slice e)) (he : P.underlying e = some (.int .u8)) (hd : P.underlying dst = some .string) :
    (convert src dst (.slice A l.length c)).run P w = .ok (.string ⟨l.toArray⟩) w := by
  have hnum : strOfNums (l.map fun x => (x.toNat : Int)) = ⟨l.toArray⟩ := by simp [strOfNums, Function.comp_def]
  rcases l with _ | ⟨x, r⟩
  · rw [run_convert_bytes_string w src dst e _ _ c hs he hd]
    cases A <;> simp [Conv.bytesToString, loadCells]
    all_goals rfl
  · obtain ⟨b, o, rfl, hc⟩ := h (by simp)
    rw [run_convert_bytes_arg w src e hs he b o _ c ((x :: r).map fun x => (x.toNat : Int)) (by simp) (fun i hi => by
      rw [hc i hi]
      simp only [List.getD, List.getElem?_map, List.getElem?_eq_getElem hi, Option.map_some, Option.getD_some]) dst hd, hnum]

end Go.Proofs.YtlpibnbabgfiiaaGreatDoor
namespace Go.Proofs.YtlpibnbabgfiiaaGreatDoor
open Go.RowKit

theorem below_grow (w : World) (k : Nat) (os : Array Obj) : Below w.heap.size w (Sort.grow (w.drewN k) os) := by
  refine ⟨rfl, rfl, rfl, ?_, fun j hj => ?_⟩
  · show w.heap.size ≤ (w.heap ++ os).size
    rw [Array.size_append]
    omega
  · show (w.heap ++ os)[j]? = _
    rw [Array.getElem?_append_left hj]

theorem itoa_at (n : Nat) (w : World) (hn : n ≤ 1048576) (hL : Laid w) :
    Calls Tryz.prog 59 #[.int .i64 (n : Int)] w fun e w' => e = .returned (.string ⟨(Lib.decDigits n).toArray⟩) ∧ Below w.heap.size w w' := by
  refine (Tryz.strconv_Itoa (n : Int) (by omega) (by omega) w hL.tab).mono ?_
  rintro e w' ⟨rfl, k, os, rfl⟩
  rw [Lib.itoa_nonneg]
  exact ⟨rfl, below_grow _ _ _⟩

theorem atoi_ok (s : ByteArray) (v : Int) (w : World) (hs : s.size ≤ 1000000000000) (h : Lib.atoiAll s.data.toList = .ok v) :
    Calls Tryz.prog 133 #[.string s] w fun e w' => e = .returned (.tuple #[.int .i64 v, .nilIface]) ∧ Below w.heap.size w w' := by
  refine (Tryz.strconv_Atoi_ok s (by omega) v h w).mono ?_
  rintro e w' ⟨rfl, hw⟩
  refine ⟨rfl, ?_⟩
  rcases hw with rfl | ⟨t, rfl⟩
  · exact Below.refl _ _
  · exact Lib.bytesWorld_below _ _ _

/-- Not a number: some number and an error that is not nil. -/
def Fails (w : World) (e : Ending) (w' : World) : Prop := ∃ (x : Int) (p : Value), e = .returned (.tuple #[.int .i64 x, .iface 135 p]) ∧ Below w.heap.size w w'
theorem atoi_fails (s : ByteArray) (w : World) (hs : s.size ≤ 1000000000000) (hL : Laid w) (h : ∀ v, Lib.atoiAll s.data.toList ≠ .ok v) :
    Calls Tryz.prog 133 #[.string s] w (Fails w) := by
  rcases ha : Lib.atoiAll s.data.toList with v | _ | _
  · exact absurd ha (h v)
  · obtain ⟨tp, p, hv⟩ := hL.syn
    refine (Any.strconv_Atoi_syntax_var Tryz.laysC172 s (by omega) ha tp p w hv).mono ?_
    rintro e w' ⟨N, rfl, -, -, hb⟩
    exact ⟨_, _, rfl, hb⟩
  · obtain ⟨tp, p, hv⟩ := hL.rng
    refine (Any.strconv_Atoi_range_var Tryz.laysC172 s (by omega) ha tp p w hv).mono ?_
    rintro e w' ⟨N, rfl, -, -, hb⟩
    exact ⟨_, _, rfl, hb⟩

theorem append_str (l m : List UInt8) : (⟨l.toArray⟩ : ByteArray) ++ ⟨m.toArray⟩ = ⟨(l ++ m).toArray⟩ := by
  apply WideShapes.bytes_inj
  simp
theorem ret_str {a b : ByteArray} (h : a = b) : Ending.returned (.string a) = .returned (.string b) := by rw [h]

theorem label_in (n : Nat) (w : World) (hn : n ≤ 1048576) (hL : Laid w) :
    Calls Tryz.prog 60 #[.int .i64 (n : Int)] w fun e w' => e = .returned (.string ⟨(label n).toArray⟩) ∧ Below w.heap.size w w' := by
  have h1 : decide ((n : Int) < 0) = false := by simp
  have h2 : decide ((1048576 : Int) < (n : Int)) = false := by simp; omega
  have HI := Lib.hid (itoa_at n w hn hL)
  have h3 : ¬ 9223372036854775807 < 1 + (Lib.decDigits n).length := by have := dec_len7 hn; omega
  clear hn hL
  go_enter Tryz.func60, Tryz.ntmps60
  go_wp2_with (go_at_call 59; refine HI.out.mono ?_; rintro e w' ⟨rfl, hb⟩)
  go_ret
  exact ⟨ret_str (append_str [86] _), hb⟩
theorem label_out (n : Int) (w : World) (hn : n < 0 ∨ 1048576 < n) :
    Calls Tryz.prog 60 #[.int .i64 n] w fun e w' => e = .returned (.string ⟨#[]⟩) ∧ w = w' := by
  by_cases h1 : n < 0
  · go_enter Tryz.func60, Tryz.ntmps60
    go_wp2
    go_ret
    exact ⟨rfl, rfl⟩
  · have h1' : decide (n < 0) = false := by simpa using h1
    have h2 : 1048576 < n := by omega
    clear hn h1
    go_enter Tryz.func60, Tryz.ntmps60
    go_wp2
    go_ret
    exact ⟨rfl, rfl⟩

theorem trim_at (s : ByteArray) (w : World) : Calls Tryz.prog 144 #[.string s, .string ⟨#[86]⟩] w fun e w' => e = .returned (.string ⟨(Lib.trimPrefix s.data.toList [86]).toArray⟩) ∧ w = w' := by
  refine (Tryz.strings_TrimPrefix s ⟨#[86]⟩ w).mono ?_
  rintro e w' ⟨rfl, rfl⟩
  exact ⟨rfl, rfl⟩
theorem trim_size (l : List UInt8) : (Lib.trimPrefix l [86]).length ≤ l.length := by
  unfold Lib.trimPrefix
  split
  · rw [List.length_drop]; omega
  · exact Nat.le_refl _
theorem str_other {x y : ByteArray} (h : x.data.toList ≠ y.data.toList) : (x.toList == y.toList) = false := by
  rw [raw_list, raw_list]
  simpa using h
theorem str_full {x : ByteArray} (h : x.data.toList ≠ []) : x.toList.isEmpty = false := by
  rw [raw_list]
  simpa using h

set_option maxHeartbeats 1000000 in
theorem number_yes (s : ByteArray) (n : Nat) (w : World) (hl : IsLabel s.data.toList n) (hL : Laid w) :
    Calls Tryz.prog 135 #[.string s] w fun e w' => e = .returned (.tuple #[.int .i64 (n : Int), .bool true]) ∧ Below w.heap.size w w' := by
  obtain ⟨hn, hl⟩ := hl
  obtain ⟨t, ht⟩ : ∃ t : ByteArray, t = ⟨(Lib.trimPrefix s.data.toList [86]).toArray⟩ := ⟨_, rfl⟩
  have htl : t.data.toList = Lib.decDigits n := by rw [ht, hl, trim_label]
  have hts : t.size ≤ 1000000000000 := by rw [← len_str, htl]; have := dec_len7 hn; omega
  have HT := trim_at s w
  rw [← ht] at HT
  have HA := atoi_ok t (n : Int) w hts (by rw [htl]; exact atoi_dec hn)
  have HB := fun w' (hb : Below w.heap.size w w') => label_in n w' hn (hL.below hb)
  have hs : (⟨(label n).toArray⟩ : ByteArray) = s := by rw [← hl]
  rw [hs] at HB
  have q1 := Lib.hid HT
  have q2 := Lib.hid HA
  have q3 := Lib.hid HB
  clear HT HA HB hs htl hts ht hl hn hL
  go_enter Tryz.func135, Tryz.ntmps135
  go_wp2_with fail
  refine q1.out.mono ?_
  rintro e w' ⟨rfl, rfl⟩
  go_wp2_with fail
  refine q2.out.mono ?_
  rintro e w1 ⟨rfl, hb1⟩
  go_wp2_with fail
  refine (q3.out w1 hb1).mono ?_
  rintro e w2 ⟨rfl, hb2⟩
  go_wp2_with fail
  go_ret2
  exact ⟨rfl, hb1.trans (hb2.mono hb1.size)⟩

set_option maxHeartbeats 1000000 in
theorem number_no (s : ByteArray) (w : World) (hs : s.size ≤ 1000000000000) (hl : NoLabel s.data.toList) (hL : Laid w) :
    Calls Tryz.prog 135 #[.string s] w fun e w' => e = .returned (.tuple #[.int .i64 0, .bool false]) ∧ Below w.heap.size w w' := by
  obtain ⟨t, ht⟩ : ∃ t : ByteArray, t = ⟨(Lib.trimPrefix s.data.toList [86]).toArray⟩ := ⟨_, rfl⟩
  have htl : t.data.toList = Lib.trimPrefix s.data.toList [86] := by rw [ht]
  have hts : t.size ≤ 1000000000000 := by rw [← len_str, htl]; have := trim_size s.data.toList; rw [len_str] at this; omega
  have HT := trim_at s w
  rw [← ht] at HT
  by_cases hv : ∃ v, Lib.atoiAll t.data.toList = .ok v
  · obtain ⟨v, hv⟩ := hv
    have HA := atoi_ok t v w hts hv
    by_cases hr : 0 ≤ v ∧ v ≤ 1048576
    · obtain ⟨n, rfl⟩ : ∃ n : Nat, v = n := ⟨v.toNat, by omega⟩
      obtain ⟨S, hS⟩ : ∃ S : ByteArray, S = ⟨(label n).toArray⟩ := ⟨_, rfl⟩
      have HB := fun w' (hb : Below w.heap.size w w') => label_in n w' (by omega) (hL.below hb)
      rw [← hS] at HB
      have hne : (S.toList == s.toList) = false := str_other (by rw [hS]; exact fun e => hl n (by omega) e.symm)
      have q1 := Lib.hid HT
      have q2 := Lib.hid HA
      have q3 := Lib.hid HB
      clear HT HA HB htl hts ht hl hL hv hr hS
      go_enter Tryz.func135, Tryz.ntmps135
      go_wp2_with fail
      refine q1.out.mono ?_
      rintro e w' ⟨rfl, rfl⟩
      go_wp2_with fail
      refine q2.out.mono ?_
      rintro e w1 ⟨rfl, hb1⟩
      go_wp2_with fail
      refine (q3.out w1 hb1).mono ?_
      rintro e w2 ⟨rfl, hb2⟩
      go_wp2_with fail
      go_ret2
      exact ⟨rfl, hb1.trans (hb2.mono hb1.size)⟩
    · have HB := fun w' => label_out v w' (by omega)
      have hne : s.toList.isEmpty = false := str_full (by
        intro e
        rw [htl, e] at hv
        cases hv)
      have q1 := Lib.hid HT
      have q2 := Lib.hid HA
      have q3 := Lib.hid HB
      clear HT HA HB htl hts ht hl hL hv hr
      go_enter Tryz.func135, Tryz.ntmps135
      go_wp2_with fail
      refine q1.out.mono ?_
      rintro e w' ⟨rfl, rfl⟩
      go_wp2_with fail
      refine q2.out.mono ?_
      rintro e w1 ⟨rfl, hb1⟩
      go_wp2_with fail
      refine (q3.out w1).mono ?_
      rintro e w2 ⟨rfl, rfl⟩
      go_wp2_with fail
      go_ret2
      exact ⟨rfl, hb1⟩
  · have HA := atoi_fails t w hts hL (fun v e => hv ⟨v, e⟩)
    have q1 := Lib.hid HT
    have q2 := Lib.hid HA
    clear HT HA htl hts ht hl hL hv
    go_enter Tryz.func135, Tryz.ntmps135
    go_wp2_with fail
    refine q1.out.mono ?_
    rintro e w' ⟨rfl, rfl⟩
    go_wp2_with fail
    refine q2.out.mono ?_
    rintro e w1 ⟨x, p, rfl, hb1⟩
    go_wp2_with fail
    go_ret2
    exact ⟨rfl, hb1⟩
end Go.Proofs.YtlpibnbabgfiiaaGreatDoor
namespace Go.Proofs.YtlpibnbabgfiiaaGreatDoor
open Go.RowKit

/-- string([]byte{x}), the slice laid last. -/
theorem str_one (w : World) (X : Int) (x : UInt8) (h : X = (x.toNat : Int)) :
    (convert 78 9 (.slice (some ⟨w.heap.size, 0, none⟩) 1 1)).run Tryz.prog (w.alloc (.cells #[.int .u8 X] 5)) = .ok (.string ⟨#[x]⟩) (w.alloc (.cells #[.int .u8 X] 5)) :=
  (Lies.one w 5 h).str 1 Tryz.underlying78 Tryz.underlying5 Tryz.underlying9

set_option maxHeartbeats 1000000 in
theorem ref_decimal (n : Nat) : ∀ (w : World), n ≤ 1048576 →
    Calls Tryz.prog 65 #[.int .i64 (n : Int)] w fun e w' => e = .returned (.string ⟨(Lib.decDigits n).toArray⟩) ∧ Below w.heap.size w w' := by
  induction n using Nat.strongRecOn with
  | _ n ih =>
    intro w hn
    have h0 : decide ((n : Int) < 0) = false := by simp
    obtain ⟨y, hy⟩ : ∃ y : UInt8, y = UInt8.ofNat (48 + n % 10) := ⟨_, rfl⟩
    have hcv := str_one w (48 + (n : Int) % 10) y (by rw [hy, digit_nat (by omega)]; omega)
    by_cases h : n < 10
    · have h' : (n : Int) < 10 := by omega
      have HV := Lib.hid (show Lib.decDigits n = [y] by rw [dec_small h, hy, show n % 10 = n by omega])
      clear ih h hn hy
      go_enter Tryz.func65, Tryz.ntmps65
      go_wp2_with fail
      go_ret
      exact ⟨ret_str (by rw [HV.out]), (Below.refl _ _).alloc (Nat.le_refl _) _⟩
    · have h' : decide ((n : Int) < 10) = false := by simp; omega
      have HV := dec_big h
      rw [← hy] at HV
      have hb : (n : Int) ≤ 1048576 := by omega
      have IH := fun w' => ih (n / 10) (by omega) w' (by omega)
      have e : ((n / 10 : Nat) : Int) = (n : Int) / 10 := by omega
      rw [e] at IH
      have hl := dec_len7 (n := n / 10) (by omega)
      obtain ⟨x, hx⟩ : ∃ x : List UInt8, x = Lib.decDigits (n / 10) := ⟨_, rfl⟩
      rw [← hx] at IH hl HV
      have q := Lib.hid IH
      have HV := Lib.hid HV
      have hz : ¬ 9223372036854775807 < x.length + 1 := by omega
      clear ih h hn e IH hx hl hy
      go_enter Tryz.func65, Tryz.ntmps65
      go_wp2_with fail
      ((with_reducible refine (q.out _).mono ?_); rintro e w' ⟨rfl, hb2⟩)
      go_wp2_with fail
      go_ret
      exact ⟨ret_str (by rw [HV.out]; exact append_str _ [_]), ((Below.refl _ _).alloc (Nat.le_refl _) _).trans (hb2.mono (by simp))⟩

theorem ref_label_in (n : Nat) (w : World) (hn : n ≤ 1048576) :
    Calls Tryz.prog 66 #[.int .i64 (n : Int)] w fun e w' => e = .returned (.string ⟨(label n).toArray⟩) ∧ Below w.heap.size w w' := by
  have h1 : decide ((n : Int) < 0) = false := by simp
  have h2 : decide ((1048576 : Int) < (n : Int)) = false := by simp; omega
  have HI := Lib.hid (ref_decimal n w hn)
  have h3 : ¬ 9223372036854775807 < 1 + (Lib.decDigits n).length := by have := dec_len7 hn; omega
  clear hn
  go_enter Tryz.func66, Tryz.ntmps66
  go_wp2_with (go_at_call 65; refine HI.out.mono ?_; rintro e w' ⟨rfl, hb⟩)
  go_ret
  exact ⟨ret_str (append_str [86] _), hb⟩
theorem ref_label_out (n : Int) (w : World) (hn : n < 0 ∨ 1048576 < n) :
    Calls Tryz.prog 66 #[.int .i64 n] w fun e w' => e = .returned (.string ⟨#[]⟩) ∧ w = w' := by
  by_cases h1 : n < 0
  · go_enter Tryz.func66, Tryz.ntmps66
    go_wp2
    go_ret
    exact ⟨rfl, rfl⟩
  · have h1' : decide (n < 0) = false := by simpa using h1
    have h2 : 1048576 < n := by omega
    clear hn h1
    go_enter Tryz.func66, Tryz.ntmps66
    go_wp2
    go_ret
    exact ⟨rfl, rfl⟩

/-- What Number answers. -/
def Numb (l : List UInt8) (w : World) (e : Ending) (w' : World) : Prop :=
  ((∃ n, IsLabel l n ∧ e = .returned (.tuple #[.int .i64 (n : Int), .bool true])) ∨ (NoLabel l ∧ e = .returned (.tuple #[.int .i64 0, .bool false]))) ∧ Below w.heap.size w w'
theorem Numb.yes {l : List UInt8} {w w' : World} {e : Ending} {n : Nat} (h : Numb l w e w') (hl : IsLabel l n) : e = .returned (.tuple #[.int .i64 (n : Int), .bool true]) ∧ Below w.heap.size w w' := by
  obtain ⟨⟨m, hm, rfl⟩ | ⟨hn, -⟩, hb⟩ := h
  · obtain rfl : m = n := label_inj (hm.2.symm.trans hl.2)
    exact ⟨rfl, hb⟩
  · exact absurd hl.2 (hn n hl.1)
theorem Numb.no {l : List UInt8} {w w' : World} {e : Ending} (h : Numb l w e w') (hl : NoLabel l) : e = .returned (.tuple #[.int .i64 0, .bool false]) ∧ Below w.heap.size w w' := by
  obtain ⟨⟨m, hm, -⟩ | ⟨-, rfl⟩, hb⟩ := h
  · exact absurd hm.2 (hl m hm.1)
  · exact ⟨rfl, hb⟩

/-- The bytes between the first one and place k. -/
def tail (s : ByteArray) (k : Nat) : List UInt8 := (s.data.toList.take k).drop 1
def Digits (l : List UInt8) : Prop := ∀ c ∈ l, 48 ≤ c.toNat ∧ c.toNat ≤ 57
theorem tail_next {s : ByteArray} {k : Nat} (h1 : 1 ≤ k) (h : k < s.size) : tail s (k + 1) = tail s k ++ [s[k]] := by
  unfold tail
  rw [take_next h, List.drop_append_of_le_length (by rw [List.length_take, len_str]; omega)]
theorem tail_all (s : ByteArray) : tail s s.size = s.data.toList.drop 1 := by
  unfold tail
  rw [List.take_of_length_le (by rw [len_str]; omega)]
theorem tail_one (s : ByteArray) : tail s 1 = [] := by
  unfold tail
  rw [List.drop_eq_nil_of_le]
  rw [List.length_take]
  omega
theorem digits_next {l : List UInt8} {c : UInt8} (hl : Digits l) (h1 : 48 ≤ c.toNat) (h2 : c.toNat ≤ 57) : Digits (l ++ [c]) := by
  intro x hx
  rcases List.mem_append.1 hx with h | h
  · exact hl x h
  · obtain rfl := List.mem_singleton.1 h
    exact ⟨h1, h2⟩
theorem tail_len (s : ByteArray) (k : Nat) : (tail s k).length ≤ k - 1 := by
  unfold tail
  rw [List.length_drop, List.length_take]
  omega
theorem spell_bound {s : ByteArray} {k : Nat} (hk : k ≤ 10) (hd : Digits (tail s k)) : spell (tail s k) < 1000000000 := by
  have h1 := spell_lt (tail s k) (fun c hc => (hd c hc).2)
  have h2 : 10 ^ (tail s k).length ≤ 10 ^ 9 := Nat.pow_le_pow_right (by omega) (by have := tail_len s k; omega)
  omega
theorem label_digits {s : ByteArray} {n k : Nat} (h : s.data.toList = label n) (h1 : 1 ≤ k) (hk : k < s.size) : 48 ≤ s[k].toNat ∧ s[k].toNat ≤ 57 := by
  refine dec_digit n s[k] ?_
  have hm : s[k] ∈ s.data.toList.drop 1 := by
    rw [List.mem_iff_getElem]
    have hb : k - 1 < (s.data.toList.drop 1).length := by rw [List.length_drop, len_str]; omega
    refine ⟨k - 1, hb, ?_⟩
    rw [List.getElem_drop]
    simp only [show 1 + (k - 1) = k by omega]
    rfl
  rw [h] at hm
  exact hm
theorem no_size {s : ByteArray} (h : s.size < 2 ∨ 10 < s.size) : NoLabel s.data.toList := fun n hn e => by
  have h1 := label_len hn
  rw [← e, len_str] at h1
  omega
theorem no_head {s : ByteArray} (h0 : 0 < s.size) (h : s[0].toNat ≠ 86) : NoLabel s.data.toList := fun n _ e => by
  apply h
  rw [← head_at h0, e]
  rfl
theorem no_digit {s : ByteArray} {k : Nat} (h1 : 1 ≤ k) (hk : k < s.size) (h : s[k].toNat < 48 ∨ 57 < s[k].toNat) : NoLabel s.data.toList := fun n _ e => by
  have := label_digits e h1 hk
  omega
theorem spell_label {l : List UInt8} {n : Nat} (h : l = label n) : n = spell (l.drop 1) := by
  rw [h]
  exact (spell_dec n).symm
theorem end_label {s : ByteArray} {n : Nat} (h : s.data.toList = label n) : spell (tail s s.size) = n := by
  rw [tail_all]
  exact (spell_label h).symm

set_option maxHeartbeats 2000000 in
set_option maxRecDepth 10000 in
theorem ref_number (s : ByteArray) (w : World) (hs : s.size ≤ 1000000000000) :
    Calls Tryz.prog 126 #[.string s] w (Numb s.data.toList w) := by
  by_cases c1 : s.size < 2
  · have c1' : ((s.size : Nat) : Int) < 2 := by omega
    have HN := Lib.hid (no_size (.inl c1))
    clear c1
    go_enter Tryz.func126, Tryz.ntmps126
    go_wp2_with fail
    go_ret2
    exact ⟨.inr ⟨HN.out, rfl⟩, Below.refl _ _⟩
  have c1' : decide (((s.size : Nat) : Int) < 2) = false := by simp; omega
  by_cases c2 : 10 < s.size
  · have c2' : (10 : Int) < ((s.size : Nat) : Int) := by omega
    have HN := Lib.hid (no_size (.inr c2))
    clear c1 c2
    go_enter Tryz.func126, Tryz.ntmps126
    go_wp2_with fail
    go_ret2
    exact ⟨.inr ⟨HN.out, rfl⟩, Below.refl _ _⟩
  have c2' : decide ((10 : Int) < ((s.size : Nat) : Int)) = false := by simp; omega
  have h0 : 0 < s.size := by omega
  by_cases c3 : s[0].toNat = 86
  case neg =>
    have c3' : ((s[0].toNat : Int) != 86) = true := by simp; omega
    have HN := Lib.hid (no_head h0 c3)
    clear c1 c2 c3
    go_enter Tryz.func126, Tryz.ntmps126
    go_wp2_with fail
    go_ret2
    exact ⟨.inr ⟨HN.out, rfl⟩, Below.refl _ _⟩
  have c3' : ((s[0].toNat : Int) != 86) = false := by simp; omega
  have H10 := Lib.hid (show s.size ≤ 10 by omega)
  have H2 := Lib.hid (show 2 ≤ s.size by omega)
  clear c1 c2 c3
  go_enter Tryz.func126, Tryz.ntmps126
  go_wp2_with fail
  go_loop [4, 2] (fun i v => ∃ k : Nat, Hid (1 ≤ k) ∧ k ≤ s.size ∧ i = .int .i64 (k : Int) ∧ v = .int .i64 ((spell (tail s k) : Nat) : Int) ∧ Hid (Digits (tail s k))) (fun i _ => s.size - (intOf i).toNat)
  case atStart => exact ⟨1, Nat.le_refl _, by omega, rfl, by rw [tail_one]; rfl, by rw [tail_one]; exact fun c hc => absurd hc (by simp)⟩
  case round =>
    obtain ⟨k, hk1, hk, rfl, rfl, hd⟩ := hrel
    obtain ⟨a, ha⟩ : ∃ a, a = spell (tail s k) := ⟨_, rfl⟩
    have hb : (a : Int) ≤ 1000000000 := by have := spell_bound (s := s) (k := k) (by have := H10.out; omega) hd.out; omega
    rw [← ha]
    have HA := Lib.hid ha
    clear ha
    by_cases hlt : k < s.size
    · by_cases h5 : s[k].toNat < 48
      · have h5' : (s[k].toNat : Int) < 48 := by omega
        have HN := Lib.hid (no_digit hk1.out hlt (.inl h5))
        clear h5
        go_wp2_with fail
        go_ret2
        exact ⟨.inr ⟨HN.out, rfl⟩, Below.refl _ _⟩
      have h5' : decide ((s[k].toNat : Int) < 48) = false := by simp; omega
      by_cases h6 : 57 < s[k].toNat
      · have h6' : (57 : Int) < (s[k].toNat : Int) := by omega
        have HN := Lib.hid (no_digit hk1.out hlt (.inr h6))
        clear h5 h6
        go_wp2_with fail
        go_ret2
        exact ⟨.inr ⟨HN.out, rfl⟩, Below.refl _ _⟩
      have h6' : decide ((57 : Int) < (s[k].toNat : Int)) = false := by simp; omega
      have h7 : (48 : Int) ≤ (s[k].toNat : Int) := by omega
      have h8 : (s[k].toNat : Int) ≤ 57 := by omega
      have HD := Lib.hid (digits_next hd.out (by omega : 48 ≤ s[k].toNat) (by omega))
      have HS := Lib.hid (show (spell (tail s (k + 1)) : Int) = 10 * (a : Int) + ((s[k].toNat : Int) - 48) by rw [tail_next hk1.out hlt, spell_snoc, ← HA.out]; omega)
      rw [← tail_next hk1.out hlt] at HD
      clear h5 h6
      go_wp2_with fail
      go_round
      case rel => exact ⟨k + 1, by show 1 ≤ k + 1; omega, by omega, by go_num, by rw [HS.out], HD⟩
      case measure => simp [intOf]; omega
    · obtain rfl : k = s.size := by omega
      by_cases h9 : a ≤ 1048576
      · obtain ⟨S, hS⟩ : ∃ S : ByteArray, S = ⟨(label a).toArray⟩ := ⟨_, rfl⟩
        have HL := ref_label_in a w h9
        rw [← hS] at HL
        have q := Lib.hid HL
        by_cases hsame : s.data.toList = label a
        · have e : S = s := WideShapes.bytes_inj (by rw [hS, hsame])
          subst e
          have HI := Lib.hid (show IsLabel S.data.toList a from ⟨h9, hsame⟩)
          clear HL hS h9 hsame
          go_wp2_with fail
          refine q.out.mono ?_
          rintro e w' ⟨rfl, hb'⟩
          go_wp2_with fail
          go_ret2
          exact ⟨.inl ⟨a, HI.out, rfl⟩, hb'⟩
        · have hne : (S.toList == s.toList) = false := str_other (by rw [hS]; exact fun e => hsame e.symm)
          have HN := Lib.hid (show NoLabel s.data.toList from fun n _ e => hsame (by rw [e, HA.out, end_label e]))
          clear HL hS h9 hsame
          go_wp2_with fail
          refine q.out.mono ?_
          rintro e w' ⟨rfl, hb'⟩
          go_wp2_with fail
          go_ret2
          exact ⟨.inr ⟨HN.out, rfl⟩, hb'⟩
      · have q := Lib.hid (ref_label_out (a : Int) w (by omega))
        have hne : s.toList.isEmpty = false := str_full (by
          intro e
          have := len_str s
          rw [e] at this
          have h2 := H2.out
          simp at this
          omega)
        have HN := Lib.hid (show NoLabel s.data.toList from fun n hn e => h9 (by rw [HA.out, end_label e]; exact hn))
        clear h9
        go_wp2_with fail
        refine q.out.mono ?_
        rintro e w' ⟨rfl, rfl⟩
        go_wp2_with fail
        go_ret2
        exact ⟨.inr ⟨HN.out, rfl⟩, Below.refl _ _⟩
end Go.Proofs.YtlpibnbabgfiiaaGreatDoor
