/-
  NmLabel.
  TtText.
  TtWrite.
  NmRefLabel.
  TrDec.
  TrText.
-/
import Derived.Test.YtnghanpmmbcbbaaGreatDoorMp12
import Derived.Test.YtnghanpmmbcbbaaGreatDoorShelf
import Derived.Test.YtnghanpmmbcbbaaGreatDoorMp3
import Derived.Lib.AtoiErrMem
import Derived.Lib.ItoaMem
import Derived.Test.YtnghanpmmbcbbaaGreatDoorMp5
import Derived.Test.YtnghanpmmbcbbaaGreatDoorMp1
import Derived.Deep.AppendLies
import Derived.Laws.MakeOwn
import Derived.Deep.RegionHeld3
import Derived.BigRegion
import Derived.IntWalk
namespace Go.Proofs.YtnghanpmmbcbbaaGreatDoor
open Go.RowKit
theorem below_grow (w : World) (k : Nat) (os : Array Obj) : Below w.heap.size w (Sort.grow (w.drewN k) os) := by
  refine ⟨rfl, rfl, rfl, ?_, fun j hj => ?_⟩
  · show w.heap.size ≤ (w.heap ++ os).size
    rw [Array.size_append]
    omega
  · show (w.heap ++ os)[j]? = _
    rw [Array.getElem?_append_left hj]
theorem itoa_at (n : Nat) (w : World) (hn : n ≤ 1048576) (hL : Laid w) :
    Calls Tryz.prog 88 #[.int .i64 (n : Int)] w fun e w' => e = .returned (.string ⟨(Lib.decDigits n).toArray⟩) ∧ Below w.heap.size w w' := by
  refine (Tryz.strconv_Itoa (n : Int) (by omega) (by omega) w hL.tab).mono ?_
  rintro e w' ⟨rfl, k, os, rfl⟩
  rw [Lib.itoa_nonneg]
  exact ⟨rfl, below_grow _ _ _⟩
def Fails (w : World) (e : Ending) (w' : World) : Prop := ∃ (x : Int) (p : Value), e = .returned (.tuple #[.int .i64 x, .iface 245 p]) ∧ Below w.heap.size w w'
theorem append_str (l m : List UInt8) : (⟨l.toArray⟩ : ByteArray) ++ ⟨m.toArray⟩ = ⟨(l ++ m).toArray⟩ := by
  apply WideShapes.bytes_inj
  simp
theorem ret_str {a b : ByteArray} (h : a = b) : Ending.returned (.string a) = .returned (.string b) := by rw [h]
theorem label_in (n : Nat) (w : World) (hn : n ≤ 1048576) (hL : Laid w) :
    Calls Tryz.prog 166 #[.int .i64 (n : Int)] w fun e w' => e = .returned (.string ⟨(label n).toArray⟩) ∧ Below w.heap.size w w' := by
  have h1 : decide ((n : Int) < 0) = false := by simp
  have h2 : decide ((1048576 : Int) < (n : Int)) = false := by simp; omega
  have HI := Lib.hid (itoa_at n w hn hL)
  have h3 : ¬ 9223372036854775807 < 1 + (Lib.decDigits n).length := by have := dec_len7 hn; omega
  clear hn hL
  go_enter Tryz.func166, Tryz.ntmps166
  go_wp2_with (go_at_call 88; refine HI.out.mono ?_; rintro e w' ⟨rfl, hb⟩)
  go_ret
  exact ⟨ret_str (append_str [86] _), hb⟩
theorem str_full {x : ByteArray} (h : x.data.toList ≠ []) : x.toList.isEmpty = false := by
  rw [raw_list]
  simpa using h
end Go.Proofs.YtnghanpmmbcbbaaGreatDoor
namespace Go.Proofs.YtnghanpmmbcbbaaGreatDoor
open Go.RowKit
theorem itoa_any (n : Int) (w : World) (h1 : -2147483648 ≤ n) (h2 : n ≤ 2147483648) (hL : Laid w) :
    Calls Tryz.prog 88 #[.int .i64 n] w fun e w' => e = .returned (.string ⟨(Lib.itoa n).toArray⟩) ∧ Below w.heap.size w w' := by
  refine (Tryz.strconv_Itoa n (by omega) (by omega) w hL.tab).mono ?_
  rintro e w' ⟨rfl, k, os, rfl⟩
  exact ⟨rfl, below_grow _ _ _⟩
theorem strength_at (t : Tm) (w : World) : Calls Tryz.prog 170 #[t.val] w fun e w' => e = .returned (.int .i64 (t.pw : Int)) ∧ Below w.heap.size w w' := by
  obtain ⟨k, n, s, A, c, a⟩ := t
  have Q := Lib.hid (fun W => ostr_at s W (n := ostr s.data.toList) rfl)
  show Calls Tryz.prog 170 #[.agg #[.int .i64 k, .int .i64 n, .string s, .slice A a.length c]] w fun e w' => e = .returned (.int .i64 (ostr s.data.toList : Int)) ∧ Below w.heap.size w w'
  go_enter Tryz.func170, Tryz.ntmps170
  go_wp2_with fail
  refine (Q.out _).mono ?_
  rintro e w' ⟨rfl, rfl⟩
  go_wp2_with fail
  go_ret
  exact ⟨rfl, (Below.refl _ _).alloc (Nat.le_refl _) _⟩
theorem between_at (x y z : List UInt8) (w : World) (hx : x.length ≤ 1000000000) (hy : y.length ≤ 1000000000) (hz : z.length ≤ 1000000000) :
    Calls Tryz.prog 134 #[.string ⟨x.toArray⟩, .string ⟨y.toArray⟩, .string ⟨z.toArray⟩] w fun e w' => e = .returned (.string ⟨(topT y x z).toArray⟩) ∧ w = w' := by
  have h1 : ¬ 9223372036854775807 < x.length + 1 := by omega
  have h2 : ¬ 9223372036854775807 < x.length + 1 + y.length := by omega
  have h3 : ¬ 9223372036854775807 < x.length + 1 + y.length + 1 := by omega
  have h4 : ¬ 9223372036854775807 < x.length + 1 + y.length + 1 + z.length := by omega
  clear hx hy hz
  go_enter Tryz.func134, Tryz.ntmps134
  go_wp2_with fail
  go_ret
  refine ⟨ret_str ?_, rfl⟩
  apply WideShapes.bytes_inj
  simp [topT]
def TextAt (t : Tm) : Prop := ∀ w, t.At w → t.form = true → t.size ≤ 1000000 → Laid w →
  Calls Tryz.prog 135 #[t.val] w fun e w' => e = .returned (.string (S (t.txt plain))) ∧ Below w.heap.size w w'
theorem txt_bound {t : Tm} (hf : t.form = true) (hz : t.size ≤ 1000000) : (t.txt plain).length ≤ 51000000 := by have := (txt_len slim_plain).1 t hf; omega
theorem toperand_at (t : Tm) (hT : TextAt t) (b : Bool) (w : World) (ht : t.At w) (hf : t.form = true) (hz : t.size ≤ 1000000) (hL : Laid w) :
    Calls Tryz.prog 169 #[t.val, .bool b] w fun e w' => e = .returned (.string (S (paren plain b (t.txt plain)))) ∧ Below w.heap.size w w' := by
  have hb := txt_bound hf hz
  have Q := Lib.hid (fun W (h : Below w.heap.size w W) => hT W (ht.below h) hf hz (hL.below h))
  obtain ⟨x, hx⟩ : ∃ x, t.txt plain = x := ⟨_, rfl⟩
  rw [hx] at Q hb ⊢
  have h1 : ¬ 9223372036854775807 < 1 + x.length := by omega
  have h2 : ¬ 9223372036854775807 < 1 + x.length + 1 := by omega
  clear hT ht hf hz hL hx hb
  obtain ⟨k, n, s, A, c, a⟩ := t
  show Calls Tryz.prog 169 #[.agg #[.int .i64 k, .int .i64 n, .string s, .slice A a.length c], .bool b] w _
  cases b
  · go_enter Tryz.func169, Tryz.ntmps169
    go_wp2_with fail
    refine (Q.out _ ((Below.refl _ _).alloc (Nat.le_refl _) _)).mono ?_
    rintro e w1 ⟨rfl, hb⟩
    have HB := Lib.hid (((Below.refl w.heap.size w).alloc (Nat.le_refl _) (.cells #[.int .i64 k, .int .i64 n, .string s, .slice A a.length c] 69)).trans (hb.mono (by simp)))
    clear hb
    go_wp2_with fail
    go_ret
    exact ⟨rfl, HB.out⟩
  · go_enter Tryz.func169, Tryz.ntmps169
    go_wp2_with fail
    refine (Q.out _ ((Below.refl _ _).alloc (Nat.le_refl _) _)).mono ?_
    rintro e w1 ⟨rfl, hb⟩
    have HB := Lib.hid (((Below.refl w.heap.size w).alloc (Nat.le_refl _) (.cells #[.int .i64 k, .int .i64 n, .string s, .slice A a.length c] 69)).trans (hb.mono (by simp)))
    clear hb
    go_wp2_with fail
    go_ret
    refine ⟨ret_str ?_, HB.out⟩
    apply WideShapes.bytes_inj
    simp [paren, Sty.lp, Sty.rp, plain, sp]
theorem str_info : (Tryz.prog.info? 9).map (fun i => (i.zero, i.size, i.bytes)) = some (some (.string ⟨#[]⟩), 1, 16) := by kernel_rfl
def scells (l : List (List UInt8)) : List Value := l.map fun x => .string (S x)
theorem scells_append (l m : List (List UInt8)) : scells (l ++ m) = scells l ++ scells m := by simp [scells]
def Texts (w : World) (l : List Tm) (j : Nat) (z : Value) (wr : World) : Prop := wr.ownsRow w.heap.size 9 1 z j (scells (txtL plain (l.take j))) ∧ Below w.heap.size w wr
theorem own_lt' {w : World} {base : Nat} {e : TypeId} {size : Nat} {v : Value} {n : Nat} {xs : List Value} (h : w.ownsRow base e size v n xs) : ∀ k, v.ownBlock = some k → base ≤ k ∧ k < w.heap.size := by
  intro k hk
  rcases h.2 with ⟨rfl, _⟩ | ⟨g, cap, cur, rfl, hb, hg, _⟩
  · simp [Value.ownBlock] at hk
  · simp only [Value.ownBlock, Option.some.injEq] at hk
    subst hk
    refine ⟨hb, ?_⟩
    rcases Nat.lt_or_ge g w.heap.size with h | h
    · exact h
    · rw [Array.getElem?_eq_none h] at hg; cases hg
set_option maxHeartbeats 2000000 in
set_option maxRecDepth 10000 in
theorem tcall_at (s : ByteArray) (l : List Tm) (ih : ∀ x ∈ l, TextAt x) (A : Option Addr) (c : Nat) (w : World) (hl : Lst w A l c) (hf : formL l = true) (hz : sizeL l ≤ 1000000) (hs : s.size ≤ 1000000) (hlen : l.length ≤ 1000000) (hL : Laid w) :
    Calls Tryz.prog 133 #[.string s, .slice A l.length c] w fun e w' => e = .returned (.string (S (callT plain s.data.toList (txtL plain l)))) ∧ Below w.heap.size w w' := by
  rcases hcase : l with _ | ⟨x0, r0⟩
  · go_enter Tryz.func133, Tryz.ntmps133
    go_wp2_with fail
    go_ret
    exact ⟨rfl, Below.refl _ _⟩
  rw [← hcase]
  have h0 : 0 < l.length := by rw [hcase]; simp
  obtain ⟨b, o, rfl, hrow⟩ := hl.2.2 h0
  obtain ⟨i0, hi, hz0, hz1, hz2⟩ := info_parts str_info
  obtain ⟨w0, hmk, hown, hg⟩ := run_make_own (P := Tryz.prog) w w.heap.size 55 9 i0 _ 1 Tryz.underlying55 hi hz0 hz1 .i64 .i64 l.length (by rw [hz2]; omega) (by unfold maxLen; omega) (Nat.le_refl _)
  have hll : l.length ≤ 9223372036854775807 := by omega
  have Q := Lib.hid ih
  have HRow := Lib.hid hrow
  have HF := Lib.hid hf
  have HZ := Lib.hid hz
  have HLd := Lib.hid hL
  have HC := Lib.hid hcase
  have HT0 := Lib.hid (show Texts w l 0 (.slice (some ⟨w.heap.size, 0, none⟩) 0 l.length) w0 from ⟨hown, (Below.refl _ _).grown hg (Nat.le_refl _) (fun k h => by cases h)⟩)
  have hne : (((l.length : Nat) : Int) == 0) = false := by rw [beq_eq_false_iff_ne]; omega
  clear hown hg ih hrow hf hz hL hcase hl
  go_enter Tryz.func133, Tryz.ntmps133
  go_wp2_with fail
  go_loopw [5, 17] (fun z i wr => ∃ (j : Nat) (x : Value), j ≤ l.length ∧ i = .int .i64 j ∧ z = x ∧ Hid (Texts w l j x wr)) (fun _ i _ => l.length - (intOf i).toNat)
  case atStart => exact ⟨0, _, Nat.zero_le _, rfl, rfl, HT0⟩
  case round =>
    clear HT0 hmk
    obtain ⟨j, z, hj, rfl, hzx, hI⟩ := hrel
    have hzx' := hzx.symm
    clear hzx
    subst hzx'
    by_cases hlt : j < l.length
    · have hmem := getD_mem hlt
      obtain ⟨x, hx⟩ : ∃ x, l.getD j default = x := ⟨_, rfl⟩
      have hr := (((At_keep hI.out.2).2 _ _ _ HRow.out)).get hlt
      rw [hx] at hr hmem
      obtain ⟨⟨r0, r1, r2, r3⟩, hat⟩ := hr
      have hfx := formL_mem hmem HF.out
      have hzx := size_mem hmem
      have Q1 := Lib.hid (fun W (h : Below wr.heap.size wr W) => Q.out x hmem W (hat.below h) hfx (by have := HZ.out; omega) (HLd.out.below (hI.out.2.trans (h.mono hI.out.2.size))))
      have HX := Lib.hid hx
      have hbd := txt_bound hfx (by have := HZ.out; omega)
      obtain ⟨y, hy⟩ : ∃ y, x.txt plain = y := ⟨_, rfl⟩
      rw [hy] at Q1 hbd
      have HY := Lib.hid hy
      clear hat hfx hzx hmem hx hy
      obtain ⟨k, n, s', A', c', a⟩ := x
      simp only [Tm.kind, Tm.num, Tm.name, Tm.at_, Tm.args, Tm.cap] at r0 r1 r2 r3
      go_wp2_with fail
      refine (Q1.out _ ((Below.refl _ _).alloc (Nat.le_refl _) _)).mono ?_
      rintro e w2 ⟨rfl, hb2⟩
      have hb3 : Below wr.heap.size wr w2 := ((Below.refl wr.heap.size wr).alloc (Nat.le_refl _) (.cells #[.int .i64 k, .int .i64 n, .string s', .slice A' a.length c'] 69)).trans (hb2.mono (by simp))
      have HOwn := Lib.hid (own_below hI.out.1 hb3)
      have HB3 := Lib.hid (hI.out.2.trans (hb3.mono hI.out.2.size))
      have hsz : w.heap.size ≤ w2.heap.size := HB3.out.size
      clear hb2 hb3 r0 r1 r2 r3
      go_wp2_with (at_builtin; refine wpList_append_lies _ rfl _ _ 55 rfl w.heap.size 9 i0 _ 1 16 Tryz.underlying55 hi hz0 hz1 hz2 rfl (by decide) z j _ rfl (HOwn.out.alloc _) ⟨w2.heap.size, 0, none⟩ 1 1 [.string (S y)] rfl rfl (World.news_of_block (cs := #[.string (S y)]) (t := 9) (fr := (0, 0)) (heap_alloc_new w2 _)) (by simp [Value.oneCell']) (by decide) (by unfold maxLen; omega) (by omega) (by simp; omega) _ rfl ?_; intro g cap w4 hown hg hat hglt)
      have HN := Lib.hid (show Texts w l (j + 1) (.slice (some ⟨g, 0, none⟩) (j + 1) cap) w4 from ⟨by
        rw [ttake_next hlt, HX.out, txtL_append, scells_append]
        simpa [txtL, scells, HY.out] using hown, (HB3.out.alloc hsz _).grown hg (by simp; omega) (fun k h => (own_lt' HOwn.out k h).1)⟩)
      clear hown hg hat hglt
      go_wp2_with fail
      go_roundw
      case rel => exact ⟨j + 1, _, by omega, by go_num, rfl, HN⟩
      case measure => simp [intOf]; omega
    · obtain rfl : j = l.length := by omega
      clear hlt
      have hown := hI.out.1
      rw [List.take_of_length_le (Nat.le_refl _)] at hown
      have hcl : ((txtL plain l).map S).length = l.length := by rw [List.length_map, txtL_len]
      rcases hown.2 with ⟨_, h⟩ | ⟨g, cap, cur, rfl, hb, hg, hle, hcap, _⟩
      · omega
      have hcells : ∀ (j : Nat) x, ((txtL plain l).map S)[j]? = some x → wr.cell? ⟨g, 0 + j, none⟩ = some (.string x) := fun j x hx => by
        have hj : j < l.length := by
          have := (List.getElem?_eq_some_iff.1 hx).1
          omega
        have := World.ownsRow.cellAt hown j (by rw [Nat.mul_one]; exact hj)
        rw [Nat.zero_add, this]
        simp only [scells, List.getElem?_map] at hx ⊢
        obtain ⟨y, hy, rfl⟩ := Option.map_eq_some_iff.1 hx
        rw [hy]; rfl
      have hmap : ((txtL plain l).map S).map (fun x => x.data.toList) = txtL plain l := by
        rw [List.map_map]
        conv => rhs; rw [← List.map_id (txtL plain l)]
        rfl
      have hjoin : Lib.join (((txtL plain l).map S).map (fun x => x.data.toList)) [44, 32] = tjoinT (txtL plain l) := by
        rw [hmap, HC.out]
        simp only [txtL, tjoinT]
        exact join_txt _ _
      have hlen2 : (tjoinT (txtL plain l)).length ≤ 60000000 := by
        have h1 := call_len slim_plain s.data.toList (txtL plain l)
        have h2 := (txt_len slim_plain).2 l HF.out
        have h3 := HZ.out
        rw [len_str] at h1
        rw [HC.out] at h1 ⊢
        rw [HC.out] at h2
        simp only [txtL, plain_call, tjoinT, List.length_append, List.length_cons, List.length_nil] at h1 h2 ⊢
        rw [len_str] at h1
        rw [HC.out] at h3
        omega
      have hlt2 : g < wr.heap.size := (own_lt' hown g rfl).2
      have QJ := Tryz.strings_Join g 0 cap ((txtL plain l).map S) ⟨#[44, 32]⟩ wr hcells hlt2 (by rw [hcl]; omega) (by rw [hcl]; exact hle) (by
        show (Lib.join (((txtL plain l).map S).map (fun x => x.data.toList)) [44, 32]).length ≤ _
        rw [hjoin]; omega)
      have hre : (Lib.join (((txtL plain l).map S).map (fun x => x.data.toList)) (⟨#[44, 32]⟩ : ByteArray).data.toList) = tjoinT (txtL plain l) := hjoin
      rw [hre, hcl] at QJ
      have HJ := Lib.hid QJ
      have HB := Lib.hid hI.out.2
      have HV := Lib.hid (show callT plain s.data.toList (txtL plain l) = s.data.toList ++ [40] ++ tjoinT (txtL plain l) ++ [41] by
        rw [HC.out]; simp only [txtL, plain_call, tjoinT])
      obtain ⟨J, hJ⟩ : ∃ J, tjoinT (txtL plain l) = J := ⟨_, rfl⟩
      rw [hJ] at HJ HV hlen2
      have s1 : ¬ 9223372036854775807 < s.size + 1 := by omega
      have s2 : ¬ 9223372036854775807 < s.size + 1 + J.length := by omega
      have s3 : ¬ 9223372036854775807 < s.size + 1 + J.length + 1 := by omega
      clear hown hcl hcells hmap hjoin hlen2 QJ hre hJ hI hg hle hcap
      go_wp2_with fail
      refine HJ.out.mono ?_
      rintro e w5 ⟨rfl, hb5⟩
      have HB5 := Lib.hid (HB.out.trans (hb5.mono HB.out.size))
      clear hb5
      go_wp2_with fail
      go_ret
      refine ⟨ret_str ?_, HB5.out⟩
      apply WideShapes.bytes_inj
      rw [show (S (callT plain s.data.toList (txtL plain l))).data.toList = callT plain s.data.toList (txtL plain l) from rfl, HV.out]
      simp
end Go.Proofs.YtnghanpmmbcbbaaGreatDoor
namespace Go.Proofs.YtnghanpmmbcbbaaGreatDoor
open Go.RowKit
theorem alloc_keep {w : World} {p : Addr} {v : Value} (h : w.cell? p = some v) : ∀ o, (w.alloc o).cell? p = some v := fun o => by
  rw [(below1 w o).cell (World.block_lt_of_cell? w _ h)]; exact h
theorem three (w : World) (c1 c2 c3 : Array Value) (T : TypeId) :
    (∀ j v, c1[j]? = some v → ((((w.alloc (.cells c1 T)).alloc (.cells c2 T)).alloc (.cells c3 T)).drew).cell? ⟨w.heap.size, j, none⟩ = some v) ∧
    (∀ j v, c2[j]? = some v → ((((w.alloc (.cells c1 T)).alloc (.cells c2 T)).alloc (.cells c3 T)).drew).cell? ⟨w.heap.size + 1, j, none⟩ = some v) ∧
    (∀ j v, c3[j]? = some v → ((((w.alloc (.cells c1 T)).alloc (.cells c2 T)).alloc (.cells c3 T)).drew).cell? ⟨w.heap.size + 1 + 1, j, none⟩ = some v) ∧
    Below w.heap.size w (((w.alloc (.cells c1 T)).alloc (.cells c2 T)).alloc (.cells c3 T)).drew := by
  refine ⟨fun j v h => ?_, fun j v h => ?_, fun j v h => ?_, ((((Below.refl _ _).alloc (Nat.le_refl _) _).alloc (by simp) _).alloc (by simp; omega) _).drew⟩
  · exact alloc_keep (alloc_keep (by rw [World.cell?_alloc_at _ _ _ _ rfl, h]) _) _
  · exact alloc_keep (by rw [World.cell?_alloc_at _ _ _ _ (by simp), h]) _
  · show World.cell? _ _ = _
    exact (World.cell?_alloc_at _ _ _ _ (by simp)).trans h
set_option maxHeartbeats 4000000 in
set_option maxRecDepth 10000 in
theorem text_op (n : Int) (o : UInt8) (A : Option Addr) (c : Nat) (x y : Tm) (hx : TextAt x) (hy : TextAt y) (hop : opB [o] = true) (w : World) (hat : (Tm.mk 2 n ⟨#[o]⟩ A c [x, y]).At w) (hfx : x.form = true) (hfy : y.form = true) (hz : x.size + y.size ≤ 1000000) (hL : Laid w) :
    Calls Tryz.prog 135 #[(Tm.mk 2 n ⟨#[o]⟩ A c [x, y]).val] w fun e w' => e = .returned (.string (S ((Tm.mk 2 n ⟨#[o]⟩ A c [x, y]).txt plain))) ∧ Below w.heap.size w w' := by
  have HV := Lib.hid (show (Tm.mk 2 n ⟨#[o]⟩ A c [x, y]).txt plain = topT [o] (paren plain (decide (x.pw < ostr [o])) (x.txt plain)) (paren plain (decide (y.pw ≤ ostr [o])) (y.txt plain)) by
    simp only [Tm.txt, show ¬ ((2 : Int) = 0) by omega, show ¬ ((2 : Int) = 1) by omega, if_false, txtL]
    rw [if_pos (by simpa using hop)]
    rfl)
  obtain ⟨b, q, rfl, hrow⟩ := hat.lst.2.2 (by simp [Tm.args])
  obtain ⟨⟨x0, x1, x2, x3⟩, hxa, ⟨y0, y1, y2, y3⟩, hya, -⟩ := hrow
  have b1 := paren_len slim_plain (decide (x.pw < ostr [o])) (x.txt plain)
  have b2 := paren_len slim_plain (decide (y.pw ≤ ostr [o])) (y.txt plain)
  have b3 := txt_bound hfx (by omega)
  have b4 := txt_bound hfy (by omega)
  have Q1 := Lib.hid (fun W (h : Below w.heap.size w W) => op_at ⟨#[o]⟩ W (r := true) hop)
  have Q2 := Lib.hid (fun W => ostr_at ⟨#[o]⟩ W (n := ostr [o]) rfl)
  have Q3 := Lib.hid (fun W (h : Below w.heap.size w W) => toperand_at x hx (decide (x.pw < ostr [o])) W (hxa.below h) hfx (by omega) (hL.below h))
  have Q4 := Lib.hid (fun W (h : Below w.heap.size w W) => toperand_at y hy (decide (y.pw ≤ ostr [o])) W (hya.below h) hfy (by omega) (hL.below h))
  have Q5 := Lib.hid (fun W => strength_at x W)
  have Q6 := Lib.hid (fun W => strength_at y W)
  obtain ⟨X, hX⟩ : ∃ X, paren plain (decide (x.pw < ostr [o])) (x.txt plain) = X := ⟨_, rfl⟩
  obtain ⟨Y, hY⟩ : ∃ Y, paren plain (decide (y.pw ≤ ostr [o])) (y.txt plain) = Y := ⟨_, rfl⟩
  rw [hX] at b1 Q3 HV
  rw [hY] at b2 Q4 HV
  have Q7 := Lib.hid (fun W => between_at X [o] Y W (by omega) (by simp) (by omega))
  clear hX hY b1 b2 b3 b4 hx hy hxa hya hat hfx hfy hz hL hop
  obtain ⟨px, hpx⟩ : ∃ p, x.pw = p := ⟨_, rfl⟩
  obtain ⟨py, hpy⟩ : ∃ p, y.pw = p := ⟨_, rfl⟩
  obtain ⟨po, hpo⟩ : ∃ p, ostr [o] = p := ⟨_, rfl⟩
  rw [hpx] at Q5 Q3
  rw [hpy] at Q6 Q4
  rw [hpo] at Q2 Q3 Q4
  clear hpx hpy hpo
  obtain ⟨k1, n1, s1, A1, p1, a1⟩ := x
  obtain ⟨k2, n2, s2, A2, p2, a2⟩ := y
  simp only [Tm.kind, Tm.num, Tm.name, Tm.at_, Tm.args, Tm.cap] at x0 x1 x2 x3 y0 y1 y2 y3
  have Q5 := Lib.hid (show ∀ W, Calls Tryz.prog 170 #[.agg #[.int .i64 k1, .int .i64 n1, .string s1, .slice A1 a1.length p1]] W fun e w' => e = .returned (.int .i64 (px : Int)) ∧ Below W.heap.size W w' from Q5.out)
  have Q6 := Lib.hid (show ∀ W, Calls Tryz.prog 170 #[.agg #[.int .i64 k2, .int .i64 n2, .string s2, .slice A2 a2.length p2]] W fun e w' => e = .returned (.int .i64 (py : Int)) ∧ Below W.heap.size W w' from Q6.out)
  have Q3 := Lib.hid (show ∀ W, Below w.heap.size w W → Calls Tryz.prog 169 #[.agg #[.int .i64 k1, .int .i64 n1, .string s1, .slice A1 a1.length p1], .bool (decide (px < po))] W fun e w' => e = .returned (.string (S X)) ∧ Below W.heap.size W w' from Q3.out)
  have Q4 := Lib.hid (show ∀ W, Below w.heap.size w W → Calls Tryz.prog 169 #[.agg #[.int .i64 k2, .int .i64 n2, .string s2, .slice A2 a2.length p2], .bool (decide (py ≤ po))] W fun e w' => e = .returned (.string (S Y)) ∧ Below W.heap.size W w' from Q4.out)
  have kx0 := alloc_keep x0
  have kx1 := alloc_keep x1
  have kx2 := alloc_keep x2
  have kx3 := alloc_keep x3
  have ky0 := alloc_keep y0
  have ky1 := alloc_keep y1
  have ky2 := alloc_keep y2
  have ky3 := alloc_keep y3
  show Calls Tryz.prog 135 #[.agg #[.int .i64 2, .int .i64 n, .string ⟨#[o]⟩, .slice (some ⟨b, q, none⟩) 2 c]] w _
  go_enter Tryz.func135, Tryz.ntmps135
  go_wp2_with fail
  refine (Q1.out _ ((Below.refl _ _).alloc (Nat.le_refl _) _)).mono ?_
  rintro e w' ⟨rfl, rfl⟩
  go_wp2_with fail
  refine (Q2.out _).mono ?_
  rintro e w' ⟨rfl, rfl⟩
  go_wp2_with fail
  have lx0 := fun o => alloc_keep (kx0 o)
  have mx0 := fun o o2 => alloc_keep (lx0 o o2)
  have lx1 := fun o => alloc_keep (kx1 o)
  have mx1 := fun o o2 => alloc_keep (lx1 o o2)
  have lx2 := fun o => alloc_keep (kx2 o)
  have mx2 := fun o o2 => alloc_keep (lx2 o o2)
  have lx3 := fun o => alloc_keep (kx3 o)
  have mx3 := fun o o2 => alloc_keep (lx3 o o2)
  have ly0 := fun o => alloc_keep (ky0 o)
  have my0 := fun o o2 => alloc_keep (ly0 o o2)
  have ly1 := fun o => alloc_keep (ky1 o)
  have my1 := fun o o2 => alloc_keep (ly1 o o2)
  have ly2 := fun o => alloc_keep (ky2 o)
  have my2 := fun o o2 => alloc_keep (ly2 o o2)
  have ly3 := fun o => alloc_keep (ky3 o)
  have my3 := fun o o2 => alloc_keep (ly3 o o2)
  go_region
  · obtain ⟨u1, u2, u3, hbel⟩ := three w #[.int .i64 2, .int .i64 n, .string ⟨#[o]⟩, .slice (some ⟨b, q, none⟩) 2 c] #[.int .i64 k1, .int .i64 n1, .string s1, .slice A1 a1.length p1] #[.int .i64 k2, .int .i64 n2, .string s2, .slice A2 a2.length p2] 69
    have kt := cell_regrown (u1 2 _ rfl)
    have kx0' := cell_regrown (u2 0 _ rfl)
    have ky0' := cell_regrown (u3 0 _ rfl)
    have kx1' := cell_regrown (u2 1 _ rfl)
    have ky1' := cell_regrown (u3 1 _ rfl)
    have kx2' := cell_regrown (u2 2 _ rfl)
    have ky2' := cell_regrown (u3 2 _ rfl)
    have kx3' := cell_regrown (u2 3 _ rfl)
    have ky3' := cell_regrown (u3 3 _ rfl)
    have HBel := Lib.hid hbel
    clear u1 u2 u3 hbel
    go_wp2_with fail
    refine wp_region_quiet_below (by kernel_rfl) (by kernel_rfl) ?_
    repeat (go_big_quiet_step (first | (go_at_call 170; first | (with_reducible exact Calls.regrown_of (Q5.out _)) | (with_reducible exact Calls.regrown_of (Q6.out _))) | (go_at_call 169; first | (with_reducible exact Calls.regrown_of (Q3.out _ (HBel.out.trans ((below_regrown _ _ _).mono HBel.out.size)))) | (with_reducible exact Calls.regrown_of (Q4.out _ (HBel.out.trans ((below_regrown _ _ _).mono HBel.out.size))))) | (go_at_call 134; exact Calls.regrown_of (withBelow (Q7.out _)))))
    refine wpQuiet_nil ?_
    intro w9 hw'
    have hb9 := HBel.out.trans ((regrown_below hw').mono HBel.out.size)
    go_wp2_with fail
    go_ret
    exact ⟨ret_str (by rw [HV.out]), hb9⟩
  · obtain ⟨u1, u2, u3, hbel⟩ := three w #[.int .i64 2, .int .i64 n, .string ⟨#[o]⟩, .slice (some ⟨b, q, none⟩) 2 c] #[.int .i64 k2, .int .i64 n2, .string s2, .slice A2 a2.length p2] #[.int .i64 k1, .int .i64 n1, .string s1, .slice A1 a1.length p1] 69
    have kt := cell_regrown (u1 2 _ rfl)
    have kx0' := cell_regrown (u3 0 _ rfl)
    have ky0' := cell_regrown (u2 0 _ rfl)
    have kx1' := cell_regrown (u3 1 _ rfl)
    have ky1' := cell_regrown (u2 1 _ rfl)
    have kx2' := cell_regrown (u3 2 _ rfl)
    have ky2' := cell_regrown (u2 2 _ rfl)
    have kx3' := cell_regrown (u3 3 _ rfl)
    have ky3' := cell_regrown (u2 3 _ rfl)
    have HBel := Lib.hid hbel
    clear u1 u2 u3 hbel
    go_wp2_with fail
    refine wp_region_quiet_below (by kernel_rfl) (by kernel_rfl) ?_
    repeat (go_big_quiet_step (first | (go_at_call 170; first | (with_reducible exact Calls.regrown_of (Q5.out _)) | (with_reducible exact Calls.regrown_of (Q6.out _))) | (go_at_call 169; first | (with_reducible exact Calls.regrown_of (Q3.out _ (HBel.out.trans ((below_regrown _ _ _).mono HBel.out.size)))) | (with_reducible exact Calls.regrown_of (Q4.out _ (HBel.out.trans ((below_regrown _ _ _).mono HBel.out.size))))) | (go_at_call 134; exact Calls.regrown_of (withBelow (Q7.out _)))))
    refine wpQuiet_nil ?_
    intro w9 hw'
    have hb9 := HBel.out.trans ((regrown_below hw').mono HBel.out.size)
    go_wp2_with fail
    go_ret
    exact ⟨ret_str (by rw [HV.out]), hb9⟩
set_option maxHeartbeats 2000000 in
set_option maxRecDepth 10000 in
theorem text_call (n : Int) (s : ByteArray) (A : Option Addr) (c : Nat) (l : List Tm) (ih : ∀ x ∈ l, TextAt x) (hop : opB s.data.toList = false) (w : World) (hat : (Tm.mk 2 n s A c l).At w) (hf : formL l = true) (hz : sizeL l ≤ 1000000) (hs : s.size ≤ 1000000) (hlen : l.length ≤ 1000000) (hL : Laid w) :
    Calls Tryz.prog 135 #[(Tm.mk 2 n s A c l).val] w fun e w' => e = .returned (.string (S ((Tm.mk 2 n s A c l).txt plain))) ∧ Below w.heap.size w w' := by
  have HV := Lib.hid (show (Tm.mk 2 n s A c l).txt plain = callT plain s.data.toList (txtL plain l) by
    simp only [Tm.txt, show ¬ ((2 : Int) = 0) by omega, show ¬ ((2 : Int) = 1) by omega, if_false]
    rw [if_neg (by rw [hop]; simp)])
  have Q1 := Lib.hid (fun W (h : Below w.heap.size w W) => op_at s W (r := false) hop)
  have Q2 := Lib.hid (fun W (h : Below w.heap.size w W) => tcall_at s l ih A c W (hat.lst.below h) hf hz hs hlen (hL.below h))
  clear ih hop hat hf hz hs hlen hL
  show Calls Tryz.prog 135 #[.agg #[.int .i64 2, .int .i64 n, .string s, .slice A l.length c]] w _
  go_enter Tryz.func135, Tryz.ntmps135
  go_wp2_with fail
  refine (Q1.out _ ((Below.refl _ _).alloc (Nat.le_refl _) _)).mono ?_
  rintro e w' ⟨rfl, rfl⟩
  go_wp2_with fail
  refine (Q2.out _ ((Below.refl _ _).alloc (Nat.le_refl _) _)).mono ?_
  rintro e w1 ⟨rfl, hb⟩
  have HB := Lib.hid (((Below.refl w.heap.size w).alloc (Nat.le_refl _) (.cells #[.int .i64 2, .int .i64 n, .string s, .slice A l.length c] 69)).trans (hb.mono (by simp)))
  clear hb
  go_wp2_with fail
  go_ret
  exact ⟨ret_str (by rw [HV.out]), HB.out⟩
set_option maxHeartbeats 2000000 in
theorem text_int (n : Int) (s : ByteArray) (A : Option Addr) (c : Nat) (l : List Tm) (h1 : -2147483648 ≤ n) (h2 : n ≤ 2147483648) (w : World) (hL : Laid w) :
    Calls Tryz.prog 135 #[(Tm.mk 0 n s A c l).val] w fun e w' => e = .returned (.string (S (Lib.itoa n))) ∧ Below w.heap.size w w' := by
  have Q := Lib.hid (fun W (h : Below w.heap.size w W) => itoa_any n W h1 h2 (hL.below h))
  clear h1 h2 hL
  show Calls Tryz.prog 135 #[.agg #[.int .i64 0, .int .i64 n, .string s, .slice A l.length c]] w _
  go_enter Tryz.func135, Tryz.ntmps135
  go_wp2_with fail
  refine (Q.out _ ((Below.refl _ _).alloc (Nat.le_refl _) _)).mono ?_
  rintro e w1 ⟨rfl, hb⟩
  have HB := Lib.hid (((Below.refl w.heap.size w).alloc (Nat.le_refl _) (.cells #[.int .i64 0, .int .i64 n, .string s, .slice A l.length c] 69)).trans (hb.mono (by simp)))
  clear hb
  go_wp2_with fail
  go_ret
  exact ⟨rfl, HB.out⟩
set_option maxHeartbeats 2000000 in
theorem text_var (n : Nat) (s : ByteArray) (A : Option Addr) (c : Nat) (l : List Tm) (h1 : n ≤ 1048576) (w : World) (hL : Laid w) :
    Calls Tryz.prog 135 #[(Tm.mk 1 n s A c l).val] w fun e w' => e = .returned (.string (S (label n))) ∧ Below w.heap.size w w' := by
  have Q := Lib.hid (fun W (h : Below w.heap.size w W) => label_in n W h1 (hL.below h))
  clear h1 hL
  show Calls Tryz.prog 135 #[.agg #[.int .i64 1, .int .i64 n, .string s, .slice A l.length c]] w _
  go_enter Tryz.func135, Tryz.ntmps135
  go_wp2_with fail
  refine (Q.out _ ((Below.refl _ _).alloc (Nat.le_refl _) _)).mono ?_
  rintro e w1 ⟨rfl, hb⟩
  have HB := Lib.hid (((Below.refl w.heap.size w).alloc (Nat.le_refl _) (.cells #[.int .i64 1, .int .i64 n, .string s, .slice A l.length c] 69)).trans (hb.mono (by simp)))
  clear hb
  go_wp2_with fail
  go_ret
  exact ⟨rfl, HB.out⟩
theorem text_at : ∀ t, TextAt t := by
  refine Tm.induct fun k n s A c l ih => ?_
  intro w hat hf hz hL
  simp only [Tm.form] at hf
  by_cases hk0 : k = 0
  · subst hk0
    simp only [if_true, Bool.and_eq_true, decide_eq_true_eq] at hf
    rw [show (Tm.mk 0 n s A c l).txt plain = Lib.itoa n by simp [Tm.txt]]
    exact text_int n s A c l hf.1 hf.2.1 w hL
  by_cases hk1 : k = 1
  · subst hk1
    simp only [if_true, show ¬ ((1 : Int) = 0) by omega, if_false, Bool.and_eq_true, decide_eq_true_eq] at hf
    obtain ⟨m, rfl⟩ : ∃ m : Nat, n = (m : Int) := ⟨n.toNat, by omega⟩
    rw [show (Tm.mk 1 (m : Int) s A c l).txt plain = label m by simp [Tm.txt]]
    exact text_var m s A c l (by omega) w hL
  by_cases hk2 : k = 2
  · subst hk2
    simp only [show ¬ ((2 : Int) = 0) by omega, show ¬ ((2 : Int) = 1) by omega, if_false, if_true, Bool.and_eq_true, Bool.or_eq_true, decide_eq_true_eq] at hf
    obtain ⟨_, hs, hfl⟩ := hf
    simp only [Tm.size, if_true] at hz
    by_cases ho : opB s.data.toList = true
    · have ha2 : l.length = 2 := by
        rcases hs with hs | hs
        · exact hs.2
        · rw [(op_right ho).1] at hs; cases hs.1
      obtain ⟨x, y, rfl⟩ : ∃ x y, l = [x, y] := by
        match l, ha2 with
        | [x, y], _ => exact ⟨x, y, rfl⟩
      obtain ⟨o, hso, _⟩ := op_byte ho
      obtain rfl : s = ⟨#[o]⟩ := by
        apply WideShapes.bytes_inj
        rw [hso]
      simp only [formL, Bool.and_eq_true] at hfl
      simp only [sizeL] at hz
      exact text_op n o A c x y (ih _ (by simp)) (ih _ (by simp)) ho w hat hfl.1 hfl.2.1 (by omega) hL
    · have hn : opB s.data.toList = false := by simpa using ho
      have hr : rightB s.data.toList = true ∧ l.length ≤ 6 := by
        rcases hs with hs | hs
        · rw [hn] at hs; cases hs.1
        · exact hs
      have := right_len hr.1
      rw [len_str] at this
      exact text_call n s A c l ih hn w hat hfl (by omega) (by omega) (by omega) hL
  · simp [hk0, hk1, hk2] at hf
end Go.Proofs.YtnghanpmmbcbbaaGreatDoor
namespace Go.Proofs.YtnghanpmmbcbbaaGreatDoor
open Go.RowKit
theorem str_one (w : World) (X : Int) (x : UInt8) (h : X = (x.toNat : Int)) :
    (convert 87 9 (.slice (some ⟨w.heap.size, 0, none⟩) 1 1)).run Tryz.prog (w.alloc (.cells #[.int .u8 X] 5)) = .ok (.string ⟨#[x]⟩) (w.alloc (.cells #[.int .u8 X] 5)) :=
  (Lies.one w 5 h).str 1 Tryz.underlying87 Tryz.underlying5 Tryz.underlying9
set_option maxHeartbeats 1000000 in
theorem ref_decimal (n : Nat) : ∀ (w : World), n ≤ 1048576 →
    Calls Tryz.prog 54 #[.int .i64 (n : Int)] w fun e w' => e = .returned (.string ⟨(Lib.decDigits n).toArray⟩) ∧ Below w.heap.size w w' := by
  induction n using Nat.strongRecOn with
  | _ n ih =>
    intro w hn
    have h0 : decide ((n : Int) < 0) = false := by simp
    obtain ⟨y, hy⟩ : ∃ y : UInt8, y = UInt8.ofNat (48 + n % 10) := ⟨_, rfl⟩
    have hcv := str_one w (48 + (n : Int) % 10) y (by rw [hy, digit_nat (by omega)]; omega)
    by_cases h : n < 10
    · have h' : (n : Int) < 10 := by omega
      have HV := Lib.hid (show Lib.decDigits n = [y] by rw [dec_small h, hy, show n % 10 = n by omega])
      clear ih h hn hy
      go_enter Tryz.func54, Tryz.ntmps54
      go_wp2_with fail
      go_ret
      exact ⟨ret_str (by rw [HV.out]), (Below.refl _ _).alloc (Nat.le_refl _) _⟩
    · have h' : decide ((n : Int) < 10) = false := by simp; omega
      have HV := dec_big h
      rw [← hy] at HV
      have hb : (n : Int) ≤ 1048576 := by omega
      have IH := fun w' => ih (n / 10) (by omega) w' (by omega)
      have e : ((n / 10 : Nat) : Int) = (n : Int) / 10 := by omega
      rw [e] at IH
      have hl := dec_len7 (n := n / 10) (by omega)
      obtain ⟨x, hx⟩ : ∃ x : List UInt8, x = Lib.decDigits (n / 10) := ⟨_, rfl⟩
      rw [← hx] at IH hl HV
      have q := Lib.hid IH
      have HV := Lib.hid HV
      have hz : ¬ 9223372036854775807 < x.length + 1 := by omega
      clear ih h hn e IH hx hl hy
      go_enter Tryz.func54, Tryz.ntmps54
      go_wp2_with fail
      ((with_reducible refine (q.out _).mono ?_); rintro e w' ⟨rfl, hb2⟩)
      go_wp2_with fail
      go_ret
      exact ⟨ret_str (by rw [HV.out]; exact append_str _ [_]), ((Below.refl _ _).alloc (Nat.le_refl _) _).trans (hb2.mono (by simp))⟩
theorem ref_label_in (n : Nat) (w : World) (hn : n ≤ 1048576) :
    Calls Tryz.prog 29 #[.int .i64 (n : Int)] w fun e w' => e = .returned (.string ⟨(label n).toArray⟩) ∧ Below w.heap.size w w' := by
  have h1 : decide ((n : Int) < 0) = false := by simp
  have h2 : decide ((1048576 : Int) < (n : Int)) = false := by simp; omega
  have HI := Lib.hid (ref_decimal n w hn)
  have h3 : ¬ 9223372036854775807 < 1 + (Lib.decDigits n).length := by have := dec_len7 hn; omega
  clear hn
  go_enter Tryz.func29, Tryz.ntmps29
  go_wp2_with (go_at_call 54; refine HI.out.mono ?_; rintro e w' ⟨rfl, hb⟩)
  go_ret
  exact ⟨ret_str (append_str [86] _), hb⟩
def Numb (l : List UInt8) (w : World) (e : Ending) (w' : World) : Prop :=
  ((∃ n, IsLabel l n ∧ e = .returned (.tuple #[.int .i64 (n : Int), .bool true])) ∨ (NoLabel l ∧ e = .returned (.tuple #[.int .i64 0, .bool false]))) ∧ Below w.heap.size w w'
def tail (s : ByteArray) (k : Nat) : List UInt8 := (s.data.toList.take k).drop 1
def Digits (l : List UInt8) : Prop := ∀ c ∈ l, 48 ≤ c.toNat ∧ c.toNat ≤ 57
end Go.Proofs.YtnghanpmmbcbbaaGreatDoor
namespace Go.Proofs.YtnghanpmmbcbbaaGreatDoor
open Go.RowKit
set_option maxHeartbeats 1000000 in
theorem ref_dec_pos (n : Nat) : ∀ (w : World), n ≤ 2147483648 →
    Calls Tryz.prog 54 #[.int .i64 (n : Int)] w fun e w' => e = .returned (.string ⟨(Lib.decDigits n).toArray⟩) ∧ Below w.heap.size w w' := by
  induction n using Nat.strongRecOn with
  | _ n ih =>
    intro w hn
    have h0 : decide ((n : Int) < 0) = false := by simp
    obtain ⟨y, hy⟩ : ∃ y : UInt8, y = UInt8.ofNat (48 + n % 10) := ⟨_, rfl⟩
    have hcv := str_one w (48 + (n : Int) % 10) y (by rw [hy, digit_nat (by omega)]; omega)
    by_cases h : n < 10
    · have h' : (n : Int) < 10 := by omega
      have HV := Lib.hid (show Lib.decDigits n = [y] by rw [dec_small h, hy, show n % 10 = n by omega])
      clear ih h hn hy
      go_enter Tryz.func54, Tryz.ntmps54
      go_wp2_with fail
      go_ret
      exact ⟨ret_str (by rw [HV.out]), (Below.refl _ _).alloc (Nat.le_refl _) _⟩
    · have h' : decide ((n : Int) < 10) = false := by simp; omega
      have HV := dec_big h
      rw [← hy] at HV
      have hb : (n : Int) ≤ 2147483648 := by omega
      have IH := fun w' => ih (n / 10) (by omega) w' (by omega)
      have e : ((n / 10 : Nat) : Int) = (n : Int) / 10 := by omega
      rw [e] at IH
      have hl := dec_len10 (n := n / 10) (by omega)
      obtain ⟨x, hx⟩ : ∃ x : List UInt8, x = Lib.decDigits (n / 10) := ⟨_, rfl⟩
      rw [← hx] at IH hl HV
      have q := Lib.hid IH
      have HV := Lib.hid HV
      have hz : ¬ 9223372036854775807 < x.length + 1 := by omega
      clear ih h hn e IH hx hl hy
      go_enter Tryz.func54, Tryz.ntmps54
      go_wp2_with fail
      ((with_reducible refine (q.out _).mono ?_); rintro e w' ⟨rfl, hb2⟩)
      go_wp2_with fail
      go_ret
      exact ⟨ret_str (by rw [HV.out]; exact append_str _ [_]), ((Below.refl _ _).alloc (Nat.le_refl _) _).trans (hb2.mono (by simp))⟩
set_option maxHeartbeats 2000000 in
set_option maxRecDepth 10000 in
theorem ref_dec_neg (m : Nat) : ∀ (w : World), 1 ≤ m → m ≤ 2147483648 →
    Calls Tryz.prog 54 #[.int .i64 (-(m : Int))] w fun e w' => e = .returned (.string ⟨(45 :: Lib.decDigits m).toArray⟩) ∧ Below w.heap.size w w' := by
  induction m using Nat.strongRecOn with
  | _ m ih =>
    intro w h1 hm
    obtain ⟨n, hn⟩ : ∃ n : Int, -(m : Int) = n := ⟨_, rfl⟩
    obtain ⟨d, hd⟩ : ∃ d : Int, n.tdiv 10 = d := ⟨_, rfl⟩
    have hdm : d = -((m / 10 : Nat) : Int) := by
      rw [← hd, ← hn, Int.neg_tdiv]; rfl
    have h0 : n < 0 := by omega
    obtain ⟨y, hy⟩ : ∃ y : UInt8, y = UInt8.ofNat (48 + m % 10) := ⟨_, rfl⟩
    have hcv := str_one w ((48 + d * 10 - n) % 256) y (by rw [hy, digit_nat (by omega)]; omega)
    rw [hn]
    by_cases h : m < 10
    · have h' : -10 < n := by omega
      have hb : -2147483648 ≤ n := by omega
      have hd1 : -2147483648 ≤ d := by omega
      have hd2 : d ≤ 0 := by omega
      have HV := Lib.hid (show Lib.decDigits m = [y] by rw [dec_small h, hy, show m % 10 = m by omega])
      clear ih h hm hy hdm hn h1
      go_enter Tryz.func54, Tryz.ntmps54
      go_wp2_with fail
      go_ret
      exact ⟨ret_str (by rw [HV.out]; exact append_str [_] [_]), (Below.refl _ _).alloc (Nat.le_refl _) _⟩
    · have h' : decide (-10 < n) = false := by simp; omega
      have hb : -2147483648 ≤ n := by omega
      have HV := dec_big h
      rw [← hy] at HV
      have IH := fun w' => ih (m / 10) (by omega) w' (by omega) (by omega)
      rw [← hdm] at IH
      have hl := dec_len10 (n := m / 10) (by omega)
      have hd1 : -2147483648 ≤ d := by omega
      have hd2 : d ≤ 0 := by omega
      obtain ⟨x, hx⟩ : ∃ x : List UInt8, x = Lib.decDigits (m / 10) := ⟨_, rfl⟩
      rw [← hx] at IH hl HV
      have q := Lib.hid IH
      have HV := Lib.hid HV
      have hz : ¬ 9223372036854775807 < x.length + 1 + 1 := by omega
      have hz1 : ¬ 9223372036854775807 < x.length + 1 := by omega
      clear ih h hm IH hx hl hy hdm hn h1
      go_enter Tryz.func54, Tryz.ntmps54
      go_wp2_with fail
      ((with_reducible refine (q.out _).mono ?_); rintro e w' ⟨rfl, hb2⟩)
      go_wp2_with fail
      go_ret
      exact ⟨ret_str (by rw [HV.out]; exact append_str (45 :: _) [_]), ((Below.refl _ _).alloc (Nat.le_refl _) _).trans (hb2.mono (by simp))⟩
theorem ref_dec (n : Int) (w : World) (h1 : -2147483648 ≤ n) (h2 : n ≤ 2147483648) :
    Calls Tryz.prog 54 #[.int .i64 n] w fun e w' => e = .returned (.string (S (Lib.itoa n))) ∧ Below w.heap.size w w' := by
  by_cases h : n < 0
  · obtain ⟨m, rfl⟩ : ∃ m : Nat, n = -(m : Int) := ⟨n.natAbs, by omega⟩
    rw [show Lib.itoa (-(m : Int)) = 45 :: Lib.decDigits m by unfold Lib.itoa; rw [if_pos h]; simp]
    exact ref_dec_neg m w (by omega) (by omega)
  · obtain ⟨m, rfl⟩ : ∃ m : Nat, n = (m : Int) := ⟨n.toNat, by omega⟩
    rw [show Lib.itoa (m : Int) = Lib.decDigits m by unfold Lib.itoa; rw [if_neg h]; simp]
    exact ref_dec_pos m w (by omega)
set_option maxHeartbeats 2000000 in
theorem rstrength_op (n : Int) (s : ByteArray) (v : Value) (w : World) (ho : opB s.data.toList = true) :
    Calls Tryz.prog 157 #[.agg #[.int .i64 2, .int .i64 n, .string s, v]] w fun e w' => e = .returned (.int .i64 ((ostr s.data.toList : Int) + 1)) ∧ Below w.heap.size w w' := by
  have Q := Lib.hid (fun W => ref_op_at s W ho)
  simp only [opB, operators, List.mem_cons, List.not_mem_nil, or_false, decide_eq_true_eq] at ho
  rcases ho with h | h | h | h | h
  all_goals
    obtain rfl := str_of h
    clear h
    go_enter Tryz.func157, Tryz.ntmps157
    go_wp2_with fail
    refine (Q.out _).mono ?_
    rintro e w' ⟨rfl, rfl⟩
    go_wp2_with fail
    go_ret
    exact ⟨rfl, (Below.refl _ _).alloc (Nat.le_refl _) _⟩
set_option maxHeartbeats 2000000 in
theorem rstrength_no (n : Int) (s : ByteArray) (v : Value) (w : World) (ho : opB s.data.toList = false) :
    Calls Tryz.prog 157 #[.agg #[.int .i64 2, .int .i64 n, .string s, v]] w fun e w' => e = .returned (.int .i64 3) ∧ Below w.heap.size w w' := by
  have Q := Lib.hid (fun W => ref_op_at s W ho)
  clear ho
  go_enter Tryz.func157, Tryz.ntmps157
  go_wp2_with fail
  refine (Q.out _).mono ?_
  rintro e w' ⟨rfl, rfl⟩
  go_wp2_with fail
  go_ret
  exact ⟨rfl, (Below.refl _ _).alloc (Nat.le_refl _) _⟩
theorem rstrength_other (k n : Int) (s : ByteArray) (v : Value) (w : World) (hk : k ≠ 2) :
    Calls Tryz.prog 157 #[.agg #[.int .i64 k, .int .i64 n, .string s, v]] w fun e w' => e = .returned (.int .i64 3) ∧ Below w.heap.size w w' := by
  go_enter Tryz.func157, Tryz.ntmps157
  go_wp2_with fail
  go_ret
  exact ⟨rfl, (Below.refl _ _).alloc (Nat.le_refl _) _⟩
theorem rstrength_at (t : Tm) (hf : t.form = true) (w : World) : Calls Tryz.prog 157 #[t.val] w fun e w' => e = .returned (.int .i64 ((t.pw : Int) + 1)) ∧ Below w.heap.size w w' := by
  obtain ⟨k, n, s, A, c, a⟩ := t
  show Calls Tryz.prog 157 #[.agg #[.int .i64 k, .int .i64 n, .string s, .slice A a.length c]] w fun e w' => e = .returned (.int .i64 ((ostr s.data.toList : Int) + 1)) ∧ Below w.heap.size w w'
  by_cases hk2 : k = 2
  · subst hk2
    by_cases ho : opB s.data.toList = true
    · exact rstrength_op n s _ w ho
    · have hn : ¬ ostr s.data.toList < 2 := fun h => ho ((ostr_op _).2 h)
      have he : ostr s.data.toList = 2 := by
        unfold ostr at hn ⊢
        by_cases a1 : s.data.toList = [43] ∨ s.data.toList = [45]
        · rw [if_pos a1] at hn; omega
        · by_cases a2 : s.data.toList = [42] ∨ s.data.toList = [47] ∨ s.data.toList = [37]
          · rw [if_neg a1, if_pos a2] at hn; omega
          · rw [if_neg a1, if_neg a2]
      rw [he]
      exact rstrength_no n s _ w (by simpa using ho)
  · have hs : s.size = 0 := by
      simp only [Tm.form] at hf
      by_cases hk0 : k = 0
      · subst hk0; simp only [if_true, Bool.and_eq_true, decide_eq_true_eq] at hf; exact hf.2.2.1
      by_cases hk1 : k = 1
      · subst hk1; simp only [if_true, show ¬ ((1 : Int) = 0) by omega, if_false, Bool.and_eq_true, decide_eq_true_eq] at hf; exact hf.2.2.1
      simp [hk0, hk1, hk2] at hf
    have hl : s.data.toList = [] := List.length_eq_zero_iff.1 (by rw [len_str]; exact hs)
    rw [hl]
    exact rstrength_other k n s _ w hk2
end Go.Proofs.YtnghanpmmbcbbaaGreatDoor
namespace Go.Proofs.YtnghanpmmbcbbaaGreatDoor
open Go.RowKit
def RTextAt (t : Tm) : Prop := ∀ w, t.At w → t.form = true → t.size ≤ 1000000 →
  Calls Tryz.prog 120 #[t.val] w fun e w' => e = .returned (.string (S (t.txt plain))) ∧ Below w.heap.size w w'
set_option maxHeartbeats 2000000 in
theorem roperand_at (t : Tm) (hT : RTextAt t) (P O : Int) (b : Bool) (hb : b = decide ((t.pw : Int) + 1 < P + O)) (hP1 : 0 ≤ P) (hP2 : P ≤ 3) (hO1 : 0 ≤ O) (hO2 : O ≤ 1) (w : World) (ht : t.At w) (hf : t.form = true) (hz : t.size ≤ 1000000) :
    Calls Tryz.prog 158 #[t.val, .int .i64 P, .int .i64 O] w fun e w' => e = .returned (.string (S (paren plain b (t.txt plain)))) ∧ Below w.heap.size w w' := by
  have hl := txt_bound hf hz
  have Q := Lib.hid (fun W (h : Below w.heap.size w W) => hT W (ht.below h) hf hz)
  have Q0 := Lib.hid (fun W => rstrength_at t hf W)
  obtain ⟨x, hx⟩ : ∃ x, t.txt plain = x := ⟨_, rfl⟩
  rw [hx] at Q hl ⊢
  obtain ⟨p, hp⟩ : ∃ p : Int, (t.pw : Int) + 1 = p := ⟨_, rfl⟩
  rw [hp] at Q0 hb
  have h1 : ¬ 9223372036854775807 < 1 + x.length := by omega
  have h2 : ¬ 9223372036854775807 < 1 + x.length + 1 := by omega
  clear hT ht hf hz hx hp hl
  obtain ⟨k, n, s, A, c, a⟩ := t
  show Calls Tryz.prog 158 #[.agg #[.int .i64 k, .int .i64 n, .string s, .slice A a.length c], .int .i64 P, .int .i64 O] w _
  have h0 : decide (p < P + O) = b := hb.symm
  cases b
  · clear hb
    go_enter Tryz.func158, Tryz.ntmps158
    go_wp2_with fail
    refine (Q0.out _).mono ?_
    rintro e w0 ⟨rfl, hb0⟩
    have hb0' := ((Below.refl w.heap.size w).alloc (Nat.le_refl _) (.cells #[.int .i64 k, .int .i64 n, .string s, .slice A a.length c] 69)).trans (hb0.mono (by simp))
    obtain ⟨hc0, hc1, hc2, hc3, _⟩ := box4 hb0
    clear hb0
    go_wp2_with fail
    refine (Q.out _ hb0').mono ?_
    rintro e w1 ⟨rfl, hb⟩
    have HB := Lib.hid (hb0'.trans (hb.mono hb0'.size))
    clear hb hb0'
    go_wp2_with fail
    go_ret
    exact ⟨rfl, HB.out⟩
  · clear hb
    go_enter Tryz.func158, Tryz.ntmps158
    go_wp2_with fail
    refine (Q0.out _).mono ?_
    rintro e w0 ⟨rfl, hb0⟩
    have hb0' := ((Below.refl w.heap.size w).alloc (Nat.le_refl _) (.cells #[.int .i64 k, .int .i64 n, .string s, .slice A a.length c] 69)).trans (hb0.mono (by simp))
    obtain ⟨hc0, hc1, hc2, hc3, _⟩ := box4 hb0
    clear hb0
    go_wp2_with fail
    refine (Q.out _ hb0').mono ?_
    rintro e w1 ⟨rfl, hb⟩
    have HB := Lib.hid (hb0'.trans (hb.mono hb0'.size))
    clear hb hb0'
    go_wp2_with fail
    go_ret
    refine ⟨ret_str ?_, HB.out⟩
    apply WideShapes.bytes_inj
    simp [paren, Sty.lp, Sty.rp, plain, sp]
theorem join_len (l : List (List UInt8)) : (tjoinT l).length ≤ (l.map fun x => x.length + 3).sum := by
  rcases l with _ | ⟨x, r⟩
  · simp [tjoinT]
  · have := rest_bound slim_plain r
    simp only [tjoinT, List.length_append, List.map_cons, List.sum_cons]
    omega
theorem sum_take (l : List Nat) (k : Nat) : (l.take k).sum ≤ l.sum := by
  have := List.take_append_drop k l
  have h2 := congrArg List.sum this
  rw [List.sum_append] at h2
  omega
theorem join_bound {l : List Tm} (hf : formL l = true) (hz : sizeL l ≤ 1000000) (k : Nat) : (tjoinT (txtL plain (l.take k))).length ≤ 51000000 := by
  have h1 := join_len (txtL plain (l.take k))
  have h2 := (txt_len slim_plain).2 l hf
  have h3 := sum_take ((txtL plain l).map fun x => x.length + 3) k
  rw [← List.map_take, txtL_map, ← List.map_take, ← txtL_map, ← txtL_map] at h3
  omega
set_option maxHeartbeats 2000000 in
theorem rlist_at (l : List Tm) (ih : ∀ x ∈ l, RTextAt x) (A : Option Addr) (c : Nat) (w : World) (hl : Lst w A l c) (hf : formL l = true) (hz : sizeL l ≤ 1000000) (hlen : l.length ≤ 1000000) :
    Calls Tryz.prog 156 #[.slice A l.length c] w fun e w' => e = .returned (.string (S (tjoinT (txtL plain l)))) ∧ Below w.heap.size w w' := by
  have hll : l.length ≤ 9223372036854775807 := by omega
  have Q := Lib.hid ih
  have HL := Lib.hid hl
  have HF := Lib.hid hf
  have HZ := Lib.hid hz
  have HJ := Lib.hid (join_bound hf hz)
  clear ih hf hz hl
  go_enter Tryz.func156, Tryz.ntmps156
  go_wp2_with fail
  go_loopw [3, 4] (fun z i wr => ∃ (j : Nat) (x : List UInt8), j ≤ l.length ∧ i = .int .i64 j ∧ z = .string (S x) ∧ Hid (tjoinT (txtL plain (l.take j)) = x) ∧ Below w.heap.size w wr) (fun _ i _ => l.length - (intOf i).toNat)
  case atStart => exact ⟨0, [], Nat.zero_le _, rfl, rfl, Lib.hid rfl, Below.refl _ _⟩
  case round =>
    obtain ⟨j, z, hj, rfl, rfl, HI, hbw⟩ := hrel
    by_cases hlt : j < l.length
    · obtain ⟨b, o, rfl, ⟨c0, c1, c2, c3⟩, hx⟩ := (HL.out.below hbw).get hlt
      have hmem := getD_mem hlt
      have hfx := formL_mem hmem HF.out
      have hzx := size_mem hmem
      have hb1 := HJ.out j
      have hb2 := HJ.out (j + 1)
      rw [HI.out] at hb1
      have hbt := txt_bound hfx (by have := HZ.out; omega)
      have HNX := Lib.hid (show txtL plain (l.take (j + 1)) = txtL plain (l.take j) ++ [(l.getD j default).txt plain] by
        rw [ttake_next hlt, txtL_append]; rfl)
      obtain ⟨x, hx0⟩ : ∃ x, l.getD j default = x := ⟨_, rfl⟩
      rw [hx0] at hmem c0 c1 c2 c3 hx hfx hzx hbt HNX
      have Q1 := Lib.hid (fun W (h : Below wr.heap.size wr W) => Q.out x hmem W (hx.below h) hfx (by have := HZ.out; omega))
      obtain ⟨y, hy⟩ : ∃ y, x.txt plain = y := ⟨_, rfl⟩
      rw [hy] at Q1 HNX hbt
      clear hx0 hmem hx hfx hzx hy
      obtain ⟨k, n, s', A', c', a⟩ := x
      simp only [Tm.kind, Tm.num, Tm.name, Tm.at_, Tm.args, Tm.cap] at c0 c1 c2 c3
      by_cases hj0 : j = 0
      · have hj0' := hj0
        subst hj0
        simp only [Nat.zero_mul, Nat.add_zero] at c0 c1 c2 c3
        have h1 : ¬ 9223372036854775807 < z.length + y.length := by omega
        have HNN := Lib.hid (show tjoinT (txtL plain (l.take (0 + 1))) = z ++ y by
          rw [HNX.out, ← HI.out]; simp [txtL, tjoinT, restT])
        clear hb1 hb2 hbt hj0' HNX
        go_wp2_with fail
        refine (Q1.out _ (Below.refl _ _)).mono ?_
        rintro e w2 ⟨rfl, hb2⟩
        have HB := Lib.hid (hbw.trans (hb2.mono hbw.size))
        clear hb2 c0 c1 c2 c3
        go_wp2_with fail
        go_roundw
        case rel => exact ⟨0 + 1, _, by omega, by go_num, by rw [append_str], HNN, HB.out⟩
        case measure => simp [intOf]; omega
      · have hj1 : 0 < j := by omega
        have h1 : ¬ 9223372036854775807 < z.length + 2 := by omega
        have h2 : ¬ 9223372036854775807 < z.length + 2 + y.length := by omega
        have HNN := Lib.hid (show tjoinT (txtL plain (l.take (j + 1))) = z ++ [44, 32] ++ y by
          rw [HNX.out, join_snoc _ _ (fun h => by
            have := congrArg List.length h
            rw [txtL_len, List.length_take] at this
            simp only [List.length_nil] at this; omega), HI.out])
        clear hb1 hb2 hbt hj0 HNX
        go_wp2_with fail
        refine (Q1.out _ (Below.refl _ _)).mono ?_
        rintro e w2 ⟨rfl, hb2⟩
        have HB := Lib.hid (hbw.trans (hb2.mono hbw.size))
        clear hb2 c0 c1 c2 c3
        go_wp2_with fail
        go_roundw
        case rel => exact ⟨j + 1, _, by omega, by go_num, by rw [show (⟨#[44, 32]⟩ : ByteArray) = S [44, 32] from rfl, append_str, append_str], HNN, HB.out⟩
        case measure => simp [intOf]; omega
    · obtain rfl : j = l.length := by omega
      have HV := Lib.hid (show tjoinT (txtL plain l) = z by rw [← HI.out, List.take_of_length_le (Nat.le_refl _)])
      clear hlt HI
      go_wp2_with fail
      go_ret
      exact ⟨ret_str (by rw [HV.out]), hbw⟩
set_option maxHeartbeats 2000000 in
theorem rcall_at (s : ByteArray) (l : List Tm) (ih : ∀ x ∈ l, RTextAt x) (A : Option Addr) (c : Nat) (w : World) (hl : Lst w A l c) (hf : formL l = true) (hz : sizeL l ≤ 1000000) (hs : s.size ≤ 1000000) (hlen : l.length ≤ 1000000) :
    Calls Tryz.prog 118 #[.string s, .slice A l.length c] w fun e w' => e = .returned (.string (S (callT plain s.data.toList (txtL plain l)))) ∧ Below w.heap.size w w' := by
  rcases hcase : l with _ | ⟨x0, r0⟩
  · go_enter Tryz.func118, Tryz.ntmps118
    go_wp2_with fail
    go_ret
    exact ⟨rfl, Below.refl _ _⟩
  rw [← hcase]
  have h0 : 0 < l.length := by rw [hcase]; simp
  have hj := join_bound hf hz l.length
  rw [List.take_of_length_le (Nat.le_refl _)] at hj
  have QL := Lib.hid (rlist_at l ih A c w hl hf hz hlen)
  have HV := Lib.hid (show callT plain s.data.toList (txtL plain l) = s.data.toList ++ [40] ++ tjoinT (txtL plain l) ++ [41] by
    rw [hcase]; simp only [txtL, plain_call, tjoinT])
  have hll : l.length ≤ 9223372036854775807 := by omega
  have hne : (((l.length : Nat) : Int) == 0) = false := by rw [beq_eq_false_iff_ne]; omega
  obtain ⟨J, hJ⟩ : ∃ J, tjoinT (txtL plain l) = J := ⟨_, rfl⟩
  rw [hJ] at QL HV hj
  have s1 : ¬ 9223372036854775807 < s.size + 1 := by omega
  have s2 : ¬ 9223372036854775807 < s.size + 1 + J.length := by omega
  have s3 : ¬ 9223372036854775807 < s.size + 1 + J.length + 1 := by omega
  clear ih hl hf hz hs hlen hcase hj hJ
  go_enter Tryz.func118, Tryz.ntmps118
  go_wp2_with fail
  refine QL.out.mono ?_
  rintro e w5 ⟨rfl, hb5⟩
  go_wp2_with fail
  go_ret
  refine ⟨ret_str ?_, hb5⟩
  apply WideShapes.bytes_inj
  rw [show (S (callT plain s.data.toList (txtL plain l))).data.toList = callT plain s.data.toList (txtL plain l) from rfl, HV.out]
  simp
end Go.Proofs.YtnghanpmmbcbbaaGreatDoor
