/-
  Contracts of the program's text, call, operand, between and strength.
-/
import Derived.Test.YtlpibnbabgfiiaaGreatDoorTtLen
import Derived.Test.YtlpibnbabgfiiaaGreatDoorTtBytes
import Derived.Test.YtlpibnbabgfiiaaGreatDoorNmLab
import Derived.Test.YtlpibnbabgfiiaaGreatDoorTmFun
import Derived.Deep.AppendLies
import Derived.Laws.MakeOwn
import Derived.Deep.RegionHeld3
namespace Go.Proofs.YtlpibnbabgfiiaaGreatDoor
open Go.RowKit

theorem itoa_any (n : Int) (w : World) (h1 : -2147483648 ≤ n) (h2 : n ≤ 2147483648) (hL : Laid w) :
    Calls Tryz.prog 59 #[.int .i64 n] w fun e w' => e = .returned (.string ⟨(Lib.itoa n).toArray⟩) ∧ Below w.heap.size w w' := by
  refine (Tryz.strconv_Itoa n (by omega) (by omega) w hL.tab).mono ?_
  rintro e w' ⟨rfl, k, os, rfl⟩
  exact ⟨rfl, below_grow _ _ _⟩

theorem strength_at (t : Tm) (w : World) : Calls Tryz.prog 64 #[t.val] w fun e w' => e = .returned (.int .i64 (t.pw : Int)) ∧ Below w.heap.size w w' := by
  obtain ⟨k, n, s, A, c, a⟩ := t
  have Q := Lib.hid (fun W => ostr_at s W (n := ostr s.data.toList) rfl)
  show Calls Tryz.prog 64 #[.agg #[.int .i64 k, .int .i64 n, .string s, .slice A a.length c]] w fun e w' => e = .returned (.int .i64 (ostr s.data.toList : Int)) ∧ Below w.heap.size w w'
  go_enter Tryz.func64, Tryz.ntmps64
  go_wp2_with fail
  refine (Q.out _).mono ?_
  rintro e w' ⟨rfl, rfl⟩
  go_wp2_with fail
  go_ret
  exact ⟨rfl, (Below.refl _ _).alloc (Nat.le_refl _) _⟩

theorem between_at (x y z : List UInt8) (w : World) (hx : x.length ≤ 1000000000) (hy : y.length ≤ 1000000000) (hz : z.length ≤ 1000000000) :
    Calls Tryz.prog 37 #[.string ⟨x.toArray⟩, .string ⟨y.toArray⟩, .string ⟨z.toArray⟩] w fun e w' => e = .returned (.string ⟨(opT y x z).toArray⟩) ∧ w = w' := by
  have h1 : ¬ 9223372036854775807 < x.length + 1 := by omega
  have h2 : ¬ 9223372036854775807 < x.length + 1 + y.length := by omega
  have h3 : ¬ 9223372036854775807 < x.length + 1 + y.length + 1 := by omega
  have h4 : ¬ 9223372036854775807 < x.length + 1 + y.length + 1 + z.length := by omega
  clear hx hy hz
  go_enter Tryz.func37, Tryz.ntmps37
  go_wp2_with fail
  go_ret
  refine ⟨ret_str ?_, rfl⟩
  apply WideShapes.bytes_inj
  simp [opT]

/-- The text of a term, as a string. -/
abbrev S (l : List UInt8) : ByteArray := ⟨l.toArray⟩
def TextAt (t : Tm) : Prop := ∀ w, t.At w → t.form = true → t.size ≤ 1000000 → Laid w →
  Calls Tryz.prog 33 #[t.val] w fun e w' => e = .returned (.string (S (t.txt plain))) ∧ Below w.heap.size w w'
theorem txt_bound {t : Tm} (hf : t.form = true) (hz : t.size ≤ 1000000) : (t.txt plain).length ≤ 51000000 := by have := (txt_len slim_plain).1 t hf; omega

theorem toperand_at (t : Tm) (hT : TextAt t) (b : Bool) (w : World) (ht : t.At w) (hf : t.form = true) (hz : t.size ≤ 1000000) (hL : Laid w) :
    Calls Tryz.prog 63 #[t.val, .bool b] w fun e w' => e = .returned (.string (S (paren plain b (t.txt plain)))) ∧ Below w.heap.size w w' := by
  have hb := txt_bound hf hz
  have Q := Lib.hid (fun W (h : Below w.heap.size w W) => hT W (ht.below h) hf hz (hL.below h))
  obtain ⟨x, hx⟩ : ∃ x, t.txt plain = x := ⟨_, rfl⟩
  rw [hx] at Q hb ⊢
  have h1 : ¬ 9223372036854775807 < 1 + x.length := by omega
  have h2 : ¬ 9223372036854775807 < 1 + x.length + 1 := by omega
  clear hT ht hf hz hL hx hb
  obtain ⟨k, n, s, A, c, a⟩ := t
  show Calls Tryz.prog 63 #[.agg #[.int .i64 k, .int .i64 n, .string s, .slice A a.length c], .bool b] w _
  cases b
  · go_enter Tryz.func63, Tryz.ntmps63
    go_wp2_with fail
    refine (Q.out _ ((Below.refl _ _).alloc (Nat.le_refl _) _)).mono ?_
    rintro e w1 ⟨rfl, hb⟩
    have HB := Lib.hid (((Below.refl w.heap.size w).alloc (Nat.le_refl _) (.cells #[.int .i64 k, .int .i64 n, .string s, .slice A a.length c] 24)).trans (hb.mono (by simp)))
    clear hb
    go_wp2_with fail
    go_ret
    exact ⟨rfl, HB.out⟩
  · go_enter Tryz.func63, Tryz.ntmps63
    go_wp2_with fail
    refine (Q.out _ ((Below.refl _ _).alloc (Nat.le_refl _) _)).mono ?_
    rintro e w1 ⟨rfl, hb⟩
    have HB := Lib.hid (((Below.refl w.heap.size w).alloc (Nat.le_refl _) (.cells #[.int .i64 k, .int .i64 n, .string s, .slice A a.length c] 24)).trans (hb.mono (by simp)))
    clear hb
    go_wp2_with fail
    go_ret
    refine ⟨ret_str ?_, HB.out⟩
    apply WideShapes.bytes_inj
    simp [paren, Sty.lp, Sty.rp, plain, sp]

/-! ### call -/
theorem str_info : (Tryz.prog.info? 9).map (fun i => (i.zero, i.size, i.bytes)) = some (some (.string ⟨#[]⟩), 1, 16) := by kernel_rfl
def scells (l : List (List UInt8)) : List Value := l.map fun x => .string (S x)
theorem scells_append (l m : List (List UInt8)) : scells (l ++ m) = scells l ++ scells m := by simp [scells]
theorem scells_len (l : List (List UInt8)) : (scells l).length = l.length := by simp [scells]
/-- The first j texts are in a row of the call's own. -/
def Texts (w : World) (l : List Tm) (j : Nat) (z : Value) (wr : World) : Prop := wr.ownsRow w.heap.size 9 1 z j (scells (txtL plain (l.take j))) ∧ Below w.heap.size w wr
theorem own_below {w w' : World} {base : Nat} {e : TypeId} {size : Nat} {v : Value} {n : Nat} {xs : List Value} (h : w.ownsRow base e size v n xs) (hb : Below w.heap.size w w') : w'.ownsRow base e size v n xs :=
  World.ownsRow.kept (row := none) h ⟨hb.os, hb.tape, hb.output, hb.size, fun k hk _ => hb.block k hk⟩ (by
    rcases h.2 with ⟨rfl, _⟩ | ⟨g, cap, cur, rfl, _⟩
    · exact .inl rfl
    · exact .inr (by simp [Value.ownBlock]))
theorem own_lt' {w : World} {base : Nat} {e : TypeId} {size : Nat} {v : Value} {n : Nat} {xs : List Value} (h : w.ownsRow base e size v n xs) : ∀ k, v.ownBlock = some k → base ≤ k ∧ k < w.heap.size := by
  intro k hk
  rcases h.2 with ⟨rfl, _⟩ | ⟨g, cap, cur, rfl, hb, hg, _⟩
  · simp [Value.ownBlock] at hk
  · simp only [Value.ownBlock, Option.some.injEq] at hk
    subst hk
    refine ⟨hb, ?_⟩
    rcases Nat.lt_or_ge g w.heap.size with h | h
    · exact h
    · rw [Array.getElem?_eq_none h] at hg; cases hg
theorem lst_val {w : World} {A : Option Addr} {l : List Tm} {c : Nat} (h : Lst w A l c) (h0 : 0 < l.length) : ∃ b o, A = some ⟨b, o, none⟩ ∧ RowAt w l b o := h.2.2 h0

set_option maxHeartbeats 2000000 in
set_option maxRecDepth 10000 in
theorem tcall_at (s : ByteArray) (l : List Tm) (ih : ∀ x ∈ l, TextAt x) (A : Option Addr) (c : Nat) (w : World) (hl : Lst w A l c) (hf : formL l = true) (hz : sizeL l ≤ 1000000) (hs : s.size ≤ 1000000) (hlen : l.length ≤ 1000000) (hL : Laid w) :
    Calls Tryz.prog 36 #[.string s, .slice A l.length c] w fun e w' => e = .returned (.string (S (callT plain s.data.toList (txtL plain l)))) ∧ Below w.heap.size w w' := by
  rcases hcase : l with _ | ⟨x0, r0⟩
  · go_enter Tryz.func36, Tryz.ntmps36
    go_wp2_with fail
    go_ret
    exact ⟨rfl, Below.refl _ _⟩
  rw [← hcase]
  have h0 : 0 < l.length := by rw [hcase]; simp
  obtain ⟨b, o, rfl, hrow⟩ := hl.2.2 h0
  obtain ⟨i0, hi, hz0, hz1, hz2⟩ := info_parts str_info
  obtain ⟨w0, hmk, hown, hg⟩ := run_make_own (P := Tryz.prog) w w.heap.size 52 9 i0 _ 1 Tryz.underlying52 hi hz0 hz1 .i64 .i64 l.length (by rw [hz2]; omega) (by unfold maxLen; omega) (Nat.le_refl _)
  have hll : l.length ≤ 9223372036854775807 := by omega
  have Q := Lib.hid ih
  have HRow := Lib.hid hrow
  have HF := Lib.hid hf
  have HZ := Lib.hid hz
  have HLd := Lib.hid hL
  have HC := Lib.hid hcase
  have HT0 := Lib.hid (show Texts w l 0 (.slice (some ⟨w.heap.size, 0, none⟩) 0 l.length) w0 from ⟨hown, (Below.refl _ _).grown hg (Nat.le_refl _) (fun k h => by cases h)⟩)
  have hne : (((l.length : Nat) : Int) == 0) = false := by rw [beq_eq_false_iff_ne]; omega
  clear hown hg ih hrow hf hz hL hcase hl
  go_enter Tryz.func36, Tryz.ntmps36
  go_wp2_with fail
  go_loopw [5, 17] (fun z i wr => ∃ (j : Nat) (x : Value), j ≤ l.length ∧ i = .int .i64 j ∧ z = x ∧ Hid (Texts w l j x wr)) (fun _ i _ => l.length - (intOf i).toNat)
  case atStart => exact ⟨0, _, Nat.zero_le _, rfl, rfl, HT0⟩
  case round =>
    clear HT0 hmk
    obtain ⟨j, z, hj, rfl, hzx, hI⟩ := hrel
    have hzx' := hzx.symm
    clear hzx
    subst hzx'
    by_cases hlt : j < l.length
    · have hmem := getD_mem hlt
      obtain ⟨x, hx⟩ : ∃ x, l.getD j default = x := ⟨_, rfl⟩
      have hr := (((At_keep hI.out.2).2 _ _ _ HRow.out)).get hlt
      rw [hx] at hr hmem
      obtain ⟨⟨r0, r1, r2, r3⟩, hat⟩ := hr
      have hfx := formL_mem hmem HF.out
      have hzx := size_mem hmem
      have Q1 := Lib.hid (fun W (h : Below wr.heap.size wr W) => Q.out x hmem W (hat.below h) hfx (by have := HZ.out; omega) (HLd.out.below (hI.out.2.trans (h.mono hI.out.2.size))))
      have HX := Lib.hid hx
      have hbd := txt_bound hfx (by have := HZ.out; omega)
      obtain ⟨y, hy⟩ : ∃ y, x.txt plain = y := ⟨_, rfl⟩
      rw [hy] at Q1 hbd
      have HY := Lib.hid hy
      clear hat hfx hzx hmem hx hy
      obtain ⟨k, n, s', A', c', a⟩ := x
      simp only [Tm.kind, Tm.num, Tm.name, Tm.at_, Tm.args, Tm.cap] at r0 r1 r2 r3
      go_wp2_with fail
      refine (Q1.out _ ((Below.refl _ _).alloc (Nat.le_refl _) _)).mono ?_
      rintro e w2 ⟨rfl, hb2⟩
      have hb3 : Below wr.heap.size wr w2 := ((Below.refl wr.heap.size wr).alloc (Nat.le_refl _) (.cells #[.int .i64 k, .int .i64 n, .string s', .slice A' a.length c'] 24)).trans (hb2.mono (by simp))
      have HOwn := Lib.hid (own_below hI.out.1 hb3)
      have HB3 := Lib.hid (hI.out.2.trans (hb3.mono hI.out.2.size))
      have hsz : w.heap.size ≤ w2.heap.size := HB3.out.size
      clear hb2 hb3 r0 r1 r2 r3
      go_wp2_with (at_builtin; refine wpList_append_lies _ rfl _ _ 52 rfl w.heap.size 9 i0 _ 1 16 Tryz.underlying52 hi hz0 hz1 hz2 rfl (by decide) z j _ rfl (HOwn.out.alloc _) ⟨w2.heap.size, 0, none⟩ 1 1 [.string (S y)] rfl rfl (World.news_of_block (cs := #[.string (S y)]) (t := 9) (fr := (0, 0)) (heap_alloc_new w2 _)) (by simp [Value.oneCell']) (by decide) (by unfold maxLen; omega) (by omega) (by simp; omega) _ rfl ?_; intro g cap w4 hown hg hat hglt)
      have HN := Lib.hid (show Texts w l (j + 1) (.slice (some ⟨g, 0, none⟩) (j + 1) cap) w4 from ⟨by
        rw [ttake_next hlt, HX.out, txtL_append, scells_append]
        simpa [txtL, scells, HY.out] using hown, (HB3.out.alloc hsz _).grown hg (by simp; omega) (fun k h => (own_lt' HOwn.out k h).1)⟩)
      clear hown hg hat hglt
      go_wp2_with fail
      go_roundw
      case rel => exact ⟨j + 1, _, by omega, by go_num, rfl, HN⟩
      case measure => simp [intOf]; omega
    · obtain rfl : j = l.length := by omega
      clear hlt
      have hown := hI.out.1
      rw [List.take_of_length_le (Nat.le_refl _)] at hown
      have hcl : ((txtL plain l).map S).length = l.length := by rw [List.length_map, txtL_len]
      rcases hown.2 with ⟨_, h⟩ | ⟨g, cap, cur, rfl, hb, hg, hle, hcap, _⟩
      · omega
      have hcells : ∀ (j : Nat) x, ((txtL plain l).map S)[j]? = some x → wr.cell? ⟨g, 0 + j, none⟩ = some (.string x) := fun j x hx => by
        have hj : j < l.length := by
          have := (List.getElem?_eq_some_iff.1 hx).1
          omega
        have := World.ownsRow.cellAt hown j (by rw [Nat.mul_one]; exact hj)
        rw [Nat.zero_add, this]
        simp only [scells, List.getElem?_map] at hx ⊢
        obtain ⟨y, hy, rfl⟩ := Option.map_eq_some_iff.1 hx
        rw [hy]; rfl
      have hmap : ((txtL plain l).map S).map (fun x => x.data.toList) = txtL plain l := by
        rw [List.map_map]
        conv => rhs; rw [← List.map_id (txtL plain l)]
        rfl
      have hjoin : Lib.join (((txtL plain l).map S).map (fun x => x.data.toList)) [44, 32] = joinT (txtL plain l) := by
        rw [hmap, HC.out]
        simp only [txtL, joinT]
        exact join_txt _ _
      have hlen2 : (joinT (txtL plain l)).length ≤ 60000000 := by
        have h1 := call_len slim_plain s.data.toList (txtL plain l)
        have h2 := (txt_len slim_plain).2 l HF.out
        have h3 := HZ.out
        rw [len_str] at h1
        rw [HC.out] at h1 ⊢
        rw [HC.out] at h2
        simp only [txtL, plain_call, joinT, List.length_append, List.length_cons, List.length_nil] at h1 h2 ⊢
        rw [len_str] at h1
        rw [HC.out] at h3
        omega
      have hlt2 : g < wr.heap.size := (own_lt' hown g rfl).2
      have QJ := Tryz.strings_Join g 0 cap ((txtL plain l).map S) ⟨#[44, 32]⟩ wr hcells hlt2 (by rw [hcl]; omega) (by rw [hcl]; exact hle) (by
        show (Lib.join (((txtL plain l).map S).map (fun x => x.data.toList)) [44, 32]).length ≤ _
        rw [hjoin]; omega)
      have hre : (Lib.join (((txtL plain l).map S).map (fun x => x.data.toList)) (⟨#[44, 32]⟩ : ByteArray).data.toList) = joinT (txtL plain l) := hjoin
      rw [hre, hcl] at QJ
      have HJ := Lib.hid QJ
      have HB := Lib.hid hI.out.2
      have HV := Lib.hid (show callT plain s.data.toList (txtL plain l) = s.data.toList ++ [40] ++ joinT (txtL plain l) ++ [41] by
        rw [HC.out]; simp only [txtL, plain_call, joinT])
      obtain ⟨J, hJ⟩ : ∃ J, joinT (txtL plain l) = J := ⟨_, rfl⟩
      rw [hJ] at HJ HV hlen2
      have s1 : ¬ 9223372036854775807 < s.size + 1 := by omega
      have s2 : ¬ 9223372036854775807 < s.size + 1 + J.length := by omega
      have s3 : ¬ 9223372036854775807 < s.size + 1 + J.length + 1 := by omega
      clear hown hcl hcells hmap hjoin hlen2 QJ hre hJ hI hg hle hcap
      go_wp2_with fail
      refine HJ.out.mono ?_
      rintro e w5 ⟨rfl, hb5⟩
      have HB5 := Lib.hid (HB.out.trans (hb5.mono HB.out.size))
      clear hb5
      go_wp2_with fail
      go_ret
      refine ⟨ret_str ?_, HB5.out⟩
      apply WideShapes.bytes_inj
      rw [show (S (callT plain s.data.toList (txtL plain l))).data.toList = callT plain s.data.toList (txtL plain l) from rfl, HV.out]
      simp
end Go.Proofs.YtlpibnbabgfiiaaGreatDoor
