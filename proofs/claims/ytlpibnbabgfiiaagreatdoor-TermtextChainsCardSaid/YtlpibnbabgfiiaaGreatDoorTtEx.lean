/-
  The contract of exampleHolds.
-/
import Derived.Test.YtlpibnbabgfiiaaGreatDoorTtExP
import Derived.Test.YtlpibnbabgfiiaaGreatDoorTrFun
import Derived.Test.YtlpibnbabgfiiaaGreatDoorTtWhole
import Derived.Test.YtlpibnbabgfiiaaGreatDoorTmTwo
namespace Go.Proofs.YtlpibnbabgfiiaaGreatDoor
open Go.RowKit

theorem int_in (n : Int) (h : Fits n) (w : World) : (intT n).At w := (At_iff _ _).2 ⟨⟨by show Fits 0; unfold Fits; omega, h, by simp only [Tm.name]; show 0 ≤ maxLen; omega⟩, Lst.nil w⟩
theorem var_in (n : Nat) (h : Fits n) (w : World) : (varT n).At w := (At_iff _ _).2 ⟨⟨by show Fits 1; unfold Fits; omega, h, by simp only [Tm.name]; show 0 ≤ maxLen; omega⟩, Lst.nil w⟩
theorem ex1_at (W : World) (hL : Laid W) : Calls Tryz.prog 18 #[.string ⟨#[102, 40, 86, 49, 44, 50, 41, 42, 51]⟩] W fun e w' => ∃ u : Tm, u.At w' ∧ Below W.heap.size W w' ∧ u.strip = binT 42 (funT [102] [varT 1, intT 2]) (intT 3) ∧ e = .returned (.tuple #[u.val, .int .i64 0]) := by
  refine (parse_at _ W (by show 9 ≤ maxLen; unfold maxLen; omega) hL).mono ?_
  rintro e w' ⟨u, h1, h2, ho⟩
  rcases ho with ⟨t, h3, h4, h5⟩ | ⟨c, _, h3, _⟩
  · rw [show parseP (⟨#[102, 40, 86, 49, 44, 50, 41, 42, 51]⟩ : ByteArray).data.toList = _ from exA] at h3
    injection h3 with h3 _
    exact ⟨u, h1, h2, by rw [h4, h3], h5⟩
  · rw [show parseP (⟨#[102, 40, 86, 49, 44, 50, 41, 42, 51]⟩ : ByteArray).data.toList = _ from exA] at h3
    cases h3
theorem err_at (s : ByteArray) (c0 : Int) (h : parseP s.data.toList = .err c0) (W : World) (hs : s.size ≤ maxLen) (hL : Laid W) : Calls Tryz.prog 18 #[.string s] W fun e w' => Below W.heap.size W w' ∧ e = .returned (.tuple #[.agg #[.int .i64 0, .int .i64 0, .string ⟨#[]⟩, .slice none 0 0], .int .i64 c0]) := by
  refine (parse_at _ W hs hL).mono ?_
  rintro e w' ⟨u, h1, h2, ho⟩
  rcases ho with ⟨t, h3, h4, h5⟩ | ⟨c, _, h3, h4, h5⟩
  · rw [h] at h3
    cases h3
  · rw [h] at h3
    injection h3 with h3
    subst h3 h4
    exact ⟨h2, h5⟩
theorem ex3_at (W : World) (hL : Laid W) : Calls Tryz.prog 20 #[.string ⟨#[108, 101, 113, 40, 32, 86, 48, 32, 44, 32, 97, 32, 41]⟩] W fun e w' => ∃ (l : List Tm) (A : Option Addr) (c : Nat), Lst w' A l c ∧ Below W.heap.size W w' ∧ stripL l = [varT 0, funT [97] []] ∧ e = .returned (.tuple #[.agg #[.string ⟨#[108, 101, 113]⟩, .slice A l.length c], .int .i64 0]) := by
  refine (parsea_at _ W (by show 13 ≤ maxLen; unfold maxLen; omega) hL).mono ?_
  rintro e w' ⟨s, l, A, c, _, h1, h2, ho⟩
  rcases ho with ⟨h3, h5⟩ | ⟨c, _, h3, _⟩
  · rw [show parseA (⟨#[108, 101, 113, 40, 32, 86, 48, 32, 44, 32, 97, 32, 41]⟩ : ByteArray).data.toList = _ from exC] at h3
    injection h3 with h3 _
    injection h3 with h3 h4
    obtain rfl : s = ⟨#[108, 101, 113]⟩ := by
      apply WideShapes.bytes_inj
      rw [← h3]
    exact ⟨l, A, c, h1, h2, h4.symm, h5⟩
  · rw [show parseA (⟨#[108, 101, 113, 40, 32, 86, 48, 32, 44, 32, 97, 32, 41]⟩ : ByteArray).data.toList = _ from exC] at h3
    cases h3

theorem seven_text (g c g1 c1 : Nat) (W : World) (h : (Tm.mk 2 0 ⟨#[45]⟩ (some ⟨g, 0, none⟩) c [intT 7, .mk 2 0 ⟨#[45]⟩ (some ⟨g1, 0, none⟩) c1 [intT 2, intT 1]]).At W) (hL : Laid W) :
    Calls Tryz.prog 11 #[.agg #[.int .i64 2, .int .i64 0, .string ⟨#[45]⟩, .slice (some ⟨g, 0, none⟩) 2 c]] W fun e w' => e = .returned (.string ⟨#[55, 32, 45, 32, 40, 50, 32, 45, 32, 49, 41]⟩) ∧ Below W.heap.size W w' := by
  have := tt_text _ W h hL
  rw [← termT_strip, show (Tm.mk 2 0 ⟨#[45]⟩ (some ⟨g, 0, none⟩) c [intT 7, .mk 2 0 ⟨#[45]⟩ (some ⟨g1, 0, none⟩) c1 [intT 2, intT 1]]).strip = binT 45 (intT 7) (binT 45 (intT 2) (intT 1)) from rfl, exE] at this
  exact this
theorem fun_text (u : Tm) (W : World) (h : u.At W) (hs : u.strip = binT 42 (funT [102] [varT 1, intT 2]) (intT 3)) (hL : Laid W) :
    Calls Tryz.prog 11 #[u.val] W fun e w' => e = .returned (.string ⟨#[102, 40, 86, 49, 44, 32, 50, 41, 32, 42, 32, 51]⟩) ∧ Below W.heap.size W w' := by
  have := tt_text _ W h hL
  rw [← termT_strip, hs, exF] at this
  exact this
theorem atom_text (l : List Tm) (A : Option Addr) (c : Nat) (W : World) (h : Lst W A l c) (hs : stripL l = [varT 0, funT [97] []]) (hL : Laid W) :
    Calls Tryz.prog 16 #[.agg #[.string ⟨#[108, 101, 113]⟩, .slice A l.length c]] W fun e w' => e = .returned (.string ⟨#[108, 101, 113, 40, 86, 48, 44, 32, 97, 41]⟩) ∧ Below W.heap.size W w' := by
  have := tt_atom ⟨⟨#[108, 101, 113]⟩, A, c, l⟩ W ⟨by show 3 ≤ maxLen; unfold maxLen; omega, h⟩ hL
  rw [← atomT_strip, hs, exG] at this
  exact this
theorem goal_text (b : Nat) (W : World) (h : RowAt W [varT 0] b 0) (hL : Laid W) :
    Calls Tryz.prog 14 #[.agg #[.int .i64 11, .string ⟨#[]⟩, .slice (some ⟨b, 0, none⟩) 1 1]] W fun e w' => e = .returned (.string ⟨#[105, 110, 116, 40, 86, 48, 41]⟩) ∧ Below W.heap.size W w' := by
  have := tt_goal ⟨11, ⟨#[]⟩, some ⟨b, 0, none⟩, 1, [varT 0]⟩ W ⟨by show Fits 11; unfold Fits; omega, by show 0 ≤ maxLen; omega, Lst.of_row h (by simp)⟩ hL
  rw [show goalT 11 ⟨#[]⟩ [varT 0] = _ from exH none 0] at this
  exact this
end Go.Proofs.YtlpibnbabgfiiaaGreatDoor
