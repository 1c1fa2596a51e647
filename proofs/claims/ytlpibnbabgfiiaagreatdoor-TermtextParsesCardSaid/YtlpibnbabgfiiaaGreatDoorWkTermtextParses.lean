/-
  The walk of TermtextParses.
-/
import Derived.Test.YtlpibnbabgfiiaaGreatDoorTtExH
import Derived.Test.YtlpibnbabgfiiaaGreatDoorTrParse
import Derived.Test.YtlpibnbabgfiiaaGreatDoorTrAtom
import Derived.Test.YtlpibnbabgfiiaaGreatDoorTtSame
import Derived.Test.YtlpibnbabgfiiaaGreatDoorTmOpen
namespace Go.Proofs.YtlpibnbabgfiiaaGreatDoor.termtextParses
open Go.ChangeShapes Go.WideShapes Go.ChangeAt Go.RowKit Go.Sort
set_option linter.unusedVariables false

def Two (t u : Tm) (c : Int) (e1 e2 : Ending) : Prop := (cmpT t u == 0) = true ∧ e1 = .returned (.tuple #[t.val, .int .i64 c]) ∧ e2 = .returned (.tuple #[u.val, .int .i64 c])
theorem two_of {res : PR Tm} {t u : Tm} {e1 e2 : Ending} (h1 : Outw res t e1) (h2 : Outw res u e2) : ∃ c, Two t u c e1 e2 := by
  rcases h1 with ⟨v, a1, a2, a3⟩ | ⟨c, _, a1, a2, a3⟩
  · rcases h2 with ⟨v', b1, b2, b3⟩ | ⟨c, _, b1, _, _⟩
    · rw [a1] at b1
      injection b1 with b1 _
      exact ⟨0, same_strip (by rw [a2, b2, b1]), a3, b3⟩
    · rw [a1] at b1; cases b1
  · rcases h2 with ⟨v', b1, b2, b3⟩ | ⟨c', _, b1, b2, b3⟩
    · rw [a1] at b1; cases b1
    · rw [a1] at b1
      injection b1 with b1
      subst b1 a2 b2
      exact ⟨c, same_strip rfl, a3, b3⟩
def TwoA (s : ByteArray) (l m : List Tm) (A B : Option Addr) (p q : Nat) (c : Int) (e1 e2 : Ending) : Prop := (cmpA ⟨s, A, p, l⟩ ⟨s, B, q, m⟩ == 0) = true ∧ e1 = .returned (.tuple #[.agg #[.string s, .slice A l.length p], .int .i64 c]) ∧ e2 = .returned (.tuple #[.agg #[.string s, .slice B m.length q], .int .i64 c])
theorem twoA_of {res : PR (List UInt8 × List Tm)} {s s' : ByteArray} {l m : List Tm} {A B : Option Addr} {p q : Nat} {e1 e2 : Ending} (h1 : Outa res s l A p e1) (h2 : Outa res s' m B q e2) : s' = s ∧ ∃ c, TwoA s l m A B p q c e1 e2 := by
  rcases h1 with ⟨a1, a3⟩ | ⟨c, _, a1, a2, a4, a5, a6, a3⟩
  · rcases h2 with ⟨b1, b3⟩ | ⟨c, _, b1, _, _⟩
    · rw [a1] at b1
      injection b1 with b1 _
      injection b1 with b1 b2
      obtain rfl : s' = s := by
        apply WideShapes.bytes_inj
        rw [b1]
      exact ⟨rfl, 0, same_atom_strip b2, a3, b3⟩
    · rw [a1] at b1; cases b1
  · rcases h2 with ⟨b1, b3⟩ | ⟨c', _, b1, b2, b4, b5, b6, b3⟩
    · rw [a1] at b1; cases b1
    · rw [a1] at b1
      injection b1 with b1
      subst b1 a2 b2 a4 b4 a5 b5 a6 b6
      exact ⟨rfl, c, same_atom_strip rfl, a3, b3⟩

theorem out_ret {res : PR Tm} {t : Tm} {e : Ending} (h : Outw res t e) : ∃ c : Int, e = .returned (.tuple #[t.val, .int .i64 c]) := by
  rcases h with ⟨v, _, _, h⟩ | ⟨c, _, _, _, h⟩
  · exact ⟨0, h⟩
  · exact ⟨c, h⟩
theorem outa_ret {res : PR (List UInt8 × List Tm)} {s : ByteArray} {l : List Tm} {A : Option Addr} {p : Nat} {e : Ending} (h : Outa res s l A p e) : ∃ c : Int, e = .returned (.tuple #[.agg #[.string s, .slice A l.length p], .int .i64 c]) := by
  rcases h with ⟨_, h⟩ | ⟨c, _, _, _, _, _, _, h⟩
  · exact ⟨0, h⟩
  · exact ⟨c, h⟩
theorem tup_eq {v : Value} {c c' : Int} (h : Ending.returned (.tuple #[v, .int .i64 c]) = .returned (.tuple #[v, .int .i64 c'])) : c = c' := by simpa using h
theorem two_eq {res : PR Tm} {t u : Tm} {c c' : Int} (h1 : Outw res t (.returned (.tuple #[t.val, .int .i64 c]))) (h2 : Outw res u (.returned (.tuple #[u.val, .int .i64 c']))) : (cmpT t u == 0) = true ∧ c' = c := by
  obtain ⟨k, h, e1, e2⟩ := two_of h1 h2
  exact ⟨h, by rw [tup_eq e1, tup_eq e2]⟩
theorem twoA_eq {res : PR (List UInt8 × List Tm)} {s s' : ByteArray} {l m : List Tm} {A B : Option Addr} {p q : Nat} {c c' : Int} (h1 : Outa res s l A p (.returned (.tuple #[.agg #[.string s, .slice A l.length p], .int .i64 c]))) (h2 : Outa res s' m B q (.returned (.tuple #[.agg #[.string s', .slice B m.length q], .int .i64 c']))) : s = s' ∧ (cmpA ⟨s, A, p, l⟩ ⟨s, B, q, m⟩ == 0) = true ∧ c' = c := by
  obtain ⟨rfl, k, h, e1, e2⟩ := twoA_of h1 h2
  exact ⟨rfl, h, by rw [tup_eq e1, tup_eq e2]⟩

set_option maxHeartbeats 4000000 in
set_option maxRecDepth 10000 in
theorem walk (a0 : ByteArray) (w : World) (w0 : a0.size ≤ maxLen) (hL : Laid w) :
    Calls Tryz.prog 5 #[.string a0] w fun e w' => e = .returned (.bool true) ∧ Below w.heap.size w w' := by
  have QE := Lib.hid (fun W (h : Below w.heap.size w W) => example_at W (hL.below h))
  have hs : a0.size ≤ 9223372036854775807 := by unfold maxLen at w0; exact w0
  by_cases h1 : 3000 < a0.size
  · have h1' : (3000 : Int) < ((a0.size : Nat) : Int) := by omega
    clear h1 hL w0
    go_enter Tryz.func5, Tryz.ntmps5
    go_wp2_with fail
    refine (QE.out _ (Below.refl _ _)).mono ?_
    rintro e w2 ⟨rfl, hb3⟩
    go_wp2_with fail
    go_ret
    exact ⟨rfl, hb3⟩
  · have h1' : decide ((3000 : Int) < ((a0.size : Nat) : Int)) = false := by simp; omega
    have P1 := Lib.hid (parse_at a0 w w0 hL)
    have P2 := Lib.hid (fun W => parser_at a0 W w0)
    have P3 := Lib.hid (fun W (h : Below w.heap.size w W) => parsea_at a0 W w0 (hL.below h))
    have P4 := Lib.hid (fun W => parsear_at a0 W w0)
    clear h1 hL w0
    go_enter Tryz.func5, Tryz.ntmps5
    go_wp2_with fail
    refine P1.out.mono ?_
    rintro e1 x1 ⟨t, ht, hb1, ho1⟩
    obtain ⟨c1, rfl⟩ := out_ret ho1
    have HO1 := Lib.hid ho1
    have HT := Lib.hid ht
    have HB1 := Lib.hid hb1
    clear ho1 ht hb1
    go_wp2_with fail
    refine (P2.out _).mono ?_
    rintro e2 x2 ⟨u, hu, hb2, ho2⟩
    obtain ⟨c2, rfl⟩ := out_ret ho2
    obtain ⟨hsame, rfl⟩ := two_eq HO1.out ho2
    have HU := Lib.hid hu
    have HB2 := Lib.hid (nx (al HB1.out (.cells #[.int .i64 t.kind, .int .i64 t.num, .string t.name, .slice t.at_ t.args.length t.cap] 24)) hb2)
    have HT2 := Lib.hid hb2
    clear hb2 ho2 hu HO1
    go_wp2_with fail
    have HB2' := Lib.hid (al HB2.out (.cells #[.int .i64 u.kind, .int .i64 u.num, .string u.name, .slice u.at_ u.args.length u.cap] 24))
    refine (P3.out _ HB2'.out).mono ?_
    rintro e3 x3 ⟨s, l, A, p, hsz, hl, hb3, ho3⟩
    obtain ⟨c3, rfl⟩ := outa_ret ho3
    have hlen := hl.len
    have HO3 := Lib.hid ho3
    have HA := Lib.hid hl
    have HB3 := Lib.hid (nx HB2'.out hb3)
    have HT3 := Lib.hid (nx (al HT2.out (.cells #[.int .i64 u.kind, .int .i64 u.num, .string u.name, .slice u.at_ u.args.length u.cap] 24)) hb3)
    have HU3 := Lib.hid hb3
    clear hb3 ho3 hl HT2 HB2 HB2'
    go_wp2_with fail
    refine (P4.out _).mono ?_
    rintro e4 x4 ⟨s', m, B, q, hsz', hm, hb4, ho4⟩
    obtain ⟨c4, rfl⟩ := outa_ret ho4
    obtain ⟨rfl, hsame4, rfl⟩ := twoA_eq HO3.out ho4
    have hlen' := hm.len
    have HM := Lib.hid hm
    have HB4 := Lib.hid (nx (al HB3.out (.cells #[.string s, .slice A l.length p] 34)) hb4)
    have HT4 := Lib.hid (nx (al HT3.out (.cells #[.string s, .slice A l.length p] 34)) hb4)
    have HU4 := Lib.hid (nx (al HU3.out (.cells #[.string s, .slice A l.length p] 34)) hb4)
    have HA4 := Lib.hid hb4
    clear hb4 ho4 hm HT3 HU3 HB3 HO3
    have HB5 := Lib.hid (al HB4.out (.cells #[.string s, .slice B m.length q] 34))
    have HT5 := Lib.hid (al HT4.out (.cells #[.string s, .slice B m.length q] 34))
    have HU5 := Lib.hid (al HU4.out (.cells #[.string s, .slice B m.length q] 34))
    have HA5 := Lib.hid (al HA4.out (.cells #[.string s, .slice B m.length q] 34))
    obtain ⟨t0, t1, t2, t3, _⟩ := box4 HT5.out
    obtain ⟨u0, u1, u2, u3, _⟩ := box4 HU5.out
    go_wp2_with fail
    refine (ref_same_at t u _ ((HT.out.alloc _).below HT5.out) ((HU.out.alloc _).below HU5.out) hsame).mono ?_
    rintro e5 x5 ⟨rfl, hb5⟩
    have HB6 := Lib.hid (nx HB5.out hb5)
    have HA6 := Lib.hid (nx HA5.out hb5)
    have HC6 := Lib.hid hb5
    clear hb5 t0 t1 t2 t3 u0 u1 u2 u3
    obtain ⟨r0, r1⟩ := held2_p HA6.out
    obtain ⟨z0, z1⟩ := held2_p HC6.out
    go_wp2_with fail
    refine (ref_same_atom_at ⟨s, A, p, l⟩ ⟨s, B, q, m⟩ _ ⟨by show s.size ≤ maxLen; unfold maxLen; omega, ((HA.out.below (below1 _ _)).below HA6.out)⟩ ⟨by show s.size ≤ maxLen; unfold maxLen; omega, ((HM.out.below (below1 _ _)).below HC6.out)⟩ hsame4).mono ?_
    rintro e6 x6 ⟨rfl, hb6⟩
    have HB7 := Lib.hid (nx HB6.out hb6)
    clear hb6 r0 r1 z0 z1
    go_wp2_with fail
    refine (QE.out _ HB7.out).mono ?_
    rintro e7 x7 ⟨rfl, hb7⟩
    have HB8 := Lib.hid (nx HB7.out hb7)
    go_wp2_with fail
    go_ret
    exact ⟨by simp, HB8.out⟩
end Go.Proofs.YtlpibnbabgfiiaaGreatDoor.termtextParses
