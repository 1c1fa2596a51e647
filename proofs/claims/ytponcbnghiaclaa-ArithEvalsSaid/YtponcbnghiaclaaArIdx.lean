/-
  Contracts of isNoInteger, slices.IndexFunc and slices.ContainsFunc (at isNoInteger), and Int of the program.
-/
import Derived.Test.YtponcbnghiaclaaArEval
namespace Go.Proofs.Ytponcbnghiaclaa
open Go.RowKit

def Tm.noInt (t : Tm) : Bool := t.kind != 0
theorem no_int_at (t : Tm) (w : World) : Calls Try.prog 33 #[t.val] w fun e w' => e = .returned (.bool t.noInt) ∧ Below w.heap.size w w' := by
  have B0 := Lib.hid (show ∀ o, Below w.heap.size w (w.alloc o) from fun o => (Below.refl _ _).alloc (Nat.le_refl _) o)
  obtain ⟨k, n, s, A, c, a⟩ := t
  show Calls Try.prog 33 #[.agg #[.int .i64 k, .int .i64 n, .string s, .slice A a.length c]] w _
  go_enter Try.func33, Try.ntmps33
  go_wp2_with fail
  go_ret
  exact ⟨rfl, B0.out _⟩

/-- Where the first term that is no integer stands, or a negative number. -/
def SomeIdx (r : Bool) (w : World) (e : Ending) (w' : World) : Prop := ∃ m : Int, decide (0 ≤ m) = r ∧ e = .returned (.int .i64 m) ∧ Below w.heap.size w w'
theorem any_next {l : List Tm} {k : Nat} (h : k < l.length) : (l.take (k + 1)).any Tm.noInt = ((l.take k).any Tm.noInt || (l.getD k default).noInt) := by
  rw [ttake_next h]; simp
theorem any_stop {l : List Tm} {k : Nat} (h : k < l.length) (hv : (l.getD k default).noInt = true) : l.any Tm.noInt = true := by
  rw [List.any_eq_true]
  exact ⟨_, getD_mem h, hv⟩

set_option maxHeartbeats 2000000 in
theorem index_at (l : List Tm) (A : Option Addr) (c : Nat) (w : World) (hl : Lst w A l c) {r : Bool} (hr : l.any Tm.noInt = r) :
    Calls Try.prog 37 #[.slice A l.length c, .func (.func 33) #[] #[]] w (SomeIdx r w) := by
  have hlen : l.length ≤ 9223372036854775807 := by have := hl.1; have := hl.2.1; unfold maxLen at *; omega
  have HR := Lib.hid hr
  have HL := Lib.hid hl
  clear hl hr
  go_enter Try.func37, Try.ntmps37
  go_wp2_with fail
  go_loopw [8] (fun i wr => ∃ j : Nat, j ≤ l.length ∧ i = .int .i64 j ∧ Hid ((l.take j).any Tm.noInt = false) ∧ Below w.heap.size w wr) (fun i _ => l.length - (intOf i).toNat)
  case atStart => exact ⟨0, Nat.zero_le _, rfl, Lib.hid rfl, Below.refl _ _⟩
  case round =>
    obtain ⟨j, hj, rfl, HF, hbw⟩ := hrel
    by_cases hlt : j < l.length
    · obtain ⟨b, o, rfl, ⟨c0, c1, c2, c3⟩, hx⟩ := (HL.out.below hbw).get hlt
      have HN := Lib.hid (any_next hlt)
      rw [HF.out, Bool.false_or] at HN
      have HS := Lib.hid (any_stop hlt)
      generalize l.getD j default = x at *
      have Q := Lib.hid (fun W => no_int_at x W)
      clear hx
      generalize x.noInt = N at *
      obtain ⟨k', n', s', A', c', a'⟩ := x
      simp only [Tm.kind, Tm.num, Tm.name, Tm.at_, Tm.args, Tm.cap] at c0 c1 c2 c3
      cases N
      · go_wp2_with fail
        refine (Q.out _).mono ?_
        rintro e w2 ⟨rfl, hb3⟩
        go_wp2_with fail
        go_roundw
        case rel => exact ⟨j + 1, by omega, by go_num, HN, hbw.trans (hb3.mono hbw.size)⟩
        case measure => simp [intOf]; omega
      · go_wp2_with fail
        refine (Q.out _).mono ?_
        rintro e w2 ⟨rfl, hb3⟩
        go_wp2_with fail
        go_ret
        exact ⟨j, by rw [← HR.out, HS.out trivial]; simp, rfl, hbw.trans (hb3.mono hbw.size)⟩
    · obtain rfl : j = l.length := by omega
      have HE := Lib.hid (show false = r by rw [← HR.out, ← HF.out, List.take_length])
      go_wp2_with fail
      go_ret
      exact ⟨-1, by rw [← HE.out]; rfl, rfl, hbw⟩

theorem contains_at (l : List Tm) (A : Option Addr) (c : Nat) (w : World) (hl : Lst w A l c) {r : Bool} (hr : l.any Tm.noInt = r) :
    Calls Try.prog 32 #[.slice A l.length c, .func (.func 33) #[] #[]] w fun e w' => e = .returned (.bool r) ∧ Below w.heap.size w w' := by
  have Q := Lib.hid (index_at l A c w hl hr)
  clear hl hr
  go_enter Try.func32, Try.ntmps32
  go_wp2_with fail
  refine (Q.out).mono ?_
  rintro e w2 ⟨m, hm, rfl, hb⟩
  have HM := Lib.hid hm
  clear hm
  go_wp2_with fail
  go_ret
  exact ⟨by rw [← HM.out]; rfl, hb⟩

theorem int_tm_at (n : Int) (w : World) : Calls Try.prog 34 #[.int .i64 n] w fun e w' => e = .returned (numT n).val ∧ Below w.heap.size w w' := by
  show Calls _ _ _ _ fun e w' => e = .returned (.agg #[.int .i64 0, .int .i64 n, .string ⟨#[]⟩, .slice none 0 0]) ∧ Below w.heap.size w w'
  go_enter Try.func34, Try.ntmps34
  go_wp2
  exact bodyPost_ret (v := .agg #[.int .i64 0, .int .i64 n, .string ⟨#[]⟩, .slice none 0 0]) (by simp [results, Try.results34, go_sem]) rfl ⟨rfl, (Below.refl _ _).alloc (Nat.le_refl _) _⟩
theorem num_at {n : Int} (w : World) (h : Fits n) : (numT n).At w := by
  refine (At_iff _ _).2 ⟨⟨⟨by simp [numT, Tm.kind], by simp [numT, Tm.kind]⟩, h, by simp [numT, Tm.name]⟩, ?_⟩
  exact Lst.nil w
end Go.Proofs.Ytponcbnghiaclaa
