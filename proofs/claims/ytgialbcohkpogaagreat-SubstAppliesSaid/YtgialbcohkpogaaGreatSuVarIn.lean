/-
  Contracts of find, bindsVarIn (with its closure, slices.IndexFunc and slices.ContainsFunc over ints) of the program.
-/
import Derived.Test.YtgialbcohkpogaaGreatSuFind
import Derived.Test.YtgialbcohkpogaaGreatTmCon
import Derived.Test.YtgialbcohkpogaaGreatSuMath
namespace Go.Proofs.YtgialbcohkpogaaGreat
open Go.RowKit

abbrev zeroT : Tm := .mk 0 0 ⟨#[]⟩ none 0 []
abbrev zeroBox : Obj := .cells #[.int .i64 0, .int .i64 0, .string ⟨#[]⟩, .slice none 0 0] 29
def optT (o : Option Tm) : Tm := o.getD zeroT
/-- A block that was just laid may be written, behind a call. -/
theorem free4 {w w' : World} {cs : Array Value} {T : TypeId} (hb : Below (w.alloc (.cells cs T)).heap.size (w.alloc (.cells cs T)) w') : ∀ j, w'.frozen? ⟨w.heap.size, j, none⟩ = false := fun j => by
  rw [hb.frozen (p := ⟨w.heap.size, j, none⟩) (by simp), World.frozen?_alloc_at _ _ _ _ rfl]
theorem set4c {X W : World} {B T : Nat} {v0 v1 v2 v3 : Value} (hb : Below B X W) (hT : B ≤ T) :
    Below B X ((((W.setCell ⟨T, 0, none⟩ v0).setCell ⟨T, 1, none⟩ v1).setCell ⟨T, 2, none⟩ v2).setCell ⟨T, 3, none⟩ v3) :=
  (((hb.setCell (p := ⟨T, 0, none⟩) hT _).setCell (p := ⟨T, 1, none⟩) hT _).setCell (p := ⟨T, 2, none⟩) hT _).setCell (p := ⟨T, 3, none⟩) hT _

set_option maxHeartbeats 1000000 in
theorem find_at (l : List Bd) (A : Option Addr) (c : Nat) (v : Int) (w : World) (hl : BLst w A l c) (hlen : l.length ≤ 1000000) (hs : Srt l) :
    Calls Tryz.prog 48 #[.slice A l.length c, .int .i64 v] w fun e w' => e = .returned (.tuple #[(optT (look l v)).val, .bool (look l v).isSome]) ∧ Below w.heap.size w w' := by
  have Q := Lib.hid (fun W (h : Below w.heap.size w W) => search_at l A c v W (hl.below h) hlen hs)
  have HL := Lib.hid hl
  have HS := Lib.hid hs
  clear hl hs
  go_enter Tryz.func48, Tryz.ntmps48
  go_wp2_with fail
  refine (Q.out _ (below1 _ _)).mono ?_
  rintro e w1 ⟨i, hi, hB, ⟨r, hr, rfl⟩, hb⟩
  have HK := Lib.hid (look_bound HS.out hB hi)
  obtain ⟨e0, e1, e2, e3, hb1⟩ := box4 hb
  have f0 := free4 hb 0
  have f1 := free4 hb 1
  have f2 := free4 hb 2
  have f3 := free4 hb 3
  have HR := Lib.hid hr
  clear hB hb hr Q
  cases r
  · have HN := Lib.hid (show look l v = none by rw [HK.out, if_neg (fun h => by cases HR.out.2 h)])
    go_wp2_with fail
    refine bodyPost_ret (v := .tuple #[.agg #[.int .i64 0, .int .i64 0, .string ⟨#[]⟩, .slice none 0 0], .bool false]) (by simp [results, Tryz.results48, go_sem, e0, e1, e2, e3]) rfl ⟨by rw [HN.out]; rfl, set4c hb1 (Nat.le_refl _)⟩
  · have hr1 := HR.out.1 rfl
    have hn : i < l.length := hr1.1
    have HN := Lib.hid (show look l v = some (l.getD i default).tm by rw [HK.out, if_pos hr1])
    obtain ⟨b, o, rfl, ⟨_, c1, c2, c3, c4⟩, _⟩ := (HL.out.below hb1).get hn
    clear hr1 HR HK
    generalize l.getD i default = x at *
    obtain ⟨v', k', n', s', A', c', a'⟩ := x
    simp only [Tm.kind, Tm.num, Tm.name, Tm.at_, Tm.args, Tm.cap] at c1 c2 c3 c4
    go_wp2_with fail
    refine bodyPost_ret (v := .tuple #[.agg #[.int .i64 k', .int .i64 n', .string s', .slice A' a'.length c'], .bool true]) (by simp [results, Tryz.results48, go_sem, e0, e1, e2, e3]) rfl ⟨by rw [HN.out]; rfl, set4c hb1 (Nat.le_refl _)⟩

/-- The closure of bindsVarIn: whether a variable is bound. -/
theorem bound_at (l : List Bd) (A : Option Addr) (c : Nat) (B : Nat) (v : Int) (w : World) (hl : BLst w A l c) (hlen : l.length ≤ 1000000) (hs : Srt l) (hB : w.cell? ⟨B, 0, none⟩ = some (.slice A l.length c)) :
    Calls Tryz.prog 56 #[.int .i64 v, .pointer (some ⟨B, 0, none⟩)] w fun e w' => e = .returned (.bool (look l v).isSome) ∧ Below w.heap.size w w' := by
  have Q := Lib.hid (find_at l A c v w hl hlen hs)
  clear hl hs
  generalize optT (look l v) = t at *
  generalize (look l v).isSome = r at *
  obtain ⟨k', n', s', A', c', a'⟩ := t
  go_enter Tryz.func56, Tryz.ntmps56
  go_wp2_with fail
  refine (Q.out).mono ?_
  rintro e w1 ⟨rfl, hb⟩
  clear Q hB
  go_wp2_with fail
  go_ret
  exact ⟨rfl, hb.alloc hb.size _⟩

/-- Where the first number with a property stands, or a negative number. -/
def SomeIdx (r : Bool) (w : World) (e : Ending) (w' : World) : Prop := ∃ m : Int, decide (0 ≤ m) = r ∧ e = .returned (.int .i64 m) ∧ Below w.heap.size w w'
theorem iany_next {l : List Int} {k : Nat} (p : Int → Bool) (h : k < l.length) : (l.take (k + 1)).any p = ((l.take k).any p || p (l.getD k 0)) := by
  rw [take_int h]; simp
theorem iany_stop {l : List Int} {k : Nat} {p : Int → Bool} (h : k < l.length) (hv : p (l.getD k 0) = true) : l.any p = true := List.any_eq_true.2 ⟨_, getD_int h, hv⟩

set_option maxHeartbeats 2000000 in
theorem index_ints_at (l : List Int) (A : Option Addr) (c : Nat) (B : Nat) (p : Int → Bool) (w : World) (hI : Ints w A l) (hlen : l.length ≤ 9223372036854775807)
    (Q0 : ∀ W v, Below w.heap.size w W → Calls Tryz.prog 56 #[.int .i64 v, .pointer (some ⟨B, 0, none⟩)] W fun e w' => e = .returned (.bool (p v)) ∧ Below W.heap.size W w') {r : Bool} (hr : l.any p = r) :
    Calls Tryz.prog 81 #[.slice A l.length c, .func (.func 56) #[] #[.pointer (some ⟨B, 0, none⟩)]] w (SomeIdx r w) := by
  have HR := Lib.hid hr
  have HL := Lib.hid hI
  have Q := Lib.hid Q0
  clear hI hr Q0
  go_enter Tryz.func81, Tryz.ntmps81
  go_wp2_with fail
  go_loopw [8] (fun i wr => ∃ j : Nat, j ≤ l.length ∧ i = .int .i64 j ∧ Hid ((l.take j).any p = false) ∧ Below w.heap.size w wr) (fun i _ => l.length - (intOf i).toNat)
  case atStart => exact ⟨0, Nat.zero_le _, rfl, Lib.hid rfl, Below.refl _ _⟩
  case round =>
    obtain ⟨j, hj, rfl, HF, hbw⟩ := hrel
    by_cases hlt : j < l.length
    · obtain ⟨b, o, rfl, c0⟩ := (HL.out.below hbw).get hlt
      have HN := Lib.hid (iany_next p hlt)
      rw [HF.out, Bool.false_or] at HN
      have HS := Lib.hid (iany_stop (p := p) hlt)
      generalize l.getD j 0 = x at *
      have Q1 := Lib.hid (Q.out wr x hbw)
      generalize p x = N at *
      cases N
      · go_wp2_with fail
        refine (Q1.out).mono ?_
        rintro e w2 ⟨rfl, hb3⟩
        go_wp2_with fail
        go_roundw
        case rel => exact ⟨j + 1, by omega, by go_num, HN, hbw.trans (hb3.mono hbw.size)⟩
        case measure => simp [intOf]; omega
      · go_wp2_with fail
        refine (Q1.out).mono ?_
        rintro e w2 ⟨rfl, hb3⟩
        go_wp2_with fail
        go_ret
        exact ⟨j, by rw [← HR.out, HS.out trivial]; simp, rfl, hbw.trans (hb3.mono hbw.size)⟩
    · obtain rfl : j = l.length := by omega
      have HE := Lib.hid (show false = r by rw [← HR.out, ← HF.out, List.take_length])
      go_wp2_with fail
      go_ret
      exact ⟨-1, by rw [← HE.out]; rfl, rfl, hbw⟩

theorem contains_ints_at (l : List Int) (A : Option Addr) (c : Nat) (B : Nat) (p : Int → Bool) (w : World) (hI : Ints w A l) (hlen : l.length ≤ 9223372036854775807)
    (Q0 : ∀ W v, Below w.heap.size w W → Calls Tryz.prog 56 #[.int .i64 v, .pointer (some ⟨B, 0, none⟩)] W fun e w' => e = .returned (.bool (p v)) ∧ Below W.heap.size W w') {r : Bool} (hr : l.any p = r) :
    Calls Tryz.prog 54 #[.slice A l.length c, .func (.func 56) #[] #[.pointer (some ⟨B, 0, none⟩)]] w fun e w' => e = .returned (.bool r) ∧ Below w.heap.size w w' := by
  have Q := Lib.hid (index_ints_at l A c B p w hI hlen Q0 hr)
  clear hI hr Q0
  go_enter Tryz.func54, Tryz.ntmps54
  go_wp2_with fail
  refine (Q.out).mono ?_
  rintro e w2 ⟨m, hm, rfl, hb⟩
  have HM := Lib.hid hm
  clear hm
  go_wp2_with fail
  go_ret
  exact ⟨by rw [← HM.out]; rfl, hb⟩

def hasB (l : List Bd) (t : Tm) : Bool := t.occ.any fun v => (look l v).isSome
theorem hasB_addAll (l : List Bd) (t : Tm) : (addAll [] t.occ).any (fun v => (look l v).isSome) = hasB l t := by
  unfold hasB
  rw [Bool.eq_iff_iff, List.any_eq_true, List.any_eq_true]
  simp only [mem_addAll, List.not_mem_nil, false_or]

set_option maxHeartbeats 1000000 in
theorem binds_at (l : List Bd) (A : Option Addr) (c : Nat) (x : Bd) (w : World) (hl : BLst w A l c) (hlen : l.length ≤ 1000000) (hs : Srt l) (hx : x.tm.At w) (hz : x.tm.size ≤ 1000000) :
    Calls Tryz.prog 29 #[.slice A l.length c, x.val] w fun e w' => e = .returned (.bool (hasB l x.tm)) ∧ Below w.heap.size w w' := by
  have hmf : ∀ (fn : Fn) (first cap : Array Value) (w : World), (Instr.makeFunc fn first cap).run Tryz.prog w = .ok (.func fn first cap) w := fun _ _ _ _ => rfl
  have Q1 := Lib.hid (fun W (h : Below w.heap.size w W) => vars_call x.tm W (hx.below h) hz)
  have HR := Lib.hid (hasB_addAll l x.tm)
  have HAl := Lib.hid (Nat.le_trans (addAll_length [] x.tm.occ) (show _ ≤ 9223372036854775807 by have := occ_length.1 x.tm; simp; omega))
  have HL := Lib.hid hl
  have HS := Lib.hid hs
  obtain ⟨v, t⟩ := x
  simp only at hx Q1 HR HAl ⊢
  generalize addAll [] t.occ = os at *
  generalize hasB l t = r at *
  clear hl hs hx hz
  obtain ⟨k, n, s, A', c', a'⟩ := t
  show Calls Tryz.prog 29 #[.slice A l.length c, .agg #[.int .i64 v, .int .i64 k, .int .i64 n, .string s, .slice A' a'.length c']] w _
  go_enter Tryz.func29, Tryz.ntmps29
  go_wp2_with fail
  refine (Q1.out _ (below2 _ _ _)).mono ?_
  rintro e w1 ⟨v1, rfl, ho, hb⟩
  obtain ⟨V, q, rfl, hI, _⟩ := ho.form
  have hw1 : Below w.heap.size w w1 := (below2 _ _ _).trans (hb.mono (by simp; omega))
  have hc : w1.cell? ⟨w.heap.size, 0, none⟩ = some (.slice A l.length c) := by
    rw [hb.cell (p := ⟨w.heap.size, 0, none⟩) (by simp; omega), World.cell?_alloc_lt _ _ _ (by simp), World.cell?_alloc_at _ _ _ _ rfl]; rfl
  have Q2 := Lib.hid (contains_ints_at os V q w.heap.size (fun v => (look l v).isSome) w1 hI HAl.out (fun W v h => bound_at l A c w.heap.size v W ((HL.out.below hw1).below h) hlen HS.out (keepv h hc)) HR.out)
  have HW := Lib.hid hw1
  clear hI ho hb hc hw1
  go_wp2_with fail
  refine (Q2.out).mono ?_
  rintro e w2 ⟨rfl, hb2⟩
  go_wp2_with fail
  go_ret
  exact ⟨rfl, HW.out.trans (hb2.mono HW.out.size)⟩
end Go.Proofs.YtgialbcohkpogaaGreat
