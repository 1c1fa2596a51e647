/-
  Contracts of find, bindsVarIn (with its closure, slices.IndexFunc and slices.ContainsFunc over ints) of the program.
-/
import Derived.Test.YtpnjjahimhhjkaaSuFind
import Derived.Test.YtpnjjahimhhjkaaTmTop
import Derived.Test.YtpnjjahimhhjkaaVxPlain
namespace Go.Proofs.Ytpnjjahimhhjkaa
open Go.RowKit

abbrev zeroT : Tm := .mk 0 0 ⟨#[]⟩ none 0 []
abbrev zeroBox : Obj := .cells #[.int .i64 0, .int .i64 0, .string ⟨#[]⟩, .slice none 0 0] 24
def optT (o : Option Tm) : Tm := o.getD zeroT
/-- A block that was just laid may be written, behind a call. -/
theorem free4 {w w' : World} {cs : Array Value} {T : TypeId} (hb : Below (w.alloc (.cells cs T)).heap.size (w.alloc (.cells cs T)) w') : ∀ j, w'.frozen? ⟨w.heap.size, j, none⟩ = false := fun j => by
  rw [hb.frozen (p := ⟨w.heap.size, j, none⟩) (by simp), World.frozen?_alloc_at _ _ _ _ rfl]
theorem set4c {X W : World} {B T : Nat} {v0 v1 v2 v3 : Value} (hb : Below B X W) (hT : B ≤ T) :
    Below B X ((((W.setCell ⟨T, 0, none⟩ v0).setCell ⟨T, 1, none⟩ v1).setCell ⟨T, 2, none⟩ v2).setCell ⟨T, 3, none⟩ v3) :=
  (((hb.setCell (p := ⟨T, 0, none⟩) hT _).setCell (p := ⟨T, 1, none⟩) hT _).setCell (p := ⟨T, 2, none⟩) hT _).setCell (p := ⟨T, 3, none⟩) hT _

set_option maxHeartbeats 1000000 in
theorem find_at (l : List Bd) (A : Option Addr) (c : Nat) (v : Int) (w : World) (hl : BLst w A l c) (hlen : l.length ≤ 1000000) (hs : Srt l) :
    Calls Try.prog 82 #[.slice A l.length c, .int .i64 v] w fun e w' => e = .returned (.tuple #[(optT (look l v)).val, .bool (look l v).isSome]) ∧ Below w.heap.size w w' := by
  have Q := Lib.hid (fun W (h : Below w.heap.size w W) => search_at l A c v W (hl.below h) hlen hs)
  have HL := Lib.hid hl
  have HS := Lib.hid hs
  clear hl hs
  go_enter Try.func82, Try.ntmps82
  go_wp2_with fail
  refine (Q.out _ (below1 _ _)).mono ?_
  rintro e w1 ⟨i, hi, hB, ⟨r, hr, rfl⟩, hb⟩
  have HK := Lib.hid (look_bound HS.out hB hi)
  obtain ⟨e0, e1, e2, e3, hb1⟩ := box4 hb
  have f0 := free4 hb 0
  have f1 := free4 hb 1
  have f2 := free4 hb 2
  have f3 := free4 hb 3
  have HR := Lib.hid hr
  clear hB hb hr Q
  cases r
  · have HN := Lib.hid (show look l v = none by rw [HK.out, if_neg (fun h => by cases HR.out.2 h)])
    go_wp2_with fail
    refine bodyPost_ret (v := .tuple #[.agg #[.int .i64 0, .int .i64 0, .string ⟨#[]⟩, .slice none 0 0], .bool false]) (by simp [results, Try.results82, go_sem, e0, e1, e2, e3]) rfl ⟨by rw [HN.out]; rfl, set4c hb1 (Nat.le_refl _)⟩
  · have hr1 := HR.out.1 rfl
    have hn : i < l.length := hr1.1
    have HN := Lib.hid (show look l v = some (l.getD i default).tm by rw [HK.out, if_pos hr1])
    obtain ⟨b, o, rfl, ⟨_, c1, c2, c3, c4⟩, _⟩ := (HL.out.below hb1).get hn
    clear hr1 HR HK
    generalize l.getD i default = x at *
    obtain ⟨v', k', n', s', A', c', a'⟩ := x
    simp only [Tm.kind, Tm.num, Tm.name, Tm.at_, Tm.args, Tm.cap] at c1 c2 c3 c4
    go_wp2_with fail
    refine bodyPost_ret (v := .tuple #[.agg #[.int .i64 k', .int .i64 n', .string s', .slice A' a'.length c'], .bool true]) (by simp [results, Try.results82, go_sem, e0, e1, e2, e3]) rfl ⟨by rw [HN.out]; rfl, set4c hb1 (Nat.le_refl _)⟩

/-- Where the first number with a property stands, or a negative number. -/
def SomeIdx (r : Bool) (w : World) (e : Ending) (w' : World) : Prop := ∃ m : Int, decide (0 ≤ m) = r ∧ e = .returned (.int .i64 m) ∧ Below w.heap.size w w'
theorem iany_next {l : List Int} {k : Nat} (p : Int → Bool) (h : k < l.length) : (l.take (k + 1)).any p = ((l.take k).any p || p (l.getD k 0)) := by
  rw [take_int h]; simp
theorem iany_stop {l : List Int} {k : Nat} {p : Int → Bool} (h : k < l.length) (hv : p (l.getD k 0) = true) : l.any p = true := List.any_eq_true.2 ⟨_, getD_int h, hv⟩

def hasB (l : List Bd) (t : Tm) : Bool := t.occ.any fun v => (look l v).isSome
theorem hasB_addAll (l : List Bd) (t : Tm) : (addAll [] t.occ).any (fun v => (look l v).isSome) = hasB l t := by
  unfold hasB
  rw [Bool.eq_iff_iff, List.any_eq_true, List.any_eq_true]
  simp only [mem_addAll, List.not_mem_nil, false_or]

end Go.Proofs.Ytpnjjahimhhjkaa
