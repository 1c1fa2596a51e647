/-
  Contract of slices.SortFunc of the program at bindings, compared by their variables: what the row holds then is a permutation in ascending order.
-/
import Derived.Test.YtgialbcohkpogaaGreatSuFind
import Derived.Test.YtgialbcohkpogaaGreatSuMath
import Derived.Test.YtgialbcohkpogaaGreatShelf
namespace Go.Proofs.YtgialbcohkpogaaGreat
open Go.RowKit Go.Lib Go.Shelf

/-- A row of bindings of the call's own: block g holds them, and may be written. -/
def Row5 (w : World) (g : Nat) (l : List Bd) : Prop := g < w.heap.size ∧ (∀ j, w.frozen? ⟨g, j, none⟩ = false) ∧ ∀ i j u, i < l.length → (l.getD i default).cells[j]? = some u → w.cell? ⟨g, i * 5 + j, none⟩ = some u
theorem bcells_length (x : Bd) : x.cells.length = 5 := rfl
theorem bcells_lt {x : Bd} {j : Nat} {u : Value} (h : x.cells[j]? = some u) : j < 5 := by
  have := (List.getElem?_eq_some_iff.1 h).1
  simpa [Bd.cells] using this
theorem arr_getD (l : List Bd) (i : Nat) : l.toArray[i]! = l.getD i default := by
  simp only [List.getD, getElem!_def, List.getElem?_toArray]
  cases l[i]? <;> rfl
theorem list_getD (d : Array Bd) (i : Nat) : d.toList.getD i default = d[i]! := by rw [← arr_getD, Array.toArray_toList]
theorem Row5.holdsK {w : World} {g : Nat} {l : List Bd} (h : Row5 w g l) : Go.Sort.HoldsK Bd.cells 5 w g 0 l.toArray := by
  intro t ht
  have ht' : t < l.length * 5 := by simpa using ht
  rw [Go.Sort.get_flatK _ _ _ _ (by simpa using ht'), arr_getD]
  refine ⟨?_, h.2.1 _⟩
  have h5 : t % 5 < (l.getD (t / 5) default).cells.length := by rw [bcells_length]; omega
  have := h.2.2 (t / 5) (t % 5) _ (by omega) (List.getElem?_eq_getElem h5)
  rw [show t / 5 * 5 + t % 5 = t by omega] at this
  rw [Nat.zero_add, this]
  show _ = some ((l.getD (t / 5) default).cells[t % 5]!)
  rw [getElem!_pos (l.getD (t / 5) default).cells (t % 5) h5]
theorem Row5.of_holdsK {w : World} {g : Nat} {d : Array Bd} (hg : g < w.heap.size) (hf : ∀ j, w.frozen? ⟨g, j, none⟩ = false) (h : Go.Sort.HoldsK Bd.cells 5 w g 0 d) : Row5 w g d.toList := by
  refine ⟨hg, hf, fun i j u hi hu => ?_⟩
  have hj := bcells_lt hu
  have := (Go.Sort.HoldsK.cell h (i := i) (c := j) (by simpa using hi) hj).1
  rw [Nat.zero_add, ← list_getD] at this
  rw [this, ← hu, getElem!_pos (d.toList.getD i default).cells j (by rw [bcells_length]; exact hj), List.getElem?_eq_getElem]

theorem cmp_lays (blk off size : Nat) (w : World) : CmpLays Tryz.prog 51 #[] Bd.cells 5 (fun x y => ints x.var y.var) blk off size w := fun m os dk _ x y =>
  (compare_vars_at x y _).mono (by
    rintro e w' ⟨rfl, rfl⟩
    exact ⟨rfl, 0, _, by rw [Go.Sort.alloc_eq_grow, Go.Sort.alloc_eq_grow, Go.Sort.grow_grow]; rfl⟩)
theorem lt_vars (x y : Bd) : ltOf (fun x y : Bd => ints x.var y.var) x y = decide (x.var < y.var) := by
  unfold ltOf ints
  by_cases h1 : x.var < y.var
  · simp [h1]
  · by_cases h2 : y.var < x.var <;> simp [h1, h2]
theorem swo_vars : Go.Sort.SWO (ltOf fun x y : Bd => ints x.var y.var) where
  irrefl x := by rw [lt_vars]; simp
  trans x y z h1 h2 := by rw [lt_vars] at *; simp at *; omega
  ntrans x y z h1 h2 := by rw [lt_vars] at *; simp at *; omega
theorem keeps_sort {g : Nat} {w : World} {n : Nat} {d : Array Bd} {os : Array Obj} : Keeps g w (sortWorldK Bd.cells 5 w g 0 n d os) := by
  unfold sortWorldK
  refine ⟨rfl, rfl, rfl, ?_, fun k hk hr => ?_⟩
  · rw [Go.Sort.size_grow, Go.Sort.size_putRowK]; exact Nat.le_add_right _ _
  · rw [Go.Sort.heap_grow_old _ _ (by rw [Go.Sort.size_putRowK]; exact hk)]
    unfold Go.Sort.putRowK Go.Sort.putRow Go.Sort.mapBlock
    rw [Array.getElem?_modify, if_neg (Ne.symm hr)]
    rfl

/-- What the sort leaves. -/
def Sorted5 (l : List Bd) (g : Nat) (w : World) (e : Ending) (w' : World) : Prop :=
  e = .returned (.tuple #[]) ∧ ∃ l' : List Bd, l'.Perm l ∧ Srt l' ∧ Row5 w' g l' ∧ Keeps g w w'

theorem sorted_of {l : List Bd} {g : Nat} {w w' : World} (h : Row5 w g l) {d' : Array Bd} {n : Nat} {os : Array Obj} (hp : Go.Sort.PermIn 0 l.toArray.size l.toArray d') (hs : Go.Sort.SortedIn (ltOf fun x y : Bd => ints x.var y.var) 0 l.toArray.size d') (hw : w' = sortWorldK Bd.cells 5 w g 0 n d' os) :
    ∃ l' : List Bd, l'.Perm l ∧ Srt l' ∧ Row5 w' g l' ∧ Keeps g w w' := by
  have hz : d'.size = l.length := by simpa using hp.1
  have hK : Keeps g w w' := by rw [hw]; exact keeps_sort
  have hg : g < w'.heap.size := Nat.lt_of_lt_of_le h.1 hK.size
  refine ⟨d'.toList, ?_, fun i j hij hj => ?_, Row5.of_holdsK hg (fun j => ?_) ?_, hK⟩
  · have := hp.2.2
    simp only [List.size_toArray] at this
    rw [Array.extract_eq_self_of_le (by omega)] at this
    simpa using this
  · rw [list_getD, list_getD]
    simp only [Array.length_toList] at hj
    rcases Nat.lt_or_ge i j with h1 | h1
    · have := hs i j (Nat.zero_le _) h1 (by simp; omega)
      rw [lt_vars] at this
      simp only [decide_eq_false_iff_not] at this
      omega
    · obtain rfl : i = j := by omega
      exact Int.le_refl _
  · rw [hw]
    unfold sortWorldK
    rw [Go.Sort.frozen?_grow _ _ _ (by rw [Go.Sort.size_putRowK]; exact h.1)]
    unfold Go.Sort.putRowK
    rw [Go.Sort.frozen?_putRow]
    exact h.2.1 j
  · rw [hw]
    exact holdsK_sortWorldK_c Bd.cells 5 w g 0 l.toArray d' n os h.holdsK h.1 (by simpa using hp.1)

set_option maxHeartbeats 2000000 in
set_option maxRecDepth 100000 in
theorem sort_at (l : List Bd) (g c : Nat) (w : World) (h : Row5 w g l) (hlen : l.length ≤ 1000000) :
    Calls Tryz.prog 50 #[.slice (some ⟨g, 0, none⟩) l.length c, .func (.func 51) #[] #[]] w (Sorted5 l g w) := by
  have eg : ∀ args w, (callFunc 51 args).run Tryz.prog w = .ok (.enter 51 args) w := enters_of Tryz.func51 (by kernel_rfl) rfl
  have hlim : Lib.bitLen l.length < 4611686018427387904 := Nat.lt_of_le_of_lt (Lib.bitLen_le l.length 62 (by omega) (by omega)) (by omega)
  have hp := AnyQ.pdqsortCmpFunc_all Tryz.pdqB 5 Tryz.isAgg53 Tryz.sizeOf53 Bd.cells (fun x y : Bd => ints x.var y.var) 51 #[] swo_vars g 0 c l.toArray w eg (cmp_lays g 0 l.toArray.size w)
    ⟨fun _ => rfl, fun x v hv => by simp [Bd.cells] at hv; rcases hv with rfl | rfl | rfl | rfl | rfl <;> rfl, h.holdsK, h.1⟩ (l.toArray.size + 1) 0 l.toArray.size (Lib.bitLen l.toArray.size) l.toArray w (by omega) rfl (SWK.start h.holdsK) (Nat.zero_le _) (Nat.le_refl _) (by simp; omega) (by simpa using hlim) (Or.inl rfl)
  have hs := Go.Sort.pdq_sorts (ltOf fun x y : Bd => ints x.var y.var) swo_vars l.toArray 0 l.toArray.size (Lib.bitLen l.toArray.size) true true (Nat.zero_le _) (Nat.le_refl _) (Or.inl rfl)
  have hl : Calls Tryz.prog 77 #[.int .u64 (l.length : Int)] w fun e w' => e = .returned (.int .i64 (Lib.bitLen l.length : Nat)) ∧ w' = w := by
    have h := Any.bits_Len (SlLaysF0.n15.bits Tryz.bitsB) (l.length : Int) w (by omega) (by omega)
    rwa [Int.toNat_natCast] at h
  have HR := Lib.hid h
  have HS := Lib.hid hs
  have wr : IntKind.u64.wrap (l.length : Int) = l.length := by simp [IntKind.wrap, IntKind.bits, IntKind.signed]; omega
  generalize Go.Sort.pdq (ltOf fun x y : Bd => ints x.var y.var) l.toArray 0 l.toArray.size (Lib.bitLen l.toArray.size) true true = d' at *
  simp only [List.size_toArray] at hp
  have HL := Lib.hid hl
  have HPq := Lib.hid hp
  clear hs h hl hp
  go_enter Tryz.func50, Tryz.ntmps50
  go_wp2_with fail
  refine HL.out.mono ?_
  rintro e w' ⟨rfl, rfl⟩
  go_wp2_with fail
  refine HPq.out.mono ?_
  rintro e w' ⟨rfl, n, os, rfl⟩
  have HN := Lib.hid (sorted_of HR.out HS.out.1 HS.out.2 rfl (n := n) (os := os))
  go_wp2_with fail
  go_end0
  exact ⟨rfl, HN.out⟩

set_option maxHeartbeats 1000000 in
theorem insertion_none (A : Option Addr) (c : Nat) (w : World) : Calls Tryz.prog 88 #[.slice A 0 c, .int .i64 0, .int .i64 0, .func (.func 51) #[] #[]] w fun e w' => e = .returned (.tuple #[]) ∧ w = w' := by
  go_enter Tryz.func88, Tryz.ntmps88
  go_wp2_with fail
  refine wp_loop_rounds 1 ?_
  rw [rounds_succ]
  go_wp2_with fail
  go_end0
  exact ⟨rfl, rfl⟩
set_option maxHeartbeats 1000000 in
set_option maxRecDepth 100000 in
theorem pdq_none (A : Option Addr) (c : Nat) (m : Int) (w : World) : Calls Tryz.prog 76 #[.slice A 0 c, .int .i64 0, .int .i64 0, .int .i64 m, .func (.func 51) #[] #[]] w fun e w' => e = .returned (.tuple #[]) ∧ w = w' := by
  go_enter Tryz.func76, Tryz.ntmps76
  go_wp2_with fail
  refine wp_loop_rounds 1 ?_
  rw [rounds_succ]
  go_wp2_with fail
  refine (insertion_none A c _).mono ?_
  rintro e w' ⟨rfl, rfl⟩
  go_wp2_with fail
  exact bodyPost_ret (v := .tuple #[]) (by simp [results, Tryz.results76, go_sem]) rfl ⟨rfl, rfl⟩
set_option maxHeartbeats 1000000 in
theorem sort_none (A : Option Addr) (c : Nat) (w : World) : Calls Tryz.prog 50 #[.slice A 0 c, .func (.func 51) #[] #[]] w fun e w' => e = .returned (.tuple #[]) ∧ w = w' := by
  have hl : Calls Tryz.prog 77 #[.int .u64 0] w fun e w' => e = .returned (.int .i64 (Lib.bitLen 0 : Nat)) ∧ w' = w := by
    have h := Any.bits_Len (SlLaysF0.n15.bits Tryz.bitsB) 0 w (by omega) (by omega)
    exact h
  generalize ((Lib.bitLen 0 : Nat) : Int) = m at *
  have HL := Lib.hid hl
  clear hl
  go_enter Tryz.func50, Tryz.ntmps50
  go_wp2_with fail
  refine HL.out.mono ?_
  rintro e w' ⟨rfl, rfl⟩
  go_wp2_with fail
  refine (pdq_none A c _ _).mono ?_
  rintro e w' ⟨rfl, rfl⟩
  go_wp2_with fail
  go_end0
  exact ⟨rfl, rfl⟩
end Go.Proofs.YtgialbcohkpogaaGreat
