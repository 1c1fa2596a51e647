/-
  A map of numbers to their places in a list, in memory; Number's function value; firstOccurrences of the program.
-/
import Derived.Test.YtpnjjahimhhjkaaVaProg
import Derived.Test.YtpnjjahimhhjkaaTmTop
namespace Go.Proofs.Ytpnjjahimhhjkaa
open Go.RowKit Go.Maps

/-- The variables that occur fit. -/
theorem occ_fits {w : World} : (∀ t : Tm, t.At w → ∀ v ∈ t.occ, Fits v) ∧ (∀ (l : List Tm) (b o : Nat), RowAt w l b o → ∀ v ∈ occL l, Fits v) := by
  refine Tm.induct2 (fun k n s A c a ih h v hv => ?_) (fun _ _ _ v hv => by simp [occL] at hv) (fun t r h1 h2 b o h v hv => ?_)
  · simp only [Tm.At] at h
    by_cases k1 : k = 1
    · simp [Tm.occ, k1] at hv
      rw [hv]; exact h.1.2.1
    · by_cases k2 : k = 2
      · simp [Tm.occ, k2] at hv
        have hp : 0 < a.length := by
          cases a with
          | nil => simp [occL] at hv
          | cons _ _ => simp
        obtain ⟨b, o, _, hr⟩ := h.2.2.2 hp
        exact ih b o hr v hv
      · simp [Tm.occ, k1, k2] at hv
  · simp only [RowAt] at h
    simp only [occL, List.mem_append] at hv
    rcases hv with hv | hv
    · exact h1 h.2.1 v hv
    · exact h2 b (o + 4) h.2.2 v hv
theorem Lst.occ_fits {w : World} {A : Option Addr} {l : List Tm} {c : Nat} (h : Lst w A l c) : ∀ v ∈ occL l, Fits v := by
  intro v hv
  have hp : 0 < l.length := by
    cases l with
    | nil => simp [occL] at hv
    | cons _ _ => simp
  obtain ⟨b, o, _, hr⟩ := h.2.2 hp
  exact Go.Proofs.Ytpnjjahimhhjkaa.occ_fits.2 l b o hr v hv

/-- The place in a list; 0 where it is not there. -/
def plc (l : List Int) (n : Int) : Int := if n ∈ l then place l n else 0
theorem plc_fits {l : List Int} (hl : l.length ≤ 1000000) (n : Int) : Fits (plc l n) := by
  unfold plc
  split
  · have := place_lt ‹_›
    unfold Fits; omega
  · unfold Fits; omega
def numD (l : List Int) : DataW Unit := l.zipIdx.foldl (fun m p => m.put (.int .i64 p.1) (.lit (.int .i64 (p.2 : Nat)))) (.map [])
theorem numD_snoc (l : List Int) (x : Int) : numD (l ++ [x]) = (numD l).put (.int .i64 x) (.lit (.int .i64 (l.length : Nat))) := by
  simp [numD, List.zipIdx_append, List.foldl_append]
theorem place_snoc {l : List Int} {x n : Int} (hx : x ∉ l) : plc (l ++ [x]) n = if n = x then (l.length : Int) else plc l n := by
  unfold plc place
  by_cases h : n = x
  · subst h
    rw [if_pos (by simp), if_pos rfl, List.idxOf_append, if_neg hx]
    simp
  · rw [if_neg h]
    by_cases hn : n ∈ l
    · rw [if_pos (by simp [hn]), if_pos hn, List.idxOf_append, if_pos hn]
    · rw [if_neg (by simp [hn, h]), if_neg hn]
theorem num_at (l : List Int) (n : Int) (hl : ∀ m ∈ l, Fits m) (hd : l.Nodup) : (numD l).atKey (.int .i64 n) (.lit (.int .i64 0)) = .lit (.int .i64 (plc l n)) := by
  have key : ∀ r : List Int, (∀ m ∈ r, Fits m) → r.Nodup → (numD r.reverse).atKey (.int .i64 n) (.lit (.int .i64 0)) = .lit (.int .i64 (plc r.reverse n)) ∧ IsMap (numD r.reverse) := by
    intro r
    induction r with
    | nil => intro _ _; exact ⟨rfl, isMap_empty⟩
    | cons x r ih =>
      intro h hd
      have hd2 := List.nodup_cons.1 hd
      obtain ⟨h1, h2⟩ := ih (fun m hm => h m (List.mem_cons_of_mem _ hm)) hd2.2
      rw [List.reverse_cons, numD_snoc]
      refine ⟨?_, h2.put _ _⟩
      rw [place_snoc (by simpa using hd2.1)]
      by_cases hx : n = x
      · subst hx
        rw [atKey_put_same h2 (by first | exact trivial | simp [WideAt.IsKeyLit]), if_pos rfl]
      · rw [atKey_put_other (fun e => hx (by injection e)), h1, if_neg hx]
  have := (key l.reverse (fun m hm => hl m (by simpa using hm)) (List.pairwise_reverse.2 (hd.imp fun h => Ne.symm h))).1
  simpa using this
theorem zero_int (w : World) : (zeroValue 3).run Try.prog w = .ok (.int .i64 0) w := by kernel_rfl
/-- The map in block b holds the places of the list's numbers. -/
def Nums (w : World) (b : Nat) (l : List Int) : Prop := (∀ n ∈ l, Fits n) ∧ l.Nodup ∧ w.ownsMap Try.prog 3 (plainElem Try.prog 3) b l.length (numD l)
theorem Nums.keep {w w' : World} {b : Nat} {l : List Int} (h : Nums w b l) (hb : Below w.heap.size w w') : Nums w' b l :=
  ⟨h.1, h.2.1, h.2.2.kept (row := none) ⟨hb.os, hb.tape, hb.output, hb.size, fun k hk _ => hb.block k hk⟩ (by simp)⟩
theorem wpList_num (w : World) {ops : Array Oper} {rest : List Oper} {o : Oper} {a : Act} {Q : Exit → Act → World → Prop}
    (hg : o.guard = none) (m x : Operand) (hop : o.op = Op.lookup 73 m x false) (b : Nat) (l : List Int) (hm : a.eval m = .map (some b)) (h : Nums w b l) (n : Int) (hx : a.eval x = .int .i64 n) (hf : Fits n)
    (hK : wpList Try.prog ops Q rest (a.put o.dst (.int .i64 (plc l n))) w) : wpList Try.prog ops Q (o :: rest) a w := by
  refine wpList_lookup_own_int w hg m x 73 hop 3 3 .i64 keyed Try.underlying73 Try.underlying3 (zero_int w) b _ _ hm h.2.2 _ _ hx (keyOf_int_mk Try.underlying3 (fits_wf hf)) fun c hat _ => ?_
  rw [num_at l n h.1 h.2.1] at hat
  obtain rfl : c = plc l n := by
    simp only [DataW.lit.injEq, Lit.int.injEq, true_and] at hat
    exact hat.symm
  exact hK
theorem wpList_number (w : World) {ops : Array Oper} {rest : List Oper} {o : Oper} {a : Act} {Q : Exit → Act → World → Prop}
    (hg : o.guard = none) (m x v : Operand) (hop : o.op = Op.mapUpdate 73 m x v) (b : Nat) (l : List Int) (hm : a.eval m = .map (some b)) (h : Nums w b l) (hl : l.length ≤ 1000000) (n : Int) (hx : a.eval x = .int .i64 n) (hf : Fits n) (hn : n ∉ l) (hv : a.eval v = .int .i64 (l.length : Nat))
    (hK : ∀ w', Nums w' b (l ++ [n]) → w.grownBy w' (some b) → wpList Try.prog ops Q rest (a.put o.dst undef) w') : wpList Try.prog ops Q (o :: rest) a w := by
  refine wpList_mapUpdate_own w hg m x v 73 hop 3 3 keyed Try.underlying73 _ b l.length (numD l) hm h.2.2 (by unfold maxLen; omega) _ _ (.int .i64 n) hx hv (keyOf_int_mk Try.underlying3 (fits_wf hf)) (.lit (.int .i64 (l.length : Nat))) [] (plainElem_int Try.underlying3 (fits_wf (by unfold Fits; omega))) fun w' h1 h2 => hK w' ⟨?_, ?_, ?_⟩ h2
  · intro k hk
    rcases List.mem_append.1 hk with h' | h'
    · exact h.1 k h'
    · obtain rfl := List.mem_singleton.1 h'
      exact hf
  · refine List.nodup_append.2 ⟨h.2.1, by simp, ?_⟩
    intro p hp q hq e
    simp only [List.mem_singleton] at hq
    subst e hq
    exact hn hp
  · rw [numD_snoc, List.length_append]
    exact h1

theorem number_fn_at (l : List Int) (P b : Nat) (v : Int) (hv : Fits v) (w : World) (hc : w.cell? ⟨P, 0, none⟩ = some (.map (some b))) (h : Nums w b l) :
    Calls Try.prog 52 #[.int .i64 v, .pointer (some ⟨P, 0, none⟩)] w fun e w' => e = .returned (.int .i64 (plc l v)) ∧ Below w.heap.size w w' := by
  have HN := Lib.hid h
  clear h
  go_enter Try.func52, Try.ntmps52
  go_wp2_with (at_lookup; refine wpList_num _ rfl _ _ rfl _ l rfl HN.out v rfl hv ?_)
  go_ret
  exact ⟨rfl, Below.refl _ _⟩
theorem number_renames {l : List Int} (hl : l.length ≤ 1000000) {P b : Nat} {w0 : World} (hc : w0.cell? ⟨P, 0, none⟩ = some (.map (some b))) (h : Nums w0 b l) : Renames 52 #[.pointer (some ⟨P, 0, none⟩)] (plc l) w0 where
  enter := enters_fn Try.func52 (by kernel_rfl) rfl
  fits := fun v _ => plc_fits hl v
  call := fun v W hv hb => number_fn_at l P b v hv W (keepv hb hc) (h.keep hb)

/-- The variables of a list, each once. -/
def varsL (l : List Tm) : List Int := addAll [] (occL l)
theorem varsL_len (l : List Tm) : (varsL l).length ≤ nodesL l := by
  unfold varsL
  have h1 := addAll_length [] (occL l)
  have h2 := occ_length.2 l
  have h3 := size_nodes.2 l
  simp only [List.length_nil] at h1
  omega
theorem varsL_nodup (l : List Tm) : (varsL l).Nodup := addAll_nodup (occL l) [] List.nodup_nil
theorem mem_varsL (l : List Tm) (v : Int) : v ∈ varsL l ↔ v ∈ occL l := mem_occ_vars l v
theorem varsL_fits {w : World} {A : Option Addr} {l : List Tm} {c : Nat} (h : Lst w A l c) : ∀ v ∈ varsL l, Fits v := fun v hv => h.occ_fits v ((mem_varsL l v).1 hv)
theorem topL_varsL (l : List Tm) : topL (varsL l) = topL (occL l) := topL_vars l

theorem first_occ_at (l : List Tm) (A : Option Addr) (c : Nat) (w : World) (hl : Lst w A l c) (hz : sizeL l ≤ 1000000) :
    Calls Try.prog 50 #[.slice A l.length c] w (Grows w (varsL l)) := by
  unfold varsL
  have Q := Lib.hid (show Calls Try.prog 71 #[.agg #[.string ⟨#[]⟩, .slice A l.length c]] w (Grows w (addAll [] (occL l))) from atom_vars_at ⟨⟨#[]⟩, A, c, l⟩ w ⟨Nat.zero_le _, hl⟩ hz)
  generalize addAll [] (occL l) = vs at *
  clear hl hz
  go_enter Try.func50, Try.ntmps50
  go_wp2_with fail
  refine Q.out.mono ?_
  rintro e w1 ⟨v, rfl, hown, hb⟩
  go_wp2_with fail
  go_ret
  exact Grows.mk rfl hown hb
end Go.Proofs.Ytpnjjahimhhjkaa
