/-
  Contracts of shape and least of the reference.
  Joining in the reference, plainly.
  Nodes are added to the reference's graph: what stays. No walk.
-/
import Derived.Test.YtelkmnjoboekmaaGreatMb15
import Derived.Test.YtelkmnjoboekmaaGreatMb14
namespace Go.Proofs.YtelkmnjoboekmaaGreat
open Go.RowKit

def shapeI (G : List Nd) (root : Nat → Nat) (c : Nat) : Int := match shapeOf G root c with
  | some m => (m : Int)
  | none => -1
theorem shape_first {G : List Nd} {root : Nat → Nat} {c j : Nat} (h : ∀ i, i < j → shapeP G root c i = false) (hj : j < G.length) (hp : shapeP G root c j = true) : shapeI G root c = (j : Int) := by
  have : shapeOf G root c = some j := by
    unfold shapeOf
    rw [List.find?_range_eq_some]
    exact ⟨hp, by simpa using hj, fun i hi => by simp [h i hi]⟩
  unfold shapeI
  rw [this]
theorem shape_no {G : List Nd} {root : Nat → Nat} {c : Nat} (h : ∀ i, i < G.length → shapeP G root c i = false) : shapeI G root c = -1 := by
  have : shapeOf G root c = none := by
    unfold shapeOf
    rw [List.find?_eq_none]
    intro i hi
    simp [h i (by simpa using hi)]
  unfold shapeI
  rw [this]
theorem shapeI_cases (G : List Nd) (root : Nat → Nat) (c : Nat) : (shapeOf G root c = none ∧ shapeI G root c = -1) ∨ ∃ m : Nat, shapeOf G root c = some m ∧ shapeI G root c = (m : Int) := by
  unfold shapeI
  cases h : shapeOf G root c with
  | none => exact .inl ⟨rfl, rfl⟩
  | some m => exact .inr ⟨m, rfl, rfl⟩
set_option maxHeartbeats 2000000 in
theorem shape_at {lo p c : Nat} {Y : Nat → Prop} {w : World} {zL zC : Value} {G : List Nd} {cls : List Nat} (h : RG lo Y w p zL zC G cls) :
    Calls Tryz.prog 116 #[.pointer (some ⟨p, 0, none⟩), .int .i64 (c : Nat)] w fun e w' => e = .returned (.int .i64 (shapeI G (clsR cls) c)) ∧ w = w' := by
  obtain ⟨⟨A, ca, rfl, _⟩, B, cb, rfl, _⟩ := h.slices
  have h0 := h.hl
  have h1 := h.hc
  have hsm := h.small
  have HG := Lib.hid h
  obtain ⟨r, hr⟩ : ∃ r, shapeI G (clsR cls) c = r := ⟨_, rfl⟩
  have HR := Lib.hid hr
  rw [hr]
  clear h hr
  go_enter Tryz.func116, Tryz.ntmps116
  go_wp2_with fail
  go_loopw [5] (fun i wr => ∃ j : Nat, j ≤ G.length ∧ i = .int .i64 (j : Nat) ∧ Hid (∀ i, i < j → shapeP G (clsR cls) c i = false) ∧ w = wr) (fun i _ => G.length - (intOf i).toNat)
  case atStart => exact ⟨0, Nat.zero_le _, rfl, Lib.hid fun i hi => by omega, rfl⟩
  case round =>
    obtain ⟨j, hj, rfl, HF, rfl⟩ := hrel
    by_cases hlt : j < G.length
    · obtain ⟨q, c1, q2, c2, e1, e2, _⟩ := HG.out.form (by omega)
      injection e1 with e1 _ e1'
      injection e2 with e2 _ e2'
      subst e1 e1' e2 e2'
      have d0 := (HG.out.cells hlt).1
      have d4 := HG.out.class hlt
      have HS := Lib.hid (fun hp => shape_first HF.out hlt hp)
      have HN := Lib.hid (fun (hp : shapeP G (clsR cls) c j = false) => show ∀ i, i < j + 1 → shapeP G (clsR cls) c i = false from fun i hi => by
        by_cases e : i = j
        · rw [e]; exact hp
        · exact HF.out i (by omega))
      by_cases he : clsR cls j = c
      · have he' : (((clsR cls j : Nat) : Int) == ((c : Nat) : Int)) = true := by simp [he]
        by_cases hk : (nd G j).tm.kind = 1
        · have HE := Lib.hid (HN.out (by simp [shapeP, hk]))
          have hk' : ((nd G j).tm.kind != 1) = false := by simp [hk]
          clear hk he HS HN HF
          generalize clsR cls j = cj at *
          generalize (nd G j).tm.kind = kj at *
          go_wp2_with fail
          go_roundw
          case rel => exact ⟨j + 1, by omega, by go_num, HE, trivial⟩
          case measure => simp [intOf]; omega
        · have HE := Lib.hid (HS.out (by simp [shapeP, hk, he]))
          have hk' : ((nd G j).tm.kind != 1) = true := by simp [hk]
          clear hk he HS HN HF
          generalize clsR cls j = cj at *
          generalize (nd G j).tm.kind = kj at *
          go_wp2_with fail
          go_ret
          exact ⟨by rw [← HR.out, HE.out]; rfl, rfl⟩
      · have HE := Lib.hid (HN.out (by simp [shapeP, he]))
        have he' : (((clsR cls j : Nat) : Int) == ((c : Nat) : Int)) = false := by simp; omega
        clear he HS HN HF
        generalize clsR cls j = cj at *
        go_wp2_with fail
        go_roundw
        case rel => exact ⟨j + 1, by omega, by go_num, HE, trivial⟩
        case measure => simp [intOf]; omega
    · obtain rfl : j = G.length := by omega
      have HE := Lib.hid (show -1 = r by rw [← HR.out, shape_no HF.out])
      go_wp2_with fail
      go_ret
      exact ⟨by rw [← HE.out]; rfl, rfl⟩

/-! ### The smallest variable -/
def LeastUp (G : List Nd) (root : Nat → Nat) (c j : Nat) (v : Int) : Prop :=
  (v = -1 ∧ ∀ i, i < j → varP G root c i = false) ∨ ∃ m, m < j ∧ varP G root c m = true ∧ v = (nd G m).tm.num ∧ ∀ i, i < j → varP G root c i = true → (nd G m).tm.num ≤ (nd G i).tm.num
theorem LeastUp.skip {G : List Nd} {root : Nat → Nat} {c j : Nat} {v : Int} (h : LeastUp G root c j v) (hp : varP G root c j = false) : LeastUp G root c (j + 1) v := by
  rcases h with ⟨rfl, h⟩ | ⟨m, h1, h2, h3, h4⟩
  · exact .inl ⟨rfl, fun i hi => by
      by_cases e : i = j
      · rw [e]; exact hp
      · exact h i (by omega)⟩
  · exact .inr ⟨m, by omega, h2, h3, fun i hi hv => by
      by_cases e : i = j
      · rw [e, hp] at hv; cases hv
      · exact h4 i (by omega) hv⟩
theorem LeastUp.keep {G : List Nd} {root : Nat → Nat} {c j : Nat} {v : Int} (h : LeastUp G root c j v) (h0 : ¬ v < 0) (hn : ¬ (nd G j).tm.num < v) : LeastUp G root c (j + 1) v := by
  rcases h with ⟨rfl, h⟩ | ⟨m, h1, h2, h3, h4⟩
  · omega
  · exact .inr ⟨m, by omega, h2, h3, fun i hi hv => by
      by_cases e : i = j
      · rw [e]; omega
      · exact h4 i (by omega) hv⟩
theorem LeastUp.take {G : List Nd} {root : Nat → Nat} {c j : Nat} {v : Int} (h : LeastUp G root c j v) (hp : varP G root c j = true) (hn : v < 0 ∨ (nd G j).tm.num < v) (hpos : ∀ i, i < j → varP G root c i = true → 0 ≤ (nd G i).tm.num) : LeastUp G root c (j + 1) (nd G j).tm.num := by
  refine .inr ⟨j, by omega, hp, rfl, fun i hi hv => ?_⟩
  by_cases e : i = j
  · rw [e]; exact Int.le_refl _
  · rcases h with ⟨rfl, h⟩ | ⟨m, h1, h2, h3, h4⟩
    · rw [h i (by omega)] at hv; cases hv
    · have a1 := h4 i (by omega) hv
      have a2 := hpos m h1 h2
      omega
theorem LeastUp.is {G : List Nd} {root : Nat → Nat} {c t : Nat} {v : Int} (h : LeastUp G root c G.length v) (ht : leastOf G root c = some t) : v = (nd G t).tm.num := by
  obtain ⟨h1, h2, h3, h4⟩ := leastOf_some ht
  have hv : varP G root c t = true := by simp [varP, h2, h3]
  rcases h with ⟨rfl, h⟩ | ⟨m, a1, a2, a3, a4⟩
  · rw [h t h1] at hv; cases hv
  · have b1 := a4 t h1 hv
    simp only [varP, Bool.and_eq_true, decide_eq_true_eq] at a2
    have b2 := h4 m a1 a2.1 a2.2
    omega
set_option maxHeartbeats 4000000 in
theorem least_at {lo p c : Nat} {Y : Nat → Prop} {w : World} {zL zC : Value} {G : List Nd} {cls : List Nat} (h : RG lo Y w p zL zC G cls) (hf : ∀ i, i < G.length → (nd G i).tm.form = true) :
    Calls Tryz.prog 117 #[.pointer (some ⟨p, 0, none⟩), .int .i64 (c : Nat)] w fun e w' => ∃ v, e = .returned (.int .i64 v) ∧ LeastUp G (clsR cls) c G.length v ∧ w = w' := by
  obtain ⟨⟨A, ca, rfl, _⟩, B, cb, rfl, _⟩ := h.slices
  have h0 := h.hl
  have h1 := h.hc
  have hsm := h.small
  have HG := Lib.hid h
  have HP := Lib.hid (show ∀ i, i < G.length → varP G (clsR cls) c i = true → 0 ≤ (nd G i).tm.num from fun i hi hv => by
    simp only [varP, Bool.and_eq_true, decide_eq_true_eq] at hv
    exact (form_var (hf i hi) hv.2).2.1)
  clear h hf
  go_enter Tryz.func117, Tryz.ntmps117
  go_wp2_with fail
  go_loopw [5, 6] (fun s5 i wr => ∃ (v : Int) (j : Nat), j ≤ G.length ∧ s5 = .int .i64 v ∧ i = .int .i64 (j : Nat) ∧ Hid (LeastUp G (clsR cls) c j v) ∧ w = wr) (fun _ i _ => G.length - (intOf i).toNat)
  case atStart => exact ⟨-1, 0, Nat.zero_le _, rfl, rfl, Lib.hid (.inl ⟨rfl, fun i hi => by omega⟩), rfl⟩
  case round =>
    obtain ⟨v, j, hj, rfl, rfl, HF, rfl⟩ := hrel
    by_cases hlt : j < G.length
    · obtain ⟨q, c1, q2, c2, e1, e2, _⟩ := HG.out.form (by omega)
      injection e1 with e1 _ e1'
      injection e2 with e2 _ e2'
      subst e1 e1' e2 e2'
      have d0 := (HG.out.cells hlt).1
      have d1 := (HG.out.cells hlt).2.1
      have d4 := HG.out.class hlt
      by_cases he : clsR cls j = c
      · have he' : (((clsR cls j : Nat) : Int) == ((c : Nat) : Int)) = true := by simp [he]
        by_cases hk : (nd G j).tm.kind = 1
        · have hk' : ((nd G j).tm.kind == 1) = true := by simp [hk]
          have hvp : varP G (clsR cls) c j = true := by simp [varP, hk, he]
          have HT := Lib.hid (fun hn => HF.out.take hvp hn (fun i hi => HP.out i (by omega)))
          have HK := Lib.hid (fun h0 hn => HF.out.keep h0 hn)
          clear hk he HF hvp
          generalize clsR cls j = cj at *
          generalize (nd G j).tm.kind = kj at *
          generalize (nd G j).tm.num = nj at *
          by_cases hv : v < 0
          · have hv' : decide (v < 0) = true := decide_eq_true hv
            have HE := Lib.hid (HT.out (.inl hv))
            clear HT HK hv
            go_wp2_with fail
            go_roundw
            case rel => exact ⟨nj, j + 1, by omega, rfl, by go_num, HE, trivial⟩
            case measure => simp [intOf]; omega
          · have hv' : decide (v < 0) = false := decide_eq_false hv
            by_cases hn : nj < v
            · have hn' : decide (nj < v) = true := decide_eq_true hn
              have HE := Lib.hid (HT.out (.inr hn))
              clear HT HK hv hn
              go_wp2_with fail
              go_roundw
              case rel => exact ⟨nj, j + 1, by omega, rfl, by go_num, HE, trivial⟩
              case measure => simp [intOf]; omega
            · have hn' : decide (nj < v) = false := decide_eq_false hn
              have HE := Lib.hid (HK.out hv hn)
              clear HT HK hv hn
              go_wp2_with fail
              go_roundw
              case rel => exact ⟨v, j + 1, by omega, rfl, by go_num, HE, trivial⟩
              case measure => simp [intOf]; omega
        · have HE := Lib.hid (HF.out.skip (by simp [varP, hk]))
          have hk' : ((nd G j).tm.kind == 1) = false := by simp [hk]
          clear hk he HF
          generalize clsR cls j = cj at *
          generalize (nd G j).tm.kind = kj at *
          go_wp2_with fail
          go_roundw
          case rel => exact ⟨v, j + 1, by omega, rfl, by go_num, HE, trivial⟩
          case measure => simp [intOf]; omega
      · have HE := Lib.hid (HF.out.skip (by simp [varP, he]))
        have he' : (((clsR cls j : Nat) : Int) == ((c : Nat) : Int)) = false := by simp; omega
        clear he HF
        generalize clsR cls j = cj at *
        go_wp2_with fail
        go_roundw
        case rel => exact ⟨v, j + 1, by omega, rfl, by go_num, HE, trivial⟩
        case measure => simp [intOf]; omega
    · obtain rfl : j = G.length := by omega
      go_wp2_with fail
      go_ret
      exact ⟨_, rfl, HF.out, rfl⟩
end Go.Proofs.YtelkmnjoboekmaaGreat
namespace Go.Proofs.YtelkmnjoboekmaaGreat
open Go.RowKit

def remap (x y c : Nat) : Nat := if c = y then x else c
/-- The first j classes are renamed. -/
def mixed (cls : List Nat) (x y j : Nat) : List Nat := (cls.take j).map (remap x y) ++ cls.drop j
theorem mixed_zero (cls : List Nat) (x y : Nat) : mixed cls x y 0 = cls := by simp [mixed]
theorem mixed_all (cls : List Nat) (x y : Nat) {n : Nat} (h : cls.length = n) : mixed cls x y n = cls.map (remap x y) := by
  subst h
  simp [mixed]
theorem mixed_len (cls : List Nat) (x y j : Nat) : (mixed cls x y j).length = cls.length := by
  simp [mixed]; omega
theorem mixed_at {cls : List Nat} {x y j : Nat} (h : j < cls.length) : clsR (mixed cls x y j) j = clsR cls j := by
  rw [clsR_get (by rw [mixed_len]; exact h), clsR_get h]
  simp only [mixed, List.getD]
  rw [List.getElem?_append_right (by simp; omega), List.length_map, List.length_take, Nat.min_eq_left (by omega), Nat.sub_self, List.getElem?_drop]
  simp
theorem mixed_next {cls : List Nat} {x y j : Nat} (h : j < cls.length) : mixed cls x y (j + 1) = (mixed cls x y j).set j (remap x y (clsR cls j)) := by
  have e : cls.drop j = clsR cls j :: cls.drop (j + 1) := by
    rw [clsR_get h]
    simp [List.getD, h]
  simp only [mixed]
  rw [e, List.set_append_right _ _ (by simp; omega), List.length_map, List.length_take, Nat.min_eq_left (by omega), Nat.sub_self, List.set_cons_zero, List.take_succ_eq_append_getElem h, List.map_append, List.append_assoc]
  congr 1
  rw [clsR_get h]
  simp [List.getD, h]
theorem mixed_same {cls : List Nat} {x y j : Nat} (h : j < cls.length) (hn : clsR cls j ≠ y) : mixed cls x y (j + 1) = mixed cls x y j := by
  rw [mixed_next h]
  have e := mixed_at (x := x) (y := y) h
  unfold remap
  rw [if_neg hn, ← e, clsR_get (by rw [mixed_len]; exact h)]
  refine List.ext_getElem? fun m => ?_
  rw [List.getElem?_set]
  split
  · rename_i e; subst e
    rw [if_pos (by rw [mixed_len]; exact h)]
    simp [List.getD, show j < (mixed cls x y j).length by rw [mixed_len]; exact h]
  · rfl
section
variable {G : List Nd} {cls : List Nat} {op E : List (Nat × Nat)} {a b x y : Nat}
theorem rmap_root (hy : y < cls.length) : clsR (cls.map (remap x y)) = mergeR (clsR cls) x y := clsR_map hy
/-- One of the two classes has no node but variables. -/
theorem merge_var (h : Mid G (clsR cls) ((a, b) :: op) E) (hok : Ok G) (hx : x = clsR cls a) (hy : y = clsR cls b) (hne : x ≠ y) (hs : shapeOf G (clsR cls) x = none ∨ shapeOf G (clsR cls) y = none) : Mid G (mergeR (clsR cls) x y) op E :=
  h.merge hok (List.mem_cons_self) hx hy hne (fun p hp => by rcases List.mem_cons.1 hp with h | h; exact .inl h; exact .inr h) (fun p hp => .inl (List.mem_cons_of_mem _ hp)) fun m n hm hn hkm hkn em en => by
    rcases hs with hs | hs
    · exact absurd (shapeOf_none hs m hm em) hkm
    · exact absurd (shapeOf_none hs n hn en) hkn
theorem merge_fun (h : Mid G (clsR cls) ((a, b) :: op) E) (hok : Ok G) (hx : x = clsR cls a) (hy : y = clsR cls b) (hne : x ≠ y) {m n : Nat} (hm : shapeOf G (clsR cls) x = some m) (hn : shapeOf G (clsR cls) y = some n) (hl : SameLab G m n) :
    Mid G (mergeR (clsR cls) x y) ((nd G m).kids.zip (nd G n).kids ++ op) E := by
  obtain ⟨a1, a2, a3⟩ := shapeOf_some hm
  obtain ⟨b1, b2, b3⟩ := shapeOf_some hn
  refine h.merge hok (List.mem_cons_self) hx hy hne (fun p hp => ?_) (fun p hp => ?_) fun m' n' _ _ _ _ _ _ => ⟨m, n, a1, b1, a3, b3, a2, b2, hl, fun p hp => List.mem_append.2 (.inl hp)⟩
  · rcases List.mem_cons.1 hp with h | h
    · exact .inl h
    · exact .inr (List.mem_append.2 (.inr h))
  · rcases List.mem_append.1 hp with h | h
    · exact .inr ⟨m, n, a1, b1, a3, b3, a2, b2, h⟩
    · exact .inl (List.mem_cons_of_mem _ h)
theorem merge_apart (h : Mid G (clsR cls) ((a, b) :: op) E) (hok : Ok G) {m n : Nat} (hm : shapeOf G (clsR cls) (clsR cls a) = some m) (hn : shapeOf G (clsR cls) (clsR cls b) = some n) (hl : ¬ SameLab G m n) : ∀ f, ¬ ∀ p ∈ E, ndv f G p.1 = ndv f G p.2 := by
  obtain ⟨a1, a2, a3⟩ := shapeOf_some hm
  obtain ⟨b1, b2, b3⟩ := shapeOf_some hn
  exact h.apart hok (List.mem_cons_self) a1 b1 a3 b3 a2 b2 hl
theorem zip_drop {l m : List Nat} {j : Nat} (h1 : j < l.length) (h2 : j < m.length) : (l.zip m).drop j = (l.getD j 0, m.getD j 0) :: (l.zip m).drop (j + 1) := by
  rw [List.drop_eq_getElem_cons (by rw [List.length_zip]; omega)]
  simp [List.getD, h1, h2]
end
/-- What join answers. -/
def JoinO (lo : Nat) (Y : Nat → Prop) (p : Nat) (zL zC : Value) (G : List Nd) (cls : List Nat) (op E : List (Nat × Nat)) (w : World) (e : Ending) (w' : World) : Prop :=
  ∃ (ok : Bool) (cls' : List Nat), e = .returned (.bool ok) ∧ RG lo Y w' p zL zC G cls' ∧ FrX (fun b => zC.ownBlock = some b) w w' ∧ (ok = true → Mid G (clsR cls') op E ∧ Roots G (clsR cls') ∧ wtOf G (clsR cls') G.length ≤ wtOf G (clsR cls) G.length) ∧ (ok = false → ∀ f, ¬ ∀ p ∈ E, ndv f G p.1 = ndv f G p.2)
theorem JoinO.yes {lo p : Nat} {Y : Nat → Prop} {zL zC : Value} {G : List Nd} {cls cls' : List Nat} {op E : List (Nat × Nat)} {w w' : World} (h1 : RG lo Y w' p zL zC G cls') (h2 : FrX (fun b => zC.ownBlock = some b) w w') (h3 : Mid G (clsR cls') op E) (h4 : Roots G (clsR cls')) (h5 : wtOf G (clsR cls') G.length ≤ wtOf G (clsR cls) G.length) :
    JoinO lo Y p zL zC G cls op E w (.returned (.bool true)) w' := ⟨true, cls', rfl, h1, h2, fun _ => ⟨h3, h4, h5⟩, fun h => (by cases h)⟩
theorem JoinO.no {lo p : Nat} {Y : Nat → Prop} {zL zC : Value} {G : List Nd} {cls cls' : List Nat} {op E : List (Nat × Nat)} {w w' : World} (h1 : RG lo Y w' p zL zC G cls') (h2 : FrX (fun b => zC.ownBlock = some b) w w') (h3 : ∀ f, ¬ ∀ p ∈ E, ndv f G p.1 = ndv f G p.2) :
    JoinO lo Y p zL zC G cls op E w (.returned (.bool false)) w' := ⟨false, cls', rfl, h1, h2, fun h => (by cases h), fun _ => h3⟩
end Go.Proofs.YtelkmnjoboekmaaGreat
namespace Go.Proofs.YtelkmnjoboekmaaGreat
open Go.RowKit

/-- The own block is the same, or new since w. -/
def OwnN (w : World) (z z' : Value) : Prop := z'.ownBlock = z.ownBlock ∨ ∀ b, z'.ownBlock = some b → w.heap.size ≤ b
theorem OwnN.refl (w : World) (z : Value) : OwnN w z z := .inl rfl
theorem OwnN.trans {w w1 : World} {z z1 z2 : Value} (h : OwnN w z z1) (k : OwnN w1 z1 z2) (hs : w.heap.size ≤ w1.heap.size) : OwnN w z z2 := by
  rcases k with k | k
  · rcases h with h | h
    · exact .inl (k.trans h)
    · exact .inr fun b e => h b (k ▸ e)
  · exact .inr fun b e => Nat.le_trans hs (k b e)
theorem own3_back {w : World} {p b : Nat} {zL zL' zC zC' : Value} (hL : OwnN w zL zL') (hC : OwnN w zC zC') (hb : b < w.heap.size) (h : Own3 p zL' zC' b) : Own3 p zL zC b := by
  rcases h with h | h | h
  · exact .inl h
  · rcases hL with e | e
    · exact .inr (.inl (e ▸ h))
    · have := e b h; omega
  · rcases hC with e | e
    · exact .inr (.inr (e ▸ h))
    · have := e b h; omega
/-- What enter answers. -/
def EnterO (lo : Nat) (Y : Nat → Prop) (p : Nat) (zL zC : Value) (G : List Nd) (cls : List Nat) (t : Tm) (w : World) (e : Ending) (w' : World) : Prop :=
  ∃ (zL' zC' : Value) (G' : List Nd) (cls' : List Nat) (i : Nat), e = .returned (.int .i64 (i : Nat)) ∧ RG lo Y w' p zL' zC' G' cls' ∧ (∃ N, G' = G ++ N) ∧ (∀ j, G.length ≤ j → j < G'.length → OkAt G' j) ∧ clsR cls' = clsR cls ∧ VarU G' ∧ i < G'.length ∧ (nd G' i).tm.strip = t.strip ∧ G'.length ≤ G.length + t.nodes ∧
    FrX (Own3 p zL zC) w w' ∧ OwnN w zL zL' ∧ OwnN w zC zC'
/-- While the arguments are entered: j of them are; B: the box of the new node, zK: the row for its arguments' nodes. -/
def Entering (lo : Nat) (Y : Nat → Prop) (p : Nat) (zL zC : Value) (G : List Nd) (cls : List Nat) (a : List Tm) (k n : Int) (s : ByteArray) (w : World) (B : Nat) (j : Nat) (zK : Value) (wr : World) : Prop :=
  ∃ (zL' zC' : Value) (G' : List Nd) (cls' : List Nat) (ks : List Nat), RG lo (fun b => Y b ∨ b = B ∨ zK.ownBlock = some b) wr p zL' zC' G' cls' ∧ (∃ N, G' = G ++ N) ∧ (∀ m, G.length ≤ m → m < G'.length → OkAt G' m) ∧ clsR cls' = clsR cls ∧ VarU G' ∧ ks.length = j ∧
    (∀ m, m < j → ks.getD m 0 < G'.length ∧ (nd G' (ks.getD m 0)).tm.strip = (a.getD m default).strip) ∧ G'.length ≤ G.length + nodesL (a.take j) ∧ Held B wr (.int .i64 k) (.int .i64 n) (.string s) zK ∧ wr.ownsRow (B + 1) 3 1 zK ks.length (nums ks) ∧
    FrX (Own3 p zL zC) w wr ∧ OwnN w zL zL' ∧ OwnN w zC zC' ∧ (∀ b, zK.ownBlock = some b → ¬ Own3 p zL' zC' b) ∧ ¬ Own3 p zL' zC' B
/-- The graph when the new node's class is still missing. -/
structure Half (lo : Nat) (Y : Nat → Prop) (w : World) (p : Nat) (zL zC : Value) (G : List Nd) (cls : List Nat) : Prop where
  hl : w.cell? ⟨p, 0, none⟩ = some zL
  hc : w.cell? ⟨p, 1, none⟩ = some zC
  row : w.ownsRow lo 123 4 zL G.length (rgcells G)
  crow : w.ownsRow lo 3 1 zC cls.length (nums cls)
  kids : ∀ i, i < G.length → KIn lo (fun b => Own3 p zL zC b ∨ Y b) w (nd G i)
  nl : zL.ownBlock ≠ some p
  nc : zC.ownBlock ≠ some p
  nn : ∀ b, zL.ownBlock = some b → zC.ownBlock ≠ some b
  lp : lo ≤ p
  fz : ∀ j, w.frozen? ⟨p, j, none⟩ = false
  fine : ∀ i, i < G.length → RFine (nd G i)
  cl : cls.length + 1 = G.length
  small : G.length ≤ 2500000
section
variable {lo p : Nat} {Y : Nat → Prop} {w w1 w' : World} {zL zC : Value} {G : List Nd} {cls : List Nat}
/-- The append of the new node, and the store of the slice. -/
theorem half_of {x : Nd} {o : Obj} {g cap : Nat} (h : RG lo Y w p zL zC G cls) (hx : RFine x) (hk : KIn lo (fun b => Own3 p zL zC b ∨ Y b) w x) (hsm : G.length + 1 ≤ 2500000)
    (hown : w'.ownsRow lo 123 4 (.slice (some ⟨g, 0, none⟩) (G.length + 1) cap) (G.length + 1) (rgcells G ++ rncells x)) (hgr : (w.alloc o).grownBy w' zL.ownBlock) (hat : zL.ownBlock = some g ∨ g = (w.alloc o).heap.size) :
    Half lo Y (w'.setCell ⟨p, 0, none⟩ (.slice (some ⟨g, 0, none⟩) (G.length + 1) cap)) p (.slice (some ⟨g, 0, none⟩) (G.length + 1) cap) zC (G ++ [x]) cls ∧ FrX (Own3 p zL zC) w (w'.setCell ⟨p, 0, none⟩ (.slice (some ⟨g, 0, none⟩) (G.length + 1) cap)) ∧ OwnN w zL (.slice (some ⟨g, 0, none⟩) (G.length + 1) cap) := by
  have hso : (w.alloc o).heap.size = w.heap.size + 1 := by simp
  have hgp : g ≠ p := by
    rcases hat with e | e
    · intro e'; exact h.nl (by rw [e, e'])
    · have := h.lt; omega
  have hf1 : FrX (fun b => zL.ownBlock = some b) w w' := FrX.grow ((FrX.refl w).alloc o) hgr fun b e _ => e
  have hf2 : FrX (fun b => b = p ∨ zL.ownBlock = some b) w (w'.setCell ⟨p, 0, none⟩ (.slice (some ⟨g, 0, none⟩) (G.length + 1) cap)) := (hf1.mono (X' := fun b => b = p ∨ zL.ownBlock = some b) fun b _ e => .inr e).set (p := ⟨p, 0, none⟩) (fun _ => .inl rfl) _
  have hgC : ∀ b, zC.ownBlock = some b → b ≠ g := fun b e eg => by
    rcases hat with e' | e'
    · exact h.nn g e' (eg ▸ e)
    · have := (own_lt h.crow b e).2; omega
  have hset : FrX (fun b => b = p) w' (w'.setCell ⟨p, 0, none⟩ (.slice (some ⟨g, 0, none⟩) (G.length + 1) cap)) := (FrX.refl w').set (X := fun b => b = p) (p := ⟨p, 0, none⟩) (fun _ => rfl) _
  have hp1 : w'.cell? ⟨p, 1, none⟩ = some zC := hf1.cellv (fun e => h.nl e) h.hc
  have hp0 : w'.cell? ⟨p, 0, none⟩ = some zL := hf1.cellv (fun e => h.nl e) h.hl
  have hkk : ∀ y, KIn lo (fun b => Own3 p zL zC b ∨ Y b) w y → KIn lo (fun b => Own3 p (.slice (some ⟨g, 0, none⟩) (G.length + 1) cap) zC b ∨ Y b) (w'.setCell ⟨p, 0, none⟩ (.slice (some ⟨g, 0, none⟩) (G.length + 1) cap)) y := fun y hy => hy.fr hf2 (fun b _ e => .inl (e.elim .inl fun e => .inr (.inl e))) fun b hb e => by
    rcases e with (e | e | e) | e
    · exact .inl (.inl e)
    · have e' : g = b := by simpa [Value.ownBlock] using e
      rcases hat with h' | h'
      · exact .inl (.inr (.inl (by rw [h', e'])))
      · omega
    · exact .inl (.inr (.inr e))
    · exact .inr e
  refine ⟨⟨World.cell?_setCell_same' _ _ _ (by rw [hp0]; rfl), ?_, ?_, ?_, fun i hi => ?_, by simpa [Value.ownBlock] using hgp, h.nc, fun b e => ?_, h.lp, fun j => ?_, fun i hi => ?_, by rw [List.length_append, h.cl]; rfl, by simpa using hsm⟩, hf2.mono fun b _ e => e.elim .inl (fun e => .inr (.inl e)), ?_⟩
  · rw [World.cell?_setCell_other _ _ _ _ (fun e => by injection e with _ e _; omega)]; exact hp1
  · have := hset.row hown (fun b e eb => hgp (by have e' : g = b := by simpa [Value.ownBlock] using e
                                                 rw [e', eb]))
    rw [rgcells_append]
    simpa [rgcells] using this
  · exact hset.row (hf1.row h.crow fun b e e' => h.nn b e' e) fun b e eb => h.nc (by rw [e, eb])
  · by_cases h1 : i < G.length
    · rw [nd_left h1]; exact hkk _ (h.kids i h1)
    · obtain rfl : i = G.length := by simp at hi; omega
      rw [nd_new]; exact hkk _ hk
  · have e' : g = b := by simpa [Value.ownBlock] using e
    intro e2
    exact hgC b e2 e'.symm
  · rw [World.frozen?_setCell, hf1.frozen (p := ⟨p, j, none⟩) h.lt (fun e => h.nl e)]
    exact h.fz j
  · by_cases h1 : i < G.length
    · rw [nd_left h1]; exact h.fine i h1
    · obtain rfl : i = G.length := by simp at hi; omega
      rw [nd_new]; exact hx
  · rcases hat with e | e
    · exact .inl e.symm
    · exact .inr fun b eb => by
        have e' : g = b := by simpa [Value.ownBlock] using eb
        omega
theorem Half.lt (h : Half lo Y w p zL zC G cls) : p < w.heap.size := World.block_lt_of_cell? w _ h.hl
/-- The append of its class, and the store of the slice. -/
theorem rg_of_half {o : Obj} {g cap : Nat} (h : Half lo Y w p zL zC G cls)
    (hown : w'.ownsRow lo 3 1 (.slice (some ⟨g, 0, none⟩) (cls.length + 1) cap) (cls.length + 1) (nums cls ++ [.int .i64 (cls.length : Nat)])) (hgr : (w.alloc o).grownBy w' zC.ownBlock) (hat : zC.ownBlock = some g ∨ g = (w.alloc o).heap.size) :
    RG lo Y (w'.setCell ⟨p, 1, none⟩ (.slice (some ⟨g, 0, none⟩) (cls.length + 1) cap)) p zL (.slice (some ⟨g, 0, none⟩) (cls.length + 1) cap) G (cls ++ [cls.length]) ∧ FrX (Own3 p zL zC) w (w'.setCell ⟨p, 1, none⟩ (.slice (some ⟨g, 0, none⟩) (cls.length + 1) cap)) ∧ OwnN w zC (.slice (some ⟨g, 0, none⟩) (cls.length + 1) cap) := by
  have hso : (w.alloc o).heap.size = w.heap.size + 1 := by simp
  have hgp : g ≠ p := by
    rcases hat with e | e
    · intro e'; exact h.nc (by rw [e, e'])
    · have := h.lt; omega
  have hf1 : FrX (fun b => zC.ownBlock = some b) w w' := FrX.grow ((FrX.refl w).alloc o) hgr fun b e _ => e
  have hf2 : FrX (fun b => b = p ∨ zC.ownBlock = some b) w (w'.setCell ⟨p, 1, none⟩ (.slice (some ⟨g, 0, none⟩) (cls.length + 1) cap)) := (hf1.mono (X' := fun b => b = p ∨ zC.ownBlock = some b) fun b _ e => .inr e).set (p := ⟨p, 1, none⟩) (fun _ => .inl rfl) _
  have hgL : ∀ b, zL.ownBlock = some b → b ≠ g := fun b e eg => by
    rcases hat with e' | e'
    · exact h.nn b e (by rw [e', eg])
    · have := (own_lt h.row b e).2; omega
  have hset : FrX (fun b => b = p) w' (w'.setCell ⟨p, 1, none⟩ (.slice (some ⟨g, 0, none⟩) (cls.length + 1) cap)) := (FrX.refl w').set (X := fun b => b = p) (p := ⟨p, 1, none⟩) (fun _ => rfl) _
  have hp0 : w'.cell? ⟨p, 0, none⟩ = some zL := hf1.cellv (fun e => h.nc e) h.hl
  have hp1 : w'.cell? ⟨p, 1, none⟩ = some zC := hf1.cellv (fun e => h.nc e) h.hc
  refine ⟨⟨?_, World.cell?_setCell_same' _ _ _ (by rw [hp1]; rfl), ?_, ?_, fun i hi => ?_, h.nl, by simpa [Value.ownBlock] using hgp, fun b e => ?_, h.lp, fun j => ?_, h.fine, by rw [List.length_append]; exact h.cl, h.small⟩, hf2.mono fun b _ e => e.elim .inl (fun e => .inr (.inr e)), ?_⟩
  · rw [World.cell?_setCell_other _ _ _ _ (fun e => by injection e with _ e _; omega)]; exact hp0
  · exact hset.row (hf1.row h.row fun b e e' => h.nn b e e') fun b e eb => h.nl (by rw [e, eb])
  · have := hset.row hown (fun b e eb => hgp (by have e' : g = b := by simpa [Value.ownBlock] using e
                                                 rw [e', eb]))
    rw [List.length_append]
    simpa [nums] using this
  · refine (h.kids i hi).fr hf2 (fun b _ e => .inl (e.elim .inl fun e => .inr (.inr e))) fun b hb e => ?_
    rcases e with (e | e | e) | e
    · exact .inl (.inl e)
    · exact .inl (.inr (.inl e))
    · have e' : g = b := by simpa [Value.ownBlock] using e
      rcases hat with h' | h'
      · exact .inl (.inr (.inr (by rw [h', e'])))
      · omega
    · exact .inr e
  · intro e2
    have e' : g = b := by simpa [Value.ownBlock] using e2
    exact hgL b e e'.symm
  · rw [World.frozen?_setCell, hf1.frozen (p := ⟨p, j, none⟩) h.lt (fun e => h.nc e)]
    exact h.fz j
  · rcases hat with e | e
    · exact .inl e.symm
    · exact .inr fun b eb => by
        have e' : g = b := by simpa [Value.ownBlock] using eb
        omega
end
/-- The new node's list of arguments. -/
theorem kin_row {lo base : Nat} {Z : Nat → Prop} {w : World} {zK : Value} {ks : List Nat} (h : w.ownsRow base 3 1 zK ks.length (nums ks)) (hb : lo ≤ base) (hZ : ∀ b, zK.ownBlock = some b → ¬ Z b) (tm : Tm) : ∃ A c, zK = .slice A ks.length c ∧ KIn lo Z w ⟨tm, A, c, ks, 0⟩ := by
  rcases h.2 with ⟨rfl, h1⟩ | ⟨g, cap, cur, rfl, hbg, hg, hle, hcm, _⟩
  · exact ⟨none, 0, by rw [h1], ⟨by show ks.length ≤ 0; omega, Nat.zero_le _, fun hp => by have : 0 < ks.length := hp; omega⟩⟩
  · exact ⟨_, cap, rfl, ⟨hle, hcm, fun _ => ⟨g, rfl, Nat.le_trans hb hbg, (own_lt h g rfl).2, hZ g rfl, fun j hj => nums_cell h hj⟩⟩⟩
theorem held_fx2 {X : Nat → Prop} {b : Nat} {w w' : World} {v0 v1 v2 v3 : Value} (h : Held b w v0 v1 v2 v3) (k : FrX X w w') (hX : ¬ X b) : Held b w' v0 v1 v2 v3 :=
  ⟨Nat.lt_of_lt_of_le h.lt k.size, k.cellv hX h.c0, k.cellv hX h.c1, k.cellv hX h.c2, k.cellv hX h.c3, fun j => (k.frozen (p := ⟨b, j, none⟩) h.lt hX).trans (h.free j)⟩
/-- One argument more: behind the call (w2), the number's block, the append (w4), the box's store. -/
theorem entering_next {lo p B j i g cap : Nat} {Y : Nat → Prop} {zL zC zL' zC' zL2 zC2 zK : Value} {G G' G2 : List Nd} {cls cls' cls2 ks : List Nat} {a : List Tm} {k n : Int} {s : ByteArray} {w wr w2 w4 : World} {ob : Obj} (hj : j < a.length)
    (h1 : RG lo (fun b => Y b ∨ b = B ∨ zK.ownBlock = some b) wr p zL' zC' G' cls') (h2 : ∃ N, G' = G ++ N) (h3 : ∀ m, G.length ≤ m → m < G'.length → OkAt G' m) (h4 : clsR cls' = clsR cls) (h6 : ks.length = j)
    (h7 : ∀ m, m < j → ks.getD m 0 < G'.length ∧ (nd G' (ks.getD m 0)).tm.strip = (a.getD m default).strip) (h8 : G'.length ≤ G.length + nodesL (a.take j)) (h9 : Held B wr (.int .i64 k) (.int .i64 n) (.string s) zK) (h10 : wr.ownsRow (B + 1) 3 1 zK ks.length (nums ks))
    (h11 : FrX (Own3 p zL zC) w wr) (h12 : OwnN w zL zL') (h13 : OwnN w zC zC') (h14 : ∀ b, zK.ownBlock = some b → ¬ Own3 p zL' zC' b) (h15 : ¬ Own3 p zL' zC' B)
    (k1 : RG lo (fun b => Y b ∨ b = B ∨ zK.ownBlock = some b) w2 p zL2 zC2 G2 cls2) (k2 : ∃ N, G2 = G' ++ N) (k3 : ∀ m, G'.length ≤ m → m < G2.length → OkAt G2 m) (k4 : clsR cls2 = clsR cls') (k5 : VarU G2) (k6 : i < G2.length) (k7 : (nd G2 i).tm.strip = (a.getD j default).strip) (k8 : G2.length ≤ G'.length + (a.getD j default).nodes)
    (k9 : FrX (Own3 p zL' zC') wr w2) (k10 : OwnN wr zL' zL2) (k11 : OwnN wr zC' zC2)
    (hown : w4.ownsRow (B + 1) 3 1 (.slice (some ⟨g, 0, none⟩) (ks.length + 1) cap) (ks.length + 1) (nums ks ++ [.int .i64 (i : Nat)])) (hgr : (w2.alloc ob).grownBy w4 zK.ownBlock) (hat : zK.ownBlock = some g ∨ g = (w2.alloc ob).heap.size) (hw : w.heap.size ≤ B) :
    Entering lo Y p zL zC G cls a k n s w B (j + 1) (.slice (some ⟨g, 0, none⟩) (ks.length + 1) cap) (w4.setCell ⟨B, 3, none⟩ (.slice (some ⟨g, 0, none⟩) (ks.length + 1) cap)) := by
  obtain ⟨N, rfl⟩ := h2
  obtain ⟨M, rfl⟩ := k2
  have hso : (w2.alloc ob).heap.size = w2.heap.size + 1 := by simp
  have hBlt := h9.lt
  have hB2 : ¬ Own3 p zL2 zC2 B := fun e => h15 (own3_back k10 k11 hBlt e)
  have hK2 : ∀ b, zK.ownBlock = some b → ¬ Own3 p zL2 zC2 b := fun b eb e => h14 b eb (own3_back k10 k11 (own_lt h10 b eb).2 e)
  have hg2 : ¬ Own3 p zL2 zC2 g := by
    rcases hat with e | e
    · exact hK2 g e
    · intro e2; have := (k1.ownlt e2).2; omega
  have hgB : g ≠ B := by
    rcases hat with e | e
    · have := (own_lt h10 g e).1; omega
    · have := k9.size; omega
  have hf4 : FrX (fun b => zK.ownBlock = some b) (w2.alloc ob) w4 := FrX.grow (FrX.refl _) hgr fun b e _ => e
  have hset : FrX (fun b => b = B) w4 (w4.setCell ⟨B, 3, none⟩ (.slice (some ⟨g, 0, none⟩) (ks.length + 1) cap)) := (FrX.refl w4).set (X := fun b => b = B) (p := ⟨B, 3, none⟩) (fun _ => rfl) _
  have hbox4 : Held B w4 (.int .i64 k) (.int .i64 n) (.string s) zK := held_fx2 ((held_fx2 h9 k9 h15).alloc ob) hf4 fun e => by have := (own_lt h10 B e).1; omega
  have hrg0 : RG lo (fun b => Y b ∨ b = B ∨ zK.ownBlock = some b ∨ g = b) (w2.alloc ob) p zL2 zC2 (((G ++ N) ++ M)) cls2 := (k1.alloc ob).out fun b hb e => by
    rcases e with e | e | e | e
    · exact .inl e
    · exact .inr (.inl e)
    · exact .inr (.inr e)
    · rcases hat with h | h
      · exact .inr (.inr (e ▸ h))
      · omega
  have hrg4 : RG lo (fun b => Y b ∨ b = B ∨ zK.ownBlock = some b ∨ g = b) w4 p zL2 zC2 ((G ++ N) ++ M) cls2 := hrg0.fr hf4 fun b _ e => ⟨hK2 b e, .inr (.inr (.inl e))⟩
  have hrg5 := (hrg4.fr hset fun b _ e => ⟨by rw [e]; exact hB2, .inr (.inl e)⟩).out (Y' := fun b => Y b ∨ b = B ∨ (Value.slice (some ⟨g, 0, none⟩) (ks.length + 1) cap).ownBlock = some b) fun b _ e => by
    rcases e with e | e | e
    · exact .inl e
    · exact .inr (.inl e)
    · exact .inr (.inr (.inr (by simpa [Value.ownBlock] using e)))
  have hfr : FrX (Own3 p zL zC) w w2 := h11.trans k9 fun b hb e => own3_back h12 h13 hb e
  refine ⟨zL2, zC2, (G ++ N) ++ M, cls2, ks ++ [i], hrg5, ⟨N ++ M, by simp⟩, fun m m1 m2 => ?_, k4.trans h4, k5, by simp [h6], fun m hm => ?_, ?_, hbox4.set3 _, ?_, ?_, h12.trans k10 h11.size, h13.trans k11 h11.size, fun b e => ?_, hB2⟩
  · by_cases hm : m < (G ++ N).length
    · exact (h3 m m1 hm).left hm
    · exact k3 m (by omega) m2
  · by_cases h : m < j
    · have e : (ks ++ [i]).getD m 0 = ks.getD m 0 := by simp [List.getD, List.getElem?_append_left (show m < ks.length by omega)]
      have := h7 m h
      rw [e, nd_left this.1]
      exact ⟨by rw [List.length_append]; omega, this.2⟩
    · obtain rfl : m = j := by omega
      have e : (ks ++ [i]).getD m 0 = i := by simp [List.getD, ← h6]
      rw [e]
      exact ⟨k6, k7⟩
  · rw [nodesL_next hj]
    omega
  · have h := hset.row hown fun b e eb => hgB (by have e' : g = b := by simpa [Value.ownBlock] using e
                                                  rw [e', eb])
    rw [List.length_append]
    simpa [nums] using h
  · have h1' : FrX (fun b => Own3 p zL zC b) w (w2.alloc ob) := hfr.alloc ob
    have h2' : FrX (fun b => Own3 p zL zC b) w w4 := h1'.trans hf4 fun b hb e => by have := (own_lt h10 b e).1; omega
    exact h2'.trans hset fun b hb e => by have e' : b = B := e; omega
  · have e' : g = b := by simpa [Value.ownBlock] using e
    rw [← e']; exact hg2
/-- No variable twice. -/
theorem varu_new {G : List Nd} {x : Nd} (h : VarU G) (hx : x.tm.kind = 1 → ∀ i, i < G.length → (nd G i).tm.kind = 1 → (nd G i).tm.num ≠ x.tm.num) : VarU (G ++ [x]) := by
  intro i j hi hj hki hkj e
  have hl : (G ++ [x]).length = G.length + 1 := by simp
  by_cases h1 : i < G.length <;> by_cases h2 : j < G.length
  · rw [nd_left h1] at hki e
    rw [nd_left h2] at hkj e
    exact h i j h1 h2 hki hkj e
  · obtain rfl : j = G.length := by omega
    rw [nd_left h1] at hki e
    rw [nd_new] at hkj e
    exact absurd e (hx hkj i h1 hki)
  · obtain rfl : i = G.length := by omega
    rw [nd_left h2] at hkj e
    rw [nd_new] at hki e
    exact absurd e.symm (hx hki j h2 hkj)
  · omega
/-- All arguments are entered. -/
theorem enter_done {lo p B c : Nat} {Y : Nat → Prop} {zL zC zK : Value} {G : List Nd} {cls : List Nat} {a : List Tm} {k n : Int} {s : ByteArray} {A : Option Addr} {w wq wr : World}
    (h : Entering lo Y p zL zC G cls a k n s wq B a.length zK wr) (hform : (Tm.mk k n s A c a).form = true) (hf : Fits k ∧ Fits n ∧ s.size ≤ maxLen) (hno : k = 1 → ∀ i, i < G.length → (nd G i).tm.kind = 1 → (nd G i).tm.num ≠ n) (hw : Ext w wq) (hlB : lo ≤ B + 1) (hY : ∀ b, Y b → b ≤ B)
    (hsz : G.length + (Tm.mk k n s A c a).nodes ≤ 2500000) :
    ∃ (zL' zC' : Value) (G' : List Nd) (cls' : List Nat) (A' : Option Addr) (c' : Nat) (ks : List Nat), zK = .slice A' ks.length c' ∧ RG lo Y wr p zL' zC' G' cls' ∧ RFine ⟨.mk k n s A c a, A', c', ks, 0⟩ ∧ KIn lo (fun b => Own3 p zL' zC' b ∨ Y b) wr ⟨.mk k n s A c a, A', c', ks, 0⟩ ∧ G'.length + 1 ≤ 2500000 ∧
      Held B wr (.int .i64 k) (.int .i64 n) (.string s) zK ∧
      ∀ W zL2 zC2 zLm, RG lo Y W p zL2 zC2 (G' ++ [⟨.mk k n s A c a, A', c', ks, 0⟩]) (cls' ++ [cls'.length]) → FrX (fun b => Own3 p zL' zC' b ∨ Own3 p zLm zC' b) wr W → OwnN wr zL' zLm → OwnN wr zLm zL2 → OwnN wr zC' zC2 → EnterO lo Y p zL zC G cls (.mk k n s A c a) w (.returned (.int .i64 (G'.length : Nat))) W := by
  obtain ⟨zL', zC', G', cls', ks, h1, ⟨N, hN⟩, h3, h4, h5, h6, h7, h8, h9, h10, h11, h12, h13, h14, h15⟩ := h
  have hnod : (Tm.mk k n s A c a).nodes = 1 + nodesL a := rfl
  have hall : a.take a.length = a := List.take_length
  rw [hall] at h8
  have hlen : a.length ≤ nodesL a := length_le_nodes a
  obtain ⟨A', c', hz, hk⟩ := kin_row (lo := lo) (Z := fun b => Own3 p zL' zC' b ∨ Y b) h10 hlB (fun b e => by
    have h16 := h14 b e
    have h17 := own_lt h10 b e
    rintro (e2 | e2)
    · exact h16 e2
    · have := hY b e2; omega) (.mk k n s A c a)
  refine ⟨zL', zC', G', cls', A', c', ks, hz, h1.out (fun b _ e => .inl e), ⟨hf.1, hf.2.1, hf.2.2, by show ks.length ≤ 2500000; omega⟩, hk, by omega, h9, fun W zL2 zC2 zLm g1 g2 g3 g4 g5 => ?_⟩
  refine ⟨zL2, zC2, _, _, G'.length, rfl, g1, ⟨N ++ [⟨.mk k n s A c a, A', c', ks, 0⟩], by rw [hN]; simp⟩, fun j j1 j2 => ?_, by rw [clsR_more, h4], varu_new h5 (fun hk1 i hi => ?_), by simp, by rw [nd_new], by rw [List.length_append, hnod]; simp; omega, ?_, ?_, ?_⟩
  · by_cases hj : j < G'.length
    · exact (h3 j j1 hj).left hj
    · obtain rfl : j = G'.length := by simp at j2; omega
      refine ⟨by rw [nd_new]; exact hform, by rw [nd_new]; exact h6, fun m hm => ?_⟩
      rw [nd_new] at hm ⊢
      have hm' : m < ks.length := hm
      have := h7 m (by omega)
      rw [nd_left this.1]
      exact ⟨by rw [List.length_append]; exact Nat.lt_of_lt_of_le this.1 (Nat.le_add_right _ _), this.2⟩
  · have hk1' : k = 1 := hk1
    have ha : a = [] := (form_var hform hk1').2.2.2
    have hG : G' = G := by
      rw [ha] at h8
      simp only [nodesL] at h8
      have e1 := congrArg List.length hN
      rw [List.length_append] at e1
      have : N = [] := List.length_eq_zero_iff.1 (by omega)
      rw [hN, this, List.append_nil]
    rw [hG] at hi ⊢
    exact hno hk1' i hi
  · have hs1 := h11.size
    refine ((FrX.of (X := Own3 p zL zC) hw).trans h11 (fun b _ e => e)).trans g2 fun b hb e => ?_
    have hbq : b < wq.heap.size := Nat.lt_of_lt_of_le hb hw.size
    rcases e with e | e
    · exact own3_back h12 h13 hbq e
    · exact own3_back h12 h13 hbq (own3_back g3 (OwnN.refl _ _) (by omega) e)
  · have hs1 := h11.size
    have hs2 := hw.size
    have e1 : OwnN wq zL zL2 := (h12.trans g3 hs1).trans (w1 := wr) g4 hs1
    rcases e1 with e | e
    · exact .inl e
    · exact .inr fun b eb => Nat.le_trans hs2 (e b eb)
  · have hs1 := h11.size
    have hs2 := hw.size
    have e1 : OwnN wq zC zC2 := h13.trans g5 hs1
    rcases e1 with e | e
    · exact .inl e
    · exact .inr fun b eb => Nat.le_trans hs2 (e b eb)
end Go.Proofs.YtelkmnjoboekmaaGreat
