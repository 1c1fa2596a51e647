/-
  Renamings of variables, plainly: a term's canonical form, the numbering of a list by first occurrence, and what follows. No program.
  Numbering variables by their first occurrence, plainly: what Number, Top, Shift and Variants keep. No program.
  Terms renamed field by field, plainly: what the program's and the reference's renamings make; identity sees them as the renaming of the canonical form. No program.
-/
import Derived.Test.YtpnjjahimhhjkaaVxPlain
import Derived.Test.YtpnjjahimhhjkaaTmVarAll
namespace Go.Proofs.Ytpnjjahimhhjkaa

/- Each variable n becomes g n; all that identity does not see is dropped. -/
mutual
def Tm.vmap (g : Int → Int) : Tm → Tm
  | .mk k n s _ _ a => if k = 1 then .mk 1 (g n) ByteArray.empty none 0 [] else if k = 2 then .mk 2 0 s none 0 (vmapL g a) else if k = 0 then .mk 0 n ByteArray.empty none 0 [] else .mk k n s none 0 []
def vmapL (g : Int → Int) : List Tm → List Tm
  | [] => []
  | t :: r => t.vmap g :: vmapL g r
end
theorem vmapL_map (g : Int → Int) (l : List Tm) : vmapL g l = l.map (Tm.vmap g) := by
  induction l with
  | nil => simp [vmapL]
  | cons t r ih => simp [vmapL, ih]
theorem vmapL_len (g : Int → Int) (l : List Tm) : (vmapL g l).length = l.length := by rw [vmapL_map, List.length_map]
theorem vmapL_append (g : Int → Int) (l m : List Tm) : vmapL g (l ++ m) = vmapL g l ++ vmapL g m := by simp [vmapL_map]
theorem vmap_var (g : Int → Int) (n : Int) (s : ByteArray) (A : Option Addr) (c : Nat) (a : List Tm) : (Tm.mk 1 n s A c a).vmap g = .mk 1 (g n) ByteArray.empty none 0 [] := by simp [Tm.vmap]
theorem vmap_fun (g : Int → Int) (n : Int) (s : ByteArray) (A : Option Addr) (c : Nat) (a : List Tm) : (Tm.mk 2 n s A c a).vmap g = .mk 2 0 s none 0 (vmapL g a) := by simp [Tm.vmap]
theorem vmap_int (g : Int → Int) (n : Int) (s : ByteArray) (A : Option Addr) (c : Nat) (a : List Tm) : (Tm.mk 0 n s A c a).vmap g = .mk 0 n ByteArray.empty none 0 [] := by simp [Tm.vmap]
theorem vmap_else (g : Int → Int) {k : Int} (n : Int) (s : ByteArray) (A : Option Addr) (c : Nat) (a : List Tm) (h2 : k ≠ 2) (h1 : k ≠ 1) (h0 : k ≠ 0) : (Tm.mk k n s A c a).vmap g = .mk k n s none 0 [] := by simp [Tm.vmap, h2, h1, h0]
/-- The canonical form. -/
def Tm.canon (t : Tm) : Tm := t.vmap fun n => n
def canonL (l : List Tm) : List Tm := vmapL (fun n => n) l

theorem vmap_vmap (g h : Int → Int) : (∀ t : Tm, (t.vmap g).vmap h = t.vmap fun n => h (g n)) ∧ (∀ l, vmapL h (vmapL g l) = vmapL (fun n => h (g n)) l) := by
  refine Tm.induct2 (fun k n s A c a ih => ?_) (by simp [vmapL]) (fun t r h1 h2 => by simp only [vmapL, h1, h2])
  by_cases h1 : k = 1
  · subst h1; simp only [vmap_var]
  · by_cases h2 : k = 2
    · subst h2; simp only [vmap_fun, ih]
    · by_cases h0 : k = 0
      · subst h0; simp only [vmap_int]
      · rw [vmap_else g n s A c a h2 h1 h0, vmap_else h n s none 0 [] h2 h1 h0, vmap_else _ n s A c a h2 h1 h0]
theorem vmap_congr {g h : Int → Int} : (∀ t : Tm, (∀ v ∈ t.occ, g v = h v) → t.vmap g = t.vmap h) ∧ (∀ l, (∀ v ∈ occL l, g v = h v) → vmapL g l = vmapL h l) := by
  refine Tm.induct2 (fun k n s A c a ih hv => ?_) (fun _ => by simp [vmapL]) (fun t r h1 h2 hv => ?_)
  · by_cases h1 : k = 1
    · subst h1; simp only [vmap_var, hv n (by simp [Tm.occ])]
    · by_cases h2 : k = 2
      · subst h2
        simp only [vmap_fun, ih (fun v h => hv v (by simpa [Tm.occ] using h))]
      · by_cases h0 : k = 0
        · subst h0; simp only [vmap_int]
        · rw [vmap_else g n s A c a h2 h1 h0, vmap_else h n s A c a h2 h1 h0]
  · simp only [occL, List.mem_append] at hv
    simp only [vmapL, h1 fun v h => hv v (.inl h), h2 fun v h => hv v (.inr h)]
theorem vmap_occ (g : Int → Int) : (∀ t : Tm, (t.vmap g).occ = t.occ.map g) ∧ (∀ l, occL (vmapL g l) = (occL l).map g) := by
  refine Tm.induct2 (fun k n s A c a ih => ?_) (by simp [vmapL, occL]) (fun t r h1 h2 => by simp only [vmapL, occL, h1, h2, List.map_append])
  by_cases h1 : k = 1
  · subst h1; simp [vmap_var, Tm.occ]
  · by_cases h2 : k = 2
    · subst h2; simp only [vmap_fun, Tm.occ, ih]; simp
    · by_cases h0 : k = 0
      · subst h0; simp [vmap_int, Tm.occ]
      · rw [vmap_else g n s A c a h2 h1 h0]; simp [Tm.occ, h1, h2]
theorem vmap_size (g : Int → Int) : (∀ t : Tm, (t.vmap g).size = t.size) ∧ (∀ l, sizeL (vmapL g l) = sizeL l) := by
  refine Tm.induct2 (fun k n s A c a ih => ?_) (by simp [vmapL, sizeL]) (fun t r h1 h2 => by simp only [vmapL, sizeL, h1, h2])
  by_cases h1 : k = 1
  · subst h1; simp [vmap_var, Tm.size]
  · by_cases h2 : k = 2
    · subst h2; simp only [vmap_fun, Tm.size, ih]
    · by_cases h0 : k = 0
      · subst h0; simp [vmap_int, Tm.size]
      · rw [vmap_else g n s A c a h2 h1 h0]; simp [Tm.size, h2]
theorem vmap_depth (g : Int → Int) : (∀ t : Tm, (t.vmap g).depth = t.depth) ∧ (∀ l, depthL (vmapL g l) = depthL l) := by
  refine Tm.induct2 (fun k n s A c a ih => ?_) (by simp [vmapL, depthL]) (fun t r h1 h2 => by simp only [vmapL, depthL, h1, h2])
  by_cases h1 : k = 1
  · subst h1; simp [vmap_var, Tm.depth]
  · by_cases h2 : k = 2
    · subst h2; simp only [vmap_fun, Tm.depth, ih]
    · by_cases h0 : k = 0
      · subst h0; simp [vmap_int, Tm.depth]
      · rw [vmap_else g n s A c a h2 h1 h0]; simp [Tm.depth, h2]

theorem texts_name {s s' : ByteArray} (h : texts s.data.toList s'.data.toList = 0) : s = s' := by
  have h := congrArg List.toArray (texts_eq h)
  simp only [Array.toArray_toList] at h
  exact ByteArray.ext h

/-! ### Identity is equality of canonical forms -/
theorem cmp_canon : (∀ t : Tm, cmpT t.canon t = 0) ∧ (∀ l, cmpL (canonL l) l = 0) := by
  unfold Tm.canon canonL
  refine Tm.induct2 (fun k n s A c a ih => ?_) (by simp [vmapL, cmpL]) (fun t r h1 h2 => by simp only [vmapL, cmpL, h1, h2]; rfl)
  by_cases h1 : k = 1
  · subst h1; rw [vmap_var]; exact cmp_vars rfl rfl rfl
  · by_cases h2 : k = 2
    · subst h2; rw [vmap_fun]; exact (cmp_fun _ _ _ _ _ _ _ _ _ _).2 ⟨cmpL_len ih, texts_self _, ih⟩
    · by_cases h0 : k = 0
      · subst h0; rw [vmap_int]; exact cmp_ints _ _ _ _ _ _ _ _ _
      · rw [vmap_else _ n s A c a h2 h1 h0]
        simp only [cmpT, Tm.kind, Tm.num, Tm.name]
        rw [if_neg (by rintro (h | h) <;> contradiction), if_neg h2, ints_self, ints_self, ints_self, texts_self]
        rfl
theorem canon_of_cmp : (∀ t u : Tm, cmpT t u = 0 → t.canon = u.canon) ∧ (∀ l m, cmpL l m = 0 → canonL l = canonL m) := by
  unfold Tm.canon canonL
  refine Tm.induct2 (fun k n s A c a ih u h => ?_) (fun m h => ?_) (fun t r h1 h2 m h => ?_)
  · obtain ⟨k', n', s', A', c', a'⟩ := u
    have hc := cmp_kind h
    simp only [Tm.kind] at hc
    by_cases h1 : k = 1
    · subst h1
      obtain ⟨e1, e2⟩ := cmp_var h rfl
      simp only [Tm.kind, Tm.num] at e1 e2
      subst e1 e2
      rw [vmap_var, vmap_var]
    · have h1' : k' ≠ 1 := fun e => by
        subst e
        exact h1 (cls_one.1 (hc.trans (cls_one.2 rfl)))
      by_cases h2 : k = 2
      · subst h2
        have e : k' = 2 := cls_two.1 (hc.symm.trans (cls_two.2 rfl))
        subst e
        obtain ⟨_, e1, e2⟩ := (cmp_fun _ _ _ _ _ _ _ _ _ _).1 h
        rw [vmap_fun, vmap_fun, ih _ e2, texts_name e1]
      · have h2' : k' ≠ 2 := fun e => by
          subst e
          exact h2 (cls_two.1 (hc.trans (cls_two.2 rfl)))
        simp only [cmpT, Tm.kind, Tm.num, Tm.name] at h
        obtain ⟨_, h⟩ := lexz_iff.1 h
        by_cases h0 : k = 0
        · subst h0
          rw [if_pos (.inr rfl)] at h
          have e : k' = 0 := by
            have : cls k' = cls 0 := hc.symm
            unfold cls at this
            revert this
            simp only [h1', h2']
            split <;> simp_all
          subst e
          rw [vmap_int, vmap_int, ints_zero.1 h]
        · rw [if_neg (by rintro (h | h) <;> contradiction), if_neg h2] at h
          obtain ⟨e1, h⟩ := lexz_iff.1 h
          obtain ⟨e2, e3⟩ := lexz_iff.1 h
          have e1 := ints_zero.1 e1
          subst e1
          rw [vmap_else _ n s A c a h2 h1 h0, vmap_else _ n' s' A' c' a' h2 h1 h0, ints_zero.1 e2]
          rw [texts_name e3]
  · cases m with
    | nil => rfl
    | cons _ _ => simp [cmpL] at h
  · cases m with
    | nil => simp [cmpL] at h
    | cons u q =>
      simp only [cmpL] at h
      obtain ⟨e1, e2⟩ := lexz_iff.1 h
      simp only [vmapL, h1 _ e1, h2 _ e2]
theorem cmp_iff_canon {t u : Tm} : cmpT t u = 0 ↔ t.canon = u.canon :=
  ⟨canon_of_cmp.1 t u, fun h => cmp_trans (cmp_symm (cmp_canon.1 t)) (by rw [h]; exact cmp_canon.1 u)⟩
end Go.Proofs.Ytpnjjahimhhjkaa
namespace Go.Proofs.Ytpnjjahimhhjkaa

/-- The place of a number in a list; its length where it is not there. -/
def place (vs : List Int) (n : Int) : Int := (vs.idxOf n : Nat)
/-- The terms, numbered together. -/
def numL (l : List Tm) : List Tm := vmapL (place (addAll [] (occL l))) l

theorem addAll_cons (l xs : List Int) (x : Int) : addAll l (x :: xs) = addAll (addV l x) xs := rfl
theorem addV_map (g : Int → Int) {l : List Int} {x : Int} (h : ∀ y ∈ l, g y = g x → y = x) : addV (l.map g) (g x) = (addV l x).map g := by
  unfold addV
  by_cases hx : x ∈ l
  · rw [if_pos hx, if_pos (List.mem_map_of_mem hx)]
  · rw [if_neg hx, if_neg (by
      intro hm
      obtain ⟨y, hy, e⟩ := List.mem_map.1 hm
      exact hx (h y hy e ▸ hy)), List.map_append]
    rfl
theorem addAll_map (g : Int → Int) : ∀ (xs l : List Int), (∀ x y, (x ∈ l ∨ x ∈ xs) → (y ∈ l ∨ y ∈ xs) → g x = g y → x = y) → addAll (l.map g) (xs.map g) = (addAll l xs).map g
  | [], _, _ => rfl
  | x :: xs, l, h => by
    rw [List.map_cons, addAll_cons, addAll_cons, addV_map g fun y hy e => h y x (.inl hy) (.inr (by simp)) e]
    refine addAll_map g xs (addV l x) fun a b ha hb => h a b ?_ ?_
    · rcases ha with ha | ha
      · rcases (mem_addV l x a).1 ha with ha | ha
        · exact .inl ha
        · exact .inr (by simp [ha])
      · exact .inr (by simp [ha])
    · rcases hb with hb | hb
      · rcases (mem_addV l x b).1 hb with hb | hb
        · exact .inl hb
        · exact .inr (by simp [hb])
      · exact .inr (by simp [hb])
theorem addV_nodup {l : List Int} {x : Int} (h : l.Nodup) : (addV l x).Nodup := by
  unfold addV
  split
  · exact h
  · rename_i hx
    refine List.nodup_append.2 ⟨h, by simp, ?_⟩
    intro a ha b hb e
    simp only [List.mem_singleton] at hb
    subst e hb
    exact hx ha
theorem addAll_nodup : ∀ (xs l : List Int), l.Nodup → (addAll l xs).Nodup
  | [], _, h => h
  | _ :: xs, _, h => addAll_nodup xs _ (addV_nodup h)

theorem place_map (g : Int → Int) {v : Int} : ∀ (l : List Int), (∀ x ∈ l, g x = g v → x = v) → place (l.map g) (g v) = place l v := by
  intro l
  unfold place
  induction l with
  | nil => intro; rfl
  | cons x r ih =>
    intro h
    rw [List.map_cons, List.idxOf_cons, List.idxOf_cons]
    by_cases e : x = v
    · subst e; simp
    · have e2 : g x ≠ g v := fun e2 => e (h x (by simp) e2)
      have i := ih fun y hy => h y (by simp [hy])
      have i : (r.map g).idxOf (g v) = r.idxOf v := by omega
      simp only [beq_iff_eq, e, e2, if_false, i, cond_eq_ite]
theorem place_inj {l : List Int} {u v : Int} (hu : u ∈ l) (_ : v ∈ l) (h : place l u = place l v) : u = v := by
  unfold place at h
  have h : l.idxOf u = l.idxOf v := by omega
  have h1 := List.idxOf_lt_length_of_mem hu
  have e1 := List.getElem_idxOf h1
  have e2 := List.getElem_idxOf (h ▸ h1 : l.idxOf v < l.length)
  rw [← e1, ← e2]
  simp only [h]
theorem place_lt {l : List Int} {v : Int} (hv : v ∈ l) : 0 ≤ place l v ∧ place l v < l.length := by
  have := List.idxOf_lt_length_of_mem hv
  unfold place
  omega
/-- 0, 1, .. up to n. -/
def upto (n : Nat) : List Int := (List.range n).map fun (i : Nat) => (i : Int)
theorem map_place {l : List Int} (h : l.Nodup) : l.map (place l) = upto l.length := by
  refine List.ext_getElem (by simp [upto]) fun i h1 h2 => ?_
  simp only [List.getElem_map, upto, List.getElem_range, place]
  rw [List.Nodup.idxOf_getElem h]
theorem mem_occ_vars (l : List Tm) (v : Int) : v ∈ addAll [] (occL l) ↔ v ∈ occL l := by simp [mem_addAll]

theorem numL_vmap {g : Int → Int} {l : List Tm} (h : ∀ x ∈ occL l, ∀ y ∈ occL l, g x = g y → x = y) : numL (vmapL g l) = numL l := by
  unfold numL
  rw [(vmap_occ g).2, show ([] : List Int) = ([] : List Int).map g from rfl, addAll_map g _ _ (fun x y hx hy => h x (by simpa using hx) y (by simpa using hy)), (vmap_vmap g _).2]
  refine vmap_congr.2 _ fun v hv => ?_
  exact place_map g _ fun x hx => h x ((mem_occ_vars l x).1 hx) v hv
theorem numL_canon (l : List Tm) : numL (canonL l) = numL l := numL_vmap fun _ _ _ _ e => e
theorem numL_like {l m : List Tm} (h : canonL l = canonL m) : numL l = numL m := by rw [← numL_canon l, h, numL_canon]
theorem numL_inj (l : List Tm) : ∀ x ∈ occL l, ∀ y ∈ occL l, place (addAll [] (occL l)) x = place (addAll [] (occL l)) y → x = y :=
  fun x hx y hy => place_inj ((mem_occ_vars l x).2 hx) ((mem_occ_vars l y).2 hy)
/-- What is numbered stays as it is. -/
theorem numL_twice (l : List Tm) : numL (numL l) = numL l := numL_vmap (numL_inj l)
/-- Its variables are 0, 1, .. -/
theorem numL_vars (l : List Tm) : addAll [] (occL (numL l)) = upto (addAll [] (occL l)).length := by
  rw [← map_place (addAll_nodup (occL l) [] List.nodup_nil)]
  unfold numL
  rw [(vmap_occ _).2]
  exact addAll_map _ _ [] fun x y hx hy => numL_inj l x (by simpa using hx) y (by simpa using hy)
theorem numL_len (l : List Tm) : (numL l).length = l.length := vmapL_len _ _
theorem numL_isCanon (l : List Tm) : canonL (numL l) = numL l := (vmap_vmap _ _).2 l
theorem cmpL_canon {l m : List Tm} : cmpL l m = 0 ↔ canonL l = canonL m :=
  ⟨canon_of_cmp.2 l m, fun h => by
    have h1 := cmp_canon.2 l
    have h2 := cmp_canon.2 m
    rw [h] at h1
    have := (cmp_fun 0 0 ByteArray.empty ByteArray.empty none none 0 0 (canonL m) l).2 ⟨cmpL_len h1, texts_self _, h1⟩
    have h3 := (cmp_fun 0 0 ByteArray.empty ByteArray.empty none none 0 0 (canonL m) m).2 ⟨cmpL_len h2, texts_self _, h2⟩
    exact ((cmp_fun _ _ _ _ _ _ _ _ _ _).1 (cmp_trans (cmp_symm this) h3)).2.2⟩

/-! ### Variants -/
def variantB (a b : List Tm) : Bool := decide (a.length = b.length) && (cmpL (numL a) (numL b) == 0)
theorem variantB_iff (a b : List Tm) : variantB a b = true ↔ numL a = numL b := by
  unfold variantB
  simp only [Bool.and_eq_true, decide_eq_true_eq, beq_iff_eq, cmpL_canon, numL_isCanon]
  exact ⟨fun h => h.2, fun h => ⟨by rw [← numL_len a, h, numL_len], h⟩⟩
theorem variantB_refl (a : List Tm) : variantB a a = true := (variantB_iff a a).2 rfl
theorem variantB_symm (a b : List Tm) : variantB a b = variantB b a := by
  rw [Bool.eq_iff_iff, variantB_iff, variantB_iff]
  exact eq_comm
theorem variantB_trans {a b : List Tm} (h : variantB a b = true) (c : List Tm) : variantB b c = variantB a c := by
  rw [Bool.eq_iff_iff, variantB_iff, variantB_iff, (variantB_iff a b).1 h]
theorem variantB_numbered (l : List Tm) : variantB (numL l) l = true := (variantB_iff _ _).2 (numL_twice l)

/-! ### Shifts -/
theorem shiftV_in {k v : Int} (h1 : -9223372036854775808 ≤ k + v) (h2 : k + v ≤ 9223372036854775807) : shiftV k v = k + v := by
  unfold shiftV
  rw [if_pos ⟨h1, h2⟩]
theorem shift_back {k : Int} {l : List Tm} (hk : -2147483648 ≤ k ∧ k ≤ 2147483647) (h : ∀ v ∈ occL l, -1099511627776 ≤ v ∧ v ≤ 1099511627776) : vmapL (shiftV (-k)) (vmapL (shiftV k) l) = canonL l := by
  rw [(vmap_vmap _ _).2]
  refine vmap_congr.2 _ fun v hv => ?_
  have := h v hv
  rw [shiftV_in (k := k) (v := v) (by omega) (by omega), shiftV_in (by omega) (by omega)]
  omega
theorem shift_inj {k : Int} {l : List Tm} (hk : -2147483648 ≤ k ∧ k ≤ 2147483647) (h : ∀ v ∈ occL l, -1099511627776 ≤ v ∧ v ≤ 1099511627776) : ∀ x ∈ occL l, ∀ y ∈ occL l, shiftV k x = shiftV k y → x = y := fun x hx y hy e => by
  have h1 := h x hx
  have h2 := h y hy
  rw [shiftV_in (by omega) (by omega), shiftV_in (by omega) (by omega)] at e
  omega
theorem variantB_shifted {k : Int} {l m : List Tm} (hk : -2147483648 ≤ k ∧ k ≤ 2147483647) (h : ∀ v ∈ occL l, -1099511627776 ≤ v ∧ v ≤ 1099511627776) (hm : canonL m = vmapL (shiftV k) l) : variantB l m = true := by
  rw [variantB_iff, ← numL_canon m, hm, numL_vmap (shift_inj hk h)]
theorem shift_vars {k : Int} {l : List Tm} (hk : -2147483648 ≤ k ∧ k ≤ 2147483647) (h : ∀ v ∈ occL l, -1099511627776 ≤ v ∧ v ≤ 1099511627776) : addAll [] (occL (vmapL (shiftV k) l)) = (addAll [] (occL l)).map (shiftV k) := by
  rw [(vmap_occ _).2]
  exact addAll_map _ _ [] fun x y hx hy => shift_inj hk h x (by simpa using hx) y (by simpa using hy)

/-! ### Top -/
def topL (xs : List Int) : Int := xs.foldl (fun n v => max n (shiftV 1 v)) 0
theorem top_from (xs : List Int) : ∀ n : Int, n ≤ xs.foldl (fun n v => max n (shiftV 1 v)) n ∧ (∀ v ∈ xs, shiftV 1 v ≤ xs.foldl (fun n v => max n (shiftV 1 v)) n) ∧ (xs.foldl (fun n v => max n (shiftV 1 v)) n = n ∨ ∃ v ∈ xs, xs.foldl (fun n v => max n (shiftV 1 v)) n = shiftV 1 v) := by
  induction xs with
  | nil => intro n; exact ⟨Int.le_refl _, fun _ h => by simp at h, .inl rfl⟩
  | cons x r ih =>
    intro n
    obtain ⟨h1, h2, h3⟩ := ih (max n (shiftV 1 x))
    simp only [List.foldl_cons]
    refine ⟨by omega, fun v hv => ?_, ?_⟩
    · rcases List.mem_cons.1 hv with rfl | hv
      · omega
      · exact h2 v hv
    · rcases h3 with h3 | ⟨v, hv, h3⟩
      · rw [h3]
        by_cases h : n ≤ shiftV 1 x
        · exact .inr ⟨x, by simp, by omega⟩
        · exact .inl (by omega)
      · exact .inr ⟨v, by simp [hv], h3⟩
theorem topL_mem {xs ys : List Int} (h : ∀ v, v ∈ xs ↔ v ∈ ys) : topL xs = topL ys := by
  obtain ⟨a1, a2, a3⟩ := top_from xs 0
  obtain ⟨b1, b2, b3⟩ := top_from ys 0
  unfold topL
  have p : xs.foldl (fun n v => max n (shiftV 1 v)) 0 ≤ ys.foldl (fun n v => max n (shiftV 1 v)) 0 := by
    rcases a3 with a3 | ⟨v, hv, a3⟩
    · omega
    · have := b2 v ((h v).1 hv)
      omega
  have q : ys.foldl (fun n v => max n (shiftV 1 v)) 0 ≤ xs.foldl (fun n v => max n (shiftV 1 v)) 0 := by
    rcases b3 with b3 | ⟨v, hv, b3⟩
    · omega
    · have := a2 v ((h v).2 hv)
      omega
  omega
theorem topL_vars (l : List Tm) : topL (addAll [] (occL l)) = topL (occL l) := topL_mem (mem_occ_vars l)
theorem top_upto {n : Nat} (hn : n ≤ 1000000) : topL (upto n) = n := by
  obtain ⟨a1, a2, a3⟩ := top_from (upto n) 0
  unfold topL
  have hm : ∀ v, v ∈ upto n ↔ 0 ≤ v ∧ v < n := fun v => by
    simp only [upto, List.mem_map, List.mem_range]
    exact ⟨fun ⟨i, h, e⟩ => by omega, fun ⟨h1, h2⟩ => ⟨v.toNat, by omega, by omega⟩⟩
  have hs : ∀ v, v ∈ upto n → shiftV 1 v = 1 + v := fun v hv => by
    have := (hm v).1 hv
    exact shiftV_in (by omega) (by omega)
  rcases Nat.eq_zero_or_pos n with rfl | hp
  · rfl
  · have h1 := (hm (n - 1 : Int)).2 ⟨by omega, by omega⟩
    have h2 := a2 _ h1
    rw [hs _ h1] at h2
    rcases a3 with a3 | ⟨v, hv, a3⟩
    · omega
    · rw [hs v hv] at a3
      have := (hm v).1 hv
      omega
/-- The number behind the last variable of what is numbered. -/
theorem top_numL (l : List Tm) (h : (addAll [] (occL l)).length ≤ 1000000) : topL (occL (numL l)) = (addAll [] (occL l)).length := by
  rw [← topL_vars, numL_vars, top_upto h]

/-! ### The old variables again -/
theorem vmap_app {g : Int → Int} {b : List Bd} : (∀ t : Tm, (∀ v ∈ t.occ, ∃ u, look b (g v) = some u ∧ u.kind = 1 ∧ u.num = v) → cmpT ((t.vmap g).app b) t = 0) ∧ (∀ l, (∀ v ∈ occL l, ∃ u, look b (g v) = some u ∧ u.kind = 1 ∧ u.num = v) → cmpL (appL b (vmapL g l)) l = 0) := by
  refine Tm.induct2 (fun k n s A c a ih hv => ?_) (fun _ => by simp [vmapL, appL, cmpL]) (fun t r h1 h2 hv => ?_)
  · by_cases h1 : k = 1
    · subst h1
      obtain ⟨u, e1, e2, e3⟩ := hv n (by simp [Tm.occ])
      simp only [vmap_var, Tm.app, if_true, e1, Option.getD_some]
      exact cmp_vars e2 rfl e3
    · by_cases h2 : k = 2
      · subst h2
        simp only [vmap_fun, Tm.app]
        rw [if_neg (by decide), if_pos trivial]
        have := ih fun v h => hv v (by simpa [Tm.occ] using h)
        exact (cmp_fun _ _ _ _ _ _ _ _ _ _).2 ⟨cmpL_len this, texts_self _, this⟩
      · by_cases h0 : k = 0
        · subst h0
          simp only [vmap_int, Tm.app]
          rw [if_neg (by decide), if_neg (by decide)]
          exact cmp_ints _ _ _ _ _ _ _ _ _
        · have hc := cmp_canon.1 (.mk k n s A c a)
          unfold Tm.canon at hc
          rw [vmap_else _ n s A c a h2 h1 h0] at hc ⊢
          simp only [Tm.app]
          rw [if_neg h1, if_neg h2]
          exact hc
  · simp only [occL, List.mem_append] at hv
    simp only [vmapL, appL, cmpL, h1 fun v h => hv v (.inl h), h2 fun v h => hv v (.inr h)]
    rfl
end Go.Proofs.Ytpnjjahimhhjkaa
namespace Go.Proofs.Ytpnjjahimhhjkaa

/- What the program makes: below a term that does not use its arguments nothing is renamed. -/
mutual
def Tm.ren : Tm → (Int → Int) → Tm
  | .mk k n s A c a, g => .mk k (if k = 1 then g n else n) s A c (renL a (if k = 2 then g else fun v => v))
def renL : List Tm → (Int → Int) → List Tm
  | [], _ => []
  | t :: r, g => t.ren g :: renL r g
end
theorem renL_map (l : List Tm) (g : Int → Int) : renL l g = l.map fun t => t.ren g := by
  induction l with
  | nil => simp [renL]
  | cons t r ih => simp [renL, ih]
theorem renL_len (l : List Tm) (g : Int → Int) : (renL l g).length = l.length := by rw [renL_map, List.length_map]
theorem ren_canon : (∀ (t : Tm) (g : Int → Int), (t.ren g).canon = t.vmap g) ∧ (∀ (l : List Tm) (g : Int → Int), canonL (renL l g) = vmapL g l) := by
  unfold Tm.canon canonL
  refine Tm.induct2 (fun k n s A c a ih g => ?_) (fun g => by simp [renL, vmapL]) (fun t r h1 h2 g => by simp only [renL, vmapL, h1, h2])
  simp only [Tm.ren]
  by_cases h1 : k = 1
  · subst h1; rw [vmap_var, vmap_var, if_pos rfl]
  · by_cases h2 : k = 2
    · subst h2; rw [vmap_fun, vmap_fun, if_pos rfl, ih]
    · by_cases h0 : k = 0
      · subst h0; rw [vmap_int, vmap_int, if_neg h1]
      · rw [vmap_else _ _ _ _ _ _ h2 h1 h0, vmap_else _ n s A c a h2 h1 h0, if_neg h1]
theorem ren_nodes : (∀ (t : Tm) (g : Int → Int), (t.ren g).nodes = t.nodes) ∧ (∀ (l : List Tm) (g : Int → Int), nodesL (renL l g) = nodesL l) := by
  refine Tm.induct2 (fun k n s A c a ih g => ?_) (fun g => by simp [renL, nodesL]) (fun t r h1 h2 g => by simp only [renL, nodesL, h1, h2])
  simp only [Tm.ren, Tm.nodes, ih]
/- What the reference makes. -/
mutual
def Tm.rr : Tm → (Int → Int) → Tm
  | .mk k n s A c a, g => .mk k (if k = 1 then g n else n) s A c (if k = 2 then rrL a g else a)
def rrL : List Tm → (Int → Int) → List Tm
  | [], _ => []
  | t :: r, g => t.rr g :: rrL r g
end
theorem rrL_map (l : List Tm) (g : Int → Int) : rrL l g = l.map fun t => t.rr g := by
  induction l with
  | nil => simp [rrL]
  | cons t r ih => simp [rrL, ih]
theorem rrL_len (l : List Tm) (g : Int → Int) : (rrL l g).length = l.length := by rw [rrL_map, List.length_map]
theorem rr_var (n : Int) (s : ByteArray) (A : Option Addr) (c : Nat) (a : List Tm) (g : Int → Int) : (Tm.mk 1 n s A c a).rr g = .mk 1 (g n) s A c a := by simp [Tm.rr]
theorem rr_fun (n : Int) (s : ByteArray) (A : Option Addr) (c : Nat) (a : List Tm) (g : Int → Int) : (Tm.mk 2 n s A c a).rr g = .mk 2 n s A c (rrL a g) := by simp [Tm.rr]
theorem rr_else {k : Int} (n : Int) (s : ByteArray) (A : Option Addr) (c : Nat) (a : List Tm) (g : Int → Int) (h1 : k ≠ 1) (h2 : k ≠ 2) : (Tm.mk k n s A c a).rr g = .mk k n s A c a := by simp [Tm.rr, h1, h2]
theorem rr_canon : (∀ (t : Tm) (g : Int → Int), (t.rr g).canon = t.vmap g) ∧ (∀ (l : List Tm) (g : Int → Int), canonL (rrL l g) = vmapL g l) := by
  unfold Tm.canon canonL
  refine Tm.induct2 (fun k n s A c a ih g => ?_) (fun g => by simp [rrL, vmapL]) (fun t r h1 h2 g => by simp only [rrL, vmapL, h1, h2])
  by_cases h1 : k = 1
  · subst h1; rw [rr_var, vmap_var, vmap_var]
  · by_cases h2 : k = 2
    · subst h2; rw [rr_fun, vmap_fun, vmap_fun, ih]
    · rw [rr_else _ _ _ _ _ _ h1 h2]
      by_cases h0 : k = 0
      · subst h0; rw [vmap_int, vmap_int]
      · rw [vmap_else _ _ _ _ _ _ h2 h1 h0, vmap_else _ n s A c a h2 h1 h0]
theorem rr_nodes : (∀ (t : Tm) (g : Int → Int), (t.rr g).nodes = t.nodes) ∧ (∀ (l : List Tm) (g : Int → Int), nodesL (rrL l g) = nodesL l) := by
  refine Tm.induct2 (fun k n s A c a ih g => ?_) (fun g => by simp [rrL, nodesL]) (fun t r h1 h2 g => by simp only [rrL, nodesL, h1, h2])
  by_cases h2 : k = 2
  · subst h2; rw [rr_fun]; simp only [Tm.nodes, ih]
  · simp [Tm.rr, Tm.nodes, h2]
/-! ### The same fields, the same canonical form -/
theorem canon_strip {t u : Tm} (h : t.strip = u.strip) : t.canon = u.canon := cmp_iff_canon.1 (by
  have := same_strip h
  simpa using this)
theorem canonL_strip {l m : List Tm} (h : stripL l = stripL m) : canonL l = canonL m := cmpL_canon.1 (by rw [← cmp_strip.2, h, cmp_self.2])
theorem nodesL_strip {l m : List Tm} (h : stripL l = stripL m) : nodesL l = nodesL m := by
  have key : (∀ t : Tm, t.strip.nodes = t.nodes) ∧ (∀ l, nodesL (stripL l) = nodesL l) := by
    refine Tm.induct2 (fun k n s A c a ih => ?_) rfl (fun t r h1 h2 => ?_)
    · simp only [Tm.strip, Tm.nodes, ih]
    · simp only [stripL, nodesL, h1, h2]
  rw [← key.2 l, h, key.2]
theorem lenL_strip {l m : List Tm} (h : stripL l = stripL m) : l.length = m.length := by rw [← stripL_len l, h, stripL_len]
/-- The variables of lists that identity sees as one. -/
theorem occL_canon (l : List Tm) : occL (canonL l) = occL l := by
  unfold canonL
  rw [(vmap_occ _).2, List.map_id']
theorem occL_like {l m : List Tm} (h : canonL l = canonL m) : occL l = occL m := by rw [← occL_canon l, h, occL_canon]
theorem sizeL_like {l m : List Tm} (h : canonL l = canonL m) : sizeL l = sizeL m := by rw [← (vmap_size fun n => n).2 l, ← (vmap_size fun n => n).2 m]; exact congrArg sizeL h
theorem occ_like {t u : Tm} (h : t.canon = u.canon) : t.occ = u.occ := by
  have := congrArg Tm.occ h
  unfold Tm.canon at this
  rwa [(vmap_occ _).1, (vmap_occ _).1, List.map_id', List.map_id'] at this
theorem size_like {t u : Tm} (h : t.canon = u.canon) : t.size = u.size := by
  have := congrArg Tm.size h
  unfold Tm.canon at this
  rwa [(vmap_size _).1, (vmap_size _).1] at this
theorem depth_like {t u : Tm} (h : t.canon = u.canon) : t.depth = u.depth := by
  have := congrArg Tm.depth h
  unfold Tm.canon at this
  rwa [(vmap_depth _).1, (vmap_depth _).1] at this
end Go.Proofs.Ytpnjjahimhhjkaa
