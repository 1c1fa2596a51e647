/-
  The new variables bound to the old ones, plainly; the calls of Apply at such bindings.
-/
import Derived.Test.YtpnjjahimhhjkaaVlBase
import Derived.Test.YtpnjjahimhhjkaaSuOrder
import Derived.Test.YtpnjjahimhhjkaaSuRow
namespace Go.Proofs.Ytpnjjahimhhjkaa
open Go.RowKit

/-- The first j new variables, bound to the old ones. -/
def bndN (vs : List Int) (j : Nat) : List Bd := (List.range j).map fun i => ⟨(i : Nat), exV (vs.getD i 0)⟩
theorem bndN_len (vs : List Int) (j : Nat) : (bndN vs j).length = j := by simp [bndN]
theorem bndN_next (vs : List Int) (j : Nat) : bndN vs (j + 1) = bndN vs j ++ [⟨(j : Nat), exV (vs.getD j 0)⟩] := by simp [bndN, List.range_succ]
theorem bndN_get (vs : List Int) {j i : Nat} (h : i < j) : (bndN vs j).getD i default = ⟨(i : Nat), exV (vs.getD i 0)⟩ := by
  simp [bndN, List.getD, h]
theorem bndN_good (vs : List Int) {j : Nat} (hj : j ≤ 1000000) : Good (bndN vs j) := by
  refine ⟨by rw [bndN_len]; exact hj, fun a b hab hb => ?_, fun x hx => ?_⟩
  · rw [bndN_len] at hb
    rw [bndN_get vs hb, bndN_get vs (by omega)]
    show (a : Int) ≤ (b : Int)
    omega
  · simp only [bndN, List.mem_map] at hx
    obtain ⟨i, _, rfl⟩ := hx
    simp [Tm.nodes, nodesL]
theorem bndN_look {vs : List Int} {v : Int} (hv : v ∈ vs) : look (bndN vs vs.length) (place vs v) = some (exV v) := by
  have h1 := List.idxOf_lt_length_of_mem hv
  have e1 := List.getElem_idxOf h1
  have e2 : vs.getD (vs.idxOf v) 0 = v := by simp [List.getD, h1]
  have := look_at (l := bndN vs vs.length) (v := place vs v) (i := vs.idxOf v) (fun k hk => by
    rw [bndN_get vs (by omega)]
    show (k : Int) ≠ place vs v
    unfold place
    omega) (by rw [bndN_len]; exact h1) (by rw [bndN_get vs h1]; rfl)
  rw [this, bndN_get vs h1]
  show some (exV (vs.getD (vs.idxOf v) 0)) = _
  rw [e2]
/-- The old variables put in again give the old term. -/
theorem old_again {vs : List Int} {x u t : Tm} (ht : ∀ v ∈ t.occ, v ∈ vs) (hx : x.strip = (t.ren (plc vs)).strip) (hu : u.strip = (x.app (bndN vs vs.length)).strip) : (cmpT u t == 0) = true := by
  have h1 : cmpT u (x.app (bndN vs vs.length)) = 0 := by simpa using same_strip hu
  have h2 : cmpT x (t.vmap (plc vs)) = 0 := cmp_iff_canon.2 (by
    rw [canon_strip hx, ren_canon.1]
    exact ((vmap_vmap (plc vs) fun n => n).1 t).symm)
  have h3 : cmpT ((t.vmap (plc vs)).app (bndN vs vs.length)) t = 0 := vmap_app.1 t fun v hv => by
    have hv' := ht v hv
    refine ⟨exV v, ?_, rfl, rfl⟩
    unfold plc
    rw [if_pos hv']
    exact bndN_look hv'
  have h := cmp_trans (cmp_trans h1 ((cmp_app _).1 _ _ h2)) h3
  rw [h]
  rfl
theorem strip_get {l m : List Tm} {g : Int → Int} (h : stripL m = stripL (renL l g)) {i : Nat} (hi : i < l.length) : (m.getD i default).strip = ((l.getD i default).ren g).strip := by
  have hl : m.length = l.length := by rw [lenL_strip h, renL_len]
  rw [stripL_map, stripL_map, renL_map, List.map_map] at h
  have h2 := congrArg (fun x => x[i]?) h
  simp only [List.getElem?_map, List.getElem?_eq_getElem (show i < m.length by omega), List.getElem?_eq_getElem hi, Option.map_some, Option.some.injEq, Function.comp] at h2
  simpa [List.getD, List.getElem?_eq_getElem (show i < m.length by omega), List.getElem?_eq_getElem hi] using h2
theorem app_call (vs : List Int) {j : Nat} (hj : j ≤ 1000000) (A : Option Addr) (c n : Nat) (hn : n = j) (t : Tm) (W : World) (hb : BLst W A (bndN vs j) c) (ht : t.At W) (htn : t.nodes ≤ 1000000) :
    Calls Try.prog 27 #[.slice A n c, t.val] W (Made (t.app (bndN vs j)) W) := by
  subst hn
  have h := apply_at (bndN vs n) A c t W ht htn fun W' h => in_order_at (bndN vs n) A c W' (hb.below h) (bndN_good vs hj)
  rw [bndN_len] at h
  exact h
/-- What is numbered twice. -/
theorem vars_numbered {l m : List Tm} (h : stripL m = stripL (renL l (plc (varsL l)))) : varsL m = upto (varsL l).length := by
  have h1 : occL m = occL (numL l) := occL_like (by rw [canon_plc h, numL_isCanon])
  unfold varsL
  rw [h1]
  exact numL_vars l
theorem again_numbered {l m x : List Tm} (h : stripL m = stripL (renL l (plc (varsL l)))) (hx : stripL x = stripL (renL m (plc (varsL m)))) : (cmpL m x == 0) = true :=
  same_lists (by rw [canon_plc hx, canon_plc h, ← numL_canon m, canon_plc h, numL_twice])
theorem top_numbered {l m : List Tm} (h : stripL m = stripL (renL l (plc (varsL l)))) (hl : (varsL l).length ≤ 1000000) : topL (occL m) = (varsL l).length := by
  rw [occL_like (m := numL l) (by rw [canon_plc h, numL_isCanon])]
  exact top_numL l hl
theorem upto_len (n : Nat) : (upto n).length = n := by simp [upto]
theorem upto_get {n i : Nat} (h : i < n) : (upto n).getD i 0 = i := by simp [upto, List.getD, h]
end Go.Proofs.Ytpnjjahimhhjkaa
