/-
  What the laws of renaming share: arguments opened, results in one form.
-/
import Derived.Test.YtpnjjahimhhjkaaVlLive
namespace Go.Proofs.Ytpnjjahimhhjkaa
open Go.ChangeShapes Go.WideShapes Go.ChangeAt Go.RowKit
section
variable {H : Type} {enc : TypeId × Value → H} {W : World} {base : Nat} {spare : Nat → Bool} {held : Bool}
set_option maxRecDepth 100000 in
theorem open_terms {r : Reach} {b0 : Nat} {v : Value} {d : DataW H} {p : List MemPlace} (hv : Value.okWide Try.prog W r b0 22 v) (h : DataW.Trod enc Try.prog W base spare held 22 v d p) :
    ∃ (A : Option Addr) (l : List Tm) (c : Nat), v = .slice A l.length c ∧ Lst W A l c := by
  obtain ⟨a, len, cap, rfl⟩ := okWide_slice types.lst hv
  obtain ⟨fuel, hf⟩ := h
  exact open_lst types hf
end
theorem canon_plc {a x : List Tm} (h : stripL x = stripL (renL a (plc (varsL a)))) : canonL x = numL a := by
  rw [canonL_strip h, ren_canon.2]
  refine vmap_congr.2 _ fun v hv => ?_
  unfold plc
  rw [if_pos ((mem_varsL a v).2 hv)]
  rfl
theorem canon_place {a x : List Tm} (h : stripL x = stripL (rrL a (place (varsL a)))) : canonL x = numL a := by
  rw [canonL_strip h, rr_canon.2]
  rfl
theorem same_lists {x y : List Tm} (h : canonL x = canonL y) : (cmpL x y == 0) = true := by
  rw [cmpL_canon.2 h]
  rfl
theorem nodesL_plc {a x : List Tm} (h : stripL x = stripL (renL a (plc (varsL a)))) : nodesL x = nodesL a := by rw [nodesL_strip h, ren_nodes.2]
theorem nodes_ren {t u : Tm} {g : Int → Int} (h : u.strip = (t.ren g).strip) : u.nodes = t.nodes := by
  have := nodesL_strip (l := [u]) (m := [t.ren g]) (by simp only [stripL, h])
  simp only [nodesL, ren_nodes.1] at this
  omega
theorem variant_numbered {a x : List Tm} (h : stripL x = stripL (renL a (plc (varsL a)))) : variantB x a = true := by
  rw [variantB_iff, ← numL_canon x, canon_plc h, numL_twice]
theorem not_great1 {t : Tm} {most : Int} (h : decide (weigh [t] most 64 < 0) = false) : (t.nodes : Int) ≤ most := by
  have := not_great h
  simp only [nodesL] at this
  omega
theorem great_row (t : Tm) (most : Int) {W : World} {g n : Nat} (hn : n = 1) (hl : RowAt W [t] g 0) (h1 : 0 ≤ most) (h2 : most ≤ 1000000) {r : Bool} (hr : decide (weigh [t] most 64 < 0) = r) :
    Calls Try.prog 10 #[.slice (some ⟨g, 0, none⟩) n n, .int .i64 most] W fun e w' => e = .returned (.bool r) ∧ Ext W w' := by
  subst hn
  exact great_below [t] _ 1 most W (Lst.of_row hl (by simp)) h1 h2 hr
section
variable (k n : Int) (s : ByteArray) (A : Option Addr) (c : Nat) (a : List Tm)
theorem tm_kind : (Tm.mk k n s A c a).kind = k := rfl
theorem tm_num : (Tm.mk k n s A c a).num = n := rfl
theorem tm_name : (Tm.mk k n s A c a).name = s := rfl
theorem tm_at : (Tm.mk k n s A c a).at_ = A := rfl
theorem tm_cap : (Tm.mk k n s A c a).cap = c := rfl
theorem tm_args : (Tm.mk k n s A c a).args = a := rfl
end
theorem occL_one (t : Tm) : occL [t] = t.occ := by simp [occL]
end Go.Proofs.Ytpnjjahimhhjkaa
