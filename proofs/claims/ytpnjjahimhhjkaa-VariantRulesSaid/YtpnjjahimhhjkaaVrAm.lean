/-
  Contracts of the reference's shift of constraints, of their comparison and of their weight.
-/
import Derived.Test.YtpnjjahimhhjkaaVgAm
import Derived.Test.YtpnjjahimhhjkaaVrShift
import Derived.Test.YtpnjjahimhhjkaaTmTop
import Derived.Deep.RegionLaw
import Derived.Deep.RegionHeld3
import Derived.Deep.AppendLies
import Derived.RegionTactic
import Derived.BigQuiet
import Derived.Deep.QuietTactic
namespace Go.Proofs.Ytpnjjahimhhjkaa
open Go.RowKit

/-- A list in a row of the call's own. -/
def AmRowT (B : World → Prop) (lo : Nat) (w : World) (z : Value) (acc : List Am) : Prop :=
  w.ownsRow lo 85 2 z acc.length (amcells acc) ∧ ∀ x ∈ acc, AmLie B lo (fun k => z.ownBlock = some k) w x
section
variable {B : World → Prop} {lo : Nat} {w w' : World} {z : Value} {acc : List Am}
theorem AmRowT.nil (B : World → Prop) (lo : Nat) (w : World) : AmRowT B lo w (.slice none 0 0) [] := ⟨⟨rfl, .inl ⟨rfl, rfl⟩⟩, fun x hx => by cases hx⟩
theorem AmRowT.below (h : AmRowT B lo w z acc) (hb : Below w.heap.size w w') : AmRowT B lo w' z acc := ⟨own_below h.1 hb, fun x hx => (h.2 x hx).below hb⟩
theorem AmRowT.next {g cap : Nat} {w2 w3 w4 : World} {u : Am} (h : AmRowT B lo w2 z acc) (hu : AmLie B lo (fun k => z.ownBlock = some k) w2 u) (hb : Below w2.heap.size w2 w3)
    (hown : w4.ownsRow lo 85 2 (.slice (some ⟨g, 0, none⟩) (acc.length + 1) cap) (acc.length + 1) (amcells acc ++ u.cells)) (hg : w3.grownBy w4 z.ownBlock) (hat : z.ownBlock = some g ∨ g = w3.heap.size) :
    AmRowT B lo w4 (.slice (some ⟨g, 0, none⟩) (acc.length + 1) cap) (acc ++ [u]) := by
  refine ⟨by rw [List.length_append, amcells_append]; simpa [amcells] using hown, fun x hx => ?_⟩
  have hx2 : AmLie B lo (fun k => z.ownBlock = some k) w2 x := by
    rcases List.mem_append.1 hx with hx | hx
    · exact h.2 x hx
    · rw [List.mem_singleton.1 hx]; exact hu
  refine (hx2.below hb).less hg.size fun b h1 h2 h3 => ⟨h1, fun e => ?_, hg.block b h2 (fun e => h3 e.symm)⟩
  have e' : g = b := by simpa [Value.ownBlock] using e
  rcases hat with h | h
  · exact h3 (by rw [h, e'])
  · omega
theorem am_apart {x : Am} {lo' : Nat} {w0 w2 : World} {n : Nat} {e : TypeId} {size : Nat} {xs : List Value} (hown : w0.ownsRow lo e size z n xs) (hx : AmLie B lo' No w2 x) (h1 : lo ≤ lo') (h2 : w0.heap.size ≤ lo') : AmLie B lo (fun k => z.ownBlock = some k) w2 x :=
  (hx.out (X := fun k => z.ownBlock = some k) (fun b h3 _ h4 => by have := (own_lt hown b h4).2; omega)).low h1
theorem AmRowT.form (h : AmRowT B lo w z acc) : ∃ A c, z = .slice A acc.length c ∧ acc.length ≤ c := by
  rcases h.1.2 with ⟨rfl, h1⟩ | ⟨g, cap, cur, rfl, hb, hg, hle, _⟩
  · exact ⟨none, 0, by rw [h1], by omega⟩
  · exact ⟨_, cap, rfl, hle⟩
theorem AmRowT.lies {A : Option Addr} {c n : Nat} (h : AmRowT B lo w (.slice A n c) acc) : ∀ W, B W → Agree lo No w W → AmLst W A acc c := by
  intro W hB hW
  have hl := amcells_len acc
  rcases h.1.2 with ⟨e, h1⟩ | ⟨g, cap, cur, e, hb, hg, hle, hcap, hcs, hcur⟩
  · injection e with e1 _ e3
    obtain rfl : acc = [] := List.length_eq_zero_iff.1 h1
    rw [e1, e3]; exact AmLst.nil W
  · injection e with e1 e2 e3
    subst e1 e2 e3
    have hlt := own_lt h.1 g rfl
    refine ⟨hle, hcap, fun _ => ⟨g, 0, rfl, fun i hi => ⟨fun j u hu => ?_, ?_⟩⟩⟩
    · have hj := Am.cells_lt hu
      rw [Nat.zero_add, hW.cell (p := ⟨g, i * 2 + j, none⟩) hlt.1 hlt.2 (fun h => h)]
      have hc := World.ownsRow.cellAt h.1 (i * 2 + j) (by omega)
      rw [hc]
      exact (amcells_get acc hi hj).trans hu
    · exact h.2 _ (am_getD_mem hi) W hB fun b h1 h2 h3 => hW b h1 h2 (fun h => h)
end
theorem amnews (w : World) (u : Am) (T : TypeId) : ∀ j v, u.cells[j]? = some v → (w.alloc (.cells #[.string u.name, .slice u.at_ u.args.length u.cap] T)).cell? ((⟨w.heap.size, 0, none⟩ : Addr).add j) = some v := by
  intro j v hv
  rw [add_plain, Nat.zero_add, World.cell?_alloc_at _ _ _ _ rfl, ← hv, show (#[.string u.name, .slice u.at_ u.args.length u.cap] : Array Value) = u.cells.toArray from rfl, List.getElem?_toArray]

set_option maxHeartbeats 8000000 in
set_option maxRecDepth 100000 in
theorem ref_shift_ams_at (kk : Int) (hk : Fits kk) (w0 : World) (l : List Am) (A : Option Addr) (c : Nat) (w : World) (hw : Below w0.heap.size w0 w) (hl : AmLst w0 A l c) (hsz : l.length ≤ 1000000) (hnd : ∀ x ∈ l, nodesL x.args ≤ 1000000) :
    Calls Try.prog 48 #[.slice A l.length c, .int .i64 kk] w (AmMade (From w0) l.length (l.map fun x => x.rr (shiftV kk)) w) := by
  obtain ⟨i0, hi, hz0, hz1, hz2⟩ := info_parts am_info
  have HL := Lib.hid (hl.below hw)
  have HI := Lib.hid (fun (x : Am) (hx : x ∈ l) (W : World) (h : Below w.heap.size w W) => ref_shift_terms_at w0 kk x.args x.at_ x.cap W (((hl.mem hx).below (hw.trans (h.mono hw.size))).2) (by have := hnd x hx; have := length_le_nodes x.args; omega) (fun y hy W' h' => ref_shift_at w0 kk hk y (Lst.mem ((hl.mem hx).2) hy) (by have := nodes_mem hy; have := hnd x hx; omega) W' (hw.trans ((h.trans (h'.mono h.size)).mono hw.size))))
  have HAT := Lib.hid (fun (x : Am) (hx : x ∈ l) => hl.mem hx)
  clear hl hnd hw
  go_enter Try.func48, Try.ntmps48
  go_wp2_with fail
  go_loopw [5, 6] (fun z i wr => ∃ (j : Nat) (acc : List Am) (x : Value), j ≤ l.length ∧ i = .int .i64 j ∧ z = x ∧ Hid (AmRowT (From w0) w.heap.size wr x acc) ∧ Hid (acc.map Am.key = (l.take j).map fun x => (x.rr (shiftV kk)).key) ∧ Hid (acc.length = j) ∧ Below w.heap.size w wr) (fun _ i _ => l.length - (intOf i).toNat)
  case atStart => exact ⟨0, [], _, Nat.zero_le _, rfl, rfl, Lib.hid (AmRowT.nil _ _ _), Lib.hid rfl, Lib.hid rfl, Below.refl _ _⟩
  case round =>
    obtain ⟨j, acc, z, hj, rfl, hz, HK, HS, HAc, hbw⟩ := hrel
    have hz' := hz.symm
    subst hz'
    clear hz
    by_cases hlt : j < l.length
    · obtain ⟨b0, o, rfl, hcs, _⟩ := (HL.out.below hbw).get hlt
      have HT := Lib.hid (am_take_next hlt)
      have hmem := am_getD_mem hlt
      have hal : acc.length ≤ 1000000 := by rw [HAc.out]; omega
      generalize l.getD j default = x at *
      have Q1 := Lib.hid (fun W (h : Below w.heap.size w W) => HI.out x hmem W h)
      have HXA := Lib.hid (HAT.out x hmem)
      have c0 := hcs 0 _ rfl
      have c1 := hcs 1 _ rfl
      simp only [Nat.add_zero] at c0
      have hb0 : b0 < wr.heap.size := World.block_lt_of_cell? _ _ c0
      have HCL := Lib.hid (fun W (h : Below wr.heap.size wr W) => (⟨keepv h c0, keepv h c1⟩ : W.cell? ⟨b0, o + j * 2, none⟩ = some (.string x.name) ∧ W.cell? ⟨b0, o + j * 2 + 1, none⟩ = some (.slice x.at_ x.args.length x.cap)))
      clear hcs hmem
      obtain ⟨s', A', c', a'⟩ := x
      simp only at c0 c1
      go_wp2_with fail
      go_region_law (first
        | (go_simp; go_at_call 40; refine (Q1.out _ hbw.drew).mono ?_; rintro e w2 ⟨A2, p2, cur, rfl, hcl, hst, hL, hb2⟩; replace hb2 := undrew hb2; have hbk : b0 < w2.heap.size := Nat.lt_of_lt_of_le hb0 hb2.size; obtain ⟨d0, d1⟩ := HCL.out _ hb2; have HL2 := Lib.hid (fun W h1 (hW : Agree wr.heap.size No w2 W) => hL W h1 (fun b' h1 h2 h3 => hW b' (by simpa using h1) h2 h3)); have HC2 := Lib.hid hcl; have HS2 := Lib.hid hst; have HK2 := Lib.hid (HK.out.below hb2); have HB2 := Lib.hid hb2; clear hcl hst hL hb2)
        | (refine step_append_lies _ (by rfl) _ _ _ (by rfl) w.heap.size 85 i0 _ 2 40 Try.underlying30 hi hz0 hz1 hz2 rfl (by omega) _ acc.length (amcells acc) (by rfl) (HK2.out.1.alloc _) ⟨w2.heap.size, 0, none⟩ 1 1 (Am.cells ⟨s', A2, p2, cur⟩) (by rfl) (by rfl) (by have := amnews w2 (⟨s', A2, p2, cur⟩ : Am) 85; simp only [HC2.out] at this; exact this) (by exact amcells_one _) (by omega) (by unfold maxLen; omega) (by omega) (by have := hbw.size; have := HB2.out.size; simp; omega) (w2.heap.size + 1) (by simp) ?_; intro g cap w5 hown hg hat hglt)
        | fail)
      all_goals
        have HU := Lib.hid (am_apart (x := ⟨s', A2, p2, cur⟩) HK.out.1 (show AmLie (From w0) wr.heap.size No w2 ⟨s', A2, p2, cur⟩ from fun W h1 hW => ⟨HXA.out.1, HL2.out W h1 hW⟩) hbw.size (Nat.le_refl _))
        have HR5 := Lib.hid (HK2.out.next (u := ⟨s', A2, p2, cur⟩) HU.out (below1 w2 _) hown hg (by rcases hat with h | h; exact .inl h; exact .inr (by rw [h]; simp)))
        have HB5 : Below w.heap.size w w5 := ((hbw.trans (HB2.out.mono hbw.size)).alloc (Nat.le_trans hbw.size HB2.out.size) _).grown hg (by have := hbw.size; have := HB2.out.size; simp; omega) (fun k hk => ((own_lt HK2.out.1) k hk).1)
        have HS5 := Lib.hid (show (acc ++ [(⟨s', A2, p2, cur⟩ : Am)]).map Am.key = (l.take (j + 1)).map fun x => (x.rr (shiftV kk)).key by
          rw [HT.out, List.map_append, List.map_append, HS.out]
          refine congrArg _ ?_
          simp only [List.map_cons, List.map_nil]
          exact congrArg (fun x => [x]) (Prod.ext rfl HS2.out))
        clear hown hg hat hglt HK HK2 HU
        go_wp2_with fail
        go_roundw
        case rel => exact ⟨j + 1, acc ++ [(⟨s', A2, p2, cur⟩ : Am)], _, by omega, by go_num, rfl, HR5, HS5, Lib.hid (by rw [List.length_append, HAc.out]; rfl), HB5⟩
        case measure => simp [intOf]; omega
    · obtain rfl : j = l.length := by omega
      have hK := HK.out
      obtain ⟨A', cz, hz, hcz⟩ := hK.form
      subst hz
      have HF := Lib.hid hK.lies
      have HE := Lib.hid (show acc.map Am.key = (l.map fun x => x.rr (shiftV kk)).map Am.key by rw [HS.out, List.take_length, List.map_map]; rfl)
      rw [HAc.out]
      clear hK HK hlt HS hcz
      go_wp2_with fail
      go_ret
      exact ⟨A', cz, acc, rfl, HAc.out, HE.out, HF.out, hbw⟩
end Go.Proofs.Ytpnjjahimhhjkaa
