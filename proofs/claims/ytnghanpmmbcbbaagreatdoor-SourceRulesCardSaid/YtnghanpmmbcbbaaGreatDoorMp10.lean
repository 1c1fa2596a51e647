/-
  VrGl.
  SrGl.
  SrNum.
  SrTwin.
  TtPlain.
  TtTrip.
  SoTok.
  SoGoal.
  SoRule.
  SoProg.
  SrPlain.
-/
import Derived.Test.YtnghanpmmbcbbaaGreatDoorMp8
import Derived.Test.YtnghanpmmbcbbaaGreatDoorMp7
import Derived.Deep.RegionLaw
import Derived.Deep.RegionHeld3
import Derived.Deep.AppendLies
import Derived.RegionTactic
import Derived.BigQuiet
import Derived.Deep.QuietTactic
import Derived.Test.YtnghanpmmbcbbaaGreatDoorMp9
import Derived.Test.YtnghanpmmbcbbaaGreatDoorMp2
import Derived.Lib.AtoiAllCases
import Derived.WalkKit
namespace Go.Proofs.YtnghanpmmbcbbaaGreatDoor
open Go.RowKit
def GlRowT (B : World → Prop) (lo : Nat) (w : World) (z : Value) (acc : List Gl) : Prop :=
  w.ownsRow lo 59 3 z acc.length (glcells acc) ∧ ∀ x ∈ acc, GlLie B lo (fun k => z.ownBlock = some k) w x
section
variable {B : World → Prop} {lo : Nat} {w w' : World} {z : Value} {acc : List Gl}
theorem GlRowT.nil (B : World → Prop) (lo : Nat) (w : World) : GlRowT B lo w (.slice none 0 0) [] := ⟨⟨rfl, .inl ⟨rfl, rfl⟩⟩, fun x hx => by cases hx⟩
theorem GlRowT.below (h : GlRowT B lo w z acc) (hb : Below w.heap.size w w') : GlRowT B lo w' z acc := ⟨own_below h.1 hb, fun x hx => (h.2 x hx).below hb⟩
theorem GlRowT.next {g cap : Nat} {w2 w3 w4 : World} {u : Gl} (h : GlRowT B lo w2 z acc) (hu : GlLie B lo (fun k => z.ownBlock = some k) w2 u) (hb : Below w2.heap.size w2 w3)
    (hown : w4.ownsRow lo 59 3 (.slice (some ⟨g, 0, none⟩) (acc.length + 1) cap) (acc.length + 1) (glcells acc ++ u.cells)) (hg : w3.grownBy w4 z.ownBlock) (hat : z.ownBlock = some g ∨ g = w3.heap.size) :
    GlRowT B lo w4 (.slice (some ⟨g, 0, none⟩) (acc.length + 1) cap) (acc ++ [u]) := by
  refine ⟨by rw [List.length_append, glcells_append]; simpa [glcells] using hown, fun x hx => ?_⟩
  have hx2 : GlLie B lo (fun k => z.ownBlock = some k) w2 x := by
    rcases List.mem_append.1 hx with hx | hx
    · exact h.2 x hx
    · rw [List.mem_singleton.1 hx]; exact hu
  refine (hx2.below hb).less hg.size fun b h1 h2 h3 => ⟨h1, fun e => ?_, hg.block b h2 (fun e => h3 e.symm)⟩
  have e' : g = b := by simpa [Value.ownBlock] using e
  rcases hat with h | h
  · exact h3 (by rw [h, e'])
  · omega
theorem gl_apart {x : Gl} {lo' : Nat} {w0 w2 : World} {n : Nat} {e : TypeId} {size : Nat} {xs : List Value} (hown : w0.ownsRow lo e size z n xs) (hx : GlLie B lo' No w2 x) (h1 : lo ≤ lo') (h2 : w0.heap.size ≤ lo') : GlLie B lo (fun k => z.ownBlock = some k) w2 x :=
  (hx.out (X := fun k => z.ownBlock = some k) (fun b h3 _ h4 => by have := (own_lt hown b h4).2; omega)).low h1
theorem GlRowT.form (h : GlRowT B lo w z acc) : ∃ A c, z = .slice A acc.length c ∧ acc.length ≤ c := by
  rcases h.1.2 with ⟨rfl, h1⟩ | ⟨g, cap, cur, rfl, hb, hg, hle, _⟩
  · exact ⟨none, 0, by rw [h1], by omega⟩
  · exact ⟨_, cap, rfl, hle⟩
theorem GlRowT.lies {A : Option Addr} {c n : Nat} (h : GlRowT B lo w (.slice A n c) acc) : ∀ W, B W → Agree lo No w W → GlLst W A acc c := by
  intro W hB hW
  have hl := glcells_len acc
  rcases h.1.2 with ⟨e, h1⟩ | ⟨g, cap, cur, e, hb, hg, hle, hcap, hcs, hcur⟩
  · injection e with e1 _ e3
    obtain rfl : acc = [] := List.length_eq_zero_iff.1 h1
    rw [e1, e3]; exact GlLst.nil W
  · injection e with e1 e2 e3
    subst e1 e2 e3
    have hlt := own_lt h.1 g rfl
    refine ⟨hle, hcap, fun _ => ⟨g, 0, rfl, fun i hi => ⟨fun j u hu => ?_, ?_⟩⟩⟩
    · have hj := Gl.cells_lt hu
      rw [Nat.zero_add, hW.cell (p := ⟨g, i * 3 + j, none⟩) hlt.1 hlt.2 (fun h => h)]
      have hc := World.ownsRow.cellAt h.1 (i * 3 + j) (by omega)
      rw [hc]
      exact (glcells_get acc hi hj).trans hu
    · exact h.2 _ (gl_getD_mem hi) W hB fun b h1 h2 h3 => hW b h1 h2 (fun h => h)
end
theorem glnews (w : World) (u : Gl) (T : TypeId) : ∀ j v, u.cells[j]? = some v → (w.alloc (.cells #[.int .i64 u.op, .string u.name, .slice u.at_ u.args.length u.cap] T)).cell? ((⟨w.heap.size, 0, none⟩ : Addr).add j) = some v := by
  intro j v hv
  rw [add_plain, Nat.zero_add, World.cell?_alloc_at _ _ _ _ rfl, ← hv, show (#[.int .i64 u.op, .string u.name, .slice u.at_ u.args.length u.cap] : Array Value) = u.cells.toArray from rfl, List.getElem?_toArray]
set_option maxHeartbeats 8000000 in
set_option maxRecDepth 100000 in
theorem ref_shift_gls_at (kk : Int) (hk : Fits kk) (w0 : World) (l : List Gl) (A : Option Addr) (c : Nat) (w : World) (hw : Below w0.heap.size w0 w) (hl : GlLst w0 A l c) (hsz : l.length ≤ 1000000) (hnd : ∀ x ∈ l, nodesL x.args ≤ 1000000) :
    Calls Tryz.prog 63 #[.slice A l.length c, .int .i64 kk] w (GlMade (From w0) l.length (l.map fun x => x.rr (shiftV kk)) w) := by
  obtain ⟨i0, hi, hz0, hz1, hz2⟩ := info_parts gl_info
  have HL := Lib.hid (hl.below hw)
  have HI := Lib.hid (fun (x : Gl) (hx : x ∈ l) (W : World) (h : Below w.heap.size w W) => ref_shift_terms_at w0 kk x.args x.at_ x.cap W (((hl.mem hx).below (hw.trans (h.mono hw.size))).2.2) (by have := hnd x hx; have := length_le_nodes x.args; omega) (fun y hy W' h' => ref_shift_at w0 kk hk y (Lst.mem ((hl.mem hx).2.2) hy) (by have := nodes_mem hy; have := hnd x hx; omega) W' (hw.trans ((h.trans (h'.mono h.size)).mono hw.size))))
  have HAT := Lib.hid (fun (x : Gl) (hx : x ∈ l) => hl.mem hx)
  clear hl hnd hw
  go_enter Tryz.func63, Tryz.ntmps63
  go_wp2_with fail
  go_loopw [5, 6] (fun z i wr => ∃ (j : Nat) (acc : List Gl) (x : Value), j ≤ l.length ∧ i = .int .i64 j ∧ z = x ∧ Hid (GlRowT (From w0) w.heap.size wr x acc) ∧ Hid (acc.map Gl.key = (l.take j).map fun x => (x.rr (shiftV kk)).key) ∧ Hid (acc.length = j) ∧ Below w.heap.size w wr) (fun _ i _ => l.length - (intOf i).toNat)
  case atStart => exact ⟨0, [], _, Nat.zero_le _, rfl, rfl, Lib.hid (GlRowT.nil _ _ _), Lib.hid rfl, Lib.hid rfl, Below.refl _ _⟩
  case round =>
    obtain ⟨j, acc, z, hj, rfl, hz, HK, HS, HAc, hbw⟩ := hrel
    have hz' := hz.symm
    subst hz'
    clear hz
    by_cases hlt : j < l.length
    · obtain ⟨b0, o, rfl, hcs, _⟩ := (HL.out.below hbw).get hlt
      have HT := Lib.hid (gl_take_next hlt)
      have hmem := gl_getD_mem hlt
      have hal : acc.length ≤ 1000000 := by rw [HAc.out]; omega
      generalize l.getD j default = x at *
      have Q1 := Lib.hid (fun W (h : Below w.heap.size w W) => HI.out x hmem W h)
      have HXA := Lib.hid (HAT.out x hmem)
      have c0 := hcs 0 _ rfl
      have c1 := hcs 1 _ rfl
      have c2 := hcs 2 _ rfl
      simp only [Nat.add_zero] at c0
      have hb0 : b0 < wr.heap.size := World.block_lt_of_cell? _ _ c0
      have HCL := Lib.hid (fun W (h : Below wr.heap.size wr W) => (⟨keepv h c0, keepv h c1, keepv h c2⟩ : W.cell? ⟨b0, o + j * 3, none⟩ = some (.int .i64 x.op) ∧ W.cell? ⟨b0, o + j * 3 + 1, none⟩ = some (.string x.name) ∧ W.cell? ⟨b0, o + j * 3 + 2, none⟩ = some (.slice x.at_ x.args.length x.cap)))
      clear hcs hmem
      obtain ⟨o', s', A', c', a'⟩ := x
      simp only at c0 c1 c2
      go_wp2_with fail
      go_region_law (first
        | (go_simp; go_at_call 104; refine (Q1.out _ hbw.drew).mono ?_; rintro e w2 ⟨A2, p2, cur, rfl, hcl, hst, hL, hb2⟩; replace hb2 := undrew hb2; have hbk : b0 < w2.heap.size := Nat.lt_of_lt_of_le hb0 hb2.size; obtain ⟨d0, d1, d2⟩ := HCL.out _ hb2; have HL2 := Lib.hid (fun W h1 (hW : Agree wr.heap.size No w2 W) => hL W h1 (fun b' h1 h2 h3 => hW b' (by simpa using h1) h2 h3)); have HC2 := Lib.hid hcl; have HS2 := Lib.hid hst; have HK2 := Lib.hid (HK.out.below hb2); have HB2 := Lib.hid hb2; clear hcl hst hL hb2)
        | (refine step_append_lies _ (by rfl) _ _ _ (by rfl) w.heap.size 59 i0 _ 3 48 Tryz.underlying23 hi hz0 hz1 hz2 rfl (by omega) _ acc.length (glcells acc) (by rfl) (HK2.out.1.alloc _) ⟨w2.heap.size, 0, none⟩ 1 1 (Gl.cells ⟨o', s', A2, p2, cur⟩) (by rfl) (by rfl) (by have := glnews w2 (⟨o', s', A2, p2, cur⟩ : Gl) 59; simp only [HC2.out] at this; exact this) (by exact glcells_one _) (by omega) (by unfold maxLen; omega) (by omega) (by have := hbw.size; have := HB2.out.size; simp; omega) (w2.heap.size + 1) (by simp) ?_; intro g cap w5 hown hg hat hglt)
        | fail)
      all_goals
        have HU := Lib.hid (gl_apart (x := ⟨o', s', A2, p2, cur⟩) HK.out.1 (show GlLie (From w0) wr.heap.size No w2 ⟨o', s', A2, p2, cur⟩ from fun W h1 hW => ⟨HXA.out.1, HXA.out.2.1, HL2.out W h1 hW⟩) hbw.size (Nat.le_refl _))
        have HR5 := Lib.hid (HK2.out.next (u := ⟨o', s', A2, p2, cur⟩) HU.out (below1 w2 _) hown hg (by rcases hat with h | h; exact .inl h; exact .inr (by rw [h]; simp)))
        have HB5 : Below w.heap.size w w5 := ((hbw.trans (HB2.out.mono hbw.size)).alloc (Nat.le_trans hbw.size HB2.out.size) _).grown hg (by have := hbw.size; have := HB2.out.size; simp; omega) (fun k hk => ((own_lt HK2.out.1) k hk).1)
        have HS5 := Lib.hid (show (acc ++ [(⟨o', s', A2, p2, cur⟩ : Gl)]).map Gl.key = (l.take (j + 1)).map fun x => (x.rr (shiftV kk)).key by
          rw [HT.out, List.map_append, List.map_append, HS.out]
          refine congrArg _ ?_
          simp only [List.map_cons, List.map_nil]
          exact congrArg (fun x => [x]) (Prod.ext rfl HS2.out))
        clear hown hg hat hglt HK HK2 HU
        go_wp2_with fail
        go_roundw
        case rel => exact ⟨j + 1, acc ++ [(⟨o', s', A2, p2, cur⟩ : Gl)], _, by omega, by go_num, rfl, HR5, HS5, Lib.hid (by rw [List.length_append, HAc.out]; rfl), HB5⟩
        case measure => simp [intOf]; omega
    · obtain rfl : j = l.length := by omega
      have hK := HK.out
      obtain ⟨A', cz, hz, hcz⟩ := hK.form
      subst hz
      have HF := Lib.hid hK.lies
      have HE := Lib.hid (show acc.map Gl.key = (l.map fun x => x.rr (shiftV kk)).map Gl.key by rw [HS.out, List.take_length, List.map_map]; rfl)
      rw [HAc.out]
      clear hK HK hlt HS hcz
      go_wp2_with fail
      go_ret
      exact ⟨A', cz, acc, rfl, HAc.out, HE.out, HF.out, hbw⟩
end Go.Proofs.YtnghanpmmbcbbaaGreatDoor
namespace Go.Proofs.YtnghanpmmbcbbaaGreatDoor
open Go.RowKit
set_option maxHeartbeats 8000000 in
set_option maxRecDepth 100000 in
theorem ren_gls_at (w0 : World) (V : Option Addr) (vs : List Int) (cv : Nat) (hvs : vs.length ≤ 1000000) (l : List Gl) (A : Option Addr) (c : Nat) (w : World) (hV : Ints w V vs) (hw : Below w0.heap.size w0 w) (hl : GlLst w0 A l c) (hsz : l.length ≤ 1000000) (hnd : ∀ x ∈ l, nodesL x.args ≤ 1000000) :
    Calls Tryz.prog 28 #[.slice V vs.length cv, .slice A l.length c] w (GlMade (From w0) l.length (l.map fun x => x.rr (placeS vs)) w) := by
  obtain ⟨i0, hi, hz0, hz1, hz2⟩ := info_parts gl_info
  have HL := Lib.hid (hl.below hw)
  have HI := Lib.hid (fun (x : Gl) (hx : x ∈ l) (W : World) (h : Below w.heap.size w W) => ren_list_at w0 V vs cv hvs (nodesL x.args) x.at_ x.args x.cap W rfl (hnd x hx) (((hl.mem hx)).2.2) (hw.trans (h.mono hw.size)) (hV.below h))
  have HAT := Lib.hid (fun (x : Gl) (hx : x ∈ l) => hl.mem hx)
  clear hl hnd hw hV
  go_enter Tryz.func28, Tryz.ntmps28
  go_wp2_with fail
  go_loopw [5, 6] (fun z i wr => ∃ (j : Nat) (acc : List Gl) (x : Value), j ≤ l.length ∧ i = .int .i64 j ∧ z = x ∧ Hid (GlRowT (From w0) w.heap.size wr x acc) ∧ Hid (acc.map Gl.key = (l.take j).map fun x => (x.rr (placeS vs)).key) ∧ Hid (acc.length = j) ∧ Below w.heap.size w wr) (fun _ i _ => l.length - (intOf i).toNat)
  case atStart => exact ⟨0, [], _, Nat.zero_le _, rfl, rfl, Lib.hid (GlRowT.nil _ _ _), Lib.hid rfl, Lib.hid rfl, Below.refl _ _⟩
  case round =>
    obtain ⟨j, acc, z, hj, rfl, hz, HK, HS, HAc, hbw⟩ := hrel
    have hz' := hz.symm
    subst hz'
    clear hz
    by_cases hlt : j < l.length
    · obtain ⟨b0, o, rfl, hcs, _⟩ := (HL.out.below hbw).get hlt
      have HT := Lib.hid (gl_take_next hlt)
      have hmem := gl_getD_mem hlt
      have hal : acc.length ≤ 1000000 := by rw [HAc.out]; omega
      generalize l.getD j default = x at *
      have Q1 := Lib.hid (fun W (h : Below w.heap.size w W) => HI.out x hmem W h)
      have HXA := Lib.hid (HAT.out x hmem)
      have c0 := hcs 0 _ rfl
      have c1 := hcs 1 _ rfl
      have c2 := hcs 2 _ rfl
      simp only [Nat.add_zero] at c0
      have hb0 : b0 < wr.heap.size := World.block_lt_of_cell? _ _ c0
      have HCL := Lib.hid (fun W (h : Below wr.heap.size wr W) => (⟨keepv h c0, keepv h c1, keepv h c2⟩ : W.cell? ⟨b0, o + j * 3, none⟩ = some (.int .i64 x.op) ∧ W.cell? ⟨b0, o + j * 3 + 1, none⟩ = some (.string x.name) ∧ W.cell? ⟨b0, o + j * 3 + 2, none⟩ = some (.slice x.at_ x.args.length x.cap)))
      clear hcs hmem
      obtain ⟨o', s', A', c', a'⟩ := x
      simp only at c0 c1 c2
      go_wp2_with fail
      go_region_law (first
        | (go_simp; go_at_call 67; refine (Q1.out _ hbw.drew).mono ?_; rintro e w2 ⟨A2, p2, cur, rfl, hcl, hst, hL, hb2⟩; replace hb2 := undrew hb2; have hbk : b0 < w2.heap.size := Nat.lt_of_lt_of_le hb0 hb2.size; obtain ⟨d0, d1, d2⟩ := HCL.out _ hb2; have HL2 := Lib.hid (fun W h1 (hW : Agree wr.heap.size No w2 W) => hL W h1 (fun b' h1 h2 h3 => hW b' (by simpa using h1) h2 h3)); have HC2 := Lib.hid hcl; have HS2 := Lib.hid hst; have HK2 := Lib.hid (HK.out.below hb2); have HB2 := Lib.hid hb2; clear hcl hst hL hb2)
        | (refine step_append_lies _ (by rfl) _ _ _ (by rfl) w.heap.size 59 i0 _ 3 48 Tryz.underlying23 hi hz0 hz1 hz2 rfl (by omega) _ acc.length (glcells acc) (by rfl) (HK2.out.1.alloc _) ⟨w2.heap.size, 0, none⟩ 1 1 (Gl.cells ⟨o', s', A2, p2, cur⟩) (by rfl) (by rfl) (by have := glnews w2 (⟨o', s', A2, p2, cur⟩ : Gl) 59; simp only [HC2.out] at this; exact this) (by exact glcells_one _) (by omega) (by unfold maxLen; omega) (by omega) (by have := hbw.size; have := HB2.out.size; simp; omega) (w2.heap.size + 1) (by simp) ?_; intro g cap w5 hown hg hat hglt)
        | fail)
      all_goals
        have HU := Lib.hid (gl_apart (x := ⟨o', s', A2, p2, cur⟩) HK.out.1 (show GlLie (From w0) wr.heap.size No w2 ⟨o', s', A2, p2, cur⟩ from fun W h1 hW => ⟨HXA.out.1, HXA.out.2.1, HL2.out W h1 hW⟩) hbw.size (Nat.le_refl _))
        have HR5 := Lib.hid (HK2.out.next (u := ⟨o', s', A2, p2, cur⟩) HU.out (below1 w2 _) hown hg (by rcases hat with h | h; exact .inl h; exact .inr (by rw [h]; simp)))
        have HB5 : Below w.heap.size w w5 := ((hbw.trans (HB2.out.mono hbw.size)).alloc (Nat.le_trans hbw.size HB2.out.size) _).grown hg (by have := hbw.size; have := HB2.out.size; simp; omega) (fun k hk => ((own_lt HK2.out.1) k hk).1)
        have HS5 := Lib.hid (show (acc ++ [(⟨o', s', A2, p2, cur⟩ : Gl)]).map Gl.key = (l.take (j + 1)).map fun x => (x.rr (placeS vs)).key by
          rw [HT.out, List.map_append, List.map_append, HS.out]
          refine congrArg _ ?_
          simp only [List.map_cons, List.map_nil]
          exact congrArg (fun x => [x]) (Prod.ext rfl HS2.out))
        clear hown hg hat hglt HK HK2 HU
        go_wp2_with fail
        go_roundw
        case rel => exact ⟨j + 1, acc ++ [(⟨o', s', A2, p2, cur⟩ : Gl)], _, by omega, by go_num, rfl, HR5, HS5, Lib.hid (by rw [List.length_append, HAc.out]; rfl), HB5⟩
        case measure => simp [intOf]; omega
    · obtain rfl : j = l.length := by omega
      have hK := HK.out
      obtain ⟨A', cz, hz, hcz⟩ := hK.form
      subst hz
      have HF := Lib.hid hK.lies
      have HE := Lib.hid (show acc.map Gl.key = (l.map fun x => x.rr (placeS vs)).map Gl.key by rw [HS.out, List.take_length, List.map_map]; rfl)
      rw [HAc.out]
      clear hK HK hlt HS hcz
      go_wp2_with fail
      go_ret
      exact ⟨A', cz, acc, rfl, HAc.out, HE.out, HF.out, hbw⟩
end Go.Proofs.YtnghanpmmbcbbaaGreatDoor
namespace Go.Proofs.YtnghanpmmbcbbaaGreatDoor
open Go.RowKit
def Rl.vs (r : Rl) : List Int := varsL r.ts
def RlLies (w0 : World) (fA : Am → Am) (fG : Gl → Gl) (r : Rl) (w : World) (e : Ending) (w' : World) : Prop := ∃ u : Rl, e = .returned u.val ∧ Like fA fG u r ∧ (∀ W, From w0 W → Agree w.heap.size No w' W → u.At W) ∧ Below w.heap.size w w'
set_option maxHeartbeats 16000000 in
set_option maxRecDepth 100000 in
theorem num_rule_at (r : Rl) (w0 w : World) (h0 : r.At w0) (hw : Below w0.heap.size w0 w) (hs : r.Tiny) :
    Calls Tryz.prog 14 #[r.val] w (RlLies w0 (fun x => x.rr (placeS r.vs)) (fun x => x.rr (placeS r.vs)) { r with vars := (r.vs.length : Int) } w) := by
  have h := h0.below hw
  obtain ⟨X, hX⟩ : ∃ X, (w.alloc (.cells #[.string r.name, .slice r.kA r.keep.length r.kc, .slice r.rA r.remove.length r.rc, .slice r.gA r.guard.length r.gc, .slice r.bA r.body.length r.bc, .int .i64 r.vars] 25)).alloc (.cells #[.string ⟨#[]⟩, .slice none 0 0, .slice none 0 0, .slice none 0 0, .slice none 0 0, .int .i64 0] 25) = X := ⟨_, rfl⟩
  obtain ⟨HB0, HB1⟩ := two_boxesL w [.string r.name, .slice r.kA r.keep.length r.kc, .slice r.rA r.remove.length r.rc, .slice r.gA r.guard.length r.gc, .slice r.bA r.body.length r.bc, .int .i64 r.vars] [.string ⟨#[]⟩, .slice none 0 0, .slice none 0 0, .slice none 0 0, .slice none 0 0, .int .i64 0] 25
  have H0 := Lib.hid (show HeldL w.heap.size X [.string r.name, .slice r.kA r.keep.length r.kc, .slice r.rA r.remove.length r.rc, .slice r.gA r.guard.length r.gc, .slice r.bA r.body.length r.bc, .int .i64 r.vars] from by rw [← hX]; exact HB0)
  have H1 := Lib.hid (show HeldL (w.heap.size + 1) X [.string ⟨#[]⟩, .slice none 0 0, .slice none 0 0, .slice none 0 0, .slice none 0 0, .int .i64 0] from by rw [← hX]; exact HB1)
  have HX := Lib.hid (show Ext w X ∧ X.heap.size = w.heap.size + 2 from by rw [← hX]; exact ⟨Ext.al2 _ _ _, by simp⟩)
  have hvn : r.vs.length ≤ 1000000 := by have h1 := varsL_len r.ts; have h2 := hs.nodes; unfold Rl.vs; omega
  have QT := Lib.hid (fun (W : World) (hb : Ext X W) => sterms_at r W (h.below (Ext.trans HX.out.1 hb)) hs)
  have QV := Lib.hid (fun (A : Option Addr) (c : Nat) (W : World) (hl : Lst W A r.ts c) => show Calls Tryz.prog 23 #[.slice A r.ts.length c] W (Grows W r.vs) from ref_vars_of_at r.ts A c W hl (by have := size_nodes.2 r.ts; have := hs.nodes; omega))
  have Q1 := Lib.hid (fun (V : Option Addr) (cv : Nat) (W : World) (hV : Ints W V r.vs) (hb : Ext X W) => ren_ams_at w0 V r.vs cv hvn r.keep r.kA r.kc W hV (hw.trans ((Ext.trans HX.out.1 hb).mono hw.size)) h0.keep hs.small.k1 hs.small.k2)
  have Q2 := Lib.hid (fun (V : Option Addr) (cv : Nat) (W : World) (hV : Ints W V r.vs) (hb : Ext X W) => ren_ams_at w0 V r.vs cv hvn r.remove r.rA r.rc W hV (hw.trans ((Ext.trans HX.out.1 hb).mono hw.size)) h0.remove hs.small.r1 hs.small.r2)
  have Q3 := Lib.hid (fun (V : Option Addr) (cv : Nat) (W : World) (hV : Ints W V r.vs) (hb : Ext X W) => ren_gls_at w0 V r.vs cv hvn r.guard r.gA r.gc W hV (hw.trans ((Ext.trans HX.out.1 hb).mono hw.size)) h0.guard hs.small.g1 hs.small.g2)
  have Q4 := Lib.hid (fun (V : Option Addr) (cv : Nat) (W : World) (hV : Ints W V r.vs) (hb : Ext X W) => ren_gls_at w0 V r.vs cv hvn r.body r.bA r.bc W hV (hw.trans ((Ext.trans HX.out.1 hb).mono hw.size)) h0.body hs.small.b1 hs.small.b2)
  have HA := Lib.hid (And.intro h.name (show Fits (r.vs.length : Int) by unfold Fits; omega))
  have HC := Lib.hid (fun W (h : Ext X W) => (⟨(H0.out.below h).cell 0 _ rfl, (H0.out.below h).cell 1 _ rfl, (H0.out.below h).cell 2 _ rfl, (H0.out.below h).cell 3 _ rfl, (H0.out.below h).cell 4 _ rfl, (H0.out.below h).cell 5 _ rfl⟩ : (fun W => W.cell? ⟨w.heap.size, 0, none⟩ = some (.string r.name) ∧ W.cell? ⟨w.heap.size, 1, none⟩ = some (.slice r.kA r.keep.length r.kc) ∧ W.cell? ⟨w.heap.size, 2, none⟩ = some (.slice r.rA r.remove.length r.rc) ∧ W.cell? ⟨w.heap.size, 3, none⟩ = some (.slice r.gA r.guard.length r.gc) ∧ W.cell? ⟨w.heap.size, 4, none⟩ = some (.slice r.bA r.body.length r.bc) ∧ W.cell? ⟨w.heap.size, 5, none⟩ = some (.int .i64 r.vars)) W))
  have HCZ := Lib.hid (fun W (h : Ext X W) (a b c d e f : Value) => (⟨((((((((H0.out.below h).other (p := ⟨w.heap.size + 1, 0, none⟩) (by show w.heap.size + 1 ≠ w.heap.size; omega) a).other (p := ⟨w.heap.size + 1, 1, none⟩) (by show w.heap.size + 1 ≠ w.heap.size; omega) b).other (p := ⟨w.heap.size + 1, 2, none⟩) (by show w.heap.size + 1 ≠ w.heap.size; omega) c).other (p := ⟨w.heap.size + 1, 3, none⟩) (by show w.heap.size + 1 ≠ w.heap.size; omega) d).other (p := ⟨w.heap.size + 1, 4, none⟩) (by show w.heap.size + 1 ≠ w.heap.size; omega) e).other (p := ⟨w.heap.size + 1, 5, none⟩) (by show w.heap.size + 1 ≠ w.heap.size; omega) f)).cell 0 _ rfl, ((((((((H0.out.below h).other (p := ⟨w.heap.size + 1, 0, none⟩) (by show w.heap.size + 1 ≠ w.heap.size; omega) a).other (p := ⟨w.heap.size + 1, 1, none⟩) (by show w.heap.size + 1 ≠ w.heap.size; omega) b).other (p := ⟨w.heap.size + 1, 2, none⟩) (by show w.heap.size + 1 ≠ w.heap.size; omega) c).other (p := ⟨w.heap.size + 1, 3, none⟩) (by show w.heap.size + 1 ≠ w.heap.size; omega) d).other (p := ⟨w.heap.size + 1, 4, none⟩) (by show w.heap.size + 1 ≠ w.heap.size; omega) e).other (p := ⟨w.heap.size + 1, 5, none⟩) (by show w.heap.size + 1 ≠ w.heap.size; omega) f)).cell 1 _ rfl, ((((((((H0.out.below h).other (p := ⟨w.heap.size + 1, 0, none⟩) (by show w.heap.size + 1 ≠ w.heap.size; omega) a).other (p := ⟨w.heap.size + 1, 1, none⟩) (by show w.heap.size + 1 ≠ w.heap.size; omega) b).other (p := ⟨w.heap.size + 1, 2, none⟩) (by show w.heap.size + 1 ≠ w.heap.size; omega) c).other (p := ⟨w.heap.size + 1, 3, none⟩) (by show w.heap.size + 1 ≠ w.heap.size; omega) d).other (p := ⟨w.heap.size + 1, 4, none⟩) (by show w.heap.size + 1 ≠ w.heap.size; omega) e).other (p := ⟨w.heap.size + 1, 5, none⟩) (by show w.heap.size + 1 ≠ w.heap.size; omega) f)).cell 2 _ rfl, ((((((((H0.out.below h).other (p := ⟨w.heap.size + 1, 0, none⟩) (by show w.heap.size + 1 ≠ w.heap.size; omega) a).other (p := ⟨w.heap.size + 1, 1, none⟩) (by show w.heap.size + 1 ≠ w.heap.size; omega) b).other (p := ⟨w.heap.size + 1, 2, none⟩) (by show w.heap.size + 1 ≠ w.heap.size; omega) c).other (p := ⟨w.heap.size + 1, 3, none⟩) (by show w.heap.size + 1 ≠ w.heap.size; omega) d).other (p := ⟨w.heap.size + 1, 4, none⟩) (by show w.heap.size + 1 ≠ w.heap.size; omega) e).other (p := ⟨w.heap.size + 1, 5, none⟩) (by show w.heap.size + 1 ≠ w.heap.size; omega) f)).cell 3 _ rfl, ((((((((H0.out.below h).other (p := ⟨w.heap.size + 1, 0, none⟩) (by show w.heap.size + 1 ≠ w.heap.size; omega) a).other (p := ⟨w.heap.size + 1, 1, none⟩) (by show w.heap.size + 1 ≠ w.heap.size; omega) b).other (p := ⟨w.heap.size + 1, 2, none⟩) (by show w.heap.size + 1 ≠ w.heap.size; omega) c).other (p := ⟨w.heap.size + 1, 3, none⟩) (by show w.heap.size + 1 ≠ w.heap.size; omega) d).other (p := ⟨w.heap.size + 1, 4, none⟩) (by show w.heap.size + 1 ≠ w.heap.size; omega) e).other (p := ⟨w.heap.size + 1, 5, none⟩) (by show w.heap.size + 1 ≠ w.heap.size; omega) f)).cell 4 _ rfl, ((((((((H0.out.below h).other (p := ⟨w.heap.size + 1, 0, none⟩) (by show w.heap.size + 1 ≠ w.heap.size; omega) a).other (p := ⟨w.heap.size + 1, 1, none⟩) (by show w.heap.size + 1 ≠ w.heap.size; omega) b).other (p := ⟨w.heap.size + 1, 2, none⟩) (by show w.heap.size + 1 ≠ w.heap.size; omega) c).other (p := ⟨w.heap.size + 1, 3, none⟩) (by show w.heap.size + 1 ≠ w.heap.size; omega) d).other (p := ⟨w.heap.size + 1, 4, none⟩) (by show w.heap.size + 1 ≠ w.heap.size; omega) e).other (p := ⟨w.heap.size + 1, 5, none⟩) (by show w.heap.size + 1 ≠ w.heap.size; omega) f)).cell 5 _ rfl⟩ : (fun W => W.cell? ⟨w.heap.size, 0, none⟩ = some (.string r.name) ∧ W.cell? ⟨w.heap.size, 1, none⟩ = some (.slice r.kA r.keep.length r.kc) ∧ W.cell? ⟨w.heap.size, 2, none⟩ = some (.slice r.rA r.remove.length r.rc) ∧ W.cell? ⟨w.heap.size, 3, none⟩ = some (.slice r.gA r.guard.length r.gc) ∧ W.cell? ⟨w.heap.size, 4, none⟩ = some (.slice r.bA r.body.length r.bc) ∧ W.cell? ⟨w.heap.size, 5, none⟩ = some (.int .i64 r.vars)) ((((((W.setCell ⟨w.heap.size + 1, 0, none⟩ a).setCell ⟨w.heap.size + 1, 1, none⟩ b).setCell ⟨w.heap.size + 1, 2, none⟩ c).setCell ⟨w.heap.size + 1, 3, none⟩ d).setCell ⟨w.heap.size + 1, 4, none⟩ e).setCell ⟨w.heap.size + 1, 5, none⟩ f)))
  have HVn := Lib.hid hvn
  have HW := Lib.hid hw.size
  generalize hgv : r.vs = vs at *
  clear HB0 HB1 h hs hgv h0 hw
  show Calls Tryz.prog 14 #[.agg #[.string r.name, .slice r.kA r.keep.length r.kc, .slice r.rA r.remove.length r.rc, .slice r.gA r.guard.length r.gc, .slice r.bA r.body.length r.bc, .int .i64 r.vars]] w _
  go_enter Tryz.func14, Tryz.ntmps14
  go_upto_region 1 with (fail)
  (try rw [hX])
  clear hX
  have p00 := H0.out.cell 0 _ rfl
  have p01 := H0.out.cell 1 _ rfl
  have p02 := H0.out.cell 2 _ rfl
  have p03 := H0.out.cell 3 _ rfl
  have p04 := H0.out.cell 4 _ rfl
  have p05 := H0.out.cell 5 _ rfl
  go_wp2_with fail
  refine (QT.out X (Ext.refl X)).mono ?_
  rintro e Z1 ⟨At, ct, lt, rfl, rfl, hlt, hbt⟩
  have HBt := Lib.hid (show Ext X Z1 from hbt)
  clear hbt
  have QV1 := Lib.hid (QV.out At ct Z1 hlt)
  clear hlt QV QT p00 p01 p02 p03 p04 p05
  go_wp2_with fail
  refine QV1.out.mono ?_
  rintro e Y ⟨v, rfl, hown, hby⟩
  obtain ⟨V, cv, rfl, hI, _⟩ := hown.form
  have HY := Lib.hid (show Ext X Y from Ext.trans HBt.out hby)
  have HI := Lib.hid (fun (W : World) (h : Ext Y W) => show Ints W V vs from hI.below h)
  have hln : vs.length ≤ 9223372036854775807 := by have := HVn.out; omega
  clear hown hby hI QV1
  go_upto_region 2 with (fail)
  go_region_held3 (fun W => W.cell? ⟨w.heap.size, 0, none⟩ = some (.string r.name) ∧ W.cell? ⟨w.heap.size, 1, none⟩ = some (.slice r.kA r.keep.length r.kc) ∧ W.cell? ⟨w.heap.size, 2, none⟩ = some (.slice r.rA r.remove.length r.rc) ∧ W.cell? ⟨w.heap.size, 3, none⟩ = some (.slice r.gA r.guard.length r.gc) ∧ W.cell? ⟨w.heap.size, 4, none⟩ = some (.slice r.bA r.body.length r.bc) ∧ W.cell? ⟨w.heap.size, 5, none⟩ = some (.int .i64 r.vars)) (first | (with_reducible exact HCZ.out _ (Ext.trans HY.out EZ.out) _ _ _ _ _ _) | (with_reducible exact HC.out _ (Ext.trans HY.out (Ext.drew _))) | (with_reducible exact HC.out _ (Ext.trans HY.out E1.out)) | (with_reducible exact HC.out _ (Ext.trans HY.out E2.out)) | (with_reducible exact HC.out _ (Ext.trans HY.out E3.out)) | (with_reducible exact HC.out _ (Ext.trans HY.out EZ.out)) | fail) (first
    | (go_at_call 46; (with_reducible refine (Q1.out V cv Y.drew (HI.out _ (Ext.drew Y)) (Ext.trans HY.out (Ext.drew Y))).mono ?_); rintro e y1 ⟨A1, c1, k, rfl, hl, hs, hL, h1⟩; have E1 := Lib.hid (show Ext Y y1 from Ext.trans (Ext.drew Y) h1);  have Lk1 := Lib.hid (LP.low (lo' := w.heap.size + 2) (P := fun W => From w0 W → AmLst W A1 k c1) (w := y1) (fun W hW hF => hL W hF hW) (by have := (Ext.drew Y).size; have := HX.out.2; have := HY.out.size; simp at this ⊢; omega)); have Sk := Lib.hid (And.intro hl hs); clear hL h1 hl hs)
    | (go_at_call 46; (with_reducible refine (Q2.out V cv y1 (HI.out _ E1.out) (Ext.trans HY.out E1.out)).mono ?_); rintro e y2 ⟨A2, c2, m, rfl, hl, hs, hL, h1⟩; have E2 := Lib.hid (show Ext Y y2 from Ext.trans E1.out h1); have Lk2 := Lib.hid (Lk1.out.below h1); have Lm2 := Lib.hid (LP.low (lo' := w.heap.size + 2) (P := fun W => From w0 W → AmLst W A2 m c2) (w := y2) (fun W hW hF => hL W hF hW) (by have := E1.out.size; have := HX.out.2; have := HY.out.size; simp at this ⊢; omega)); have Sm := Lib.hid (And.intro hl hs); clear hL h1 hl hs)
    | (go_at_call 28; (with_reducible refine (Q3.out V cv y2 (HI.out _ E2.out) (Ext.trans HY.out E2.out)).mono ?_); rintro e y3 ⟨A3, c3, g, rfl, hl, hs, hL, h1⟩; have E3 := Lib.hid (show Ext Y y3 from Ext.trans E2.out h1); have Lk3 := Lib.hid (Lk2.out.below h1); have Lm3 := Lib.hid (Lm2.out.below h1); have Lg3 := Lib.hid (LP.low (lo' := w.heap.size + 2) (P := fun W => From w0 W → GlLst W A3 g c3) (w := y3) (fun W hW hF => hL W hF hW) (by have := E2.out.size; have := HX.out.2; have := HY.out.size; simp at this ⊢; omega)); have Sg := Lib.hid (And.intro hl hs); clear hL h1 hl hs)
    | (go_at_call 28; (with_reducible refine (Q4.out V cv y3 (HI.out _ E3.out) (Ext.trans HY.out E3.out)).mono ?_); rintro e y4 ⟨A4, c4, b, rfl, hl, hs, hL, h1⟩; have E4 := Lib.hid (show Ext Y y4 from Ext.trans E3.out h1); have Lk4 := Lib.hid (Lk3.out.below h1); have Lm4 := Lib.hid (Lm3.out.below h1); have Lg4 := Lib.hid (Lg3.out.below h1); have Lb4 := Lib.hid (LP.low (lo' := w.heap.size + 2) (P := fun W => From w0 W → GlLst W A4 b c4) (w := y4) (fun W hW hF => hL W hF hW) (by have := E3.out.size; have := HX.out.2; have := HY.out.size; simp at this ⊢; omega)); have Sb := Lib.hid (And.intro hl hs); have EZ := E4; have ZB := Lib.hid (H1.out.below (Ext.trans HY.out E4.out)); have q0 := ZB.out.cell 0 _ rfl; have q1 := ZB.out.cell 1 _ rfl; have q2 := ZB.out.cell 2 _ rfl; have q3 := ZB.out.cell 3 _ rfl; have q4 := ZB.out.cell 4 _ rfl; have q5 := ZB.out.cell 5 _ rfl; have f0 := ZB.out.free 0; have f1 := ZB.out.free 1; have f2 := ZB.out.free 2; have f3 := ZB.out.free 3; have f4 := ZB.out.free 4; have f5 := ZB.out.free 5; have hz := ZB.out.lt; clear hL h1 hl hs)
    | fail)
  all_goals
    go_wp2_with fail
    refine bodyPost_ret (v := .agg #[.string r.name, .slice A1 r.keep.length c1, .slice A2 r.remove.length c2, .slice A3 r.guard.length c3, .slice A4 r.body.length c4, .int .i64 (vs.length : Int)]) (by simp [results, Tryz.results14, go_sem, q0, q1, q2, q3, q4, q5]) rfl ?_
    have HE := Lib.hid (show Below w.heap.size w y4 from Ext.trans HX.out.1 (Ext.trans HY.out E4.out))
    refine ⟨⟨r.name, A1, c1, k, A2, c2, m, A3, c3, g, A4, c4, b, (vs.length : Int)⟩, by rw [← Sk.out.1, ← Sm.out.1, ← Sg.out.1, ← Sb.out.1], ⟨rfl, rfl, Sk.out.1, Sk.out.2, Sm.out.1, Sm.out.2, Sg.out.1, Sg.out.2, Sb.out.1, Sb.out.2⟩, (fun W hF hA => ⟨HA.out.1, ((LP.set (LP.set (LP.set (LP.set (LP.set (LP.set Lk4.out (p := ⟨w.heap.size + 1, 0, none⟩) (by show w.heap.size + 1 < w.heap.size + 2; omega) _) (p := ⟨w.heap.size + 1, 1, none⟩) (by show w.heap.size + 1 < w.heap.size + 2; omega) _) (p := ⟨w.heap.size + 1, 2, none⟩) (by show w.heap.size + 1 < w.heap.size + 2; omega) _) (p := ⟨w.heap.size + 1, 3, none⟩) (by show w.heap.size + 1 < w.heap.size + 2; omega) _) (p := ⟨w.heap.size + 1, 4, none⟩) (by show w.heap.size + 1 < w.heap.size + 2; omega) _) (p := ⟨w.heap.size + 1, 5, none⟩) (by show w.heap.size + 1 < w.heap.size + 2; omega) _) W (fun b h1 h2 h3 => hA b (by omega) h2 h3) hF), ((LP.set (LP.set (LP.set (LP.set (LP.set (LP.set Lm4.out (p := ⟨w.heap.size + 1, 0, none⟩) (by show w.heap.size + 1 < w.heap.size + 2; omega) _) (p := ⟨w.heap.size + 1, 1, none⟩) (by show w.heap.size + 1 < w.heap.size + 2; omega) _) (p := ⟨w.heap.size + 1, 2, none⟩) (by show w.heap.size + 1 < w.heap.size + 2; omega) _) (p := ⟨w.heap.size + 1, 3, none⟩) (by show w.heap.size + 1 < w.heap.size + 2; omega) _) (p := ⟨w.heap.size + 1, 4, none⟩) (by show w.heap.size + 1 < w.heap.size + 2; omega) _) (p := ⟨w.heap.size + 1, 5, none⟩) (by show w.heap.size + 1 < w.heap.size + 2; omega) _) W (fun b h1 h2 h3 => hA b (by omega) h2 h3) hF), ((LP.set (LP.set (LP.set (LP.set (LP.set (LP.set Lg4.out (p := ⟨w.heap.size + 1, 0, none⟩) (by show w.heap.size + 1 < w.heap.size + 2; omega) _) (p := ⟨w.heap.size + 1, 1, none⟩) (by show w.heap.size + 1 < w.heap.size + 2; omega) _) (p := ⟨w.heap.size + 1, 2, none⟩) (by show w.heap.size + 1 < w.heap.size + 2; omega) _) (p := ⟨w.heap.size + 1, 3, none⟩) (by show w.heap.size + 1 < w.heap.size + 2; omega) _) (p := ⟨w.heap.size + 1, 4, none⟩) (by show w.heap.size + 1 < w.heap.size + 2; omega) _) (p := ⟨w.heap.size + 1, 5, none⟩) (by show w.heap.size + 1 < w.heap.size + 2; omega) _) W (fun b h1 h2 h3 => hA b (by omega) h2 h3) hF), ((LP.set (LP.set (LP.set (LP.set (LP.set (LP.set Lb4.out (p := ⟨w.heap.size + 1, 0, none⟩) (by show w.heap.size + 1 < w.heap.size + 2; omega) _) (p := ⟨w.heap.size + 1, 1, none⟩) (by show w.heap.size + 1 < w.heap.size + 2; omega) _) (p := ⟨w.heap.size + 1, 2, none⟩) (by show w.heap.size + 1 < w.heap.size + 2; omega) _) (p := ⟨w.heap.size + 1, 3, none⟩) (by show w.heap.size + 1 < w.heap.size + 2; omega) _) (p := ⟨w.heap.size + 1, 4, none⟩) (by show w.heap.size + 1 < w.heap.size + 2; omega) _) (p := ⟨w.heap.size + 1, 5, none⟩) (by show w.heap.size + 1 < w.heap.size + 2; omega) _) W (fun b h1 h2 h3 => hA b (by omega) h2 h3) hF), HA.out.2⟩), (Below.setCell (Below.setCell (Below.setCell (Below.setCell (Below.setCell (Below.setCell HE.out (p := ⟨w.heap.size + 1, 0, none⟩) (Nat.le_succ _) _) (p := ⟨w.heap.size + 1, 1, none⟩) (Nat.le_succ _) _) (p := ⟨w.heap.size + 1, 2, none⟩) (Nat.le_succ _) _) (p := ⟨w.heap.size + 1, 3, none⟩) (Nat.le_succ _) _) (p := ⟨w.heap.size + 1, 4, none⟩) (Nat.le_succ _) _) (p := ⟨w.heap.size + 1, 5, none⟩) (Nat.le_succ _) _)⟩
end Go.Proofs.YtnghanpmmbcbbaaGreatDoor
namespace Go.Proofs.YtnghanpmmbcbbaaGreatDoor
open Go.RowKit
theorem keys_map {α β γ : Type} {k : α → β} {f : α → γ} (hf : ∀ x y, k x = k y → f x = f y) : ∀ {l m : List α}, l.map k = m.map k → l.map f = m.map f
  | [], [], _ => rfl
  | [], _ :: _, h => by simp at h
  | _ :: _, [], h => by simp at h
  | x :: l, y :: m, h => by
    simp only [List.map_cons, List.cons.injEq] at h ⊢
    exact ⟨hf x y h.1, keys_map hf h.2⟩
structure Rl.Twin (u v : Rl) : Prop where
  name : u.name = v.name
  keep : u.keep.map Am.key = v.keep.map Am.key
  remove : u.remove.map Am.key = v.remove.map Am.key
  guard : u.guard.map Gl.key = v.guard.map Gl.key
  body : u.body.map Gl.key = v.body.map Gl.key
theorem map_len {α β : Type} {f : α → β} {l m : List α} (h : l.map f = m.map f) : l.length = m.length := by have := congrArg List.length h; simpa using this
def Rl.numR (r : Rl) : Rl := { r with keep := r.keep.map fun x => x.rr (placeS r.vs), remove := r.remove.map fun x => x.rr (placeS r.vs), guard := r.guard.map fun x => x.rr (placeS r.vs), body := r.body.map fun x => x.rr (placeS r.vs), vars := (r.vs.length : Int) }
theorem mem_key {α β : Type} {k : α → β} {l m : List α} (h : l.map k = m.map k) {x : α} (hx : x ∈ l) : ∃ y ∈ m, k x = k y := by
  have : k x ∈ m.map k := by rw [← h]; exact List.mem_map_of_mem hx
  obtain ⟨y, hy, e⟩ := List.mem_map.1 this
  exact ⟨y, hy, e.symm⟩
theorem am_small {l m : List Am} {g : Int → Int} (h : l.map Am.key = (m.map fun x => x.rr g).map Am.key) (hm : ∀ x ∈ m, nodesL x.args ≤ 300) : ∀ x ∈ l, sizeL x.args ≤ 1000000 := by
  intro x hx
  obtain ⟨y, hy, e⟩ := mem_key h hx
  obtain ⟨z, hz, rfl⟩ := List.mem_map.1 hy
  have e2 : stripL x.args = stripL (rrL z.args g) := congrArg Prod.snd e
  have h1 := nodesL_strip e2
  have h2 := hm z hz
  have h3 := size_nodes.2 x.args
  rw [rr_nodes.2] at h1
  omega
theorem gl_small {l m : List Gl} {g : Int → Int} (h : l.map Gl.key = (m.map fun x => x.rr g).map Gl.key) (hm : ∀ x ∈ m, nodesL x.args ≤ 300) : ∀ x ∈ l, sizeL x.args ≤ 1000000 := by
  intro x hx
  obtain ⟨y, hy, e⟩ := mem_key h hx
  obtain ⟨z, hz, rfl⟩ := List.mem_map.1 hy
  have e2 : stripL x.args = stripL (rrL z.args g) := congrArg Prod.snd e
  have h1 := nodesL_strip e2
  have h2 := hm z hz
  have h3 := size_nodes.2 x.args
  rw [rr_nodes.2] at h1
  omega
theorem like_num {u r : Rl} (h : Like (fun x => x.rr (placeS r.vs)) (fun x => x.rr (placeS r.vs)) u { r with vars := (r.vs.length : Int) }) : u.Twin r.numR := ⟨h.name, h.keep, h.remove, h.guard, h.body⟩
end Go.Proofs.YtnghanpmmbcbbaaGreatDoor
namespace Go.Proofs.YtnghanpmmbcbbaaGreatDoor
open Go
def skip : List UInt8 → List UInt8
  | [] => []
  | c :: r => if c = 32 then skip r else c :: r
theorem skip_len (l : List UInt8) : (skip l).length ≤ l.length := by
  induction l with
  | nil => simp [skip]
  | cons c r ih =>
    unfold skip
    split
    · simp only [List.length_cons]; omega
    · exact Nat.le_refl _
def sp (n : Nat) : List UInt8 := List.replicate n 32
def ostr (s : List UInt8) : Nat := if s = [43] ∨ s = [45] then 0 else if s = [42] ∨ s = [47] ∨ s = [37] then 1 else 2
def Tm.pw (t : Tm) : Nat := ostr t.name.data.toList
theorem ostr_op (s : List UInt8) : opB s = true ↔ ostr s < 2 := by
  simp only [opB, operators, List.mem_cons, List.not_mem_nil, or_false, decide_eq_true_eq, ostr]
  split
  · rename_i h; rcases h with h | h <;> simp [h]
  · rename_i h
    split
    · rename_i h'; rcases h' with h' | h' | h' <;> simp [h']
    · rename_i h'
      simp only [not_or] at h h'
      simp [h, h']
structure Sty where
  a : Nat
  b : Nat
  c : Nat
  d : Nat
  e : Nat
def plain : Sty := ⟨0, 0, 0, 0, 0⟩
def wide : Sty := ⟨1, 2, 1, 2, 1⟩
def Sty.lp (σ : Sty) : List UInt8 := sp σ.a ++ 40 :: sp σ.b
def Sty.rp (σ : Sty) : List UInt8 := sp σ.c ++ 41 :: sp σ.d
def Sty.cm (σ : Sty) : List UInt8 := sp σ.e ++ [44]
def paren (σ : Sty) (b : Bool) (x : List UInt8) : List UInt8 := if b then σ.lp ++ (x ++ σ.rp) else x
def restT (σ : Sty) : List (List UInt8) → List UInt8
  | [] => []
  | x :: r => σ.cm ++ (32 :: x ++ restT σ r)
def callT (σ : Sty) (s : List UInt8) : List (List UInt8) → List UInt8
  | [] => s
  | x :: r => s ++ (σ.lp ++ (x ++ (restT σ r ++ σ.rp)))
def topT (s x y : List UInt8) : List UInt8 := x ++ (32 :: s ++ (32 :: y))
mutual
def Tm.txt (σ : Sty) : Tm → List UInt8
  | .mk k n s _ _ a => if k = 0 then Lib.itoa n else if k = 1 then label n.toNat
      else if opB s.data.toList then topT s.data.toList (paren σ (decide ((a.getD 0 default).pw < ostr s.data.toList)) ((txtL σ a).getD 0 [])) (paren σ (decide ((a.getD 1 default).pw ≤ ostr s.data.toList)) ((txtL σ a).getD 1 []))
      else callT σ s.data.toList (txtL σ a)
def txtL (σ : Sty) : List Tm → List (List UInt8)
  | [] => []
  | t :: r => t.txt σ :: txtL σ r
end
theorem txtL_map (σ : Sty) (l : List Tm) : txtL σ l = l.map (Tm.txt σ) := by
  induction l with
  | nil => rfl
  | cons t r ih => simp [txtL, ih]
inductive PR (α : Type) where
  | ok (v : α) (r : List UInt8)
  | err (e : Int)
def binT (c : UInt8) (t u : Tm) : Tm := .mk 2 0 ⟨#[c]⟩ none 0 [t, u]
def funT (w : List UInt8) (l : List Tm) : Tm := .mk 2 0 ⟨w.toArray⟩ none 0 l
def intT (n : Int) : Tm := .mk 0 n ⟨#[]⟩ none 0 []
def varT (n : Nat) : Tm := .mk 1 (n : Int) ⟨#[]⟩ none 0 []
def intP (r : List UInt8) : PR Tm :=
  if (if r.headD 0 = 45 then r.tail else r).takeWhile digB = [] ∨ (((if r.headD 0 = 45 then r.tail else r).takeWhile digB).headD 0 = 48 ∧ (r.headD 0 = 45 ∨ 1 < ((if r.headD 0 = 45 then r.tail else r).takeWhile digB).length)) then .err 16
  else if 2147483648 < spell ((if r.headD 0 = 45 then r.tail else r).takeWhile digB) then .err 5
  else .ok (intT (if r.headD 0 = 45 then -(spell ((if r.headD 0 = 45 then r.tail else r).takeWhile digB) : Int) else (spell ((if r.headD 0 = 45 then r.tail else r).takeWhile digB) : Int))) (skip ((if r.headD 0 = 45 then r.tail else r).dropWhile digB))
def labP (r : List UInt8) : PR Tm :=
  if spell ((r.takeWhile inB).drop 1) ≤ 1048576 ∧ r.takeWhile inB = label (spell ((r.takeWhile inB).drop 1)) then .ok (varT (spell ((r.takeWhile inB).drop 1))) (skip (r.dropWhile inB)) else .err 7
def argsP (ex : List UInt8 → PR Tm) (acc : List Tm) (r : List UInt8) : PR (List Tm) :=
  match ex r with
  | .err e => .err e
  | .ok _ [] => .err 16
  | .ok t (c :: r2) => if c = 41 then .ok (acc ++ [t]) (skip r2)
      else if c = 44 then (if _h : r2.length < r.length then argsP ex (acc ++ [t]) (skip r2) else .err 0)
      else .err 16
termination_by r.length
decreasing_by have := skip_len r2; omega
def atomP (ex : List UInt8 → PR Tm) (r : List UInt8) : PR (List UInt8 × List Tm) :=
  if lowB (r.headD 0) then
    if rightB (r.takeWhile inB) then
      match skip (r.dropWhile inB) with
      | [] => .ok (r.takeWhile inB, []) []
      | c :: r2 => if c = 40 then (match argsP ex [] (skip r2) with
          | .ok l r3 => .ok (r.takeWhile inB, l) r3
          | .err e => .err e) else .ok (r.takeWhile inB, []) (c :: r2)
    else .err 7
  else .err 16
def groupP (ex : List UInt8 → PR Tm) (r : List UInt8) : PR Tm :=
  match ex (skip r.tail) with
  | .err e => .err e
  | .ok _ [] => .err 16
  | .ok t (c :: r2) => if c = 41 then .ok t (skip r2) else .err 16
def asFun : PR (List UInt8 × List Tm) → PR Tm
  | .ok (w, l) r2 => .ok (funT w l) r2
  | .err e => .err e
def opnd (ex : List UInt8 → PR Tm) (r : List UInt8) : PR Tm :=
  if r.headD 0 = 40 then groupP ex r
  else if r.headD 0 = 45 ∨ digB (r.headD 0) = true then intP r
  else if undB (r.headD 0) = true ∨ uppB (r.headD 0) = true then labP r
  else asFun (atomP ex r)
def chain (own : Nat) (o : List UInt8 → PR Tm) (t : Tm) (r : List UInt8) : PR Tm :=
  if ostr [r.headD 0] = own then
    match o (skip r.tail) with
    | .ok u r2 => if _h : r2.length < r.length then chain own o (binT (r.headD 0) t u) r2 else .err 0
    | .err e => .err e
  else .ok t r
termination_by r.length
def level (own : Nat) (o : List UInt8 → PR Tm) (r : List UInt8) : PR Tm :=
  match o r with
  | .ok t r1 => chain own o t r1
  | .err e => .err e
def exprP : Nat → List UInt8 → PR Tm
  | 0, _ => .err 0
  | n + 1, r => level 0 (level 1 (opnd (exprP n))) r
def parseP (s : List UInt8) : PR Tm :=
  if 16384 < s.length then .err 6 else
  match exprP (s.length + 1) (skip s) with
  | .err e => .err e
  | .ok t r => if r ≠ [] then .err 16 else if t.right then .ok t [] else .err 6
def atomR (w : List UInt8) (l : List Tm) : Bool := rightB w && (decide (l.length ≤ 6) && (formL l && (decide (sizeL l ≤ 200) && decide (depthL l ≤ 20))))
def parseA (s : List UInt8) : PR (List UInt8 × List Tm) :=
  if 16384 < s.length then .err 6 else
  match atomP (exprP (s.length + 1)) (skip s) with
  | .err e => .err e
  | .ok (w, l) r => if r ≠ [] then .err 16 else if atomR w l then .ok (w, l) [] else .err 6
def Shrinks {α : Type} (o : List UInt8 → PR α) : Prop := ∀ r t r', o r = .ok t r' → r'.length < r.length
end Go.Proofs.YtnghanpmmbcbbaaGreatDoor
namespace Go.Proofs.YtnghanpmmbcbbaaGreatDoor
open Go
def Cont (k : List UInt8) : Prop := inB (k.headD 0) = false ∧ (skip k).headD 0 ≠ 40
theorem Cont.word {k : List UInt8} (h : Cont k) : k = [] ∨ inB (k.headD 0) = false := .inr h.1
section
variable (σ : Sty)
def RA (t : Tm) : Prop := ∀ n k, (t.txt σ ++ k).length ≤ n → Cont k → t.pw = 2 → opnd (exprP n) (skip (t.txt σ ++ k)) = .ok t.strip (skip k)
def RB (t : Tm) : Prop := ∀ n k, (t.txt σ ++ k).length ≤ n → Cont k → 1 ≤ t.pw → level 1 (opnd (exprP n)) (skip (t.txt σ ++ k)) = chain 1 (opnd (exprP n)) t.strip (skip k)
def RC (t : Tm) : Prop := ∀ n k, (t.txt σ ++ k).length ≤ n → Cont k → ostr [(skip k).headD 0] ≠ 1 → level 0 (level 1 (opnd (exprP n))) (skip (t.txt σ ++ k)) = chain 0 (level 1 (opnd (exprP n))) t.strip (skip k)
def RD (t : Tm) : Prop := ∀ n k, (t.txt σ ++ k).length ≤ n → Cont k → ostr [(skip k).headD 0] = 2 → exprP (n + 1) (skip (t.txt σ ++ k)) = .ok t.strip (skip k)
variable {σ}
theorem tchain_stop {own : Nat} {o : List UInt8 → PR Tm} {t : Tm} {r : List UInt8} (h : ostr [r.headD 0] ≠ own) : chain own o t r = .ok t r := by rw [chain, if_neg h]
theorem RA.b {t : Tm} (h : RA σ t) (h2 : t.pw = 2) : RB σ t := fun n k hn hk _ => by unfold level; rw [h n k hn hk h2]
theorem RB.c {t : Tm} (h : RB σ t) (h1 : 1 ≤ t.pw) : RC σ t := fun n k hn hk h3 => by rw [level, h n k hn hk h1, tchain_stop h3]
theorem RC.d {t : Tm} (h : RC σ t) : RD σ t := fun n k hn hk h3 => by rw [exprP, h n k hn hk (by omega), tchain_stop (by omega)]
theorem op_byte {s : List UInt8} (h : opB s = true) : ∃ c, s = [c] ∧ c ≠ 32 ∧ inB c = false ∧ c ≠ 40 ∧ c ≠ 0 := by
  simp only [opB, operators, List.mem_cons, List.not_mem_nil, or_false, decide_eq_true_eq] at h
  rcases h with rfl | rfl | rfl | rfl | rfl
  all_goals exact ⟨_, rfl, by decide, by decide, by decide, by decide⟩
end
end Go.Proofs.YtnghanpmmbcbbaaGreatDoor
namespace Go.Proofs.YtnghanpmmbcbbaaGreatDoor
open Go
abbrev tkS (s : List UInt8) : Tok := (4, s, false)
def parenK (b : Bool) (x : List Tok) : List Tok := if b then tkS [40] :: (x ++ [tkS [41]]) else x
def restK : List (List Tok) → List Tok
  | [] => [tkS [41]]
  | x :: r => tkS [44] :: (x ++ restK r)
def callK (s : List UInt8) : List (List Tok) → List Tok
  | [] => [(1, s, false)]
  | x :: r => (1, s, false) :: tkS [40] :: (x ++ restK r)
mutual
def Tm.tok : Tm → List Tok
  | .mk k n s _ _ a => if k = 0 then (if n < 0 then [tkS [45], (3, Lib.decDigits n.natAbs, true)] else [(3, Lib.decDigits n.toNat, false)])
      else if k = 1 then [(2, label n.toNat, false)]
      else if opB s.data.toList then parenK (decide ((a.getD 0 default).pw < ostr s.data.toList)) ((tokL2 a).getD 0 []) ++ tkS s.data.toList :: parenK (decide ((a.getD 1 default).pw ≤ ostr s.data.toList)) ((tokL2 a).getD 1 [])
      else callK s.data.toList (tokL2 a)
def tokL2 : List Tm → List (List Tok)
  | [] => []
  | t :: r => t.tok :: tokL2 r
end
def labs (vs : List Int) : List (List UInt8) := vs.map fun v => label v.toNat
def NN (vs : List Int) : Prop := ∀ v ∈ vs, 0 ≤ v
theorem NN.put {vs : List Int} (h : NN vs) {v : Int} (hv : 0 ≤ v) : NN (putS vs v) := fun x hx => by
  rcases (putS_mem vs v x).1 hx with h1 | rfl
  · exact h x h1
  · exact hv
def hop : List Tok → Nat
  | (4, t, _) :: _ => ostr t
  | _ => 2
theorem mul_ops (t : List UInt8) : t ∈ mulS ↔ ostr t = 1 := by
  simp only [mulS, List.mem_cons, List.not_mem_nil, or_false, ostr]
  constructor
  · rintro (rfl | rfl | rfl) <;> decide
  · intro h
    split at h
    · cases h
    · split at h
      · assumption
      · cases h
theorem add_ops (t : List UInt8) : t ∈ addS ↔ ostr t = 0 := by
  simp only [addS, List.mem_cons, List.not_mem_nil, or_false, ostr]
  constructor
  · rintro (rfl | rfl) <;> decide
  · intro h
    split at h
    · assumption
    · split at h <;> cases h
theorem stop_mul {o : Rd1 Tm} {x : Tm} {k : List Tok} {ns : List (List UInt8)} (h : hop k ≠ 1) : chainS mulS o x k ns = .ok x k ns := by
  cases k with
  | nil => rw [chainS]
  | cons c r =>
    obtain ⟨q, t, g⟩ := c
    rw [chainS, if_neg]
    rintro ⟨rfl, ht⟩
    exact h ((mul_ops t).1 ht)
theorem stop_add {o : Rd1 Tm} {x : Tm} {k : List Tok} {ns : List (List UInt8)} (h : hop k ≠ 0) : chainS addS o x k ns = .ok x k ns := by
  cases k with
  | nil => rw [chainS]
  | cons c r =>
    obtain ⟨q, t, g⟩ := c
    rw [chainS, if_neg]
    rintro ⟨rfl, ht⟩
    exact h ((add_ops t).1 ht)
section
variable (W : List Int)
def KA (t : Tm) : Prop := ∀ n vs k, (t.tok ++ k).length ≤ n → isS [40] k = false → NN vs → t.occ.foldl putS vs <+: W → t.pw = 2 → opndS (exprS n) (t.tok ++ k) (labs vs) = .ok (t.num2 (placeS W)) k (labs (t.occ.foldl putS vs))
def KB (t : Tm) : Prop := ∀ n vs k, (t.tok ++ k).length ≤ n → isS [40] k = false → NN vs → t.occ.foldl putS vs <+: W → 1 ≤ t.pw → levelS mulS (opndS (exprS n)) (t.tok ++ k) (labs vs) = chainS mulS (opndS (exprS n)) (t.num2 (placeS W)) k (labs (t.occ.foldl putS vs))
def KC (t : Tm) : Prop := ∀ n vs k, (t.tok ++ k).length ≤ n → isS [40] k = false → NN vs → t.occ.foldl putS vs <+: W → hop k ≠ 1 → levelS addS (levelS mulS (opndS (exprS n))) (t.tok ++ k) (labs vs) = chainS addS (levelS mulS (opndS (exprS n))) (t.num2 (placeS W)) k (labs (t.occ.foldl putS vs))
def KD (t : Tm) : Prop := ∀ n vs k, (t.tok ++ k).length ≤ n → isS [40] k = false → NN vs → t.occ.foldl putS vs <+: W → hop k = 2 → exprS (n + 1) (t.tok ++ k) (labs vs) = .ok (t.num2 (placeS W)) k (labs (t.occ.foldl putS vs))
variable {W}
theorem KA.b {t : Tm} (h : KA W t) (h2 : t.pw = 2) : KB W t := fun n vs k hn hk hv hw _ => by unfold levelS; rw [h n vs k hn hk hv hw h2]
theorem KB.c {t : Tm} (h : KB W t) (h1 : 1 ≤ t.pw) : KC W t := fun n vs k hn hk hv hw h3 => by rw [levelS, h n vs k hn hk hv hw h1, stop_mul h3]
theorem KC.d {t : Tm} (h : KC W t) : KD W t := fun n vs k hn hk hv hw h3 => by
  show levelS addS (levelS mulS (opndS (exprS n))) (t.tok ++ k) (labs vs) = _
  rw [h n vs k hn hk hv hw (by omega), stop_add (by omega)]
end
end Go.Proofs.YtnghanpmmbcbbaaGreatDoor
namespace Go.Proofs.YtnghanpmmbcbbaaGreatDoor
open Go
def cmpK (op : Int) : Tok :=
  if op = 4 then (1, [105, 115], false)
  else tkS (if op = 3 then [61] else if op = 5 then [61, 61] else if op = 6 then [92, 61] else if op = 7 then [60] else if op = 8 then [61, 60] else if op = 9 then [61, 58, 61] else [61, 92, 61])
def Gs.tok (g : Gs) : List Tok :=
  if g.1 = 0 then callK g.2.1 (tokL2 g.2.2)
  else if g.1 = 1 then [(1, [116, 114, 117, 101], false)]
  else if g.1 = 2 then [(1, [102, 97, 105, 108], false)]
  else if g.1 = 11 then (1, [105, 110, 116], false) :: tkS [40] :: ((g.2.2.getD 0 default).tok ++ [tkS [41]])
  else if g.1 = 12 then (1, [103, 114, 111, 117, 110, 100], false) :: tkS [40] :: ((g.2.2.getD 0 default).tok ++ [tkS [41]])
  else (g.2.2.getD 0 default).tok ++ cmpK g.1 :: (g.2.2.getD 1 default).tok
def Behind (k : List Tok) : Prop := isS [40] k = false ∧ hop k = 2 ∧ (cmpS k).1 = 0
section
variable {W : List Int}
end
def gsepK : List Gs → List Tok
  | [] => []
  | [g] => g.tok
  | g :: h :: r => g.tok ++ tkS [44] :: gsepK (h :: r)
def As.tok (a : As) : List Tok := callK a.1 (tokL2 a.2)
def asepK : List As → List Tok
  | [] => []
  | [a] => a.tok
  | a :: b :: r => a.tok ++ tkS [44] :: asepK (b :: r)
end Go.Proofs.YtnghanpmmbcbbaaGreatDoor
namespace Go.Proofs.YtnghanpmmbcbbaaGreatDoor
open Go
structure SrcOk (r : Rs) : Prop where
  name : r.name = [] ∨ rightB r.name = true
  some : 1 ≤ r.keep.length + r.remove.length
  heads : r.keep.length + r.remove.length ≤ 4
  guards : r.guard.length ≤ 12
  bodies : r.body.length ≤ 12
  keepR : AllA r.keep
  removeR : AllA r.remove
  guardR : AllG r.guard
  bodyR : AllG r.body
  noTrue : ∀ g, r.body = [g] → g.1 ≠ 1
def headK (keep remove : List As) : List Tok :=
  if remove = [] then asepK keep ++ [tkS [61, 61, 62]]
  else if keep = [] then asepK remove ++ [tkS [60, 61, 62]]
  else asepK keep ++ tkS [92] :: (asepK remove ++ [tkS [60, 61, 62]])
def bodyK (guard body : List Gs) : List Tok :=
  (if guard = [] then [] else gsepK guard ++ [tkS [124]]) ++ ((if body = [] then [(1, [116, 114, 117, 101], false)] else gsepK body) ++ [tkS [46]])
def labelK (name : List UInt8) : List Tok := if name = [] then [] else [(1, name, false), tkS [64]]
def Rs.tok (r : Rs) : List Tok := labelK r.name ++ (headK r.keep r.remove ++ bodyK r.guard r.body)
section
variable {W : List Int} (hW : W.length ≤ 1048576)
include hW
def readB (W : List Int) (body : List Gs) : List Gs := if body = [] then [(1, [], [])] else body.map (Gs.num2 (placeS W))
end
end Go.Proofs.YtnghanpmmbcbbaaGreatDoor
namespace Go.Proofs.YtnghanpmmbcbbaaGreatDoor
open Go
abbrev Ds := List UInt8 × Int
def DeclOk (d : Ds) : Prop := rightB d.1 = true ∧ 0 ≤ d.2 ∧ d.2 ≤ 6
def dsepK : List Ds → List Tok
  | [] => []
  | [d] => [(1, d.1, false), tkS [47], (3, Lib.decDigits d.2.toNat, false)]
  | d :: e :: r => (1, d.1, false) :: tkS [47] :: (3, Lib.decDigits d.2.toNat, false) :: tkS [44] :: dsepK (e :: r)
def declK (l : List Ds) : List Tok := if l = [] then [] else (1, constraintW, false) :: (dsepK l ++ [tkS [46]])
def rulesK (l : List Rs) : List Tok := l.flatMap Rs.tok
def programK (d : List Ds) (l : List Rs) : List Tok := declK d ++ rulesK l
theorem place_places {W : List Int} (hn : W.Nodup) : W.map (placeS W) = (List.range W.length).map fun (i : Nat) => (i : Int) := by
  refine List.ext_getElem (by simp) fun i h1 h2 => ?_
  simp only [List.getElem_map, List.getElem_range]
  have hi : i < W.length := by simpa using h1
  rw [place_in (List.getElem_mem hi), hn.idxOf_getElem i hi]
end Go.Proofs.YtnghanpmmbcbbaaGreatDoor
namespace Go.Proofs.YtnghanpmmbcbbaaGreatDoor
open Go.RowKit
theorem rr_occ : (∀ (t : Tm) (g : Int → Int), (t.rr g).occ = t.occ.map g) ∧ (∀ (l : List Tm) (g : Int → Int), occL (rrL l g) = (occL l).map g) := by
  refine Tm.induct2 (fun k n s A c a ih g => ?_) (fun g => by simp [rrL, occL]) (fun t r h1 h2 g => by simp only [rrL, occL, h1, h2, List.map_append])
  by_cases k1 : k = 1
  · subst k1; simp [Tm.rr, Tm.occ]
  · by_cases k2 : k = 2
    · subst k2; simp [Tm.rr, Tm.occ, ih]
    · simp [Tm.rr, Tm.occ, k1, k2]
theorem rr_rr : (∀ (t : Tm) (g h : Int → Int), (t.rr g).rr h = t.rr fun v => h (g v)) ∧ (∀ (l : List Tm) (g h : Int → Int), rrL (rrL l g) h = rrL l fun v => h (g v)) := by
  refine Tm.induct2 (fun k n s A c a ih g h => ?_) (fun g h => by simp [rrL]) (fun t r h1 h2 g h => by simp only [rrL, h1, h2])
  by_cases k1 : k = 1
  · subst k1; simp [Tm.rr]
  · by_cases k2 : k = 2
    · subst k2; simp [Tm.rr, ih]
    · simp [Tm.rr, k1, k2]
theorem rr_like : (∀ (t : Tm) (g h : Int → Int), (∀ v ∈ t.occ, g v = h v) → t.rr g = t.rr h) ∧ (∀ (l : List Tm) (g h : Int → Int), (∀ v ∈ occL l, g v = h v) → rrL l g = rrL l h) := by
  refine Tm.induct2 (fun k n s A c a ih g h hv => ?_) (fun g h _ => by simp [rrL]) (fun t r h1 h2 g h hv => ?_)
  · by_cases k1 : k = 1
    · subst k1
      have := hv n (by simp [Tm.occ])
      simp [Tm.rr, this]
    · by_cases k2 : k = 2
      · subst k2
        have := ih g h (fun v h => hv v (by simp [Tm.occ, h]))
        simp [Tm.rr, this]
      · simp [Tm.rr, k1, k2]
  · simp only [rrL]
    rw [h1 g h (fun v hv1 => hv v (by simp [occL, hv1])), h2 g h (fun v hv1 => hv v (by simp [occL, hv1]))]
theorem varsL_order (l : List Tm) : varsL l = orderS l := rfl
theorem vars_map {g : Int → Int} {l : List Tm} (hg : ∀ x ∈ occL l, ∀ y ∈ occL l, g x = g y → x = y) : varsL (rrL l g) = (varsL l).map g := by
  rw [varsL_order, varsL_order]
  unfold orderS
  rw [rr_occ.2]
  exact ded_map (occL l) [] (fun x hx y hy => hg x (by simpa using hx) y (by simpa using hy))
theorem number_map {g : Int → Int} {l m : List Tm} (hg : ∀ x ∈ occL l, ∀ y ∈ occL l, g x = g y → x = y) (hm : ∀ v ∈ occL m, v ∈ occL l) : rrL (rrL m g) (placeS (varsL (rrL l g))) = rrL m (placeS (varsL l)) := by
  rw [vars_map hg, rr_rr.2]
  refine rr_like.2 m _ _ fun v hv => place_map (fun x hx y hy => hg x ((mem_varsL l x).1 hx) y ((mem_varsL l y).1 hy)) ((mem_varsL l v).2 (hm v hv))
theorem place_apart (l : List Tm) : ∀ x ∈ occL l, ∀ y ∈ occL l, placeS (varsL l) x = placeS (varsL l) y → x = y := fun x hx y hy h => place_inj ((mem_varsL l x).2 hx) ((mem_varsL l y).2 hy) h
theorem vars_num (l : List Tm) : varsL (rrL l (placeS (varsL l))) = (List.range (varsL l).length).map fun (i : Nat) => (i : Int) := by
  rw [vars_map (place_apart l), place_places (varsL_nodup l)]
theorem rrL_flat {α : Type} (f : α → List Tm) (r : α → α) (g : Int → Int) (h : ∀ x, f (r x) = rrL (f x) g) : ∀ l : List α, (l.map r).flatMap f = rrL (l.flatMap f) g
  | [] => by simp [rrL]
  | x :: l => by
    have e : ∀ a b : List Tm, rrL (a ++ b) g = rrL a g ++ rrL b g := fun a b => by rw [rrL_map, rrL_map, rrL_map, List.map_append]
    rw [List.map_cons, List.flatMap_cons, List.flatMap_cons, e, h, rrL_flat f r g h l]
theorem rrL_app (g : Int → Int) (a b : List Tm) : rrL (a ++ b) g = rrL a g ++ rrL b g := by rw [rrL_map, rrL_map, rrL_map, List.map_append]
def Rl.to (r : Rl) (g : Int → Int) (n : Int) : Rl := { r with keep := r.keep.map fun x => x.rr g, remove := r.remove.map fun x => x.rr g, guard := r.guard.map fun x => x.rr g, body := r.body.map fun x => x.rr g, vars := n }
theorem numR_to (r : Rl) : r.numR = r.to (placeS r.vs) (r.vs.length : Int) := rfl
theorem to_ts (r : Rl) (g : Int → Int) (n : Int) : (r.to g n).ts = rrL r.ts g := by
  unfold Rl.ts Rl.to
  simp only
  rw [rrL_flat Am.args (fun x => x.rr g) g (fun _ => rfl), rrL_flat Am.args (fun x => x.rr g) g (fun _ => rfl), rrL_flat Gl.args (fun x => x.rr g) g (fun _ => rfl), rrL_flat Gl.args (fun x => x.rr g) g (fun _ => rfl), rrL_app, rrL_app, rrL_app]
theorem mem_ts (r : Rl) : (∀ x ∈ r.keep, ∀ v ∈ occL x.args, v ∈ occL r.ts) ∧ (∀ x ∈ r.remove, ∀ v ∈ occL x.args, v ∈ occL r.ts) ∧ (∀ x ∈ r.guard, ∀ v ∈ occL x.args, v ∈ occL r.ts) ∧ (∀ x ∈ r.body, ∀ v ∈ occL x.args, v ∈ occL r.ts) := by
  have app : ∀ a b : List Tm, occL (a ++ b) = occL a ++ occL b := fun a b => by
    induction a with
    | nil => simp [occL]
    | cons t r ih => simp only [List.cons_append, occL, ih, List.append_assoc]
  have flat : ∀ {α : Type} (f : α → List Tm) (l : List α) (x : α), x ∈ l → ∀ v ∈ occL (f x), v ∈ occL (l.flatMap f) := by
    intro α f l x hx v hv
    induction l with
    | nil => cases hx
    | cons y l ih =>
      rw [List.flatMap_cons, app, List.mem_append]
      rcases List.mem_cons.1 hx with rfl | h
      · exact .inl hv
      · exact .inr (ih h)
  unfold Rl.ts
  simp only [app, List.mem_append]
  exact ⟨fun x hx v hv => .inl (flat _ _ x hx v hv), fun x hx v hv => .inr (.inl (flat _ _ x hx v hv)), fun x hx v hv => .inr (.inr (.inl (flat _ _ x hx v hv))), fun x hx v hv => .inr (.inr (.inr (flat _ _ x hx v hv)))⟩
theorem to_numR {r : Rl} {g : Int → Int} (n : Int) (hg : ∀ x ∈ occL r.ts, ∀ y ∈ occL r.ts, g x = g y → x = y) : (r.to g n).numR = r.numR := by
  obtain ⟨m1, m2, m3, m4⟩ := mem_ts r
  have hv : (r.to g n).vs = varsL (rrL r.ts g) := by unfold Rl.vs; rw [to_ts]
  have hl : (varsL (rrL r.ts g)).length = r.vs.length := by rw [vars_map hg, List.length_map]; rfl
  unfold Rl.numR
  rw [hv, hl]
  unfold Rl.to
  simp only [List.map_map]
  congr 1
  · refine List.map_congr_left fun x hx => ?_
    show Am.rr (x.rr g) _ = x.rr _
    unfold Am.rr
    simp only
    rw [number_map hg (m1 x hx)]
    rfl
  · refine List.map_congr_left fun x hx => ?_
    show Am.rr (x.rr g) _ = x.rr _
    unfold Am.rr
    simp only
    rw [number_map hg (m2 x hx)]
    rfl
  · refine List.map_congr_left fun x hx => ?_
    show Gl.rr (x.rr g) _ = x.rr _
    unfold Gl.rr
    simp only
    rw [number_map hg (m3 x hx)]
    rfl
  · refine List.map_congr_left fun x hx => ?_
    show Gl.rr (x.rr g) _ = x.rr _
    unfold Gl.rr
    simp only
    rw [number_map hg (m4 x hx)]
    rfl
theorem numR_numR (r : Rl) : r.numR.numR = r.numR := by
  rw [numR_to r]
  exact to_numR _ (place_apart r.ts)
theorem numR_vs (r : Rl) : r.numR.vs = (List.range r.vs.length).map fun (i : Nat) => (i : Int) := by
  unfold Rl.vs
  rw [numR_to, to_ts]
  exact vars_num r.ts
end Go.Proofs.YtnghanpmmbcbbaaGreatDoor
