/-
  SrTerms.
  SrRen.
  VrAm.
  SrAm.
-/
import Derived.Test.YtnghanpmmbcbbaaGreatDoorMp8
import Derived.Test.YtnghanpmmbcbbaaGreatDoorMp7
import Derived.Deep.AppendLies
import Derived.Deep.Upon
import Derived.Deep.LoopGhost
import Derived.Test.YtnghanpmmbcbbaaGreatDoorMp5
import Derived.Deep.RegionLaw
import Derived.Deep.RegionHeld3
import Derived.RegionTactic
import Derived.BigQuiet
import Derived.Deep.QuietTactic
namespace Go.Proofs.YtnghanpmmbcbbaaGreatDoor
open Go.RowKit
theorem RowT.nexts {B : World → Prop} {lo g cap : Nat} {w w4 : World} {z : Value} {acc l : List Tm} (h : RowT B lo w z acc) (hl : ∀ t ∈ l, ∀ W, B W → t.At W)
    (hown : w4.ownsRow lo 69 4 (.slice (some ⟨g, 0, none⟩) (acc.length + l.length) cap) (acc.length + l.length) (tcells acc ++ tcells l)) (hg : w.grownBy w4 z.ownBlock) (hat : z.ownBlock = some g ∨ g = w.heap.size) :
    RowT B lo w4 (.slice (some ⟨g, 0, none⟩) (acc.length + l.length) cap) (acc ++ l) := by
  refine ⟨by rw [List.length_append, tcells_append]; exact hown, fun x hx => ?_⟩
  rcases List.mem_append.1 hx with hx | hx
  · refine (h.2 x hx).less hg.size fun b h1 h2 h3 => ⟨h1, fun e => ?_, hg.block b h2 (fun e => h3 e.symm)⟩
    have e' : g = b := by simpa [Value.ownBlock] using e
    rcases hat with h | h
    · exact h3 (by rw [h, e'])
    · omega
  · exact Lie.any (hl x hx)
theorem wpList_append_terms {B : World → Prop} {lo : Nat} {w : World} {ops : Array Oper} {rest : List Oper} {o : Oper} {a : Act} {Q : Exit → Act → World → Prop} (hgd : o.guard = none) (s x : Operand)
    (ho : o.op = .call { callee := .builtin .append, args := #[s, x], argTypes := #[51, 51] }) {z : Value} {acc l : List Tm} {A : Option Addr} {c : Nat}
    (hs : a.eval s = z) (hx : a.eval x = .slice A l.length c) (hz : RowT B lo w z acc) (hl : Lst w A l c) (hat : ∀ t ∈ l, ∀ W, B W → t.At W) (hlo : lo ≤ w.heap.size) (h63 : acc.length + l.length ≤ 1000000000000)
    (h : ∀ v' w', RowT B lo w' v' (acc ++ l) → w.grownBy w' z.ownBlock → wpList Tryz.prog ops Q rest (a.put o.dst v') w') : wpList Tryz.prog ops Q (o :: rest) a w := by
  obtain ⟨i0, hi, hz0, hz1, hz2⟩ := info_parts term_info
  rcases Nat.eq_zero_or_pos l.length with h0 | h0
  · have hl0 : l = [] := List.length_eq_zero_iff.1 h0
    subst hl0
    have hsrc : Src Tryz.prog i0.size 51 (.slice A 0 c) 0 [] w := by
      cases A with
      | none => exact Src.ofNil w Tryz.underlying51 c
      | some ad => exact Src.ofSlice w Tryz.underlying51 ad 0 c [] (by simp) (fun j u hu => by simp at hu) (fun u hu => by cases hu)
    obtain ⟨A', c', rfl, hle⟩ := hz.form
    refine wpList_plain hgd fun K hK => ?_
    have hrun := run_append_nothing (P := Tryz.prog) w 51 51 o.type 69 i0 Tryz.underlying51 hi A' acc.length c' hle _ hsrc
    unfold Oper.wp
    simp only [List.length_nil] at hx
    simp [execOp, ho, resolve, invoke, builtin, hs, hx, hrun, Result.andThen]
    exact hK _ _ (h _ w (by rw [List.append_nil]; exact hz) (World.grownBy.refl _ _))
  · obtain ⟨b, p, rfl, hr⟩ := hl.2.2 h0
    refine wpList_append_lies w hgd s x 51 ho lo 69 i0 _ 4 56 Tryz.underlying51 hi hz0 hz1 hz2 rfl (by decide) z acc.length (tcells acc) hs hz.1 ⟨b, p, none⟩ l.length c (tcells l) hx (tcells_length l) hr.cells (tcells_one l) h0 (by unfold maxLen; omega) (by omega) hlo _ rfl ?_
    intro g cap w' hown hg hat' _
    exact h _ w' (hz.nexts hat hown hg hat') hg
def Rl.ts (r : Rl) : List Tm := r.keep.flatMap Am.args ++ (r.remove.flatMap Am.args ++ (r.guard.flatMap Gl.args ++ r.body.flatMap Gl.args))
structure Rl.Tiny (r : Rl) : Prop where
  k1 : r.keep.length ≤ 300
  k2 : ∀ x ∈ r.keep, nodesL x.args ≤ 300
  r1 : r.remove.length ≤ 300
  r2 : ∀ x ∈ r.remove, nodesL x.args ≤ 300
  g1 : r.guard.length ≤ 300
  g2 : ∀ x ∈ r.guard, nodesL x.args ≤ 300
  b1 : r.body.length ≤ 300
  b2 : ∀ x ∈ r.body, nodesL x.args ≤ 300
theorem Rl.Tiny.small {r : Rl} (h : r.Tiny) : r.Small :=
  ⟨by have := h.k1; omega, fun x hx => by have := h.k2 x hx; omega, by have := h.r1; omega, fun x hx => by have := h.r2 x hx; omega, by have := h.g1; omega, fun x hx => by have := h.g2 x hx; omega, by have := h.b1; omega, fun x hx => by have := h.b2 x hx; omega⟩
theorem nodesL_app (l m : List Tm) : nodesL (l ++ m) = nodesL l + nodesL m := by
  induction l with
  | nil => simp [nodesL]
  | cons t r ih => simp only [List.cons_append, nodesL, ih]; omega
theorem nodes_flat {α : Type} (f : α → List Tm) {m : Nat} : ∀ l : List α, (∀ x ∈ l, nodesL (f x) ≤ m) → nodesL (l.flatMap f) ≤ l.length * m
  | [], _ => by simp [nodesL]
  | x :: r, h => by
    have h1 := h x (by simp)
    have h2 := nodes_flat f r fun y hy => h y (List.mem_cons_of_mem _ hy)
    rw [List.flatMap_cons, nodesL_app, List.length_cons, Nat.add_mul]
    omega
theorem Rl.Tiny.nodes {r : Rl} (h : r.Tiny) : nodesL r.ts ≤ 360000 := by
  have p : ∀ {a : Nat}, a ≤ 300 → a * 300 ≤ 90000 := fun h => by omega
  have h1 := nodes_flat Am.args r.keep h.k2
  have h2 := nodes_flat Am.args r.remove h.r2
  have h3 := nodes_flat Gl.args r.guard h.g2
  have h4 := nodes_flat Gl.args r.body h.b2
  have h5 := p h.k1
  have h6 := p h.r1
  have h7 := p h.g1
  have h8 := p h.b1
  unfold Rl.ts
  rw [nodesL_app, nodesL_app, nodesL_app]
  omega
theorem flat_next {α : Type} [Inhabited α] (f : α → List Tm) {l : List α} {j : Nat} (h : j < l.length) : (l.take (j + 1)).flatMap f = (l.take j).flatMap f ++ f (l.getD j default) := by
  rw [List.take_add_one, List.getElem?_eq_getElem h, List.flatMap_append]
  simp [List.getD, h]
theorem Rl.At.terms {r : Rl} {w : World} (h : r.At w) : ∀ t ∈ r.ts, ∀ W, From w W → t.At W := by
  intro t ht W hW
  unfold Rl.ts at ht
  simp only [List.mem_append, List.mem_flatMap] at ht
  rcases ht with ⟨x, hx, hxt⟩ | ⟨x, hx, hxt⟩ | ⟨x, hx, hxt⟩ | ⟨x, hx, hxt⟩
  · exact (Lst.mem (h.keep.mem hx).2 hxt).below hW
  · exact (Lst.mem (h.remove.mem hx).2 hxt).below hW
  · exact (Lst.mem (h.guard.mem hx).2.2 hxt).below hW
  · exact (Lst.mem (h.body.mem hx).2.2 hxt).below hW
set_option maxHeartbeats 16000000 in
set_option maxRecDepth 100000 in
theorem sterms_at (r : Rl) (w : World) (h : r.At w) (ht : r.Tiny) :
    Calls Tryz.prog 24 #[r.val] w fun e w' => ∃ A c, ∃ l : List Tm, e = .returned (.slice A l.length c) ∧ l = r.ts ∧ Lst w' A l c ∧ Below w.heap.size w w' := by
  have HT := Lib.hid h.terms
  have hnodes := ht.nodes
  have hlens : ∀ {l : List Tm}, nodesL l ≤ 1000000 → l.length ≤ 1000000 := fun {l} h => by have := length_le_nodes l; omega
  have HLn := Lib.hid (fun (k : List Tm) (m : List Tm) (e : k ++ m = r.ts) => show k.length ≤ 1000000 from by
    have := hlens (show nodesL k ≤ 1000000 by rw [← e, nodesL_app] at hnodes; omega)
    exact this)
  have HS := Lib.hid ht.small
  obtain ⟨X, hX⟩ : ∃ X, w.alloc (.cells #[.string r.name, .slice r.kA r.keep.length r.kc, .slice r.rA r.remove.length r.rc, .slice r.gA r.guard.length r.gc, .slice r.bA r.body.length r.bc, .int .i64 r.vars] 25) = X := ⟨_, rfl⟩
  have H0 := Lib.hid (show HeldL w.heap.size X [.string r.name, .slice r.kA r.keep.length r.kc, .slice r.rA r.remove.length r.rc, .slice r.gA r.guard.length r.gc, .slice r.bA r.body.length r.bc, .int .i64 r.vars] from by rw [← hX]; exact heldL_new _ _ _)
  have HX := Lib.hid (show Below w.heap.size w X from by rw [← hX]; exact below1 _ _)
  have HXs := Lib.hid (show X.heap.size = w.heap.size + 1 from by rw [← hX]; simp)
  have HL1 := Lib.hid h.keep
  have HL2 := Lib.hid h.remove
  have HL3 := Lib.hid h.guard
  have HL4 := Lib.hid h.body
  have hk := ht.k1
  have hrm := ht.r1
  have hg := ht.g1
  have hbd := ht.b1
  clear h ht hnodes hlens
  go_enter Tryz.func24, Tryz.ntmps24
  go_wp2_with fail
  (try rw [hX])
  clear hX
  go_loopg [3, 4] r.keep.length (fun gk v i wr => ∃ (j : Nat) (acc : List Tm) (x : Value), j ≤ r.keep.length ∧ i = .int .i64 (j : Int) ∧ v = x ∧ Hid (RowT (From w) (w.heap.size + 1) wr x acc) ∧ Hid (acc = [] ++ (r.keep.take j).flatMap Am.args) ∧ Hid (r.keep.length - j ≤ gk) ∧ Hid (Ext X wr))
  case atStart => exact ⟨0, [], _, Nat.zero_le _, rfl, rfl, Lib.hid (RowT.nil _ _ _), Lib.hid (by simp), Lib.hid (by omega), Lib.hid (Ext.refl _)⟩
  case round =>
    obtain ⟨j, acc, z, hj, rfl, hz, HK, HA, HG, HB⟩ := hrel
    have hz' := hz.symm
    subst hz'
    clear hz
    have HC := Lib.hid (H0.out.below HB.out)
    have q1 := HC.out.cell 1 _ rfl
    have hzc := HC.out.lt
    have HSz := Lib.hid (show w.heap.size + 1 ≤ wr.heap.size from by have := HB.out.size; have := HXs.out; omega)
    by_cases hlt : j < r.keep.length
    · obtain ⟨b0, o, hA, hcs, hxa⟩ := (HL1.out.below (HX.out.trans (HB.out.mono HX.out.size))).get hlt
      rw [hA] at q1
      have HN := Lib.hid (flat_next Am.args hlt)
      have hm : r.keep.getD j default ∈ r.keep := am_getD_mem hlt
      have HM := Lib.hid hm
      have c1 := hcs 1 _ rfl
      have HXa := Lib.hid hxa
      have HTx := Lib.hid (fun t (ht : t ∈ (r.keep.getD j default).args) => HT.out t (by unfold Rl.ts; simp only [List.mem_append, List.mem_flatMap]; exact .inl ⟨_, hm, ht⟩))
      have HLl := Lib.hid (show acc.length + (r.keep.getD j default).args.length ≤ 1000000 from by
        have e1 := HA.out
        have e2 := HN.out
        have e3 := HLn.out ([] ++ (r.keep.take (j + 1)).flatMap Am.args) ((r.keep.drop (j + 1)).flatMap Am.args ++ (r.remove.flatMap Am.args ++ (r.guard.flatMap Gl.args ++ r.body.flatMap Gl.args))) (by
          unfold Rl.ts
          have e4 : (r.keep.take (j + 1)).flatMap Am.args ++ (r.keep.drop (j + 1)).flatMap Am.args = r.keep.flatMap Am.args := by rw [← List.flatMap_append, List.take_append_drop]
          rw [← e4]
          simp)
        rw [e2] at e3
        rw [e1]
        simp only [List.length_append] at e3 ⊢
        omega)
      clear hcs hm hxa
      generalize r.keep.getD j default = x at *
      go_wp2_with (at_builtin; refine wpList_append_terms (B := From w) (lo := w.heap.size + 1) rfl _ _ rfl rfl rfl HK.out HXa.out.2 HTx.out HSz.out (by have := HLl.out; omega) ?_; intro v' w5 hk5 hg5)
      have HK5 := Lib.hid hk5
      have HB5 := Lib.hid (show Ext X w5 from (HB.out).grown hg5 (by have := HB.out.size; omega) (fun k hk => by have := (own_lt HK.out.1 k hk).1; have := HXs.out; omega))
      clear hk5 hg5
      go_wp2_with fail
      go_roundg (gk - 1)
      case measure => have := HG.out; omega
      case rel => exact ⟨j + 1, acc ++ x.args, _, by omega, by go_num, rfl, HK5, Lib.hid (by rw [HN.out, HA.out]; simp), Lib.hid (by have := HG.out; omega), HB5⟩
    · obtain rfl : j = r.keep.length := by omega
      have HE := Lib.hid (show acc = r.keep.flatMap Am.args from by rw [HA.out, List.take_length]; simp)
      clear HA HG hlt hj
      go_wp2_with fail
      go_loopg [3, 5] r.remove.length (fun gk v i wr => ∃ (j : Nat) (acc : List Tm) (x : Value), j ≤ r.remove.length ∧ i = .int .i64 (j : Int) ∧ v = x ∧ Hid (RowT (From w) (w.heap.size + 1) wr x acc) ∧ Hid (acc = r.keep.flatMap Am.args ++ (r.remove.take j).flatMap Am.args) ∧ Hid (r.remove.length - j ≤ gk) ∧ Hid (Ext X wr))
      case atStart => exact ⟨0, acc, _, Nat.zero_le _, rfl, rfl, HK, Lib.hid (by rw [HE.out]; simp), Lib.hid (by omega), HB⟩
      case round =>
        obtain ⟨j, acc, z, hj, rfl, hz, HK, HA, HG, HB⟩ := hrel
        have hz' := hz.symm
        subst hz'
        clear hz
        have HC := Lib.hid (H0.out.below HB.out)
        have q2 := HC.out.cell 2 _ rfl
        have hzc := HC.out.lt
        have HSz := Lib.hid (show w.heap.size + 1 ≤ wr.heap.size from by have := HB.out.size; have := HXs.out; omega)
        by_cases hlt : j < r.remove.length
        · obtain ⟨b0, o, hA, hcs, hxa⟩ := (HL2.out.below (HX.out.trans (HB.out.mono HX.out.size))).get hlt
          rw [hA] at q2
          have HN := Lib.hid (flat_next Am.args hlt)
          have hm : r.remove.getD j default ∈ r.remove := am_getD_mem hlt
          have HM := Lib.hid hm
          have c1 := hcs 1 _ rfl
          have HXa := Lib.hid hxa
          have HTx := Lib.hid (fun t (ht : t ∈ (r.remove.getD j default).args) => HT.out t (by unfold Rl.ts; simp only [List.mem_append, List.mem_flatMap]; exact .inr (.inl ⟨_, hm, ht⟩)))
          have HLl := Lib.hid (show acc.length + (r.remove.getD j default).args.length ≤ 1000000 from by
            have e1 := HA.out
            have e2 := HN.out
            have e3 := HLn.out (r.keep.flatMap Am.args ++ (r.remove.take (j + 1)).flatMap Am.args) ((r.remove.drop (j + 1)).flatMap Am.args ++ (r.guard.flatMap Gl.args ++ r.body.flatMap Gl.args)) (by
              unfold Rl.ts
              have e4 : (r.remove.take (j + 1)).flatMap Am.args ++ (r.remove.drop (j + 1)).flatMap Am.args = r.remove.flatMap Am.args := by rw [← List.flatMap_append, List.take_append_drop]
              rw [← e4]
              simp)
            rw [e2] at e3
            rw [e1]
            simp only [List.length_append] at e3 ⊢
            omega)
          clear hcs hm hxa
          generalize r.remove.getD j default = x at *
          go_wp2_with (at_builtin; refine wpList_append_terms (B := From w) (lo := w.heap.size + 1) rfl _ _ rfl rfl rfl HK.out HXa.out.2 HTx.out HSz.out (by have := HLl.out; omega) ?_; intro v' w5 hk5 hg5)
          have HK5 := Lib.hid hk5
          have HB5 := Lib.hid (show Ext X w5 from (HB.out).grown hg5 (by have := HB.out.size; omega) (fun k hk => by have := (own_lt HK.out.1 k hk).1; have := HXs.out; omega))
          clear hk5 hg5
          go_wp2_with fail
          go_roundg (gk - 1)
          case measure => have := HG.out; omega
          case rel => exact ⟨j + 1, acc ++ x.args, _, by omega, by go_num, rfl, HK5, Lib.hid (by rw [HN.out, HA.out]; simp), Lib.hid (by have := HG.out; omega), HB5⟩
        · obtain rfl : j = r.remove.length := by omega
          have HE := Lib.hid (show acc = r.keep.flatMap Am.args ++ r.remove.flatMap Am.args from by rw [HA.out, List.take_length])
          clear HA HG hlt hj
          go_wp2_with fail
          go_loopg [3, 6] r.guard.length (fun gk v i wr => ∃ (j : Nat) (acc : List Tm) (x : Value), j ≤ r.guard.length ∧ i = .int .i64 (j : Int) ∧ v = x ∧ Hid (RowT (From w) (w.heap.size + 1) wr x acc) ∧ Hid (acc = (r.keep.flatMap Am.args ++ r.remove.flatMap Am.args) ++ (r.guard.take j).flatMap Gl.args) ∧ Hid (r.guard.length - j ≤ gk) ∧ Hid (Ext X wr))
          case atStart => exact ⟨0, acc, _, Nat.zero_le _, rfl, rfl, HK, Lib.hid (by rw [HE.out]; simp), Lib.hid (by omega), HB⟩
          case round =>
            obtain ⟨j, acc, z, hj, rfl, hz, HK, HA, HG, HB⟩ := hrel
            have hz' := hz.symm
            subst hz'
            clear hz
            have HC := Lib.hid (H0.out.below HB.out)
            have q3 := HC.out.cell 3 _ rfl
            have hzc := HC.out.lt
            have HSz := Lib.hid (show w.heap.size + 1 ≤ wr.heap.size from by have := HB.out.size; have := HXs.out; omega)
            by_cases hlt : j < r.guard.length
            · obtain ⟨b0, o, hA, hcs, hxa⟩ := (HL3.out.below (HX.out.trans (HB.out.mono HX.out.size))).get hlt
              rw [hA] at q3
              have HN := Lib.hid (flat_next Gl.args hlt)
              have hm : r.guard.getD j default ∈ r.guard := gl_getD_mem hlt
              have HM := Lib.hid hm
              have c1 := hcs 2 _ rfl
              have HXa := Lib.hid hxa
              have HTx := Lib.hid (fun t (ht : t ∈ (r.guard.getD j default).args) => HT.out t (by unfold Rl.ts; simp only [List.mem_append, List.mem_flatMap]; exact .inr (.inr (.inl ⟨_, hm, ht⟩))))
              have HLl := Lib.hid (show acc.length + (r.guard.getD j default).args.length ≤ 1000000 from by
                have e1 := HA.out
                have e2 := HN.out
                have e3 := HLn.out ((r.keep.flatMap Am.args ++ r.remove.flatMap Am.args) ++ (r.guard.take (j + 1)).flatMap Gl.args) ((r.guard.drop (j + 1)).flatMap Gl.args ++ r.body.flatMap Gl.args) (by
                  unfold Rl.ts
                  have e4 : (r.guard.take (j + 1)).flatMap Gl.args ++ (r.guard.drop (j + 1)).flatMap Gl.args = r.guard.flatMap Gl.args := by rw [← List.flatMap_append, List.take_append_drop]
                  rw [← e4]
                  simp)
                rw [e2] at e3
                rw [e1]
                simp only [List.length_append] at e3 ⊢
                omega)
              clear hcs hm hxa
              generalize r.guard.getD j default = x at *
              go_wp2_with (at_builtin; refine wpList_append_terms (B := From w) (lo := w.heap.size + 1) rfl _ _ rfl rfl rfl HK.out HXa.out.2.2 HTx.out HSz.out (by have := HLl.out; omega) ?_; intro v' w5 hk5 hg5)
              have HK5 := Lib.hid hk5
              have HB5 := Lib.hid (show Ext X w5 from (HB.out).grown hg5 (by have := HB.out.size; omega) (fun k hk => by have := (own_lt HK.out.1 k hk).1; have := HXs.out; omega))
              clear hk5 hg5
              go_wp2_with fail
              go_roundg (gk - 1)
              case measure => have := HG.out; omega
              case rel => exact ⟨j + 1, acc ++ x.args, _, by omega, by go_num, rfl, HK5, Lib.hid (by rw [HN.out, HA.out]; simp), Lib.hid (by have := HG.out; omega), HB5⟩
            · obtain rfl : j = r.guard.length := by omega
              have HE := Lib.hid (show acc = r.keep.flatMap Am.args ++ r.remove.flatMap Am.args ++ r.guard.flatMap Gl.args from by rw [HA.out, List.take_length])
              clear HA HG hlt hj
              go_wp2_with fail
              go_loopg [3, 7] r.body.length (fun gk v i wr => ∃ (j : Nat) (acc : List Tm) (x : Value), j ≤ r.body.length ∧ i = .int .i64 (j : Int) ∧ v = x ∧ Hid (RowT (From w) (w.heap.size + 1) wr x acc) ∧ Hid (acc = (r.keep.flatMap Am.args ++ r.remove.flatMap Am.args ++ r.guard.flatMap Gl.args) ++ (r.body.take j).flatMap Gl.args) ∧ Hid (r.body.length - j ≤ gk) ∧ Hid (Ext X wr))
              case atStart => exact ⟨0, acc, _, Nat.zero_le _, rfl, rfl, HK, Lib.hid (by rw [HE.out]; simp), Lib.hid (by omega), HB⟩
              case round =>
                obtain ⟨j, acc, z, hj, rfl, hz, HK, HA, HG, HB⟩ := hrel
                have hz' := hz.symm
                subst hz'
                clear hz
                have HC := Lib.hid (H0.out.below HB.out)
                have q4 := HC.out.cell 4 _ rfl
                have hzc := HC.out.lt
                have HSz := Lib.hid (show w.heap.size + 1 ≤ wr.heap.size from by have := HB.out.size; have := HXs.out; omega)
                by_cases hlt : j < r.body.length
                · obtain ⟨b0, o, hA, hcs, hxa⟩ := (HL4.out.below (HX.out.trans (HB.out.mono HX.out.size))).get hlt
                  rw [hA] at q4
                  have HN := Lib.hid (flat_next Gl.args hlt)
                  have hm : r.body.getD j default ∈ r.body := gl_getD_mem hlt
                  have HM := Lib.hid hm
                  have c1 := hcs 2 _ rfl
                  have HXa := Lib.hid hxa
                  have HTx := Lib.hid (fun t (ht : t ∈ (r.body.getD j default).args) => HT.out t (by unfold Rl.ts; simp only [List.mem_append, List.mem_flatMap]; exact .inr (.inr (.inr ⟨_, hm, ht⟩))))
                  have HLl := Lib.hid (show acc.length + (r.body.getD j default).args.length ≤ 1000000 from by
                    have e1 := HA.out
                    have e2 := HN.out
                    have e3 := HLn.out ((r.keep.flatMap Am.args ++ r.remove.flatMap Am.args ++ r.guard.flatMap Gl.args) ++ (r.body.take (j + 1)).flatMap Gl.args) ((r.body.drop (j + 1)).flatMap Gl.args ++ []) (by
                      unfold Rl.ts
                      have e4 : (r.body.take (j + 1)).flatMap Gl.args ++ (r.body.drop (j + 1)).flatMap Gl.args = r.body.flatMap Gl.args := by rw [← List.flatMap_append, List.take_append_drop]
                      rw [← e4]
                      simp)
                    rw [e2] at e3
                    rw [e1]
                    simp only [List.length_append] at e3 ⊢
                    omega)
                  clear hcs hm hxa
                  generalize r.body.getD j default = x at *
                  go_wp2_with (at_builtin; refine wpList_append_terms (B := From w) (lo := w.heap.size + 1) rfl _ _ rfl rfl rfl HK.out HXa.out.2.2 HTx.out HSz.out (by have := HLl.out; omega) ?_; intro v' w5 hk5 hg5)
                  have HK5 := Lib.hid hk5
                  have HB5 := Lib.hid (show Ext X w5 from (HB.out).grown hg5 (by have := HB.out.size; omega) (fun k hk => by have := (own_lt HK.out.1 k hk).1; have := HXs.out; omega))
                  clear hk5 hg5
                  go_wp2_with fail
                  go_roundg (gk - 1)
                  case measure => have := HG.out; omega
                  case rel => exact ⟨j + 1, acc ++ x.args, _, by omega, by go_num, rfl, HK5, Lib.hid (by rw [HN.out, HA.out]; simp), Lib.hid (by have := HG.out; omega), HB5⟩
                · obtain rfl : j = r.body.length := by omega
                  have HE := Lib.hid (show acc = r.ts from by rw [HA.out, List.take_length]; unfold Rl.ts; simp)
                  clear HA HG hlt hj
                  obtain ⟨A', cz, hz, hcz⟩ := HK.out.form
                  subst hz
                  have HF := Lib.hid (HK.out.lies)
                  go_wp2_with fail
                  go_ret
                  exact ⟨A', cz, acc, rfl, HE.out, HF.out wr (HX.out.trans (HB.out.mono HX.out.size)) (Agree.refl _ _ _), HX.out.trans (HB.out.mono HX.out.size)⟩
end Go.Proofs.YtnghanpmmbcbbaaGreatDoor
namespace Go.Proofs.YtnghanpmmbcbbaaGreatDoor
open Go.RowKit
theorem place_found {l : List Int} {n : Int} {j : Nat} (hj : j < l.length) (he : l.getD j 0 = n) (hn : n ∉ l.take j) : placeS l n = (j : Int) := by
  have hg : l[j] = n := by rw [← he]; simp [List.getD, hj]
  have hm : n ∈ l := by rw [← hg]; exact List.getElem_mem hj
  unfold placeS
  rw [if_pos hm]
  have h1 := List.idxOf_lt_length_iff.2 hm
  have h2 : l[l.idxOf n] = n := List.getElem_idxOf h1
  rcases Nat.lt_trichotomy (l.idxOf n) j with h | h | h
  · refine absurd ?_ hn
    rw [← h2, List.mem_take_iff_getElem]
    exact ⟨l.idxOf n, by omega, rfl⟩
  · rw [h]
  · have := List.not_of_lt_findIdx (p := (· == n)) (xs := l) (i := j) (by simpa [List.idxOf] using h)
    exact absurd this (by rw [hg]; simp)
theorem place_none {l : List Int} {n : Int} (hn : n ∉ l) : placeS l n = -1 := by
  unfold placeS
  rw [if_neg hn]
theorem place_z (A : Option Addr) (l : List Int) (c : Nat) (n : Int) (w : World) (hI : Ints w A l) (hlen : l.length ≤ 9223372036854775807) {r : Int} (hr : placeS l n = r) :
    Calls Tryz.prog 109 #[.slice A l.length c, .int .i64 n] w fun e w' => e = .returned (.int .i64 r) ∧ w = w' := by
  have HR := Lib.hid hr
  clear hr
  go_enter Tryz.func109, Tryz.ntmps109
  go_wp2
  go_loop [5] (fun i => ∃ j : Nat, j ≤ l.length ∧ i = .int .i64 j ∧ Hid (n ∉ l.take j)) (fun i => l.length - (intOf i).toNat)
  case atStart => exact ⟨0, Nat.zero_le _, rfl, Lib.hid (by simp)⟩
  case round =>
    obtain ⟨j, hj, rfl, HN⟩ := hrel
    by_cases hlt : j < l.length
    · obtain ⟨b, o, rfl, hc⟩ := hI.get hlt
      have HT := Lib.hid (take_int hlt)
      have HF := Lib.hid (fun e => place_found (n := n) hlt e HN.out)
      generalize l.getD j 0 = x at *
      by_cases hx : x = n
      · subst hx
        have HE := Lib.hid (show (j : Int) = r by rw [← HR.out, HF.out rfl])
        go_wp2
        go_ret
        exact ⟨by rw [← HE.out]; rfl, rfl⟩
      · have hx' : (x == n) = false := by simpa using hx
        have HN' := Lib.hid (show n ∉ l.take (j + 1) by
          rw [HT.out, List.mem_append, List.mem_singleton]
          exact fun h => h.elim HN.out (fun e => hx e.symm))
        clear hx
        go_wp2
        go_round
        case rel => exact ⟨j + 1, by omega, by go_num, HN'⟩
        case measure => simp [intOf]; omega
    · obtain rfl : j = l.length := by omega
      have HE := Lib.hid (show (-1 : Int) = r by
        have := HN.out
        rw [List.take_length] at this
        rw [← HR.out, place_none this])
      go_wp2
      go_ret
      exact ⟨by rw [← HE.out]; rfl, rfl⟩
theorem nodes_in {l : List Tm} {j : Nat} (hj : j < l.length) : nodesL (l.getD j default).args < nodesL l := by
  induction l generalizing j with
  | nil => simp at hj
  | cons t r ih =>
    cases j with
    | zero =>
      obtain ⟨k, n, s, A, c, a⟩ := t
      simp only [List.getD_cons_zero, Tm.args, nodesL, Tm.nodes]
      omega
    | succ j =>
      have := ih (j := j) (by simpa using hj)
      simp only [List.getD_cons_succ, nodesL]
      omega
theorem len_nodes (l : List Tm) : l.length ≤ nodesL l := by
  induction l with
  | nil => simp [nodesL]
  | cons t r ih =>
    obtain ⟨k, n, s, A, c, a⟩ := t
    simp only [List.length_cons, nodesL, Tm.nodes]
    omega
theorem news_set (w : World) (p : Addr) (v : Value) (u : Tm) (T : TypeId) : ∀ j x, (Tm.cells u)[j]? = some x → ((w.setCell p v).alloc (.cells #[.int .i64 u.kind, .int .i64 u.num, .string u.name, .slice u.at_ u.args.length u.cap] T)).cell? ((⟨w.heap.size, 0, none⟩ : Addr).add j) = some x := by
  intro j x hx
  have e : (w.setCell p v).heap.size = w.heap.size := by simp [World.setCell]
  rw [add_plain, Nat.zero_add, ← e, World.cell?_alloc_at _ _ _ _ rfl, ← hx, show (#[.int .i64 u.kind, .int .i64 u.num, .string u.name, .slice u.at_ u.args.length u.cap] : Array Value) = (Tm.cells u).toArray from rfl, List.getElem?_toArray]
theorem BoxL.four {w : World} {T : Nat} {v0 v1 v2 v3 : Value} (h : BoxL w T [v0, v1, v2, v3]) : w.cell? ⟨T, 0, none⟩ = some v0 ∧ w.cell? ⟨T, 1, none⟩ = some v1 ∧ w.cell? ⟨T, 2, none⟩ = some v2 ∧ w.cell? ⟨T, 3, none⟩ = some v3 ∧
    w.frozen? ⟨T, 0, none⟩ = false ∧ w.frozen? ⟨T, 1, none⟩ = false ∧ w.frozen? ⟨T, 2, none⟩ = false ∧ w.frozen? ⟨T, 3, none⟩ = false := ⟨h.cells 0 _ rfl, h.cells 1 _ rfl, h.cells 2 _ rfl, h.cells 3 _ rfl, h.free 0, h.free 1, h.free 2, h.free 3⟩
theorem place_fits2 {vs : List Int} (h : vs.length ≤ 1000000) (n : Int) : Fits (placeS vs n) := by
  unfold placeS Fits
  split
  · rename_i hm
    have := List.idxOf_lt_length_iff.2 hm
    omega
  · omega
set_option maxHeartbeats 8000000 in
set_option maxRecDepth 100000 in
theorem ren_list_at (w0 : World) (V : Option Addr) (vs : List Int) (cv : Nat) (hvs : vs.length ≤ 1000000) : ∀ (n : Nat) (A : Option Addr) (l : List Tm) (c : Nat) (w : World), nodesL l = n → n ≤ 1000000 → Lst w0 A l c → Below w0.heap.size w0 w → Ints w V vs →
    Calls Tryz.prog 67 #[.slice V vs.length cv, .slice A l.length c] w (RMadeN w0 l.length (rrL l (placeS vs)) w) := by
  intro n
  induction n using Nat.strongRecOn with
  | _ n ih =>
    intro A l c w hn hn2 hL hw hV
    obtain ⟨i0, hi, hz0, hz1, hz2⟩ := info_parts term_info
    have hlen : l.length ≤ 1000000 := by have := len_nodes l; omega
    have hvl : vs.length ≤ 9223372036854775807 := by omega
    have hlen2 : l.length ≤ 9223372036854775807 := by omega
    have HLn := Lib.hid hlen
    have HV := Lib.hid hvs
    have HL := Lib.hid (hL.below hw)
    have HAT := Lib.hid (fun (j : Nat) (hj : j < l.length) W (h : From w0 W) => show (l.getD j default).At W from (hL.mem (getD_mem hj)).below h)
    have QP := Lib.hid (fun W (x : Int) (hb : Below w.heap.size w W) => place_z V vs cv x W (hV.below hb) hvl rfl)
    have QR := Lib.hid (fun (j : Nat) (hj : j < l.length) W (hb : Below w.heap.size w W) => ih (nodesL (l.getD j default).args) (by rw [← hn]; exact nodes_in hj) (l.getD j default).at_ (l.getD j default).args (l.getD j default).cap W rfl (by have := nodes_in hj; omega) (hL.mem (getD_mem hj)).lst (hw.trans (hb.mono hw.size)) (hV.below hb))
    have HA := Lib.hid (fun l => rrL_map l (placeS vs))
    have HW0 := Lib.hid hw
    clear hL hV hvs hlen hn hn2 ih hw
    go_enter Tryz.func67, Tryz.ntmps67
    go_wp2_with fail
    go_loopg [5, 6] l.length (fun gk v i wr => ∃ (j : Nat) (acc : List Tm) (x : Value), j ≤ l.length ∧ i = .int .i64 (j : Int) ∧ v = x ∧ Hid (RowT (From w0) w.heap.size wr x acc) ∧ Hid (stripL acc = stripL (rrL (l.take j) (placeS vs))) ∧ Hid (acc.length = j ∧ l.length - j ≤ gk) ∧ Hid (Below w.heap.size w wr))
    case atStart => exact ⟨0, [], _, Nat.zero_le _, rfl, rfl, Lib.hid (RowT.nil _ _ _), Lib.hid rfl, Lib.hid ⟨rfl, by omega⟩, Lib.hid (Below.refl _ _)⟩
    case round =>
      obtain ⟨j, acc, z, hj, rfl, hz, HK, HS, HAc, HB⟩ := hrel
      have hz' := hz.symm
      subst hz'
      clear hz
      by_cases hlt : j < l.length
      · obtain ⟨b0, o, rfl, ⟨c0, c1, c2, c3⟩, _⟩ := (HL.out.below HB.out).get hlt
        have HT := Lib.hid (take_tm hlt)
        have Q1 := Lib.hid (QR.out j hlt)
        have HX := Lib.hid (HAT.out j hlt)
        have hal : acc.length ≤ 1000000 := by rw [HAc.out.1]; have := HLn.out; omega
        have hszr := HB.out.size
        have HRl := Lib.hid (own_lt HK.out.1)
        clear QR HAT
        generalize l.getD j default = x at *
        obtain ⟨k', n', s', A', c', a'⟩ := x
        simp only [Tm.kind, Tm.num, Tm.name, Tm.at_, Tm.args, Tm.cap] at c0 c1 c2 c3
        simp only [Tm.args, Tm.at_, Tm.cap] at Q1
        have HP := Lib.hid ((At_iff _ _).1 (HX.out wr (HW0.out.trans (HB.out.mono HW0.out.size)))).1
        simp only [Tm.kind, Tm.num, Tm.name] at HP
        have hb0 := Lib.hid ((Below.refl wr.heap.size wr).alloc (Nat.le_refl _) (.cells #[.int .i64 k', .int .i64 n', .string s', .slice A' a'.length c'] 69))
        have hbX := Lib.hid (HB.out.trans (hb0.out.mono HB.out.size))
        by_cases k1 : k' = 1
        · subst k1
          have QPl := Lib.hid (QP.out (wr.alloc (.cells #[.int .i64 1, .int .i64 n', .string s', .slice A' a'.length c'] 69)) n' hbX.out)
          have HRR := Lib.hid (rr_var n' s' A' c' a' (placeS vs))
          have HFp := Lib.hid (place_fits2 HV.out n')
          clear QP Q1
          generalize placeS vs n' = y at *
          have hb1 := (Below.refl wr.heap.size wr).alloc (Nat.le_refl _) (.cells #[.int .i64 1, .int .i64 y, .string s', .slice A' a'.length c'] 69)
          have HKX := Lib.hid (HK.out.below hb1)
          have HBX := Lib.hid (HB.out.trans (hb1.mono HB.out.size))
          have HUX := Lib.hid (show Lie (From w0) w.heap.size (fun k => z.ownBlock = some k) (wr.alloc (.cells #[.int .i64 1, .int .i64 y, .string s', .slice A' a'.length c'] 69)) (Tm.mk 1 y s' A' c' a') from Lie.any fun W hW => (At_iff _ _).2 ⟨⟨HP.out.1, HFp.out, HP.out.2.2⟩, (HX.out W hW).lst⟩)
          have HST := Lib.hid (show (Tm.mk 1 y s' A' c' a').strip = ((Tm.mk 1 n' s' A' c' a').rr (placeS vs)).strip by rw [HRR.out])
          clear hb1
          have HOwn := Lib.hid (own_lt HKX.out.1)
          have HS2 := Lib.hid (show stripL (acc ++ [Tm.mk 1 y s' A' c' a']) = stripL (rrL (l.take (j + 1)) (placeS vs)) by
            rw [HT.out, HA.out, List.map_append, stripL_append, stripL_append, HS.out, HA.out]
            simp only [stripL, List.map_cons, List.map_nil, HST.out])
          go_wp2_with (first | (go_at_call 109; (with_reducible refine QPl.out.mono ?_); rintro e w4 ⟨rfl, rfl⟩) | (at_builtin; refine wpList_append_lies _ rfl _ _ 51 rfl w.heap.size 69 i0 _ 4 56 Tryz.underlying51 hi hz0 hz1 hz2 rfl (by decide) _ acc.length (tcells acc) rfl (HKX.out.1.alloc _) ⟨wr.heap.size + 1, 0, none⟩ 1 1 (Tm.cells (.mk 1 y s' A' c' a')) rfl rfl (by have := tnews1 (wr.alloc (.cells #[.int .i64 1, .int .i64 y, .string s', .slice A' a'.length c'] 69)) (.mk 1 y s' A' c' a') 69; rw [World.size_alloc] at this; exact this) (cells_one _) (by decide) (by unfold maxLen; omega) (by omega) (by have := HBX.out.size; simp at this ⊢; omega) _ rfl ?_; intro g cap w7 hown hg hat hglt))
          have hbx := (Below.refl (wr.alloc (.cells #[.int .i64 1, .int .i64 y, .string s', .slice A' a'.length c'] 69)).heap.size (wr.alloc (.cells #[.int .i64 1, .int .i64 y, .string s', .slice A' a'.length c'] 69))).alloc (Nat.le_refl _) (.cells #[.int .i64 1, .int .i64 y, .string s', .slice A' a'.length c'] 69)
          have HR7 := Lib.hid (HKX.out.next (u := (.mk 1 y s' A' c' a')) HUX.out hbx hown hg hat)
          have HB7 := Lib.hid (show Below w.heap.size w w7 from (HBX.out.trans (hbx.mono HBX.out.size)).grown hg (by have := HBX.out.size; simp at this ⊢; omega) (fun k hk => (HOwn.out k hk).1))
          clear hown hg hat hglt hbx
          go_wp2_with fail
          go_roundg (gk - 1)
          case measure => have := HAc.out.2; omega
          case rel => exact ⟨j + 1, acc ++ [.mk 1 y s' A' c' a'], _, by omega, by go_num, rfl, HR7, HS2, Lib.hid ⟨by rw [List.length_append, HAc.out.1]; rfl, by have := HAc.out.2; omega⟩, HB7⟩
        · have k1' : (k' == 1) = false := by simpa using k1
          by_cases k2 : k' = 2
          · subst k2
            have HRR := Lib.hid (rr_fun n' s' A' c' a' (placeS vs))
            have Q2 := Lib.hid (Q1.out (wr.alloc (.cells #[.int .i64 2, .int .i64 n', .string s', .slice A' a'.length c'] 69)) hbX.out)
            clear QP Q1
            go_wp2_with fail
            refine Q2.out.mono ?_
            rintro e w5 ⟨A2, c2', k2l, rfl, hkl, hp5, hl5, hb5⟩
            have hs5 : wr.heap.size + 1 ≤ w5.heap.size := by have := hb5.size; simpa using this
            have HBx := Lib.hid ((BoxL.new wr [.int .i64 2, .int .i64 n', .string s', .slice A' a'.length c'] 69).below hb5)
            have HB5 := Lib.hid (HB.out.trans ((hb0.out.trans (hb5.mono (by simp))).mono HB.out.size))
            have HBX := Lib.hid (show Below w.heap.size w (w5.setCell ⟨wr.heap.size, 3, none⟩ (.slice A2 a'.length c2')) from HB5.out.setCell (p := ⟨wr.heap.size, 3, none⟩) HB.out.size _)
            have HKX := Lib.hid (show RowT (From w0) w.heap.size (w5.setCell ⟨wr.heap.size, 3, none⟩ (.slice A2 a'.length c2')) z acc from ⟨own_of ((HK.out.below hb0.out).below hb5).1 fun k hk => Below.heap_setCell _ _ _ _ (by have := (HRl.out k hk).2; show k ≠ wr.heap.size; omega), fun x hx => (HK.out.2 x hx).less (by have := hb5.size; simp [World.setCell] at this ⊢; omega) fun b h1 h2 h3 => ⟨h1, h3, (Below.heap_setCell _ _ _ _ (by show b ≠ wr.heap.size; omega)).trans ((hb5.block b (by simp; omega)).trans (hb0.out.block b h2))⟩⟩)
            have HUX := Lib.hid (show Lie (From w0) w.heap.size (fun k => z.ownBlock = some k) (w5.setCell ⟨wr.heap.size, 3, none⟩ (.slice A2 a'.length c2')) (Tm.mk 2 n' s' A2 c2' k2l) from lie_apart HK.out.1 (rlie_row (w := wr.alloc (.cells #[.int .i64 2, .int .i64 n', .string s', .slice A' a'.length c'] 69)) (lo := wr.heap.size + 1) HP.out (fun W hBW hW => hl5 W hBW fun b h1 h2 h3 => (hW b (by simpa using h1) (by simpa [World.setCell] using h2) h3).trans (Below.heap_setCell _ _ _ _ (by simp at h1; show b ≠ wr.heap.size; omega))) (by simp)) (by simp; omega) (by simp))
            have HST := Lib.hid (show (Tm.mk 2 n' s' A2 c2' k2l).strip = ((Tm.mk 2 n' s' A' c' a').rr (placeS vs)).strip by rw [HRR.out]; simp only [Tm.strip, hp5])
            obtain ⟨d0, d1, d2, d3, g0, g1, g2, g3⟩ := HBx.out.four
            clear hb5 hp5 hl5 Q2
            have HOwn := Lib.hid (own_lt HKX.out.1)
            have HS2 := Lib.hid (show stripL (acc ++ [Tm.mk 2 n' s' A2 c2' k2l]) = stripL (rrL (l.take (j + 1)) (placeS vs)) by
              rw [HT.out, HA.out, List.map_append, stripL_append, stripL_append, HS.out, HA.out]
              simp only [stripL, List.map_cons, List.map_nil, HST.out])
            go_wp2_with ((at_builtin; refine wpList_append_lies _ rfl _ _ 51 rfl w.heap.size 69 i0 _ 4 56 Tryz.underlying51 hi hz0 hz1 hz2 rfl (by decide) _ acc.length (tcells acc) rfl (HKX.out.1.alloc _) ⟨w5.heap.size, 0, none⟩ 1 1 (Tm.cells (.mk 2 n' s' A2 c2' k2l)) rfl rfl (by have := news_set w5 ⟨wr.heap.size, 3, none⟩ (.slice A2 a'.length c2') (Tm.mk 2 n' s' A2 c2' k2l) 69; simp only [Tm.kind, Tm.num, Tm.name, Tm.at_, Tm.args, Tm.cap, hkl] at this; exact this) (cells_one _) (by decide) (by unfold maxLen; omega) (by omega) (by have := HBX.out.size; simp [World.setCell] at this ⊢; omega) _ rfl ?_; intro g cap w7 hown hg hat hglt))
            have hbx := (Below.refl (w5.setCell ⟨wr.heap.size, 3, none⟩ (.slice A2 a'.length c2')).heap.size (w5.setCell ⟨wr.heap.size, 3, none⟩ (.slice A2 a'.length c2'))).alloc (Nat.le_refl _) (.cells #[.int .i64 2, .int .i64 n', .string s', .slice A2 a'.length c2'] 69)
            have HR7 := Lib.hid (HKX.out.next (u := (.mk 2 n' s' A2 c2' k2l)) HUX.out hbx hown hg hat)
            have HB7 := Lib.hid (show Below w.heap.size w w7 from (HBX.out.trans (hbx.mono HBX.out.size)).grown hg (by have := HBX.out.size; simp [World.setCell] at this ⊢; omega) (fun k hk => (HOwn.out k hk).1))
            clear hown hg hat hglt hbx
            go_wp2_with fail
            go_roundg (gk - 1)
            case measure => have := HAc.out.2; omega
            case rel => exact ⟨j + 1, acc ++ [.mk 2 n' s' A2 c2' k2l], _, by omega, by go_num, rfl, HR7, HS2, Lib.hid ⟨by rw [List.length_append, HAc.out.1]; rfl, by have := HAc.out.2; omega⟩, HB7⟩
          · have k2' : (k' == 2) = false := by simpa using k2
            have HRR := Lib.hid (rr_else n' s' A' c' a' (placeS vs) k1 k2)
            clear QP Q1 k1 k2
            have HKX := Lib.hid (HK.out.below hb0.out)
            have HBX := hbX
            have HUX := Lib.hid (show Lie (From w0) w.heap.size (fun k => z.ownBlock = some k) (wr.alloc (.cells #[.int .i64 k', .int .i64 n', .string s', .slice A' a'.length c'] 69)) (Tm.mk k' n' s' A' c' a') from Lie.any fun W hW => HX.out W hW)
            have HST := Lib.hid (show (Tm.mk k' n' s' A' c' a').strip = ((Tm.mk k' n' s' A' c' a').rr (placeS vs)).strip by rw [HRR.out])
            have HOwn := Lib.hid (own_lt HKX.out.1)
            have HS2 := Lib.hid (show stripL (acc ++ [Tm.mk k' n' s' A' c' a']) = stripL (rrL (l.take (j + 1)) (placeS vs)) by
              rw [HT.out, HA.out, List.map_append, stripL_append, stripL_append, HS.out, HA.out]
              simp only [stripL, List.map_cons, List.map_nil, HST.out])
            go_wp2_with ((at_builtin; refine wpList_append_lies _ rfl _ _ 51 rfl w.heap.size 69 i0 _ 4 56 Tryz.underlying51 hi hz0 hz1 hz2 rfl (by decide) _ acc.length (tcells acc) rfl (HKX.out.1.alloc _) ⟨wr.heap.size + 1, 0, none⟩ 1 1 (Tm.cells (.mk k' n' s' A' c' a')) rfl rfl (by have := tnews1 (wr.alloc (.cells #[.int .i64 k', .int .i64 n', .string s', .slice A' a'.length c'] 69)) (.mk k' n' s' A' c' a') 69; rw [World.size_alloc] at this; exact this) (cells_one _) (by decide) (by unfold maxLen; omega) (by omega) (by have := HBX.out.size; simp at this ⊢; omega) _ rfl ?_; intro g cap w7 hown hg hat hglt))
            have hbx := (Below.refl (wr.alloc (.cells #[.int .i64 k', .int .i64 n', .string s', .slice A' a'.length c'] 69)).heap.size (wr.alloc (.cells #[.int .i64 k', .int .i64 n', .string s', .slice A' a'.length c'] 69))).alloc (Nat.le_refl _) (.cells #[.int .i64 k', .int .i64 n', .string s', .slice A' a'.length c'] 69)
            have HR7 := Lib.hid (HKX.out.next (u := (.mk k' n' s' A' c' a')) HUX.out hbx hown hg hat)
            have HB7 := Lib.hid (show Below w.heap.size w w7 from (HBX.out.trans (hbx.mono HBX.out.size)).grown hg (by have := HBX.out.size; simp at this ⊢; omega) (fun k hk => (HOwn.out k hk).1))
            clear hown hg hat hglt hbx
            go_wp2_with fail
            go_roundg (gk - 1)
            case measure => have := HAc.out.2; omega
            case rel => exact ⟨j + 1, acc ++ [.mk k' n' s' A' c' a'], _, by omega, by go_num, rfl, HR7, HS2, Lib.hid ⟨by rw [List.length_append, HAc.out.1]; rfl, by have := HAc.out.2; omega⟩, HB7⟩
      · obtain rfl : j = l.length := by omega
        have hK := HK.out
        obtain ⟨A', cz, hz, hcz⟩ := hK.form
        subst hz
        have HF := Lib.hid hK.lies
        have HE := Lib.hid (show stripL acc = stripL (rrL l (placeS vs)) by rw [HS.out, List.take_length])
        have hac := HAc.out.1
        rw [hac]
        clear hK HK hlt HS hcz hac
        go_wp2_with fail
        go_ret
        exact ⟨A', cz, acc, rfl, HAc.out.1, HE.out, HF.out, HB.out⟩
end Go.Proofs.YtnghanpmmbcbbaaGreatDoor
namespace Go.Proofs.YtnghanpmmbcbbaaGreatDoor
open Go.RowKit
def AmRowT (B : World → Prop) (lo : Nat) (w : World) (z : Value) (acc : List Am) : Prop :=
  w.ownsRow lo 66 2 z acc.length (amcells acc) ∧ ∀ x ∈ acc, AmLie B lo (fun k => z.ownBlock = some k) w x
section
variable {B : World → Prop} {lo : Nat} {w w' : World} {z : Value} {acc : List Am}
theorem AmRowT.nil (B : World → Prop) (lo : Nat) (w : World) : AmRowT B lo w (.slice none 0 0) [] := ⟨⟨rfl, .inl ⟨rfl, rfl⟩⟩, fun x hx => by cases hx⟩
theorem AmRowT.below (h : AmRowT B lo w z acc) (hb : Below w.heap.size w w') : AmRowT B lo w' z acc := ⟨own_below h.1 hb, fun x hx => (h.2 x hx).below hb⟩
theorem AmRowT.next {g cap : Nat} {w2 w3 w4 : World} {u : Am} (h : AmRowT B lo w2 z acc) (hu : AmLie B lo (fun k => z.ownBlock = some k) w2 u) (hb : Below w2.heap.size w2 w3)
    (hown : w4.ownsRow lo 66 2 (.slice (some ⟨g, 0, none⟩) (acc.length + 1) cap) (acc.length + 1) (amcells acc ++ u.cells)) (hg : w3.grownBy w4 z.ownBlock) (hat : z.ownBlock = some g ∨ g = w3.heap.size) :
    AmRowT B lo w4 (.slice (some ⟨g, 0, none⟩) (acc.length + 1) cap) (acc ++ [u]) := by
  refine ⟨by rw [List.length_append, amcells_append]; simpa [amcells] using hown, fun x hx => ?_⟩
  have hx2 : AmLie B lo (fun k => z.ownBlock = some k) w2 x := by
    rcases List.mem_append.1 hx with hx | hx
    · exact h.2 x hx
    · rw [List.mem_singleton.1 hx]; exact hu
  refine (hx2.below hb).less hg.size fun b h1 h2 h3 => ⟨h1, fun e => ?_, hg.block b h2 (fun e => h3 e.symm)⟩
  have e' : g = b := by simpa [Value.ownBlock] using e
  rcases hat with h | h
  · exact h3 (by rw [h, e'])
  · omega
theorem am_apart {x : Am} {lo' : Nat} {w0 w2 : World} {n : Nat} {e : TypeId} {size : Nat} {xs : List Value} (hown : w0.ownsRow lo e size z n xs) (hx : AmLie B lo' No w2 x) (h1 : lo ≤ lo') (h2 : w0.heap.size ≤ lo') : AmLie B lo (fun k => z.ownBlock = some k) w2 x :=
  (hx.out (X := fun k => z.ownBlock = some k) (fun b h3 _ h4 => by have := (own_lt hown b h4).2; omega)).low h1
theorem AmRowT.form (h : AmRowT B lo w z acc) : ∃ A c, z = .slice A acc.length c ∧ acc.length ≤ c := by
  rcases h.1.2 with ⟨rfl, h1⟩ | ⟨g, cap, cur, rfl, hb, hg, hle, _⟩
  · exact ⟨none, 0, by rw [h1], by omega⟩
  · exact ⟨_, cap, rfl, hle⟩
theorem AmRowT.lies {A : Option Addr} {c n : Nat} (h : AmRowT B lo w (.slice A n c) acc) : ∀ W, B W → Agree lo No w W → AmLst W A acc c := by
  intro W hB hW
  have hl := amcells_len acc
  rcases h.1.2 with ⟨e, h1⟩ | ⟨g, cap, cur, e, hb, hg, hle, hcap, hcs, hcur⟩
  · injection e with e1 _ e3
    obtain rfl : acc = [] := List.length_eq_zero_iff.1 h1
    rw [e1, e3]; exact AmLst.nil W
  · injection e with e1 e2 e3
    subst e1 e2 e3
    have hlt := own_lt h.1 g rfl
    refine ⟨hle, hcap, fun _ => ⟨g, 0, rfl, fun i hi => ⟨fun j u hu => ?_, ?_⟩⟩⟩
    · have hj := Am.cells_lt hu
      rw [Nat.zero_add, hW.cell (p := ⟨g, i * 2 + j, none⟩) hlt.1 hlt.2 (fun h => h)]
      have hc := World.ownsRow.cellAt h.1 (i * 2 + j) (by omega)
      rw [hc]
      exact (amcells_get acc hi hj).trans hu
    · exact h.2 _ (am_getD_mem hi) W hB fun b h1 h2 h3 => hW b h1 h2 (fun h => h)
end
theorem amnews (w : World) (u : Am) (T : TypeId) : ∀ j v, u.cells[j]? = some v → (w.alloc (.cells #[.string u.name, .slice u.at_ u.args.length u.cap] T)).cell? ((⟨w.heap.size, 0, none⟩ : Addr).add j) = some v := by
  intro j v hv
  rw [add_plain, Nat.zero_add, World.cell?_alloc_at _ _ _ _ rfl, ← hv, show (#[.string u.name, .slice u.at_ u.args.length u.cap] : Array Value) = u.cells.toArray from rfl, List.getElem?_toArray]
set_option maxHeartbeats 8000000 in
set_option maxRecDepth 100000 in
theorem ref_shift_ams_at (kk : Int) (hk : Fits kk) (w0 : World) (l : List Am) (A : Option Addr) (c : Nat) (w : World) (hw : Below w0.heap.size w0 w) (hl : AmLst w0 A l c) (hsz : l.length ≤ 1000000) (hnd : ∀ x ∈ l, nodesL x.args ≤ 1000000) :
    Calls Tryz.prog 62 #[.slice A l.length c, .int .i64 kk] w (AmMade (From w0) l.length (l.map fun x => x.rr (shiftV kk)) w) := by
  obtain ⟨i0, hi, hz0, hz1, hz2⟩ := info_parts am_info
  have HL := Lib.hid (hl.below hw)
  have HI := Lib.hid (fun (x : Am) (hx : x ∈ l) (W : World) (h : Below w.heap.size w W) => ref_shift_terms_at w0 kk x.args x.at_ x.cap W (((hl.mem hx).below (hw.trans (h.mono hw.size))).2) (by have := hnd x hx; have := length_le_nodes x.args; omega) (fun y hy W' h' => ref_shift_at w0 kk hk y (Lst.mem ((hl.mem hx).2) hy) (by have := nodes_mem hy; have := hnd x hx; omega) W' (hw.trans ((h.trans (h'.mono h.size)).mono hw.size))))
  have HAT := Lib.hid (fun (x : Am) (hx : x ∈ l) => hl.mem hx)
  clear hl hnd hw
  go_enter Tryz.func62, Tryz.ntmps62
  go_wp2_with fail
  go_loopw [5, 6] (fun z i wr => ∃ (j : Nat) (acc : List Am) (x : Value), j ≤ l.length ∧ i = .int .i64 j ∧ z = x ∧ Hid (AmRowT (From w0) w.heap.size wr x acc) ∧ Hid (acc.map Am.key = (l.take j).map fun x => (x.rr (shiftV kk)).key) ∧ Hid (acc.length = j) ∧ Below w.heap.size w wr) (fun _ i _ => l.length - (intOf i).toNat)
  case atStart => exact ⟨0, [], _, Nat.zero_le _, rfl, rfl, Lib.hid (AmRowT.nil _ _ _), Lib.hid rfl, Lib.hid rfl, Below.refl _ _⟩
  case round =>
    obtain ⟨j, acc, z, hj, rfl, hz, HK, HS, HAc, hbw⟩ := hrel
    have hz' := hz.symm
    subst hz'
    clear hz
    by_cases hlt : j < l.length
    · obtain ⟨b0, o, rfl, hcs, _⟩ := (HL.out.below hbw).get hlt
      have HT := Lib.hid (am_take_next hlt)
      have hmem := am_getD_mem hlt
      have hal : acc.length ≤ 1000000 := by rw [HAc.out]; omega
      generalize l.getD j default = x at *
      have Q1 := Lib.hid (fun W (h : Below w.heap.size w W) => HI.out x hmem W h)
      have HXA := Lib.hid (HAT.out x hmem)
      have c0 := hcs 0 _ rfl
      have c1 := hcs 1 _ rfl
      simp only [Nat.add_zero] at c0
      have hb0 : b0 < wr.heap.size := World.block_lt_of_cell? _ _ c0
      have HCL := Lib.hid (fun W (h : Below wr.heap.size wr W) => (⟨keepv h c0, keepv h c1⟩ : W.cell? ⟨b0, o + j * 2, none⟩ = some (.string x.name) ∧ W.cell? ⟨b0, o + j * 2 + 1, none⟩ = some (.slice x.at_ x.args.length x.cap)))
      clear hcs hmem
      obtain ⟨s', A', c', a'⟩ := x
      simp only at c0 c1
      go_wp2_with fail
      go_region_law (first
        | (go_simp; go_at_call 104; refine (Q1.out _ hbw.drew).mono ?_; rintro e w2 ⟨A2, p2, cur, rfl, hcl, hst, hL, hb2⟩; replace hb2 := undrew hb2; have hbk : b0 < w2.heap.size := Nat.lt_of_lt_of_le hb0 hb2.size; obtain ⟨d0, d1⟩ := HCL.out _ hb2; have HL2 := Lib.hid (fun W h1 (hW : Agree wr.heap.size No w2 W) => hL W h1 (fun b' h1 h2 h3 => hW b' (by simpa using h1) h2 h3)); have HC2 := Lib.hid hcl; have HS2 := Lib.hid hst; have HK2 := Lib.hid (HK.out.below hb2); have HB2 := Lib.hid hb2; clear hcl hst hL hb2)
        | (refine step_append_lies _ (by rfl) _ _ _ (by rfl) w.heap.size 66 i0 _ 2 40 Tryz.underlying22 hi hz0 hz1 hz2 rfl (by omega) _ acc.length (amcells acc) (by rfl) (HK2.out.1.alloc _) ⟨w2.heap.size, 0, none⟩ 1 1 (Am.cells ⟨s', A2, p2, cur⟩) (by rfl) (by rfl) (by have := amnews w2 (⟨s', A2, p2, cur⟩ : Am) 66; simp only [HC2.out] at this; exact this) (by exact amcells_one _) (by omega) (by unfold maxLen; omega) (by omega) (by have := hbw.size; have := HB2.out.size; simp; omega) (w2.heap.size + 1) (by simp) ?_; intro g cap w5 hown hg hat hglt)
        | fail)
      all_goals
        have HU := Lib.hid (am_apart (x := ⟨s', A2, p2, cur⟩) HK.out.1 (show AmLie (From w0) wr.heap.size No w2 ⟨s', A2, p2, cur⟩ from fun W h1 hW => ⟨HXA.out.1, HL2.out W h1 hW⟩) hbw.size (Nat.le_refl _))
        have HR5 := Lib.hid (HK2.out.next (u := ⟨s', A2, p2, cur⟩) HU.out (below1 w2 _) hown hg (by rcases hat with h | h; exact .inl h; exact .inr (by rw [h]; simp)))
        have HB5 : Below w.heap.size w w5 := ((hbw.trans (HB2.out.mono hbw.size)).alloc (Nat.le_trans hbw.size HB2.out.size) _).grown hg (by have := hbw.size; have := HB2.out.size; simp; omega) (fun k hk => ((own_lt HK2.out.1) k hk).1)
        have HS5 := Lib.hid (show (acc ++ [(⟨s', A2, p2, cur⟩ : Am)]).map Am.key = (l.take (j + 1)).map fun x => (x.rr (shiftV kk)).key by
          rw [HT.out, List.map_append, List.map_append, HS.out]
          refine congrArg _ ?_
          simp only [List.map_cons, List.map_nil]
          exact congrArg (fun x => [x]) (Prod.ext rfl HS2.out))
        clear hown hg hat hglt HK HK2 HU
        go_wp2_with fail
        go_roundw
        case rel => exact ⟨j + 1, acc ++ [(⟨s', A2, p2, cur⟩ : Am)], _, by omega, by go_num, rfl, HR5, HS5, Lib.hid (by rw [List.length_append, HAc.out]; rfl), HB5⟩
        case measure => simp [intOf]; omega
    · obtain rfl : j = l.length := by omega
      have hK := HK.out
      obtain ⟨A', cz, hz, hcz⟩ := hK.form
      subst hz
      have HF := Lib.hid hK.lies
      have HE := Lib.hid (show acc.map Am.key = (l.map fun x => x.rr (shiftV kk)).map Am.key by rw [HS.out, List.take_length, List.map_map]; rfl)
      rw [HAc.out]
      clear hK HK hlt HS hcz
      go_wp2_with fail
      go_ret
      exact ⟨A', cz, acc, rfl, HAc.out, HE.out, HF.out, hbw⟩
end Go.Proofs.YtnghanpmmbcbbaaGreatDoor
namespace Go.Proofs.YtnghanpmmbcbbaaGreatDoor
open Go.RowKit
set_option maxHeartbeats 8000000 in
set_option maxRecDepth 100000 in
theorem ren_ams_at (w0 : World) (V : Option Addr) (vs : List Int) (cv : Nat) (hvs : vs.length ≤ 1000000) (l : List Am) (A : Option Addr) (c : Nat) (w : World) (hV : Ints w V vs) (hw : Below w0.heap.size w0 w) (hl : AmLst w0 A l c) (hsz : l.length ≤ 1000000) (hnd : ∀ x ∈ l, nodesL x.args ≤ 1000000) :
    Calls Tryz.prog 46 #[.slice V vs.length cv, .slice A l.length c] w (AmMade (From w0) l.length (l.map fun x => x.rr (placeS vs)) w) := by
  obtain ⟨i0, hi, hz0, hz1, hz2⟩ := info_parts am_info
  have HL := Lib.hid (hl.below hw)
  have HI := Lib.hid (fun (x : Am) (hx : x ∈ l) (W : World) (h : Below w.heap.size w W) => ren_list_at w0 V vs cv hvs (nodesL x.args) x.at_ x.args x.cap W rfl (hnd x hx) (((hl.mem hx)).2) (hw.trans (h.mono hw.size)) (hV.below h))
  have HAT := Lib.hid (fun (x : Am) (hx : x ∈ l) => hl.mem hx)
  clear hl hnd hw hV
  go_enter Tryz.func46, Tryz.ntmps46
  go_wp2_with fail
  go_loopw [5, 6] (fun z i wr => ∃ (j : Nat) (acc : List Am) (x : Value), j ≤ l.length ∧ i = .int .i64 j ∧ z = x ∧ Hid (AmRowT (From w0) w.heap.size wr x acc) ∧ Hid (acc.map Am.key = (l.take j).map fun x => (x.rr (placeS vs)).key) ∧ Hid (acc.length = j) ∧ Below w.heap.size w wr) (fun _ i _ => l.length - (intOf i).toNat)
  case atStart => exact ⟨0, [], _, Nat.zero_le _, rfl, rfl, Lib.hid (AmRowT.nil _ _ _), Lib.hid rfl, Lib.hid rfl, Below.refl _ _⟩
  case round =>
    obtain ⟨j, acc, z, hj, rfl, hz, HK, HS, HAc, hbw⟩ := hrel
    have hz' := hz.symm
    subst hz'
    clear hz
    by_cases hlt : j < l.length
    · obtain ⟨b0, o, rfl, hcs, _⟩ := (HL.out.below hbw).get hlt
      have HT := Lib.hid (am_take_next hlt)
      have hmem := am_getD_mem hlt
      have hal : acc.length ≤ 1000000 := by rw [HAc.out]; omega
      generalize l.getD j default = x at *
      have Q1 := Lib.hid (fun W (h : Below w.heap.size w W) => HI.out x hmem W h)
      have HXA := Lib.hid (HAT.out x hmem)
      have c0 := hcs 0 _ rfl
      have c1 := hcs 1 _ rfl
      simp only [Nat.add_zero] at c0
      have hb0 : b0 < wr.heap.size := World.block_lt_of_cell? _ _ c0
      have HCL := Lib.hid (fun W (h : Below wr.heap.size wr W) => (⟨keepv h c0, keepv h c1⟩ : W.cell? ⟨b0, o + j * 2, none⟩ = some (.string x.name) ∧ W.cell? ⟨b0, o + j * 2 + 1, none⟩ = some (.slice x.at_ x.args.length x.cap)))
      clear hcs hmem
      obtain ⟨s', A', c', a'⟩ := x
      simp only at c0 c1
      go_wp2_with fail
      go_region_law (first
        | (go_simp; go_at_call 67; refine (Q1.out _ hbw.drew).mono ?_; rintro e w2 ⟨A2, p2, cur, rfl, hcl, hst, hL, hb2⟩; replace hb2 := undrew hb2; have hbk : b0 < w2.heap.size := Nat.lt_of_lt_of_le hb0 hb2.size; obtain ⟨d0, d1⟩ := HCL.out _ hb2; have HL2 := Lib.hid (fun W h1 (hW : Agree wr.heap.size No w2 W) => hL W h1 (fun b' h1 h2 h3 => hW b' (by simpa using h1) h2 h3)); have HC2 := Lib.hid hcl; have HS2 := Lib.hid hst; have HK2 := Lib.hid (HK.out.below hb2); have HB2 := Lib.hid hb2; clear hcl hst hL hb2)
        | (refine step_append_lies _ (by rfl) _ _ _ (by rfl) w.heap.size 66 i0 _ 2 40 Tryz.underlying22 hi hz0 hz1 hz2 rfl (by omega) _ acc.length (amcells acc) (by rfl) (HK2.out.1.alloc _) ⟨w2.heap.size, 0, none⟩ 1 1 (Am.cells ⟨s', A2, p2, cur⟩) (by rfl) (by rfl) (by have := amnews w2 (⟨s', A2, p2, cur⟩ : Am) 66; simp only [HC2.out] at this; exact this) (by exact amcells_one _) (by omega) (by unfold maxLen; omega) (by omega) (by have := hbw.size; have := HB2.out.size; simp; omega) (w2.heap.size + 1) (by simp) ?_; intro g cap w5 hown hg hat hglt)
        | fail)
      all_goals
        have HU := Lib.hid (am_apart (x := ⟨s', A2, p2, cur⟩) HK.out.1 (show AmLie (From w0) wr.heap.size No w2 ⟨s', A2, p2, cur⟩ from fun W h1 hW => ⟨HXA.out.1, HL2.out W h1 hW⟩) hbw.size (Nat.le_refl _))
        have HR5 := Lib.hid (HK2.out.next (u := ⟨s', A2, p2, cur⟩) HU.out (below1 w2 _) hown hg (by rcases hat with h | h; exact .inl h; exact .inr (by rw [h]; simp)))
        have HB5 : Below w.heap.size w w5 := ((hbw.trans (HB2.out.mono hbw.size)).alloc (Nat.le_trans hbw.size HB2.out.size) _).grown hg (by have := hbw.size; have := HB2.out.size; simp; omega) (fun k hk => ((own_lt HK2.out.1) k hk).1)
        have HS5 := Lib.hid (show (acc ++ [(⟨s', A2, p2, cur⟩ : Am)]).map Am.key = (l.take (j + 1)).map fun x => (x.rr (placeS vs)).key by
          rw [HT.out, List.map_append, List.map_append, HS.out]
          refine congrArg _ ?_
          simp only [List.map_cons, List.map_nil]
          exact congrArg (fun x => [x]) (Prod.ext rfl HS2.out))
        clear hown hg hat hglt HK HK2 HU
        go_wp2_with fail
        go_roundw
        case rel => exact ⟨j + 1, acc ++ [(⟨s', A2, p2, cur⟩ : Am)], _, by omega, by go_num, rfl, HR5, HS5, Lib.hid (by rw [List.length_append, HAc.out]; rfl), HB5⟩
        case measure => simp [intOf]; omega
    · obtain rfl : j = l.length := by omega
      have hK := HK.out
      obtain ⟨A', cz, hz, hcz⟩ := hK.form
      subst hz
      have HF := Lib.hid hK.lies
      have HE := Lib.hid (show acc.map Am.key = (l.map fun x => x.rr (placeS vs)).map Am.key by rw [HS.out, List.take_length, List.map_map]; rfl)
      rw [HAc.out]
      clear hK HK hlt HS hcz
      go_wp2_with fail
      go_ret
      exact ⟨A', cz, acc, rfl, HAc.out, HE.out, HF.out, hbw⟩
end Go.Proofs.YtnghanpmmbcbbaaGreatDoor
