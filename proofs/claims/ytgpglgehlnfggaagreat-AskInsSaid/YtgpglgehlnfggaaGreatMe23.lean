/-
  RfEnterP.
  UnBuild.
  RfEnter.
-/
import Derived.Test.YtgpglgehlnfggaaGreatMe22
import Derived.Test.YtgpglgehlnfggaaGreatMe12
import Derived.Test.YtgpglgehlnfggaaGreatMe13
import Derived.Test.YtgpglgehlnfggaaGreatMe8
import Derived.Deep.CutRange
import Derived.Deep.RegionLaw
import Derived.Deep.AppendLies
namespace Go.Proofs.YtgpglgehlnfggaaGreat
open Go.RowKit
def OwnN (w : World) (z z' : Value) : Prop := z'.ownBlock = z.ownBlock ∨ ∀ b, z'.ownBlock = some b → w.heap.size ≤ b
theorem OwnN.refl (w : World) (z : Value) : OwnN w z z := .inl rfl
theorem OwnN.trans {w w1 : World} {z z1 z2 : Value} (h : OwnN w z z1) (k : OwnN w1 z1 z2) (hs : w.heap.size ≤ w1.heap.size) : OwnN w z z2 := by
  rcases k with k | k
  · rcases h with h | h
    · exact .inl (k.trans h)
    · exact .inr fun b e => h b (k ▸ e)
  · exact .inr fun b e => Nat.le_trans hs (k b e)
theorem own3_back {w : World} {p b : Nat} {zL zL' zC zC' : Value} (hL : OwnN w zL zL') (hC : OwnN w zC zC') (hb : b < w.heap.size) (h : Own3 p zL' zC' b) : Own3 p zL zC b := by
  rcases h with h | h | h
  · exact .inl h
  · rcases hL with e | e
    · exact .inr (.inl (e ▸ h))
    · have := e b h; omega
  · rcases hC with e | e
    · exact .inr (.inr (e ▸ h))
    · have := e b h; omega
def EnterO (lo : Nat) (Y : Nat → Prop) (p : Nat) (zL zC : Value) (G : List Nd) (cls : List Nat) (t : Tm) (w : World) (e : Ending) (w' : World) : Prop :=
  ∃ (zL' zC' : Value) (G' : List Nd) (cls' : List Nat) (i : Nat), e = .returned (.int .i64 (i : Nat)) ∧ RG lo Y w' p zL' zC' G' cls' ∧ (∃ N, G' = G ++ N) ∧ (∀ j, G.length ≤ j → j < G'.length → OkAt G' j) ∧ clsR cls' = clsR cls ∧ VarU G' ∧ i < G'.length ∧ (nd G' i).tm.strip = t.strip ∧ G'.length ≤ G.length + t.nodes ∧
    FrX (Own3 p zL zC) w w' ∧ OwnN w zL zL' ∧ OwnN w zC zC'
def Entering (lo : Nat) (Y : Nat → Prop) (p : Nat) (zL zC : Value) (G : List Nd) (cls : List Nat) (a : List Tm) (k n : Int) (s : ByteArray) (w : World) (B : Nat) (j : Nat) (zK : Value) (wr : World) : Prop :=
  ∃ (zL' zC' : Value) (G' : List Nd) (cls' : List Nat) (ks : List Nat), RG lo (fun b => Y b ∨ b = B ∨ zK.ownBlock = some b) wr p zL' zC' G' cls' ∧ (∃ N, G' = G ++ N) ∧ (∀ m, G.length ≤ m → m < G'.length → OkAt G' m) ∧ clsR cls' = clsR cls ∧ VarU G' ∧ ks.length = j ∧
    (∀ m, m < j → ks.getD m 0 < G'.length ∧ (nd G' (ks.getD m 0)).tm.strip = (a.getD m default).strip) ∧ G'.length ≤ G.length + nodesL (a.take j) ∧ Held B wr (.int .i64 k) (.int .i64 n) (.string s) zK ∧ wr.ownsRow (B + 1) 3 1 zK ks.length (nums ks) ∧
    FrX (Own3 p zL zC) w wr ∧ OwnN w zL zL' ∧ OwnN w zC zC' ∧ (∀ b, zK.ownBlock = some b → ¬ Own3 p zL' zC' b) ∧ ¬ Own3 p zL' zC' B
structure Half (lo : Nat) (Y : Nat → Prop) (w : World) (p : Nat) (zL zC : Value) (G : List Nd) (cls : List Nat) : Prop where
  hl : w.cell? ⟨p, 0, none⟩ = some zL
  hc : w.cell? ⟨p, 1, none⟩ = some zC
  row : w.ownsRow lo 149 4 zL G.length (rgcells G)
  crow : w.ownsRow lo 3 1 zC cls.length (nums cls)
  kids : ∀ i, i < G.length → KIn lo (fun b => Own3 p zL zC b ∨ Y b) w (nd G i)
  nl : zL.ownBlock ≠ some p
  nc : zC.ownBlock ≠ some p
  nn : ∀ b, zL.ownBlock = some b → zC.ownBlock ≠ some b
  lp : lo ≤ p
  fz : ∀ j, w.frozen? ⟨p, j, none⟩ = false
  fine : ∀ i, i < G.length → RFine (nd G i)
  cl : cls.length + 1 = G.length
  small : G.length ≤ 1000000
section
variable {lo p : Nat} {Y : Nat → Prop} {w w1 w' : World} {zL zC : Value} {G : List Nd} {cls : List Nat}
theorem half_of {x : Nd} {o : Obj} {g cap : Nat} (h : RG lo Y w p zL zC G cls) (hx : RFine x) (hk : KIn lo (fun b => Own3 p zL zC b ∨ Y b) w x) (hsm : G.length + 1 ≤ 1000000)
    (hown : w'.ownsRow lo 149 4 (.slice (some ⟨g, 0, none⟩) (G.length + 1) cap) (G.length + 1) (rgcells G ++ rncells x)) (hgr : (w.alloc o).grownBy w' zL.ownBlock) (hat : zL.ownBlock = some g ∨ g = (w.alloc o).heap.size) :
    Half lo Y (w'.setCell ⟨p, 0, none⟩ (.slice (some ⟨g, 0, none⟩) (G.length + 1) cap)) p (.slice (some ⟨g, 0, none⟩) (G.length + 1) cap) zC (G ++ [x]) cls ∧ FrX (Own3 p zL zC) w (w'.setCell ⟨p, 0, none⟩ (.slice (some ⟨g, 0, none⟩) (G.length + 1) cap)) ∧ OwnN w zL (.slice (some ⟨g, 0, none⟩) (G.length + 1) cap) := by
  have hso : (w.alloc o).heap.size = w.heap.size + 1 := by simp
  have hgp : g ≠ p := by
    rcases hat with e | e
    · intro e'; exact h.nl (by rw [e, e'])
    · have := h.lt; omega
  have hf1 : FrX (fun b => zL.ownBlock = some b) w w' := FrX.grow ((FrX.refl w).alloc o) hgr fun b e _ => e
  have hf2 : FrX (fun b => b = p ∨ zL.ownBlock = some b) w (w'.setCell ⟨p, 0, none⟩ (.slice (some ⟨g, 0, none⟩) (G.length + 1) cap)) := (hf1.mono (X' := fun b => b = p ∨ zL.ownBlock = some b) fun b _ e => .inr e).set (p := ⟨p, 0, none⟩) (fun _ => .inl rfl) _
  have hgC : ∀ b, zC.ownBlock = some b → b ≠ g := fun b e eg => by
    rcases hat with e' | e'
    · exact h.nn g e' (eg ▸ e)
    · have := (own_lt h.crow b e).2; omega
  have hset : FrX (fun b => b = p) w' (w'.setCell ⟨p, 0, none⟩ (.slice (some ⟨g, 0, none⟩) (G.length + 1) cap)) := (FrX.refl w').set (X := fun b => b = p) (p := ⟨p, 0, none⟩) (fun _ => rfl) _
  have hp1 : w'.cell? ⟨p, 1, none⟩ = some zC := hf1.cellv (fun e => h.nl e) h.hc
  have hp0 : w'.cell? ⟨p, 0, none⟩ = some zL := hf1.cellv (fun e => h.nl e) h.hl
  have hkk : ∀ y, KIn lo (fun b => Own3 p zL zC b ∨ Y b) w y → KIn lo (fun b => Own3 p (.slice (some ⟨g, 0, none⟩) (G.length + 1) cap) zC b ∨ Y b) (w'.setCell ⟨p, 0, none⟩ (.slice (some ⟨g, 0, none⟩) (G.length + 1) cap)) y := fun y hy => hy.fr hf2 (fun b _ e => .inl (e.elim .inl fun e => .inr (.inl e))) fun b hb e => by
    rcases e with (e | e | e) | e
    · exact .inl (.inl e)
    · have e' : g = b := by simpa [Value.ownBlock] using e
      rcases hat with h' | h'
      · exact .inl (.inr (.inl (by rw [h', e'])))
      · omega
    · exact .inl (.inr (.inr e))
    · exact .inr e
  refine ⟨⟨World.cell?_setCell_same' _ _ _ (by rw [hp0]; rfl), ?_, ?_, ?_, fun i hi => ?_, by simpa [Value.ownBlock] using hgp, h.nc, fun b e => ?_, h.lp, fun j => ?_, fun i hi => ?_, by rw [List.length_append, h.cl]; rfl, by simpa using hsm⟩, hf2.mono fun b _ e => e.elim .inl (fun e => .inr (.inl e)), ?_⟩
  · rw [World.cell?_setCell_other _ _ _ _ (fun e => by injection e with _ e _; omega)]; exact hp1
  · have := hset.row hown (fun b e eb => hgp (by have e' : g = b := by simpa [Value.ownBlock] using e
                                                 rw [e', eb]))
    rw [rgcells_append]
    simpa [rgcells] using this
  · exact hset.row (hf1.row h.crow fun b e e' => h.nn b e' e) fun b e eb => h.nc (by rw [e, eb])
  · by_cases h1 : i < G.length
    · rw [nd_left h1]; exact hkk _ (h.kids i h1)
    · obtain rfl : i = G.length := by simp at hi; omega
      rw [nd_new]; exact hkk _ hk
  · have e' : g = b := by simpa [Value.ownBlock] using e
    intro e2
    exact hgC b e2 e'.symm
  · rw [World.frozen?_setCell, hf1.frozen (p := ⟨p, j, none⟩) h.lt (fun e => h.nl e)]
    exact h.fz j
  · by_cases h1 : i < G.length
    · rw [nd_left h1]; exact h.fine i h1
    · obtain rfl : i = G.length := by simp at hi; omega
      rw [nd_new]; exact hx
  · rcases hat with e | e
    · exact .inl e.symm
    · exact .inr fun b eb => by
        have e' : g = b := by simpa [Value.ownBlock] using eb
        omega
theorem Half.lt (h : Half lo Y w p zL zC G cls) : p < w.heap.size := World.block_lt_of_cell? w _ h.hl
theorem rg_of_half {o : Obj} {g cap : Nat} (h : Half lo Y w p zL zC G cls)
    (hown : w'.ownsRow lo 3 1 (.slice (some ⟨g, 0, none⟩) (cls.length + 1) cap) (cls.length + 1) (nums cls ++ [.int .i64 (cls.length : Nat)])) (hgr : (w.alloc o).grownBy w' zC.ownBlock) (hat : zC.ownBlock = some g ∨ g = (w.alloc o).heap.size) :
    RG lo Y (w'.setCell ⟨p, 1, none⟩ (.slice (some ⟨g, 0, none⟩) (cls.length + 1) cap)) p zL (.slice (some ⟨g, 0, none⟩) (cls.length + 1) cap) G (cls ++ [cls.length]) ∧ FrX (Own3 p zL zC) w (w'.setCell ⟨p, 1, none⟩ (.slice (some ⟨g, 0, none⟩) (cls.length + 1) cap)) ∧ OwnN w zC (.slice (some ⟨g, 0, none⟩) (cls.length + 1) cap) := by
  have hso : (w.alloc o).heap.size = w.heap.size + 1 := by simp
  have hgp : g ≠ p := by
    rcases hat with e | e
    · intro e'; exact h.nc (by rw [e, e'])
    · have := h.lt; omega
  have hf1 : FrX (fun b => zC.ownBlock = some b) w w' := FrX.grow ((FrX.refl w).alloc o) hgr fun b e _ => e
  have hf2 : FrX (fun b => b = p ∨ zC.ownBlock = some b) w (w'.setCell ⟨p, 1, none⟩ (.slice (some ⟨g, 0, none⟩) (cls.length + 1) cap)) := (hf1.mono (X' := fun b => b = p ∨ zC.ownBlock = some b) fun b _ e => .inr e).set (p := ⟨p, 1, none⟩) (fun _ => .inl rfl) _
  have hgL : ∀ b, zL.ownBlock = some b → b ≠ g := fun b e eg => by
    rcases hat with e' | e'
    · exact h.nn b e (by rw [e', eg])
    · have := (own_lt h.row b e).2; omega
  have hset : FrX (fun b => b = p) w' (w'.setCell ⟨p, 1, none⟩ (.slice (some ⟨g, 0, none⟩) (cls.length + 1) cap)) := (FrX.refl w').set (X := fun b => b = p) (p := ⟨p, 1, none⟩) (fun _ => rfl) _
  have hp0 : w'.cell? ⟨p, 0, none⟩ = some zL := hf1.cellv (fun e => h.nc e) h.hl
  have hp1 : w'.cell? ⟨p, 1, none⟩ = some zC := hf1.cellv (fun e => h.nc e) h.hc
  refine ⟨⟨?_, World.cell?_setCell_same' _ _ _ (by rw [hp1]; rfl), ?_, ?_, fun i hi => ?_, h.nl, by simpa [Value.ownBlock] using hgp, fun b e => ?_, h.lp, fun j => ?_, h.fine, by rw [List.length_append]; exact h.cl, h.small⟩, hf2.mono fun b _ e => e.elim .inl (fun e => .inr (.inr e)), ?_⟩
  · rw [World.cell?_setCell_other _ _ _ _ (fun e => by injection e with _ e _; omega)]; exact hp0
  · exact hset.row (hf1.row h.row fun b e e' => h.nn b e e') fun b e eb => h.nl (by rw [e, eb])
  · have := hset.row hown (fun b e eb => hgp (by have e' : g = b := by simpa [Value.ownBlock] using e
                                                 rw [e', eb]))
    rw [List.length_append]
    simpa [nums] using this
  · refine (h.kids i hi).fr hf2 (fun b _ e => .inl (e.elim .inl fun e => .inr (.inr e))) fun b hb e => ?_
    rcases e with (e | e | e) | e
    · exact .inl (.inl e)
    · exact .inl (.inr (.inl e))
    · have e' : g = b := by simpa [Value.ownBlock] using e
      rcases hat with h' | h'
      · exact .inl (.inr (.inr (by rw [h', e'])))
      · omega
    · exact .inr e
  · intro e2
    have e' : g = b := by simpa [Value.ownBlock] using e2
    exact hgL b e e'.symm
  · rw [World.frozen?_setCell, hf1.frozen (p := ⟨p, j, none⟩) h.lt (fun e => h.nc e)]
    exact h.fz j
  · rcases hat with e | e
    · exact .inl e.symm
    · exact .inr fun b eb => by
        have e' : g = b := by simpa [Value.ownBlock] using eb
        omega
end
theorem kin_row {lo base : Nat} {Z : Nat → Prop} {w : World} {zK : Value} {ks : List Nat} (h : w.ownsRow base 3 1 zK ks.length (nums ks)) (hb : lo ≤ base) (hZ : ∀ b, zK.ownBlock = some b → ¬ Z b) (tm : Tm) : ∃ A c, zK = .slice A ks.length c ∧ KIn lo Z w ⟨tm, A, c, ks, 0⟩ := by
  rcases h.2 with ⟨rfl, h1⟩ | ⟨g, cap, cur, rfl, hbg, hg, hle, hcm, _⟩
  · exact ⟨none, 0, by rw [h1], ⟨by show ks.length ≤ 0; omega, Nat.zero_le _, fun hp => by have : 0 < ks.length := hp; omega⟩⟩
  · exact ⟨_, cap, rfl, ⟨hle, hcm, fun _ => ⟨g, rfl, Nat.le_trans hb hbg, (own_lt h g rfl).2, hZ g rfl, fun j hj => nums_cell h hj⟩⟩⟩
theorem held_fx2 {X : Nat → Prop} {b : Nat} {w w' : World} {v0 v1 v2 v3 : Value} (h : Held b w v0 v1 v2 v3) (k : FrX X w w') (hX : ¬ X b) : Held b w' v0 v1 v2 v3 :=
  ⟨Nat.lt_of_lt_of_le h.lt k.size, k.cellv hX h.c0, k.cellv hX h.c1, k.cellv hX h.c2, k.cellv hX h.c3, fun j => (k.frozen (p := ⟨b, j, none⟩) h.lt hX).trans (h.free j)⟩
theorem entering_next {lo p B j i g cap : Nat} {Y : Nat → Prop} {zL zC zL' zC' zL2 zC2 zK : Value} {G G' G2 : List Nd} {cls cls' cls2 ks : List Nat} {a : List Tm} {k n : Int} {s : ByteArray} {w wr w2 w4 : World} {ob : Obj} (hj : j < a.length)
    (h1 : RG lo (fun b => Y b ∨ b = B ∨ zK.ownBlock = some b) wr p zL' zC' G' cls') (h2 : ∃ N, G' = G ++ N) (h3 : ∀ m, G.length ≤ m → m < G'.length → OkAt G' m) (h4 : clsR cls' = clsR cls) (h6 : ks.length = j)
    (h7 : ∀ m, m < j → ks.getD m 0 < G'.length ∧ (nd G' (ks.getD m 0)).tm.strip = (a.getD m default).strip) (h8 : G'.length ≤ G.length + nodesL (a.take j)) (h9 : Held B wr (.int .i64 k) (.int .i64 n) (.string s) zK) (h10 : wr.ownsRow (B + 1) 3 1 zK ks.length (nums ks))
    (h11 : FrX (Own3 p zL zC) w wr) (h12 : OwnN w zL zL') (h13 : OwnN w zC zC') (h14 : ∀ b, zK.ownBlock = some b → ¬ Own3 p zL' zC' b) (h15 : ¬ Own3 p zL' zC' B)
    (k1 : RG lo (fun b => Y b ∨ b = B ∨ zK.ownBlock = some b) w2 p zL2 zC2 G2 cls2) (k2 : ∃ N, G2 = G' ++ N) (k3 : ∀ m, G'.length ≤ m → m < G2.length → OkAt G2 m) (k4 : clsR cls2 = clsR cls') (k5 : VarU G2) (k6 : i < G2.length) (k7 : (nd G2 i).tm.strip = (a.getD j default).strip) (k8 : G2.length ≤ G'.length + (a.getD j default).nodes)
    (k9 : FrX (Own3 p zL' zC') wr w2) (k10 : OwnN wr zL' zL2) (k11 : OwnN wr zC' zC2)
    (hown : w4.ownsRow (B + 1) 3 1 (.slice (some ⟨g, 0, none⟩) (ks.length + 1) cap) (ks.length + 1) (nums ks ++ [.int .i64 (i : Nat)])) (hgr : (w2.alloc ob).grownBy w4 zK.ownBlock) (hat : zK.ownBlock = some g ∨ g = (w2.alloc ob).heap.size) (hw : w.heap.size ≤ B) :
    Entering lo Y p zL zC G cls a k n s w B (j + 1) (.slice (some ⟨g, 0, none⟩) (ks.length + 1) cap) (w4.setCell ⟨B, 3, none⟩ (.slice (some ⟨g, 0, none⟩) (ks.length + 1) cap)) := by
  obtain ⟨N, rfl⟩ := h2
  obtain ⟨M, rfl⟩ := k2
  have hso : (w2.alloc ob).heap.size = w2.heap.size + 1 := by simp
  have hBlt := h9.lt
  have hB2 : ¬ Own3 p zL2 zC2 B := fun e => h15 (own3_back k10 k11 hBlt e)
  have hK2 : ∀ b, zK.ownBlock = some b → ¬ Own3 p zL2 zC2 b := fun b eb e => h14 b eb (own3_back k10 k11 (own_lt h10 b eb).2 e)
  have hg2 : ¬ Own3 p zL2 zC2 g := by
    rcases hat with e | e
    · exact hK2 g e
    · intro e2; have := (k1.ownlt e2).2; omega
  have hgB : g ≠ B := by
    rcases hat with e | e
    · have := (own_lt h10 g e).1; omega
    · have := k9.size; omega
  have hf4 : FrX (fun b => zK.ownBlock = some b) (w2.alloc ob) w4 := FrX.grow (FrX.refl _) hgr fun b e _ => e
  have hset : FrX (fun b => b = B) w4 (w4.setCell ⟨B, 3, none⟩ (.slice (some ⟨g, 0, none⟩) (ks.length + 1) cap)) := (FrX.refl w4).set (X := fun b => b = B) (p := ⟨B, 3, none⟩) (fun _ => rfl) _
  have hbox4 : Held B w4 (.int .i64 k) (.int .i64 n) (.string s) zK := held_fx2 ((held_fx2 h9 k9 h15).alloc ob) hf4 fun e => by have := (own_lt h10 B e).1; omega
  have hrg0 : RG lo (fun b => Y b ∨ b = B ∨ zK.ownBlock = some b ∨ g = b) (w2.alloc ob) p zL2 zC2 (((G ++ N) ++ M)) cls2 := (k1.alloc ob).out fun b hb e => by
    rcases e with e | e | e | e
    · exact .inl e
    · exact .inr (.inl e)
    · exact .inr (.inr e)
    · rcases hat with h | h
      · exact .inr (.inr (e ▸ h))
      · omega
  have hrg4 : RG lo (fun b => Y b ∨ b = B ∨ zK.ownBlock = some b ∨ g = b) w4 p zL2 zC2 ((G ++ N) ++ M) cls2 := hrg0.fr hf4 fun b _ e => ⟨hK2 b e, .inr (.inr (.inl e))⟩
  have hrg5 := (hrg4.fr hset fun b _ e => ⟨by rw [e]; exact hB2, .inr (.inl e)⟩).out (Y' := fun b => Y b ∨ b = B ∨ (Value.slice (some ⟨g, 0, none⟩) (ks.length + 1) cap).ownBlock = some b) fun b _ e => by
    rcases e with e | e | e
    · exact .inl e
    · exact .inr (.inl e)
    · exact .inr (.inr (.inr (by simpa [Value.ownBlock] using e)))
  have hfr : FrX (Own3 p zL zC) w w2 := h11.trans k9 fun b hb e => own3_back h12 h13 hb e
  refine ⟨zL2, zC2, (G ++ N) ++ M, cls2, ks ++ [i], hrg5, ⟨N ++ M, by simp⟩, fun m m1 m2 => ?_, k4.trans h4, k5, by simp [h6], fun m hm => ?_, ?_, hbox4.set3 _, ?_, ?_, h12.trans k10 h11.size, h13.trans k11 h11.size, fun b e => ?_, hB2⟩
  · by_cases hm : m < (G ++ N).length
    · exact (h3 m m1 hm).left hm
    · exact k3 m (by omega) m2
  · by_cases h : m < j
    · have e : (ks ++ [i]).getD m 0 = ks.getD m 0 := by simp [List.getD, List.getElem?_append_left (show m < ks.length by omega)]
      have := h7 m h
      rw [e, nd_left this.1]
      exact ⟨by rw [List.length_append]; omega, this.2⟩
    · obtain rfl : m = j := by omega
      have e : (ks ++ [i]).getD m 0 = i := by simp [List.getD, ← h6]
      rw [e]
      exact ⟨k6, k7⟩
  · rw [nodesL_next hj]
    omega
  · have h := hset.row hown fun b e eb => hgB (by have e' : g = b := by simpa [Value.ownBlock] using e
                                                  rw [e', eb])
    rw [List.length_append]
    simpa [nums] using h
  · have h1' : FrX (fun b => Own3 p zL zC b) w (w2.alloc ob) := hfr.alloc ob
    have h2' : FrX (fun b => Own3 p zL zC b) w w4 := h1'.trans hf4 fun b hb e => by have := (own_lt h10 b e).1; omega
    exact h2'.trans hset fun b hb e => by have e' : b = B := e; omega
  · have e' : g = b := by simpa [Value.ownBlock] using e
    rw [← e']; exact hg2
theorem varu_new {G : List Nd} {x : Nd} (h : VarU G) (hx : x.tm.kind = 1 → ∀ i, i < G.length → (nd G i).tm.kind = 1 → (nd G i).tm.num ≠ x.tm.num) : VarU (G ++ [x]) := by
  intro i j hi hj hki hkj e
  have hl : (G ++ [x]).length = G.length + 1 := by simp
  by_cases h1 : i < G.length <;> by_cases h2 : j < G.length
  · rw [nd_left h1] at hki e
    rw [nd_left h2] at hkj e
    exact h i j h1 h2 hki hkj e
  · obtain rfl : j = G.length := by omega
    rw [nd_left h1] at hki e
    rw [nd_new] at hkj e
    exact absurd e (hx hkj i h1 hki)
  · obtain rfl : i = G.length := by omega
    rw [nd_left h2] at hkj e
    rw [nd_new] at hki e
    exact absurd e.symm (hx hki j h2 hkj)
  · omega
theorem enter_done {lo p B c : Nat} {Y : Nat → Prop} {zL zC zK : Value} {G : List Nd} {cls : List Nat} {a : List Tm} {k n : Int} {s : ByteArray} {A : Option Addr} {w wq wr : World}
    (h : Entering lo Y p zL zC G cls a k n s wq B a.length zK wr) (hform : (Tm.mk k n s A c a).form = true) (hf : Fits k ∧ Fits n ∧ s.size ≤ maxLen) (hno : k = 1 → ∀ i, i < G.length → (nd G i).tm.kind = 1 → (nd G i).tm.num ≠ n) (hw : Ext w wq) (hlB : lo ≤ B + 1) (hY : ∀ b, Y b → b ≤ B)
    (hsz : G.length + (Tm.mk k n s A c a).nodes ≤ 1000000) :
    ∃ (zL' zC' : Value) (G' : List Nd) (cls' : List Nat) (A' : Option Addr) (c' : Nat) (ks : List Nat), zK = .slice A' ks.length c' ∧ RG lo Y wr p zL' zC' G' cls' ∧ RFine ⟨.mk k n s A c a, A', c', ks, 0⟩ ∧ KIn lo (fun b => Own3 p zL' zC' b ∨ Y b) wr ⟨.mk k n s A c a, A', c', ks, 0⟩ ∧ G'.length + 1 ≤ 1000000 ∧
      Held B wr (.int .i64 k) (.int .i64 n) (.string s) zK ∧
      ∀ W zL2 zC2 zLm, RG lo Y W p zL2 zC2 (G' ++ [⟨.mk k n s A c a, A', c', ks, 0⟩]) (cls' ++ [cls'.length]) → FrX (fun b => Own3 p zL' zC' b ∨ Own3 p zLm zC' b) wr W → OwnN wr zL' zLm → OwnN wr zLm zL2 → OwnN wr zC' zC2 → EnterO lo Y p zL zC G cls (.mk k n s A c a) w (.returned (.int .i64 (G'.length : Nat))) W := by
  obtain ⟨zL', zC', G', cls', ks, h1, ⟨N, hN⟩, h3, h4, h5, h6, h7, h8, h9, h10, h11, h12, h13, h14, h15⟩ := h
  have hnod : (Tm.mk k n s A c a).nodes = 1 + nodesL a := rfl
  have hall : a.take a.length = a := List.take_length
  rw [hall] at h8
  have hlen : a.length ≤ nodesL a := length_le_nodes a
  obtain ⟨A', c', hz, hk⟩ := kin_row (lo := lo) (Z := fun b => Own3 p zL' zC' b ∨ Y b) h10 hlB (fun b e => by
    have h16 := h14 b e
    have h17 := own_lt h10 b e
    rintro (e2 | e2)
    · exact h16 e2
    · have := hY b e2; omega) (.mk k n s A c a)
  refine ⟨zL', zC', G', cls', A', c', ks, hz, h1.out (fun b _ e => .inl e), ⟨hf.1, hf.2.1, hf.2.2, by show ks.length ≤ 1000000; omega⟩, hk, by omega, h9, fun W zL2 zC2 zLm g1 g2 g3 g4 g5 => ?_⟩
  refine ⟨zL2, zC2, _, _, G'.length, rfl, g1, ⟨N ++ [⟨.mk k n s A c a, A', c', ks, 0⟩], by rw [hN]; simp⟩, fun j j1 j2 => ?_, by rw [clsR_more, h4], varu_new h5 (fun hk1 i hi => ?_), by simp, by rw [nd_new], by rw [List.length_append, hnod]; simp; omega, ?_, ?_, ?_⟩
  · by_cases hj : j < G'.length
    · exact (h3 j j1 hj).left hj
    · obtain rfl : j = G'.length := by simp at j2; omega
      refine ⟨by rw [nd_new]; exact hform, by rw [nd_new]; exact h6, fun m hm => ?_⟩
      rw [nd_new] at hm ⊢
      have hm' : m < ks.length := hm
      have := h7 m (by omega)
      rw [nd_left this.1]
      exact ⟨by rw [List.length_append]; exact Nat.lt_of_lt_of_le this.1 (Nat.le_add_right _ _), this.2⟩
  · have hk1' : k = 1 := hk1
    have ha : a = [] := (form_var hform hk1').2.2.2
    have hG : G' = G := by
      rw [ha] at h8
      simp only [nodesL] at h8
      have e1 := congrArg List.length hN
      rw [List.length_append] at e1
      have : N = [] := List.length_eq_zero_iff.1 (by omega)
      rw [hN, this, List.append_nil]
    rw [hG] at hi ⊢
    exact hno hk1' i hi
  · have hs1 := h11.size
    refine ((FrX.of (X := Own3 p zL zC) hw).trans h11 (fun b _ e => e)).trans g2 fun b hb e => ?_
    have hbq : b < wq.heap.size := Nat.lt_of_lt_of_le hb hw.size
    rcases e with e | e
    · exact own3_back h12 h13 hbq e
    · exact own3_back h12 h13 hbq (own3_back g3 (OwnN.refl _ _) (by omega) e)
  · have hs1 := h11.size
    have hs2 := hw.size
    have e1 : OwnN wq zL zL2 := (h12.trans g3 hs1).trans (w1 := wr) g4 hs1
    rcases e1 with e | e
    · exact .inl e
    · exact .inr fun b eb => Nat.le_trans hs2 (e b eb)
  · have hs1 := h11.size
    have hs2 := hw.size
    have e1 : OwnN wq zC zC2 := h13.trans g5 hs1
    rcases e1 with e | e
    · exact .inl e
    · exact .inr fun b eb => Nat.le_trans hs2 (e b eb)
end Go.Proofs.YtgpglgehlnfggaaGreat
namespace Go.Proofs.YtgpglgehlnfggaaGreat
open Go.RowKit
theorem Held.fr {B : Nat} {w w' : World} {v0 v1 v2 v3 : Value} {row : Option Nat} (h : Held B w v0 v1 v2 v3) (k : w.grownBy w' row) (hr : some B ≠ row) : Held B w' v0 v1 v2 v3 :=
  ⟨Nat.lt_of_lt_of_le h.lt k.size, (fr_cell k (p := ⟨B, 0, none⟩) h.lt hr).trans h.c0, (fr_cell k (p := ⟨B, 1, none⟩) h.lt hr).trans h.c1, (fr_cell k (p := ⟨B, 2, none⟩) h.lt hr).trans h.c2, (fr_cell k (p := ⟨B, 3, none⟩) h.lt hr).trans h.c3, fun j => (fr_frozen k (p := ⟨B, j, none⟩) h.lt hr).trans (h.free j)⟩
def BuildR (lo : Nat) (X : Nat → Prop) (p : Nat) (z : Value) (G : List Nd) (root r : Nat → Nat) (D i : Nat) (w : World) (e : Ending) (w' : World) : Prop :=
  ∃ (u : Tm) (H : List Nd), e = .returned u.val ∧ u.strip = sol G root D i ∧ Lie Any w.heap.size No w' u ∧ Alike G H ∧ UF H root r ∧ Gph lo X w' p z H ∧ w.grownBy w' z.ownBlock
def NodeBox (lo : Nat) (X : Nat → Prop) (p : Nat) (z : Value) (G : List Nd) (root r : Nat → Nat) (x : Nd) (w : World) (bx : Nat) (W : World) : Prop :=
  (∃ H, Alike G H ∧ UF H root r ∧ Gph lo X W p z H) ∧ w.grownBy W z.ownBlock ∧ w.heap.size < bx ∧ bx < W.heap.size ∧
    W.cell? ⟨bx, 0, none⟩ = some (.int .i64 x.tm.kind) ∧ W.cell? ⟨bx, 1, none⟩ = some (.int .i64 x.tm.num) ∧ W.cell? ⟨bx, 2, none⟩ = some (.string x.tm.name) ∧ W.cell? ⟨bx, 3, none⟩ = some (.slice x.tm.at_ x.tm.args.length x.tm.cap) ∧
    W.cell? ⟨bx, 4, none⟩ = some (.slice x.A x.kids.length x.cap) ∧ Held w.heap.size W (.int .i64 0) (.int .i64 0) (.string ⟨#[]⟩) (.slice none 0 0)
section
variable {lo p : Nat} {X : Nat → Prop} {z : Value} {G H H2 : List Nd} {root r : Nat → Nat} {x : Nd} {w w2 : World} {o : Obj}
theorem NodeBox.drew {bx : Nat} {W : World} (h : NodeBox lo X p z G root r x w bx W) : NodeBox lo X p z G root r x w bx W.drew := by
  obtain ⟨⟨H, h1, h2, h3⟩, h4, h5⟩ := h
  exact ⟨⟨H, h1, h2, h3.drew⟩, fr_drew h4, h5.1, h5.2.1, h5.2.2.1, h5.2.2.2.1, h5.2.2.2.2.1, h5.2.2.2.2.2.1, h5.2.2.2.2.2.2.1, ⟨h5.2.2.2.2.2.2.2.lt, h5.2.2.2.2.2.2.2.c0, h5.2.2.2.2.2.2.2.c1, h5.2.2.2.2.2.2.2.c2, h5.2.2.2.2.2.2.2.c3, h5.2.2.2.2.2.2.2.free⟩⟩
end
theorem Alike.flip {G H I : List Nd} (h : Alike G H) (k : Alike G I) : Alike H I := ⟨k.len.trans h.len.symm, fun i hi => by
  rw [h.len] at hi
  obtain ⟨a, ha⟩ := h.2 i hi
  obtain ⟨b, hb⟩ := k.2 i hi
  exact ⟨b, by rw [ha, hb]⟩⟩
theorem RowT.fr {lo : Nat} {w w' : World} {v : Value} {ts : List Tm} {row : Option Nat} (h : RowT Any lo w v ts) (k : w.grownBy w' row) (hr : ∀ b, row = some b → b < lo) : RowT Any lo w' v ts := by
  refine ⟨World.ownsRow.kept h.1 k ?_, fun x hx => (h.2 x hx).less k.size fun b h1 h2 h3 => ⟨h1, h3, k.block b h2 (fun e => by have := hr b e.symm; omega)⟩⟩
  cases hv : v.ownBlock with
  | none => exact .inl rfl
  | some b =>
    refine .inr fun e => ?_
    have h1 := (own_lt h.1 b hv).1
    have h2 := hr b e.symm
    omega
structure Building (lo : Nat) (X : Nat → Prop) (p : Nat) (z : Value) (G : List Nd) (root r : Nat → Nat) (D : Nat) (lk : List Nat) (w : World) (B6 : Nat) (kx nx : Int) (sx : ByteArray) (ov : Value) (ts : List Tm) (j : Nat) (wr : World) : Prop where
  g : ∃ H, Alike G H ∧ UF H root r ∧ Gph lo X wr p z H
  fr : w.grownBy wr z.ownBlock
  res : Held w.heap.size wr (.int .i64 0) (.int .i64 0) (.string ⟨#[]⟩) (.slice none 0 0)
  box : Held B6 wr (.int .i64 kx) (.int .i64 nx) (.string sx) ov
  row : RowT Any (B6 + 1) wr ov ts
  len : ts.length = j
  is : stripL ts = (lk.take j).map (sol G root D)
theorem Building.next {lo p D B6 j g cap : Nat} {X : Nat → Prop} {z ov : Value} {G H0 : List Nd} {root r : Nat → Nat} {lk : List Nat} {kx nx : Int} {sx : ByteArray} {ts : List Tm} {u : Tm} {w wr w2 w4 : World} {ob : Obj}
    (h : Building lo X p z G root r D lk w B6 kx nx sx ov ts j wr) (h0 : Gph lo X w p z H0) (ha0 : Alike G H0) (hw : w.heap.size < B6) (hj : j < lk.length)
    (hG2 : ∃ H, Alike G H ∧ UF H root r ∧ Gph lo X w2 p z H) (hf2 : wr.grownBy w2 z.ownBlock) (hu : u.strip = sol G root D (lk.getD j 0)) (hl : Lie Any wr.heap.size No w2 u)
    (hown : w4.ownsRow (B6 + 1) 40 4 (.slice (some ⟨g, 0, none⟩) (ts.length + 1) cap) (ts.length + 1) (tcells ts ++ u.cells)) (hgr : (w2.alloc ob).grownBy w4 ov.ownBlock) (hat : ov.ownBlock = some g ∨ g = (w2.alloc ob).heap.size) :
    Building lo X p z G root r D lk w B6 kx nx sx (.slice (some ⟨g, 0, none⟩) (ts.length + 1) cap) (ts ++ [u]) (j + 1) (w4.setCell ⟨B6, 3, none⟩ (.slice (some ⟨g, 0, none⟩) (ts.length + 1) cap)) := by
  have hzl : ∀ b, z.ownBlock = some b → b < w.heap.size := fun b e => (own_lt h0.row b e).2
  have hvl : ∀ b, ov.ownBlock = some b → B6 + 1 ≤ b ∧ b < wr.heap.size := fun b e => own_lt h.row.1 b e
  have hB6 := h.box.lt
  have row2 : RowT Any (B6 + 1) w2 ov ts := h.row.fr hf2 fun b e => by have := hzl b e; omega
  have hu2 : Lie Any (B6 + 1) (fun k => ov.ownBlock = some k) w2 u := lie_apart h.row.1 hl (by omega) (Nat.le_refl _)
  have row4 := RowT.next row2 hu2 (below1 w2 ob) hown hgr hat
  have hnz : ∀ b, w.heap.size ≤ b → some b ≠ z.ownBlock := fun b hb e => by have := hzl b e.symm; omega
  have hnv : ∀ b, b ≤ B6 → some b ≠ ov.ownBlock := fun b hb e => by have := (hvl b e.symm).1; omega
  have hset : w4.grownBy (w4.setCell ⟨B6, 3, none⟩ (.slice (some ⟨g, 0, none⟩) (ts.length + 1) cap)) (some B6) := fr_set (fr_refl _ _) rfl _
  have hf4 : w.grownBy w4 z.ownBlock := fr_grow (fr_alloc (fr_trans h.fr hf2) ob) hgr fun b e => by have := (hvl b e).1; omega
  have hf5 : w.grownBy (w4.setCell ⟨B6, 3, none⟩ (.slice (some ⟨g, 0, none⟩) (ts.length + 1) cap)) z.ownBlock := fr_own hf4 (by show w.heap.size ≤ B6; omega) _
  refine ⟨?_, hf5, ?_, ?_, ?_, by rw [List.length_append, h.len]; rfl, ?_⟩
  · obtain ⟨H2, g1, g2, g3⟩ := hG2
    have hr4 : Gph lo X w4 p z H2 := Gph.renew h0 (ha0.flip g1) (g3.alloc ob) hf4 hgr (by
      cases hz : z.ownBlock with
      | none => exact .inl rfl
      | some b => exact .inr fun e => by have := hzl b hz; have := (hvl b e.symm).1; omega)
    exact ⟨H2, g1, g2, Gph.renew h0 (ha0.flip g1) hr4 hf5 hset (.inr fun e => hnz B6 (by omega) e.symm)⟩
  · exact (((h.res.fr hf2 (hnz _ (Nat.le_refl _))).alloc ob).fr hgr (hnv _ (by omega))).other (p := ⟨B6, 3, none⟩) (by show B6 ≠ w.heap.size; omega) _
  · exact (((h.box.fr hf2 (hnz _ (by omega))).alloc ob).fr hgr (hnv _ (Nat.le_refl _))).set3 _
  · refine row4.fr hset fun b e => by injection e with e; omega
  · rw [nat_take_next hj, List.map_append, stripL_append, h.is]
    simp [stripL, hu]
end Go.Proofs.YtgpglgehlnfggaaGreat
namespace Go.Proofs.YtgpglgehlnfggaaGreat
open Go.RowKit
theorem wrap_small {n : Nat} (h : n ≤ 1000000) : IntKind.i64.wrap ((n : Nat) : Int) = ((n : Nat) : Int) := by
  unfold IntKind.wrap
  simp [IntKind.bits, IntKind.signed]
  omega
structure PreE (lo : Nat) (Y : Nat → Prop) (p : Nat) (zL zC : Value) (G : List Nd) (cls : List Nat) (k n : Int) (s : ByteArray) (A : Option Addr) (l c : Nat) (w wr : World) : Prop where
  g : RG lo Y wr p zL zC G cls
  b : Held w.heap.size wr (.int .i64 k) (.int .i64 n) (.string s) (.slice A l c)
  e : Ext w wr
  no : k = 1 → ∀ i, i < G.length → (nd G i).tm.kind = 1 → (nd G i).tm.num ≠ n
theorem EnterO.same {lo p i : Nat} {Y : Nat → Prop} {zL zC : Value} {G : List Nd} {cls : List Nat} {t : Tm} {w W : World} (hg : RG lo Y W p zL zC G cls) (hv : VarU G) (hW : Ext w W) (hi : i < G.length) (ht : (nd G i).tm.strip = t.strip) : EnterO lo Y p zL zC G cls t w (.returned (.int .i64 (i : Nat))) W :=
  ⟨zL, zC, G, cls, i, rfl, hg, ⟨[], by simp⟩, fun j h1 h2 => by omega, rfl, hv, hi, ht, by omega, FrX.of hW, OwnN.refl _ _, OwnN.refl _ _⟩
set_option maxHeartbeats 8000000 in
set_option maxRecDepth 100000 in
theorem enter_at (w0 : World) (p : Nat) (t : Tm) : ∀ (Y : Nat → Prop) (G : List Nd) (cls : List Nat) (zL zC : Value) (w : World), t.At w0 → t.form = true → Ext w0 w → RG w0.heap.size Y w p zL zC G cls → (∀ i, i < G.length → (nd G i).tm.form = true) → VarU G → (∀ b, Y b → b < w.heap.size) → G.length + t.nodes ≤ 1000000 →
    Calls Tryz.prog 163 #[.pointer (some ⟨p, 0, none⟩), t.val] w (EnterO w0.heap.size Y p zL zC G cls t w) := by
  induction t using Tm.induct with
  | h k n s A c a ih =>
    intro Y G cls zL zC w hat hform hbw hg hfm hvu hY hsz
    show Calls Tryz.prog 163 #[.pointer (some ⟨p, 0, none⟩), .agg #[.int .i64 k, .int .i64 n, .string s, .slice A a.length c]] w _
    obtain ⟨⟨zA, ca, rfl, _⟩, zB, cb, rfl, _⟩ := hg.slices
    have hfits := ((At_iff _ _).1 hat).1
    simp only [Tm.kind, Tm.num, Tm.name] at hfits
    have hsm := hg.small
    have hnod : (Tm.mk k n s A c a).nodes = 1 + nodesL a := rfl
    have hln : a.length ≤ 1000000 := by have := length_le_nodes a; omega
    have c0 := al1 hg.hl (.cells #[.int .i64 k, .int .i64 n, .string s, .slice A a.length c] 40)
    have HLS := Lib.hid (show Lst w0 A a c from hat.lst)
    have HF := Lib.hid hform
    have HBW := Lib.hid hbw
    have HFM := Lib.hid hfm
    have HVU := Lib.hid hvu
    have HG0 := Lib.hid hg
    have QI := Lib.hid ih
    have HSZ := Lib.hid hsz
    have HP0 := Lib.hid (show RG w0.heap.size Y (w.alloc (.cells #[.int .i64 k, .int .i64 n, .string s, .slice A a.length c] 40)) p (.slice zA G.length ca) (.slice zB G.length cb) G cls ∧ Held w.heap.size (w.alloc (.cells #[.int .i64 k, .int .i64 n, .string s, .slice A a.length c] 40)) (.int .i64 k) (.int .i64 n) (.string s) (.slice A a.length c) ∧ Ext w (w.alloc (.cells #[.int .i64 k, .int .i64 n, .string s, .slice A a.length c] 40)) from ⟨hg.alloc _, held_new w _, Ext.al _ _⟩)
    clear ih hat hform hbw hg hfm hvu hsz hnod
    by_cases hk : k = 1
    case' pos =>
      have hkb : (k == 1) = true := by simpa using hk
      have HK := Lib.hid hk
      clear hk
      have HS0 := Lib.hid (show (RG w0.heap.size Y (w.alloc (.cells #[.int .i64 k, .int .i64 n, .string s, .slice A a.length c] 40)) p (.slice zA G.length ca) (.slice zB G.length cb) G cls ∧ Held w.heap.size (w.alloc (.cells #[.int .i64 k, .int .i64 n, .string s, .slice A a.length c] 40)) (.int .i64 k) (.int .i64 n) (.string s) (.slice A a.length c) ∧ Ext w (w.alloc (.cells #[.int .i64 k, .int .i64 n, .string s, .slice A a.length c] 40))) ∧ ∀ i, i < 0 → (nd G i).tm.kind = 1 → (nd G i).tm.num ≠ n from ⟨HP0.out, fun i hi => by omega⟩)
      clear HP0
      go_enter Tryz.func163, Tryz.ntmps163
      go_wp2_with fail
      go_loopw [5] (fun s5 wr => ∃ j : Nat, j ≤ G.length ∧ s5 = .int .i64 (j : Nat) ∧ Hid ((RG w0.heap.size Y wr p (.slice zA G.length ca) (.slice zB G.length cb) G cls ∧ Held w.heap.size wr (.int .i64 k) (.int .i64 n) (.string s) (.slice A a.length c) ∧ Ext w wr) ∧ ∀ i, i < j → (nd G i).tm.kind = 1 → (nd G i).tm.num ≠ n)) (fun s5 _ => G.length - (intOf s5).toNat)
      case atStart => exact ⟨0, Nat.zero_le _, rfl, HS0⟩
      case' round =>
        clear HS0 c0
        obtain ⟨j, hj, rfl, HS⟩ := hrel
        have c0 := HS.out.1.1.hl
        have b1 := HS.out.1.2.1.c1
        by_cases hlt : j < G.length
        case pos =>
          obtain ⟨q, c1, q2, c2, e1, e2, _⟩ := HS.out.1.1.form (by omega)
          injection e1 with e1 _ e1'
          injection e2 with e2 _ e2'
          subst e1 e1' e2 e2'
          have d0 := (HS.out.1.1.cells hlt).1
          have d1 := (HS.out.1.1.cells hlt).2.1
          have HD := Lib.hid (show (RG w0.heap.size Y wr.drew p (.slice (some ⟨q, 0, none⟩) G.length ca) (.slice (some ⟨q2, 0, none⟩) G.length cb) G cls ∧ Held w.heap.size wr.drew (.int .i64 k) (.int .i64 n) (.string s) (.slice A a.length c) ∧ Ext w wr.drew) from ⟨HS.out.1.1.drew, HS.out.1.2.1.below (Below.refl _ _).drew, Below.drew HS.out.1.2.2⟩)
          have HN := Lib.hid (show ((nd G j).tm.kind = 1 → (nd G j).tm.num ≠ n) → ∀ i, i < j + 1 → (nd G i).tm.kind = 1 → (nd G i).tm.num ≠ n from fun h i hi => by
            by_cases e : i = j
            · rw [e]; exact h
            · exact HS.out.2 i (by omega))
          by_cases hkj : (nd G j).tm.kind = 1
          · have hkj' : ((nd G j).tm.kind == 1) = true := by simp [hkj]
            by_cases hnj : (nd G j).tm.num = n
            · have hnj' : ((nd G j).tm.num == n) = true := by simp [hnj]
              have HE := Lib.hid (EnterO.same (t := .mk k n s A c a) HD.out.1 HVU.out HD.out.2.2 hlt (by rw [(form_var (HFM.out j hlt) hkj).1, (form_var HF.out HK.out).1, hnj]; rfl))
              clear hkj hnj HN HS
              generalize (nd G j).tm.kind = kj at *
              generalize (nd G j).tm.num = nj at *
              go_wp2_with fail
              go_region
              go_wp2_with fail
              go_ret
              exact HE.out
            · have hnj' : ((nd G j).tm.num == n) = false := by simpa using hnj
              have HE := Lib.hid (And.intro HD.out (HN.out fun _ => hnj))
              clear hkj hnj HN HS HD
              generalize (nd G j).tm.kind = kj at *
              generalize (nd G j).tm.num = nj at *
              go_wp2_with fail
              go_region
              go_wp2_with fail
              go_roundw
              case rel => exact ⟨j + 1, by omega, by go_num, HE⟩
              case measure => simp [intOf]; omega
          · have hkj' : ((nd G j).tm.kind == 1) = false := by simpa using hkj
            have HE := Lib.hid (And.intro HD.out (HN.out fun h => absurd h hkj))
            clear hkj HN HS HD
            generalize (nd G j).tm.kind = kj at *
            go_wp2_with fail
            go_region
            go_wp2_with fail
            go_roundw
            case rel => exact ⟨j + 1, by omega, by go_num, HE⟩
            case measure => simp [intOf]; omega
        case' neg =>
          have hjj : j = G.length := by omega
          subst hjj
          have HPE := Lib.hid (show PreE w0.heap.size Y p (.slice zA G.length ca) (.slice zB G.length cb) G cls k n s A a.length c w wr from ⟨HS.out.1.1, HS.out.1.2.1, HS.out.1.2.2, fun _ => HS.out.2⟩)
          clear HS b1 hlt
          go_upto_region 7 with fail
    case' neg =>
      have hk1 : (k == 1) = false := by simpa using hk
      go_enter Tryz.func163, Tryz.ntmps163
      go_upto_region 7 with fail
      have HPE := Lib.hid (show PreE w0.heap.size Y p (.slice zA G.length ca) (.slice zB G.length cb) G cls k n s A a.length c w (w.alloc (.cells #[.int .i64 k, .int .i64 n, .string s, .slice A a.length c] 40)) from ⟨HP0.out.1, HP0.out.2.1, HP0.out.2.2, fun h => absurd h hk⟩)
      clear HP0 hk1
      generalize w.alloc (.cells #[.int .i64 k, .int .i64 n, .string s, .slice A a.length c] 40) = wr at *
    all_goals
      obtain ⟨-, b0, b1, b2, b3, -⟩ := HPE.out.b
      have c0' := HPE.out.g.hl
      have hltw : w.heap.size < wr.heap.size := HPE.out.b.lt
      have HE0 := Lib.hid (show Entering w0.heap.size Y p (.slice zA G.length ca) (.slice zB G.length cb) G cls a k n s wr wr.heap.size 0 (.slice none 0 0) (wr.alloc (.cells #[.int .i64 k, .int .i64 n, .string s, .slice none 0 0] 149)) from
        ⟨_, _, G, cls, [], (HPE.out.g.out (Y' := fun b => Y b ∨ b = wr.heap.size ∨ (Value.slice none 0 0).ownBlock = some b) (fun b hb e => by
          rcases e with e | e | e
          · exact e
          · omega
          · simp [Value.ownBlock] at e)).alloc _, ⟨[], by simp⟩, fun m h1 h2 => by omega, rfl, HVU.out, rfl, fun m hm => by omega, by simp [nodesL], held_new wr _, ⟨rfl, .inl ⟨rfl, rfl⟩⟩, FrX.of (Ext.al _ _), OwnN.refl _ _, OwnN.refl _ _, fun b e => by simp [Value.ownBlock] at e, fun e => by have := (HPE.out.g.ownlt e).2; omega⟩)
      go_wp2_with fail
      rename World => wq
      obtain ⟨i1, hi1, hy0, hy1, hy2⟩ := info_parts int_info
      obtain ⟨i0, hi0, hz0, hz1, hz2⟩ := info_parts rnode_info
      go_loopw [7] (fun s7 wz => ∃ (j : Nat) (zK : Value), j ≤ a.length ∧ s7 = .int .i64 (j : Nat) ∧ Hid (Entering w0.heap.size Y p (.slice zA G.length ca) (.slice zB G.length cb) G cls a k n s wq wq.heap.size j zK wz)) (fun s7 _ => a.length - (intOf s7).toNat)
      case atStart => exact ⟨0, _, Nat.zero_le _, rfl, HE0⟩
      case round =>
        clear HE0 b0 b1 b2 b3 c0'
        obtain ⟨j, zK, hj, rfl, HE⟩ := hrel
        have HB3 := Lib.hid (show ∀ W, FrX (Own3 p (.slice zA G.length ca) (.slice zB G.length cb)) wq W → Held w.heap.size W (.int .i64 k) (.int .i64 n) (.string s) (.slice A a.length c) from fun W hW => held_fx2 HPE.out.b hW fun e => by
          have h1 := HG0.out.ownlt e
          exact absurd h1.2 (Nat.lt_irrefl _))
        by_cases hlt : j < a.length
        · obtain ⟨zL', zC', G', cls', ks, h1, h2, h3, h4, h5, h6, h7, h8, h9, h10, h11, h12, h13, h14, h15⟩ := HE.out
          have HW := Lib.hid (show Ext w0 wr from h11.ext (HBW.out.trans HPE.out.e) fun b e => (HPE.out.g.ownlt e).1)
          obtain ⟨b, o, rfl, ⟨d0, d1, d2, d3⟩, _⟩ := (HLS.out.below HW.out).get hlt
          obtain ⟨-, -, -, -, b3, -⟩ := HB3.out wr h11
          have q3 := h9.c3
          have hzB := h9.lt
          obtain ⟨x, hx⟩ : ∃ x, x = a.getD j default := ⟨_, rfl⟩
          have hxa : x ∈ a := by rw [hx]; exact getD_mem hlt
          rw [← hx] at d0 d1 d2 d3
          have hnx := nodesL_next hlt
          have htk := nodesL_take a (j + 1)
          have hnod : (Tm.mk k n s (some ⟨b, o, none⟩) c a).nodes = 1 + nodesL a := rfl
          have HQ := Lib.hid (QI.out x hxa (fun b => Y b ∨ b = wq.heap.size ∨ zK.ownBlock = some b) G' cls' zL' zC' wr.drew (HLS.out.mem hxa) (formL_mem hxa (form_args HF.out).2) (Below.drew HW.out) h1.drew (fun i hi => by
              obtain ⟨N, rfl⟩ := h2
              by_cases h1 : i < G.length
              · rw [nd_left h1]; exact HFM.out i h1
              · exact (h3 i (by omega) hi).form) h5 (fun y hy => by
              show y < wr.heap.size
              have hs := h11.size
              rcases hy with hy | hy | hy
              · have := hY y hy; have := HPE.out.e.size; omega
              · omega
              · exact (own_lt h10 y hy).2) (by
              have := HSZ.out
              rw [← hx] at hnx
              omega))
          have HNX := Lib.hid (fun zL2 zC2 G2 cls2 i w2 w4 g cap ob k1 k2 k3 k4 k5 k6 k7 k8 k9 k10 k11 hown hgr hat => entering_next (zL2 := zL2) (zC2 := zC2) (G2 := G2) (cls2 := cls2) (i := i) (w2 := w2) (w4 := w4) (g := g) (cap := cap) (ob := ob) hlt h1 h2 h3 h4 h6 h7 h8 h9 h10 h11 h12 h13 h14 h15 k1 k2 k3 k4 k5 k6 k7 k8 k9 k10 k11 hown hgr hat (Nat.le_refl _))
          have HROW := Lib.hid (fun w2 (k9 : FrX (Own3 p zL' zC') wr w2) => show w2.ownsRow (wq.heap.size + 1) 3 1 zK ks.length (nums ks) ∧ Held wq.heap.size w2 (.int .i64 k) (.int .i64 n) (.string s) zK from ⟨k9.row h10 (fun b e => h14 b e), held_fx2 h9 k9 h15⟩)
          have HKL := Lib.hid (fun b e => own_lt h10 b e)
          have HX2 := Lib.hid hx
          have hkl : ks.length ≤ 1000000 := by omega
          clear h1 h2 h3 h4 h5 h6 h7 h8 h9 h10 h11 h12 h13 h14 h15 hxa hx hnx htk hnod HE
          obtain ⟨kx, nx, sx, Ax, cx, lx⟩ := x
          simp only [Tm.kind, Tm.num, Tm.name, Tm.at_, Tm.args, Tm.cap] at d0 d1 d2 d3
          go_wp2_with fail
          go_region_law (first
            | (go_simp; go_at_call 163; refine (HQ.out).mono ?_; rintro e w2 ⟨zL2, zC2, G2, cls2, i, rfl, m1, m2, m3, m4, m5, m6, m7, m8, m9, m10, m11⟩; have M9 := Lib.hid (FrX.undrew m9); obtain ⟨or, ox⟩ := HROW.out w2 M9.out; have q4 := ox.c3; have hz4 := ox.lt; have hs4 := M9.out.size; have OR := Lib.hid or; have OX := Lib.hid ox; have MM := Lib.hid (And.intro m1 (And.intro m2 (And.intro m3 (And.intro m4 (And.intro m5 (And.intro m6 (And.intro m7 (And.intro m8 (And.intro m10 m11))))))))); clear or ox m1 m2 m3 m4 m5 m6 m7 m8 m9 m10 m11)
            | (refine step_append_lies _ (by rfl) _ _ _ (by rfl) (wq.heap.size + 1) 3 i1 _ 1 8 Tryz.underlying73 hi1 hy0 hy1 hy2 rfl (by omega) zK ks.length (nums ks) (by rfl) (own_below OR.out (below1 w2 _)) ⟨w2.heap.size, 0, none⟩ 1 1 [.int .i64 (i : Nat)] (by rfl) (by rfl) (World.news_of_block (cs := #[.int .i64 (i : Nat)]) (t := 3) (fr := (0, 0)) (heap_alloc_new w2 _)) (by simp [Value.oneCell']) (by omega) (by unfold maxLen; omega) (by omega) (by simp; omega) (w2.heap.size + 1) (by simp) ?_; intro g cp w4 hown hgrow hat hgl; have B4 := Lib.hid (((OX.out).alloc (.cells #[.int .i64 (i : Nat)] 3)).fr hgrow (fun e => by have := (HKL.out _ e.symm).1; omega)); have q5 := B4.out.c3; have f5 := B4.out.free 3; have hz5 := B4.out.lt))
          all_goals
            have HD := Lib.hid (HNX.out zL2 zC2 G2 cls2 i w2 w4 g cp _ MM.out.1 MM.out.2.1 MM.out.2.2.1 MM.out.2.2.2.1 MM.out.2.2.2.2.1 MM.out.2.2.2.2.2.1 (by rw [← HX2.out]; exact MM.out.2.2.2.2.2.2.1) (by rw [← HX2.out]; exact MM.out.2.2.2.2.2.2.2.1) M9.out MM.out.2.2.2.2.2.2.2.2.1 MM.out.2.2.2.2.2.2.2.2.2 hown hgrow (by rcases hat with h | h; exact .inl h; exact .inr (by rw [h]; simp)))
            clear hown hgrow hat hgl B4 OR OX MM HNX HROW HQ
            go_wp2_with fail
            go_roundw
            case rel => exact ⟨j + 1, _, by omega, by go_num, HD⟩
            case measure => simp [intOf]; omega
        · obtain rfl : j = a.length := by omega
          obtain ⟨_, _, _, _, _, _, _, _, _, _, _, _, _, _, _, e11, _⟩ := HE.out
          obtain ⟨-, -, -, -, tb3, -⟩ := HB3.out wr e11
          clear e11
          obtain ⟨zL', zC', G', cls', A', c', ks, rfl, h1, h2, h3, h4, h5, h6⟩ := enter_done HE.out HF.out hfits HPE.out.no HPE.out.e (by have := HBW.out.size; have := HPE.out.e.size; omega) (fun b hb => by have := hY b hb; omega) HSZ.out
          obtain ⟨⟨zA', ca', rfl, _⟩, zB', cb', rfl, _⟩ := h1.slices
          have HH1 := Lib.hid h1
          have HH2 := Lib.hid h2
          have HH3 := Lib.hid h3
          have HH6 := Lib.hid h6
          have hcl' : cls'.length = G'.length := h1.cl
          have p0 := h1.hl
          have p0x := al1 p0
          obtain ⟨-, b0, b1, b2, b3, -⟩ := h5
          have b0x := al1 b0
          have b1x := al1 b1
          have b2x := al1 b2
          have b3x := al1 b3
          have fz0 := h1.fz 0
          have hpl := h1.lt
          have hw0 : w0.heap.size ≤ wr.heap.size := Nat.le_trans h1.lp (Nat.le_of_lt hpl)
          clear h1 h2 h3 h6 HE QI HB3
          go_upto_region 12 with fail
          go_cut [6] from 69 to 78 (fun s6 W => s6 = .pointer (some ⟨wq.heap.size, 0, none⟩) ∧ Hid (∃ g cp, Half w0.heap.size Y W p (.slice (some ⟨g, 0, none⟩) (G'.length + 1) cp) (.slice zB' G'.length cb') (G' ++ [⟨.mk k n s A c a, A', c', ks, 0⟩]) cls' ∧ FrX (Own3 p (.slice zA' G'.length ca') (.slice zB' G'.length cb')) wr W ∧ OwnN wr (.slice zA' G'.length ca') (.slice (some ⟨g, 0, none⟩) (G'.length + 1) cp)))
          case first =>
            go_region_law (first
              | (refine step_append_lies _ (by rfl) _ _ _ (by rfl) w0.heap.size 149 i0 _ 4 56 Tryz.underlying142 hi0 hz0 hz1 hz2 rfl (by omega) (.slice zA' G'.length ca') G'.length (rgcells G') (by rfl) (HH1.out.row.alloc _) ⟨wr.heap.size, 0, none⟩ 1 1 [.int .i64 k, .int .i64 n, .string s, .slice A' ks.length c'] (by rfl) (by rfl) (World.news_of_block (cs := #[.int .i64 k, .int .i64 n, .string s, .slice A' ks.length c']) (t := 149) (fr := (0, 0)) (heap_alloc_new wr _)) (by simp [Value.oneCell']) (by omega) (by unfold maxLen; omega) (by omega) (by simp; omega) (wr.heap.size + 1) (by simp) ?_; intro g cp w5 hown hgrow hat hgl; have p5 := (fr_cell (fr_trans (World.grownBy_alloc wr _ _) (undrew_gr hgrow)) (p := ⟨p, 0, none⟩) hpl (fun e => HH1.out.nl e.symm)).trans p0; have fz5 := (fr_frozen (fr_trans (World.grownBy_alloc wr _ _) (undrew_gr hgrow)) (p := ⟨p, 0, none⟩) hpl (fun e => HH1.out.nl e.symm)).trans fz0))
            all_goals
              have HHF := Lib.hid (half_of (x := ⟨.mk k n s A c a, A', c', ks, 0⟩) HH1.out HH2.out HH3.out h4 hown (undrew_gr hgrow) (by rcases hat with h | h; exact .inl h; exact .inr (by rw [h]; simp)))
              go_wp2_with fail
              go_meet
              exact ⟨rfl, Lib.hid ⟨_, _, HHF.out⟩⟩
          case rest =>
            obtain ⟨rfl, hx⟩ := hcut
            obtain ⟨g, cp, hx⟩ := hx.out
            have HHF := Lib.hid hx
            clear hx
            have l0 := HHF.out.1.hl
            have l1 := HHF.out.1.hc
            have fz1 := HHF.out.1.fz 1
            have hph := HHF.out.1.lt
            have hlh := HHF.out.1.lp
            clear p0 p0x b0 b0x b1 b1x b2 b2x b3 b3x fz0
            rename World => wh
            have hwr : IntKind.i64.wrap ((G'.length : Nat) : Int) = ((G'.length : Nat) : Int) := wrap_small (by omega)
            have l0x := al1 l0
            have l1x := al1 l1
            go_wp2_with fail
            go_region_law (first
              | (refine step_append_lies _ (by rfl) _ _ _ (by rfl) w0.heap.size 3 i1 _ 1 8 Tryz.underlying73 hi1 hy0 hy1 hy2 rfl (by omega) (.slice zB' G'.length cb') cls'.length (nums cls') (by rfl) ((own_below HHF.out.1.crow (below1 wh _)).drew) ⟨wh.heap.size, 0, none⟩ 1 1 [.int .i64 (G'.length : Nat)] (by rfl) (by rfl) (World.news_of_block (cs := #[.int .i64 (G'.length : Nat)]) (t := 3) (fr := (0, 0)) (by exact heap_alloc_new wh (.cells #[.int .i64 (G'.length : Nat)] 3))) (by simp [Value.oneCell']) (by omega) (by unfold maxLen; omega) (by omega) (by simp; omega) (wh.heap.size + 1) (by simp) ?_; intro g2 cp2 w6 hown hgrow hat hgl; have p6 := (fr_cell (fr_trans (World.grownBy_alloc wh _ _) (undrew_gr hgrow)) (p := ⟨p, 1, none⟩) hph (fun e => HHF.out.1.nc e.symm)).trans l1; have fz6 := (fr_frozen (fr_trans (World.grownBy_alloc wh _ _) (undrew_gr hgrow)) (p := ⟨p, 1, none⟩) hph (fun e => HHF.out.1.nc e.symm)).trans fz1))
            all_goals
              have HRG := Lib.hid (rg_of_half HHF.out.1 (by rw [hcl'] at hown ⊢; exact hown) (undrew_gr hgrow) (by rcases hat with h | h; exact .inl h; exact .inr (by rw [h]; simp)))
              rw [hcl'] at HRG
              have p60 := (fr_cell (fr_trans (World.grownBy_alloc wh _ _) (undrew_gr hgrow)) (p := ⟨p, 0, none⟩) hph (fun e => HHF.out.1.nc e.symm)).trans l0
              have HE := Lib.hid (HH6.out _ _ _ _ (by rw [hcl']; exact HRG.out.1) ((HHF.out.2.1.mono (X' := fun b => Own3 p (.slice zA' G'.length ca') (.slice zB' G'.length cb') b ∨ Own3 p (.slice (some ⟨g, 0, none⟩) (G'.length + 1) cp) (.slice zB' G'.length cb') b) (fun b _ e => .inl e)).trans HRG.out.2.1 (fun b _ e => .inr e)) HHF.out.2.2 (OwnN.refl _ _) (by
                rcases HRG.out.2.2 with e | e
                · exact .inl e
                · exact .inr fun b eb => Nat.le_trans HHF.out.2.1.size (e b eb)))
              clear hown hgrow hat hgl HRG l0x l1x l0 l1
              go_wp2_with fail
              go_ret
              exact HE.out
end Go.Proofs.YtgpglgehlnfggaaGreat
