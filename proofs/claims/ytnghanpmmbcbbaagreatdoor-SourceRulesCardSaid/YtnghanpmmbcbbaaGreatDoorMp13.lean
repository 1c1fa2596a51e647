/-
  SnMap.
  SnCopy.
  SnTerm.
  SnAtoms.
  SnGoals.
-/
import Derived.Test.YtnghanpmmbcbbaaGreatDoorMp10
import Derived.Test.YtnghanpmmbcbbaaGreatDoorMp7
import Derived.Test.YtnghanpmmbcbbaaGreatDoorMp8
import Derived.Maps.OwnOps
import Derived.Maps.OwnSet
import Derived.Maps.Views
import Derived.Test.YtnghanpmmbcbbaaGreatDoorMp12
namespace Go.Proofs.YtnghanpmmbcbbaaGreatDoor
open Go.RowKit Go.Maps
theorem place_addV {l : List Int} {x v : Int} (hv : v ∈ l) : placeS (addV l x) v = placeS l v := by
  unfold addV
  split
  · rfl
  · unfold placeS
    rw [if_pos hv, if_pos (List.mem_append_left _ hv), List.idxOf_append, if_pos hv]
theorem place_addAll {v : Int} : ∀ (xs l : List Int), v ∈ l → placeS (addAll l xs) v = placeS l v
  | [], _, _ => rfl
  | x :: r, l, h => by rw [addAll_cons, place_addAll r _ ((mem_addV _ _ _).2 (.inl h)), place_addV h]
theorem place_self {l : List Int} {x : Int} (hx : x ∉ l) : placeS (l ++ [x]) x = (l.length : Int) := by
  unfold placeS
  rw [if_pos (by simp), List.idxOf_append, if_neg hx]
  simp
def IntMap (D : DataW Unit) (ns : List Int) : Prop :=
  Tidy D ∧ Maps.size D = ns.length ∧ (∀ n : Int, Maps.has D (.int .i64 n) = decide (n ∈ ns)) ∧ ∀ n ∈ ns, D.atKey (.int .i64 n) (.lit (.int .i64 0)) = .lit (.int .i64 (placeS ns n))
theorem IntMap.nil : IntMap (.map []) [] := ⟨tidy_empty, rfl, fun s => by simp [has_eq], fun s h => by cases h⟩
theorem IntMap.put {D : DataW Unit} {ns : List Int} (h : IntMap D ns) {x : Int} (hx : x ∉ ns) : IntMap (D.put (.int .i64 x) (.lit (.int .i64 (ns.length : Int)))) (ns ++ [x]) := by
  refine ⟨h.1.put (by simp [WideAt.IsKeyLit]) _, ?_, fun n => ?_, fun n hm => ?_⟩
  · rw [size_put h.1, h.2.2.1 x, h.2.1]
    simp [hx]
  · by_cases e : n = x
    · subst e
      rw [has_put_same h.1.isMap (by simp [WideAt.IsKeyLit])]
      simp
    · rw [has_put_other (fun e2 => e (by injection e2)), h.2.2.1 n]
      simp [e]
  · by_cases e : n = x
    · subst e
      rw [atKey_put_same h.1.isMap (by simp [WideAt.IsKeyLit]), place_self hx]
    · have hm2 : n ∈ ns := by simpa [e] using hm
      rw [atKey_put_other (fun e2 => e (by injection e2)), h.2.2.2 n hm2]
      unfold placeS
      rw [if_pos hm2, if_pos hm, List.idxOf_append, if_pos hm2]
def NumM (w : World) (b : Nat) (ns : List Int) : Prop := ∃ D, IntMap D ns ∧ w.ownsMap Tryz.prog 3 (plainElem Tryz.prog 3) b ns.length D
section
variable {w w' : World} {b : Nat} {ns : List Int}
theorem NumM.of (h : NumM w b ns) (hb : w'.heap[b]? = w.heap[b]?) : NumM w' b ns := by
  obtain ⟨D, hD, es, clock, e1, e2⟩ := h
  exact ⟨D, hD, es, clock, by rw [hb]; exact e1, e2⟩
theorem NumM.lt (h : NumM w b ns) : b < w.heap.size := by
  obtain ⟨D, hD, es, clock, e1, e2⟩ := h
  rcases Nat.lt_or_ge b w.heap.size with h | h
  · exact h
  · rw [Array.getElem?_eq_none h] at e1; cases e1
theorem NumM.below (h : NumM w b ns) (hb : Below w.heap.size w w') : NumM w' b ns := h.of (hb.block b h.lt)
theorem NumM.set (h : NumM w b ns) {p : Addr} (hp : p.block ≠ b) (v : Value) : NumM (w.setCell p v) b ns := h.of (Below.heap_setCell _ _ _ _ (Ne.symm hp))
theorem NumM.set4 (h : NumM w b ns) {g q0 q1 q2 q3 : Nat} (hg : g ≠ b) (u0 u1 u2 u3 : Value) : NumM ((((w.setCell ⟨g, q0, none⟩ u0).setCell ⟨g, q1, none⟩ u1).setCell ⟨g, q2, none⟩ u2).setCell ⟨g, q3, none⟩ u3) b ns := h.of (heap_set4 _ (Ne.symm hg) _ _ _ _)
end
theorem mzero_int (w : World) : (zeroValue 3).run Tryz.prog w = .ok (.int .i64 0) w := by kernel_rfl
section
variable {R g lo j : Nat} {w w' wr : World} {l : List Tm} {f : Tm → Tm}
theorem Row4.keeps (h : Row4 w g l) (k : Keeps R w w') (hR : g ≠ R) : Row4 w' g l :=
  ⟨Nat.lt_of_lt_of_le h.1 k.size, fun j => (k.frozen (p := ⟨g, j, none⟩) h.1 hR).trans (h.2.1 j), fun i j u hi hu => (k.cell (p := ⟨g, 4 * i + j, none⟩) h.1 hR).trans (h.2.2 i j u hi hu)⟩
theorem Putting.keeps (h : Putting f l g lo j wr) (k : Keeps R wr w') (hR : R < lo) (hg : g ≠ R) : Putting f l g lo j w' := by
  obtain ⟨news, hn, hs, hr, hk⟩ := h
  exact ⟨news, hn, hs, hr.keeps k hg, fun x hx => (hk x hx).keeps k (.inl hR)⟩
theorem Held.keeps {B : Nat} {v0 v1 v2 v3 : Value} (h : Held B w v0 v1 v2 v3) (k : Keeps R w w') (hB : B ≠ R) : Held B w' v0 v1 v2 v3 :=
  ⟨Nat.lt_of_lt_of_le h.lt k.size, (k.cell (p := ⟨B, 0, none⟩) h.lt hB).trans h.c0, (k.cell (p := ⟨B, 1, none⟩) h.lt hB).trans h.c1, (k.cell (p := ⟨B, 2, none⟩) h.lt hB).trans h.c2, (k.cell (p := ⟨B, 3, none⟩) h.lt hB).trans h.c3, fun j => (k.frozen (p := ⟨B, j, none⟩) h.lt hB).trans (h.free j)⟩
theorem HeldL.keeps {B : Nat} {vs : List Value} (h : HeldL B w vs) (k : Keeps R w w') (hB : B ≠ R) : HeldL B w' vs :=
  ⟨Nat.lt_of_lt_of_le h.lt k.size, fun j v hv => (k.cell (p := ⟨B, j, none⟩) h.lt hB).trans (h.cell j v hv), fun j => (k.frozen (p := ⟨B, j, none⟩) h.lt hB).trans (h.free j)⟩
theorem LP.keeps {P : World → Prop} (h : LP P lo w) (k : Keeps R w w') (hR : R < lo) : LP P lo w' := fun W hW => h W fun b h1 h2 h3 => (hW b h1 (Nat.lt_of_lt_of_le h2 k.size) h3).trans (k.block b h2 (by omega))
theorem putting_next_k {w2 : World} {u x : Tm} (h : Putting f l g lo j wr) (hj : j < l.length) (hx : x = l.getD j default) (hlo : lo ≤ wr.heap.size) (hu : u.strip = (f x).strip) (hst : Lie Any wr.heap.size No w2 u) (hb : Keeps R wr w2) (hR : R < lo) (hgR : g ≠ R) (w3 : World)
    (h3 : w3 = (((w2.setCell ⟨g, j * 4, none⟩ (.int .i64 u.kind)).setCell ⟨g, j * 4 + 1, none⟩ (.int .i64 u.num)).setCell ⟨g, j * 4 + 2, none⟩ (.string u.name)).setCell ⟨g, j * 4 + 3, none⟩ (.slice u.at_ u.args.length u.cap)) :
    Putting f l g lo (j + 1) w3 := by
  have hg := h.lt
  obtain ⟨news, hn, hs, hr, hk⟩ := h
  have hlen : (news ++ l.drop j).length = l.length := by simp; omega
  have hr2 := hr.keeps hb hgR
  have hr3 := hr2.store (i := j) (by omega) u
  rw [← h3] at hr3
  have hset : (news ++ l.drop j).set j u = (news ++ [u]) ++ l.drop (j + 1) := by
    rw [List.set_append_right _ _ (by omega), hn, Nat.sub_self, List.drop_eq_getElem_cons hj, List.set_cons_zero, List.append_assoc]
    rfl
  rw [hset] at hr3
  have hset4 : ∀ y : Tm, Lie Any lo (Is g) w2 y → Lie Any lo (Is g) w3 y := fun y hy => by
    rw [h3]
    exact (((hy.set (p := ⟨g, j * 4, none⟩) (.inr rfl) _).set (p := ⟨g, j * 4 + 1, none⟩) (.inr rfl) _).set (p := ⟨g, j * 4 + 2, none⟩) (.inr rfl) _).set (p := ⟨g, j * 4 + 3, none⟩) (.inr rfl) _
  refine ⟨news ++ [u], by simp [hn], ?_, hr3, fun y hy => hset4 y ?_⟩
  · rw [ttake_next hj, List.map_append, stripL_append, stripL_append, hs, ← hx]
    simp [stripL, hu]
  · rcases List.mem_append.1 hy with hy | hy
    · exact (hk y hy).keeps hb (.inl hR)
    · obtain rfl : y = u := by simpa using hy
      exact (hst.new_is hg).low hlo
theorem Row4.store1 (h : Row4 w g l) {i : Nat} (hi : i < l.length) (u : Tm) (h0 : u.kind = (l.getD i default).kind) (h1 : u.num = (l.getD i default).num) (h2 : u.name = (l.getD i default).name) :
    Row4 (w.setCell ⟨g, i * 4 + 3, none⟩ (.slice u.at_ u.args.length u.cap)) g (l.set i u) := by
  refine ⟨by simpa using h.1, fun j => by rw [World.frozen?_setCell]; exact h.2.1 j, fun i' j v hi' hv => ?_⟩
  rw [List.length_set] at hi'
  have hj : j < 4 := by
    have := (List.getElem?_eq_some_iff.1 hv).1
    simpa [Tm.cells] using this
  by_cases e : i' = i
  · subst e
    have ev : (l.set i' u).getD i' default = u := by simp [List.getD, hi']
    rw [ev] at hv
    by_cases e3 : j = 3
    · subst e3
      obtain rfl : v = .slice u.at_ u.args.length u.cap := by
        have : u.cells[3]? = some (.slice u.at_ u.args.length u.cap) := rfl
        rw [this] at hv; exact (Option.some.inj hv).symm
      rw [Nat.mul_comm 4]
      exact World.cell?_setCell_same' _ _ _ (h.some_cell hi 3 (by omega))
    · rw [World.cell?_setCell_other _ _ _ _ (fun e2 => by injection e2 with _ e2 _; omega)]
      refine h.2.2 i' j v hi' ?_
      rw [← hv]
      match j, hj, e3 with
      | 0, _, _ => simp only [Tm.cells, h0]; rfl
      | 1, _, _ => simp only [Tm.cells, h1]; rfl
      | 2, _, _ => simp only [Tm.cells, h2]; rfl
      | 3, _, e3 => exact absurd rfl e3
  · have ev : (l.set i u).getD i' default = l.getD i' default := by simp [List.getD, Ne.symm e]
    rw [ev] at hv
    rw [World.cell?_setCell_other _ _ _ _ (fun e2 => by injection e2 with _ e2 _; omega)]
    exact h.2.2 i' j v hi' hv
theorem putting_next1 {w2 : World} {u x : Tm} (h : Putting f l g lo j wr) (hj : j < l.length) (hx : x = l.getD j default) (hlo : lo ≤ wr.heap.size) (h0 : u.kind = x.kind) (h1 : u.num = x.num) (h2 : u.name = x.name) (hu : u.strip = (f x).strip) (hst : Lie Any wr.heap.size No w2 u) (hb : Below wr.heap.size wr w2) (w3 : World)
    (h3 : w3 = w2.setCell ⟨g, j * 4 + 3, none⟩ (.slice u.at_ u.args.length u.cap)) : Putting f l g lo (j + 1) w3 := by
  have hg := h.lt
  obtain ⟨news, hn, hs, hr, hk⟩ := h
  have hgx : (news ++ l.drop j).getD j default = x := by
    rw [hx]
    simp [List.getD, List.getElem?_append_right (show news.length ≤ j by omega), hn]
  have hr3 := (hr.below hb).store1 (i := j) (by simp; omega) u (by rw [hgx]; exact h0) (by rw [hgx]; exact h1) (by rw [hgx]; exact h2)
  rw [← h3] at hr3
  have hset : (news ++ l.drop j).set j u = (news ++ [u]) ++ l.drop (j + 1) := by
    rw [List.set_append_right _ _ (by omega), hn, Nat.sub_self, List.drop_eq_getElem_cons hj, List.set_cons_zero, List.append_assoc]
    rfl
  rw [hset] at hr3
  refine ⟨news ++ [u], by simp [hn], ?_, hr3, fun y hy => ?_⟩
  · rw [ttake_next hj, List.map_append, stripL_append, stripL_append, hs, ← hx]
    simp [stripL, hu]
  · rw [h3]
    refine Lie.set (X := Is g) ?_ (p := ⟨g, j * 4 + 3, none⟩) (.inr rfl) _
    rcases List.mem_append.1 hy with hy | hy
    · exact (hk y hy).below hb
    · obtain rfl : y = u := by simpa using hy
      exact (hst.new_is hg).low hlo
end
set_option maxHeartbeats 2000000 in
set_option maxRecDepth 10000 in
theorem num_v_at (b : Nat) (ns : List Int) (v : Int) (hv : Fits v) (w : World) (h : NumM w b ns) (hn : ns.length ≤ 1000000) :
    Calls Tryz.prog 161 #[.map (some b), .int .i64 v] w fun e w' => e = .returned (.int .i64 (placeS (addV ns v) v)) ∧ NumM w' b (addV ns v) ∧ Keeps b w w' := by
  have hkey : keyOf Tryz.prog 3 (.int .i64 v) = some (.int .i64 v) := keyOf_int_mk Tryz.underlying3 (fits_wf hv)
  have HN := Lib.hid h
  obtain ⟨D, hD, hM⟩ := h
  have HM := Lib.hid hM
  have HD := Lib.hid hD
  have hlt := (HN.out).lt
  obtain ⟨kn, hkn⟩ : ∃ q, Maps.has D (.int .i64 v) = q := ⟨_, rfl⟩
  have HX := Lib.hid (show kn = decide (v ∈ ns) by rw [← hkn]; exact hD.2.2.1 v)
  by_cases hm : v ∈ ns
  · obtain rfl : kn = true := by rw [HX.out]; simpa using hm
    have ha : addV ns v = ns := by unfold addV; rw [if_pos hm]
    have HE := Lib.hid (show ∀ cL : Int, D.atKey (.int .i64 v) (.lit (.int .i64 0)) = .lit (.int .i64 cL) → cL = placeS ns v from fun cL h1 => by
      have := hD.2.2.2 v hm
      rw [h1] at this
      injection this with this
      injection this)
    rw [ha]
    clear hD hM hm ha
    go_enter Tryz.func161, Tryz.ntmps161
    go_wp2_with (at_lookup; refine wpList_lookup_own_ok_int _ rfl _ _ 79 rfl 3 3 .i64 keyed Tryz.underlying79 Tryz.underlying3 (mzero_int _) b ns.length D rfl HM.out _ _ rfl hkey ?_; intro cL hat hwc; rw [hkn]; have HA := Lib.hid hat; clear hat)
    go_ret
    exact ⟨by rw [HE.out cL HA.out]; rfl, HN.out, Keeps.refl _ _⟩
  · obtain rfl : kn = false := by rw [HX.out]; simpa using hm
    have ha : addV ns v = ns ++ [v] := by unfold addV; rw [if_neg hm]
    have HP := Lib.hid (place_self hm)
    have HPut := Lib.hid (hD.put hm)
    have hsz : Maps.size D = ns.length := hD.2.1
    have HI := Lib.hid (show plainElem (H := Unit) Tryz.prog 3 (.int .i64 (ns.length : Int)) = some (.lit (.int .i64 (ns.length : Int)), []) from plainElem_int Tryz.underlying3 (fits_wf (by unfold Fits; omega)))
    rw [ha]
    clear hD hM hm ha
    go_enter Tryz.func161, Tryz.ntmps161
    go_wp2_with (first
      | (at_lookup; refine wpList_lookup_own_ok_int _ rfl _ _ 79 rfl 3 3 .i64 keyed Tryz.underlying79 Tryz.underlying3 (mzero_int _) b ns.length D rfl HM.out _ _ rfl hkey ?_; intro cL hat hwc; rw [hkn]; clear hat hwc)
      | (at_len; refine wpList_len_own _ rfl _ 79 rfl 3 3 Tryz.underlying79 _ b ns.length D rfl HM.out ?_; rw [hsz])
      | (at_mapUpdate; refine wpList_mapUpdate_own _ rfl _ _ _ 79 rfl 3 3 keyed Tryz.underlying79 _ b ns.length D rfl HM.out (by unfold maxLen; omega) _ _ (.int .i64 v) rfl rfl hkey (.lit (.int .i64 (ns.length : Int))) [] HI.out ?_; intro w1 hown1 hg1; have HO1 := Lib.hid hown1; have HG1 := Lib.hid hg1; clear hown1 hg1))
    go_ret
    refine ⟨by rw [HP.out]; rfl, ⟨_, HPut.out, by rw [List.length_append]; exact HO1.out⟩, ⟨HG1.out.os, HG1.out.tape, HG1.out.output, HG1.out.size, fun k hk hr => HG1.out.block k hk (fun e => hr (Option.some.inj e))⟩⟩
end Go.Proofs.YtnghanpmmbcbbaaGreatDoor
namespace Go.Proofs.YtnghanpmmbcbbaaGreatDoor
open Go.RowKit
set_option maxHeartbeats 4000000 in
theorem copies_at : ∀ (n : Nat) (A : Option Addr) (l : List Tm) (c : Nat) (w : World), nodesL l = n → n ≤ 1000000 → Lst w A l c →
    Calls Tryz.prog 162 #[.slice A l.length c] w (MadeL l w) := by
  intro n
  induction n using Nat.strongRecOn with
  | _ n ih =>
    intro A l c w hn hn2 hl
    by_cases h0 : l.length = 0
    · obtain rfl : l = [] := List.length_eq_zero_iff.1 h0
      have Q := Lib.hid (clone_none_at A c w)
      clear ih hl h0 hn hn2
      show Calls Tryz.prog 162 #[.slice A 0 c] w _
      go_enter Tryz.func162, Tryz.ntmps162
      go_wp2_with fail
      refine (Q.out).mono ?_
      rintro e w1 ⟨A', cap, rfl, h1, h2, _, hb⟩
      have HC := Lib.hid (show Lst w1 A' [] cap from ⟨h1, h2, fun h => by simp at h⟩)
      clear h1 h2
      go_wp2_with fail
      go_loopw [9] (fun i wr => i = .int .i64 0 ∧ Below w.heap.size w wr) (fun _ _ => 0)
      case atStart => exact ⟨rfl, hb⟩
      case round =>
        obtain ⟨rfl, hbw⟩ := hrel
        go_wp2_with fail
        go_ret
        exact ⟨A', cap, [], rfl, rfl, rfl, fun W _ => ⟨HC.out.1, HC.out.2.1, fun h => by simp at h⟩, hbw⟩
    · have hp : 0 < l.length := by omega
      obtain ⟨b0, o, rfl, hrow⟩ := hl.2.2 hp
      have hln : l.length ≤ 1000000 := by have := length_le_nodes l; omega
      have hlen : l.length ≤ 9223372036854775807 := by omega
      have Q := Lib.hid (clone_at l b0 o c w hp hrow hln)
      have QI := Lib.hid (fun (j : Nat) (hj : j < l.length) W (hb : Below w.heap.size w W) => ih (nodesL (l.getD j default).args) (by rw [← hn]; exact nodes_in hj) (l.getD j default).at_ (l.getD j default).args (l.getD j default).cap W rfl (by have := nodes_in hj; omega) ((hl.mem (getD_mem hj)).below hb).lst)
      have HFT := Lib.hid (fun (j : Nat) (hj : j < l.length) => ((At_iff _ _).1 (hl.mem (getD_mem hj))).1)
      clear ih hrow hln h0 hl hn hn2
      go_enter Tryz.func162, Tryz.ntmps162
      go_wp2_with fail
      refine (Q.out).mono ?_
      rintro e w1 ⟨A', cap, rfl, h1, h2, h3, hb⟩
      obtain ⟨g, rfl, hg, hrow⟩ := h3 hp
      have HD := Lib.hid (Putting.start (f := id) (lo := w.heap.size) hrow)
      have hcap : l.length ≤ cap := h1
      have hcap2 : cap ≤ 9223372036854775807 := by unfold maxLen at h2; exact h2
      have HG := Lib.hid hg
      clear hrow h3 h1 h2 hg
      go_wp2_with fail
      go_loopw [9] (fun i wr => ∃ j : Nat, j ≤ l.length ∧ i = .int .i64 j ∧ Hid (Putting id l g w.heap.size j wr) ∧ Below w.heap.size w wr) (fun i _ => l.length - (intOf i).toNat)
      case atStart => exact ⟨0, Nat.zero_le _, rfl, HD, hb⟩
      case round =>
        obtain ⟨j, hj, rfl, HF, hbw⟩ := hrel
        clear hb HD
        by_cases hlt : j < l.length
        · obtain ⟨x, hx⟩ : ∃ x, x = l.getD j default := ⟨_, rfl⟩
          have hcl := HF.out.cells hlt
          have Q1 := Lib.hid (fun W (h : Below w.heap.size w W) => QI.out j hlt W h)
          have HP := Lib.hid (HFT.out j hlt)
          rw [← hx] at hcl Q1 HP
          have c0 := hcl 0 _ rfl
          have c1 := hcl 1 _ rfl
          have c2 := hcl 2 _ rfl
          have c3 := hcl 3 _ rfl
          simp only [Nat.add_zero] at c0
          have HX := Lib.hid hx
          have hgs : g < wr.heap.size := HF.out.lt
          clear hx hcl QI
          obtain ⟨k', n', s', A', c', a'⟩ := x
          simp only [Tm.kind, Tm.num, Tm.name, Tm.at_, Tm.args, Tm.cap] at c0 c1 c2 c3 Q1 HP
          go_wp2_with fail
          refine (Q1.out _ (hbw.alloc hbw.size _)).mono ?_
          rintro e w2 ⟨A2, p2, cur, rfl, hcl, hst, hL, hb2⟩
          have hw : Below wr.heap.size wr w2 := (below1 wr _).trans (hb2.mono (by simp))
          have HN := Lib.hid (putting_next1 (u := .mk k' n' s' A2 p2 cur) HF.out hlt HX.out hbw.size rfl rfl rfl (by simp only [Tm.strip, id]; rw [hst]) (lie_row (w := wr) (lo := wr.heap.size + 1) HP.out (fun W hW => hL W fun b' h1 h2 h3 => hW b' (by simp at h1; omega) h2 h3) (by omega)) hw _ rfl)
          have D2 := Lib.hid (HF.out.below hw)
          have hbx := hbw.trans (hw.mono hbw.size)
          have e0 := D2.out.cells hlt
          rw [← HX.out] at e0
          have q3 := e0 3 _ rfl
          simp only [Tm.at_, Tm.args, Tm.cap] at q3
          have f3 := D2.out.free (j * 4 + 3)
          have hgz := D2.out.lt
          simp only [Tm.at_, Tm.args, Tm.cap] at HN
          rw [hcl] at HN
          clear e0 hcl hst hL hb2 c0 c1 c2 c3 hw
          go_wp2_with fail
          go_roundw
          case rel => exact ⟨j + 1, by omega, by go_num, HN, hbx.setCell HG.out _⟩
          case measure => simp [intOf]; omega
        · obtain rfl : j = l.length := by omega
          clear QI
          obtain ⟨news, hn, hst, hL⟩ := HF.out.done (w' := wr) HG.out (Nat.le_refl _) (fun _ _ _ => rfl) cap hcap (by unfold maxLen; exact hcap2)
          have HL := Lib.hid hL
          have HN := Lib.hid hn
          have HS := Lib.hid (show stripL news = stripL l by rw [List.map_id] at hst; exact hst)
          clear hn hst hL HF
          go_wp2_with fail
          go_ret
          exact ⟨_, cap, news, rfl, HN.out, HS.out, HL.out, hbw⟩
end Go.Proofs.YtnghanpmmbcbbaaGreatDoor
namespace Go.Proofs.YtnghanpmmbcbbaaGreatDoor
open Go.RowKit
def NumT (b : Nat) (ns : List Int) (t : Tm) (w : World) (e : Ending) (w' : World) : Prop :=
  ∃ u : Tm, e = .returned u.val ∧ u.strip = (t.rr (placeS (addAll ns t.occ))).strip ∧ Lie Any w.heap.size No w' u ∧ Keeps b w w' ∧ NumM w' b (addAll ns t.occ)
def NumTs (b : Nat) (ns : List Int) (l : List Tm) (w : World) (e : Ending) (w' : World) : Prop :=
  ∃ (A : Option Addr) (cap : Nat) (cur : List Tm), e = .returned (.slice A l.length cap) ∧ cur.length = l.length ∧ stripL cur = stripL (rrL l (placeS (addAll ns (occL l)))) ∧ (∀ W, Agree w.heap.size No w' W → Lst W A cur cap) ∧ Keeps b w w' ∧ NumM w' b (addAll ns (occL l))
def TermR (w0 : World) (b : Nat) (t : Tm) : Prop := ∀ (w : World) (ns : List Int), Below w0.heap.size w0 w → NumM w b ns → ns.length + t.nodes ≤ 1000000 →
  Calls Tryz.prog 125 #[.map (some b), t.val] w (NumT b ns t w)
theorem occL_take {l : List Tm} {j : Nat} (hj : j < l.length) : occL (l.take (j + 1)) = occL (l.take j) ++ (l.getD j default).occ := by
  rw [ttake_next hj, occL_append]
  simp [occL]
theorem nodesL_take {l : List Tm} {j : Nat} (hj : j < l.length) : nodesL (l.take j) + (l.getD j default).nodes ≤ nodesL l := by
  have e : nodesL l = nodesL (l.take j) + nodesL (l.drop j) := by rw [← nodesL_app, List.take_append_drop]
  rw [e, List.drop_eq_getElem_cons hj]
  have e2 : l.getD j default = l[j] := by simp [List.getD, List.getElem?_eq_getElem hj]
  rw [e2]
  simp only [nodesL]
  omega
theorem occ_nodes : (∀ t : Tm, t.occ.length ≤ t.nodes) ∧ (∀ l, (occL l).length ≤ nodesL l) :=
  ⟨fun t => Nat.le_trans (occ_length.1 t) (size_nodes.1 t).1, fun l => Nat.le_trans (occ_length.2 l) (size_nodes.2 l)⟩
theorem addAll_more (ns xs ys : List Int) {v : Int} (hv : v ∈ xs) : placeS (addAll ns (xs ++ ys)) v = placeS (addAll ns xs) v := by
  rw [addAll_append]
  exact place_addAll _ _ ((mem_addAll _ _ _).2 (.inr hv))
theorem rr_in {l : List Tm} {j : Nat} (hj : j < l.length) (ns : List Int) : (l.getD j default).rr (placeS (addAll (addAll ns (occL (l.take j))) (l.getD j default).occ)) = (l.getD j default).rr (placeS (addAll ns (occL l))) := by
  refine rr_like.1 _ _ _ fun v hv => ?_
  have e : occL l = occL (l.take (j + 1)) ++ occL (l.drop (j + 1)) := by rw [← occL_append, List.take_append_drop]
  rw [← addAll_append, ← occL_take hj, e]
  exact (addAll_more _ _ _ (by rw [occL_take hj]; exact List.mem_append_right _ hv)).symm
section
variable {b : Nat}
set_option maxHeartbeats 4000000 in
theorem terms_of (w0 : World) (hb0 : w0.heap.size ≤ b) (l : List Tm) (A : Option Addr) (c : Nat) (w : World) (ns : List Int) (hw : Below w0.heap.size w0 w) (hl : Lst w A l c) (hM : NumM w b ns) (hn : ns.length + nodesL l ≤ 1000000)
    (ih : ∀ x ∈ l, TermR w0 b x) :
    Calls Tryz.prog 82 #[.map (some b), .slice A l.length c] w (NumTs b ns l w) := by
  by_cases h0 : l.length = 0
  · obtain rfl : l = [] := List.length_eq_zero_iff.1 h0
    have Q := Lib.hid (clone_none_at A c w)
    have HM := Lib.hid hM
    clear ih hl h0 hn hw hM
    show Calls Tryz.prog 82 #[.map (some b), .slice A 0 c] w _
    go_enter Tryz.func82, Tryz.ntmps82
    go_wp2_with fail
    refine (Q.out).mono ?_
    rintro e w1 ⟨A', cap, rfl, h1, h2, _, hb⟩
    have HC := Lib.hid (show Lst w1 A' [] cap from ⟨h1, h2, fun h => by simp at h⟩)
    clear h1 h2
    go_wp2_with fail
    go_loopw [11] (fun i wr => i = .int .i64 0 ∧ Below w.heap.size w wr) (fun _ _ => 0)
    case atStart => exact ⟨rfl, hb⟩
    case round =>
      obtain ⟨rfl, hbw⟩ := hrel
      go_wp2_with fail
      go_ret
      exact ⟨A', cap, [], rfl, rfl, rfl, fun W _ => ⟨HC.out.1, HC.out.2.1, fun h => by simp at h⟩, Below.keeps hbw b, HM.out.below hbw⟩
  · have hp : 0 < l.length := by omega
    obtain ⟨b0, o, rfl, hrow⟩ := hl.2.2 hp
    have hln : l.length ≤ 1000000 := by have := length_le_nodes l; omega
    have hlen : l.length ≤ 9223372036854775807 := by omega
    have Q := Lib.hid (clone_at l b0 o c w hp hrow hln)
    have QI := Lib.hid ih
    have HNn := Lib.hid hn
    have HM0 := Lib.hid hM
    have HW0 := Lib.hid hw
    have hbw0 : b < w.heap.size := hM.lt
    clear ih hrow hln h0 hl hn hw hM
    go_enter Tryz.func82, Tryz.ntmps82
    go_wp2_with fail
    refine (Q.out).mono ?_
    rintro e w1 ⟨A', cap, rfl, h1, h2, h3, hb⟩
    obtain ⟨g, rfl, hg, hrow⟩ := h3 hp
    have HD := Lib.hid (Putting.start (f := fun t => t.rr (placeS (addAll ns (occL l)))) (lo := w.heap.size) hrow)
    have HM1 := Lib.hid (HM0.out.below hb)
    have hcap : l.length ≤ cap := h1
    have hcap2 : cap ≤ 9223372036854775807 := by unfold maxLen at h2; exact h2
    have HG := Lib.hid hg
    clear hrow h3 h1 h2 hg
    go_wp2_with fail
    go_loopw [11] (fun i wr => ∃ j : Nat, j ≤ l.length ∧ i = .int .i64 j ∧ Hid (Putting (fun t => t.rr (placeS (addAll ns (occL l)))) l g w.heap.size j wr) ∧ Hid (NumM wr b (addAll ns (occL (l.take j)))) ∧ Keeps b w wr) (fun i _ => l.length - (intOf i).toNat)
    case atStart => exact ⟨0, Nat.zero_le _, rfl, HD, HM1, Below.keeps hb b⟩
    case round =>
      obtain ⟨j, hj, rfl, HF, HM, hbw⟩ := hrel
      clear hb HD
      by_cases hlt : j < l.length
      · obtain ⟨x, hx⟩ : ∃ x, x = l.getD j default := ⟨_, rfl⟩
        have hcl := HF.out.cells hlt
        have Q1 := Lib.hid (QI.out _ (getD_mem hlt))
        have HRR := Lib.hid (rr_in hlt ns)
        have HOC := Lib.hid (occL_take hlt)
        have HSZ := Lib.hid (show (addAll ns (occL (l.take j))).length + (l.getD j default).nodes ≤ 1000000 by
          have h1 := nodesL_take hlt
          have h2 := addAll_length ns (occL (l.take j))
          have h3 := occ_nodes.2 (l.take j)
          have h4 := HNn.out
          omega)
        rw [← hx] at hcl Q1 HRR HOC HSZ
        have c0 := hcl 0 _ rfl
        have c1 := hcl 1 _ rfl
        have c2 := hcl 2 _ rfl
        have c3 := hcl 3 _ rfl
        simp only [Nat.add_zero] at c0
        have HX := Lib.hid hx
        have hgs : g < wr.heap.size := HF.out.lt
        have hgb : g ≠ b := by have := HG.out; omega
        clear hx hcl QI
        obtain ⟨k', n', s', A', c', a'⟩ := x
        simp only [Tm.kind, Tm.num, Tm.name, Tm.at_, Tm.args, Tm.cap] at c0 c1 c2 c3
        go_wp2_with fail
        refine (Q1.out _ _ (Keeps.below HW0.out (hbw.alloc _) hb0) (HM.out.below (below1 _ _)) HSZ.out).mono ?_
        rintro e w2 ⟨u, rfl, hu, hst, hk2, hm2⟩
        have hw : Keeps b wr w2 := (Below.keeps (below1 wr _) b).trans hk2
        have HN := Lib.hid (putting_next_k HF.out hlt HX.out hbw.size (by rw [hu, HRR.out]) (hst.low (by simp)) hw hbw0 hgb _ rfl)
        have D2 := Lib.hid (HF.out.keeps hw hbw0 hgb)
        have HM2 := Lib.hid (show NumM w2 b (addAll ns (occL (l.take (j + 1)))) by rw [HOC.out, addAll_append]; exact hm2)
        have hbx := hbw.trans hw
        have e0 := D2.out.cells hlt
        rw [← HX.out] at e0
        have q0 := e0 0 _ rfl
        have q1 := e0 1 _ rfl
        have q2 := e0 2 _ rfl
        have q3 := e0 3 _ rfl
        simp only [Nat.add_zero, Tm.kind, Tm.num, Tm.name, Tm.at_, Tm.args, Tm.cap] at q0 q1 q2 q3
        have f0 := D2.out.free (j * 4)
        have f1 := D2.out.free (j * 4 + 1)
        have f2 := D2.out.free (j * 4 + 2)
        have f3 := D2.out.free (j * 4 + 3)
        have hgz := D2.out.lt
        obtain ⟨k2, n2, s2, A2, p2, a2⟩ := u
        simp only [Tm.kind, Tm.num, Tm.name, Tm.at_, Tm.args, Tm.cap] at HN
        clear e0 hu hst hk2 hm2 c0 c1 c2 c3 hw
        go_wp2_with fail
        go_roundw
        case rel => exact ⟨j + 1, by omega, by go_num, HN, Lib.hid (HM2.out.set4 hgb _ _ _ _), (((hbx.own (p := ⟨g, j * 4, none⟩) HG.out _).own (p := ⟨g, j * 4 + 1, none⟩) HG.out _).own (p := ⟨g, j * 4 + 2, none⟩) HG.out _).own (p := ⟨g, j * 4 + 3, none⟩) HG.out _⟩
        case measure => simp [intOf]; omega
      · obtain rfl : j = l.length := by omega
        clear QI
        obtain ⟨news, hn, hst, hL⟩ := HF.out.done (w' := wr) HG.out (Nat.le_refl _) (fun _ _ _ => rfl) cap hcap (by unfold maxLen; exact hcap2)
        have HL := Lib.hid hL
        have HN := Lib.hid hn
        have HS := Lib.hid (show stripL news = stripL (rrL l (placeS (addAll ns (occL l)))) by rw [rrL_map]; exact hst)
        have HMM := Lib.hid (show NumM wr b (addAll ns (occL l)) by have := HM.out; rw [List.take_length] at this; exact this)
        clear hn hst hL HF HM
        go_wp2_with fail
        go_ret
        exact ⟨_, cap, news, rfl, HN.out, HS.out, HL.out, hbw, HMM.out⟩
set_option maxHeartbeats 4000000 in
theorem term_num_at (w0 : World) (hb0 : w0.heap.size ≤ b) (t : Tm) : t.At w0 → TermR w0 b t := by
  induction t using Tm.induct with
  | h k n s A c a ih =>
    intro hat w ns hw hM hsz
    show Calls Tryz.prog 125 #[.map (some b), .agg #[.int .i64 k, .int .i64 n, .string s, .slice A a.length c]] w _
    have HP := Lib.hid ((At_iff _ _).1 hat).1
    simp only [Tm.kind, Tm.num, Tm.name] at HP
    obtain ⟨HB0, HB1⟩ := two_boxes w (.int .i64 k) (.int .i64 n) (.string s) (.slice A a.length c) (.int .i64 0) (.int .i64 0) (.string ⟨#[]⟩) (.slice none 0 0) 69
    have H0 := Lib.hid HB0
    have H1 := Lib.hid HB1
    clear HB0 HB1
    have hl : Lst w A a c := hat.lst.below hw
    have hbw0 : b < w.heap.size := hM.lt
    have HM := Lib.hid hM
    have HW0 := Lib.hid hw
    have hna : 1 + nodesL a ≤ (Tm.mk k n s A c a).nodes := by simp only [Tm.nodes]; omega
    by_cases k2 : k = 2
    · subst k2
      have Q1 := Lib.hid (fun W (h : Below w.heap.size w W) => terms_of w0 hb0 a A c W ns (hw.trans (h.mono hw.size)) (hl.below h) (hM.below h) (by omega) (fun x hx => ih x hx (hat.lst.mem hx)))
      have HV := Lib.hid (show (Tm.mk 2 n s A c a).rr (placeS (addAll ns (occL a))) = .mk 2 n s A c (rrL a (placeS (addAll ns (occL a)))) from rr_fun _ _ _ _ _ _)
      have HO := Lib.hid (show (Tm.mk 2 n s A c a).occ = occL a by simp [Tm.occ])
      clear hat ih hl hna hsz hw hM
      go_enter Tryz.func125, Tryz.ntmps125
      go_wp2_with fail
      refine (Q1.out _ (below2 _ _ _)).mono ?_
      rintro e w3 ⟨A', cap, cur, rfl, hcl, hst, hL, hk3, hm3⟩
      have HK3 := Lib.hid (H0.out.keeps hk3 (by omega))
      have HM3 := Lib.hid (H1.out.keeps hk3 (by omega))
      have HB3 := Lib.hid ((Below.keeps (below2 w (.cells #[.int .i64 2, .int .i64 n, .string s, .slice A a.length c] 69) zeroBox) b).trans hk3)
      obtain ⟨hz3, p0, p1, p2, p3, f⟩ := HK3.out
      obtain ⟨hz, e0, e1, e2, e3, f'⟩ := HM3.out
      have f3 := f 3
      have f0' := f' 0
      have f1' := f' 1
      have f2' := f' 2
      have f3' := f' 3
      have HL := Lib.hid (show ∀ W, Agree (w.heap.size + 2) No w3 W → Lst W A' cur cap from fun W hW => hL W fun b' h1 h2 h3 => hW b' (by simpa using h1) h2 h3)
      have HS := Lib.hid hst
      have HC := Lib.hid hcl
      have HNM := Lib.hid hm3
      clear f f' hL hst hcl hk3 hm3 Q1 H0 H1
      go_wp2_with fail
      refine bodyPost_ret (v := .agg #[.int .i64 2, .int .i64 n, .string s, .slice A' a.length cap]) (by simp [results, Tryz.results125, go_sem, e0, e1, e2, e3]) rfl ?_
      refine ⟨.mk 2 n s A' cap cur, by rw [← HC.out]; rfl, ?_, lie_row (lo := w.heap.size + 2) HP.out (fun W hW => HL.out W fun b' h1 h2 h3 => ?_) (by omega), ?_, ?_⟩
      · rw [HO.out, HV.out]; simp only [Tm.strip, HS.out]
      · rw [hW b' h1 (by rw [size_set4]; simpa [World.setCell] using h2) h3, heap_set4 _ (by omega), Below.heap_setCell _ _ _ _ (by show b' ≠ w.heap.size; omega)]
      · exact ((((HB3.out.own (p := ⟨w.heap.size, 3, none⟩) (Nat.le_refl _) _).own (p := ⟨w.heap.size + 1, 0, none⟩) (Nat.le_succ _) _).own (p := ⟨w.heap.size + 1, 1, none⟩) (Nat.le_succ _) _).own (p := ⟨w.heap.size + 1, 2, none⟩) (Nat.le_succ _) _).own (p := ⟨w.heap.size + 1, 3, none⟩) (Nat.le_succ _) _
      · rw [HO.out]
        exact (HNM.out.set (p := ⟨w.heap.size, 3, none⟩) (by show w.heap.size ≠ b; omega) _).set4 (by omega) _ _ _ _
    · have k2' : (k == 2) = false := by simpa using k2
      have QC := Lib.hid (fun W (h : Below w0.heap.size w0 W) => copies_at (nodesL a) A a c W rfl (by omega) (hat.lst.below h))
      by_cases k1 : k = 1
      · subst k1
        have HFN := HP.out.2.1
        have Q1 := Lib.hid (fun W (h : Below w.heap.size w W) => num_v_at b ns n HFN W (hM.below h) (by omega))
        have hk1 : ((1 : Int) == 1) = true := rfl
        have HO := Lib.hid (show (Tm.mk 1 n s A c a).occ = [n] by simp [Tm.occ])
        have HFG := Lib.hid (show Fits (placeS (addV ns n) n) from place_fits2 (by have := addV_length ns n; omega) n)
        have HV := Lib.hid (show (Tm.mk 1 n s A c a).rr (placeS (addV ns n)) = .mk 1 (placeS (addV ns n) n) s A c a from rr_var _ _ _ _ _ _)
        clear hat ih hl hna hsz hw hM k2
        go_enter Tryz.func125, Tryz.ntmps125
        go_wp2_with fail
        refine (Q1.out _ (below2 _ _ _)).mono ?_
        rintro e w1 ⟨rfl, hm1, hk1'⟩
        obtain ⟨m, hm⟩ : ∃ m, placeS (addV ns n) n = m := ⟨_, rfl⟩
        rw [hm] at HFG HV ⊢
        have HKa := Lib.hid (H0.out.keeps hk1' (by omega))
        have HMa := Lib.hid (H1.out.keeps hk1' (by omega))
        have HK := Lib.hid (HKa.out.set1 (.int .i64 m))
        have HMb := Lib.hid (HMa.out.other (p := ⟨w.heap.size, 1, none⟩) (by show w.heap.size ≠ w.heap.size + 1; omega) (.int .i64 m))
        have HKP := Lib.hid (((Below.keeps (below2 w (.cells #[.int .i64 1, .int .i64 n, .string s, .slice A a.length c] 69) zeroBox) b).trans hk1').own (p := ⟨w.heap.size, 1, none⟩) (Nat.le_refl _) (.int .i64 m))
        have HN1 := Lib.hid (hm1.set (p := ⟨w.heap.size, 1, none⟩) (by show w.heap.size ≠ b; omega) (.int .i64 m))
        have HB0 := Lib.hid (Keeps.below HW0.out HKP.out hb0)
        obtain ⟨hz0, d0, d1, d2, d3, f⟩ := HKa.out
        have f1 := f 1
        clear f hk1' hm1 H0 H1 hm
        go_wp2_with fail
        refine (QC.out _ HB0.out).mono ?_
        rintro e w3 ⟨A', cap, cur, rfl, hcl, hst, hL, hb3⟩
        have HK3 := Lib.hid (HK.out.below hb3)
        have HM3 := Lib.hid (HMb.out.below hb3)
        have HB3 := Lib.hid (HKP.out.trans (Below.keeps hb3 b))
        have HN3 := Lib.hid (HN1.out.below hb3)
        obtain ⟨hz3, p0, p1, p2, p3, f⟩ := HK3.out
        obtain ⟨hz, e0, e1, e2, e3, f'⟩ := HM3.out
        have f3 := f 3
        have f0' := f' 0
        have f1' := f' 1
        have f2' := f' 2
        have f3' := f' 3
        have HL := Lib.hid (show ∀ W, Agree (w.heap.size + 2) No w3 W → Lst W A' cur cap from fun W hW => hL W fun b' h1 h2 h3 => hW b' (by have := HMb.out.lt; omega) h2 h3)
        have HS := Lib.hid hst
        have HC := Lib.hid hcl
        clear f f' hL hst hcl hb3 Q1 QC HK HKa HMa HMb HKP HN1 HB0 d0 d1 d2 d3 f1 hz0
        go_wp2_with fail
        refine bodyPost_ret (v := .agg #[.int .i64 1, .int .i64 m, .string s, .slice A' a.length cap]) (by simp [results, Tryz.results125, go_sem, e0, e1, e2, e3]) rfl ?_
        refine ⟨.mk 1 m s A' cap cur, by rw [← HC.out]; rfl, ?_, lie_row (lo := w.heap.size + 2) ⟨HP.out.1, HFG.out, HP.out.2.2⟩ (fun W hW => HL.out W fun b' h1 h2 h3 => ?_) (by omega), ?_, ?_⟩
        · rw [HO.out, addAll_one, HV.out]; simp only [Tm.strip, HS.out]
        · rw [hW b' h1 (by rw [size_set4]; simpa [World.setCell] using h2) h3, heap_set4 _ (by omega), Below.heap_setCell _ _ _ _ (by show b' ≠ w.heap.size; omega)]
        · exact ((((HB3.out.own (p := ⟨w.heap.size, 3, none⟩) (Nat.le_refl _) _).own (p := ⟨w.heap.size + 1, 0, none⟩) (Nat.le_succ _) _).own (p := ⟨w.heap.size + 1, 1, none⟩) (Nat.le_succ _) _).own (p := ⟨w.heap.size + 1, 2, none⟩) (Nat.le_succ _) _).own (p := ⟨w.heap.size + 1, 3, none⟩) (Nat.le_succ _) _
        · rw [HO.out, addAll_one]
          exact (HN3.out.set (p := ⟨w.heap.size, 3, none⟩) (by show w.heap.size ≠ b; omega) _).set4 (by omega) _ _ _ _
      · have k1' : (k == 1) = false := by simpa using k1
        have HO := Lib.hid (show (Tm.mk k n s A c a).occ = [] by simp [Tm.occ, k1, k2])
        have HV := Lib.hid (show ∀ g, (Tm.mk k n s A c a).rr g = .mk k n s A c a from fun g => rr_else _ _ _ _ _ _ k1 k2)
        have HB0 := Lib.hid (HW0.out.trans ((below2 w (.cells #[.int .i64 k, .int .i64 n, .string s, .slice A a.length c] 69) zeroBox).mono HW0.out.size))
        clear hat ih hl hna hsz hw hM k1 k2
        go_enter Tryz.func125, Tryz.ntmps125
        go_wp2_with fail
        refine (QC.out _ HB0.out).mono ?_
        rintro e w3 ⟨A', cap, cur, rfl, hcl, hst, hL, hb3⟩
        have HK3 := Lib.hid (H0.out.below hb3)
        have HM3 := Lib.hid (H1.out.below hb3)
        have HB3 := Lib.hid (Below.keeps ((below2 w (.cells #[.int .i64 k, .int .i64 n, .string s, .slice A a.length c] 69) zeroBox).trans (hb3.mono (by simp; omega))) b)
        have HN3 := Lib.hid ((HM.out.below (below2 w (.cells #[.int .i64 k, .int .i64 n, .string s, .slice A a.length c] 69) zeroBox)).below hb3)
        obtain ⟨hz3, p0, p1, p2, p3, f⟩ := HK3.out
        obtain ⟨hz, e0, e1, e2, e3, f'⟩ := HM3.out
        have f3 := f 3
        have f0' := f' 0
        have f1' := f' 1
        have f2' := f' 2
        have f3' := f' 3
        have HL := Lib.hid (show ∀ W, Agree (w.heap.size + 2) No w3 W → Lst W A' cur cap from fun W hW => hL W fun b' h1 h2 h3 => hW b' (by simpa using h1) h2 h3)
        have HS := Lib.hid hst
        have HC := Lib.hid hcl
        clear f f' hL hst hcl hb3 QC H0 H1 HB0
        go_wp2_with fail
        refine bodyPost_ret (v := .agg #[.int .i64 k, .int .i64 n, .string s, .slice A' a.length cap]) (by simp [results, Tryz.results125, go_sem, e0, e1, e2, e3]) rfl ?_
        refine ⟨.mk k n s A' cap cur, by rw [← HC.out]; rfl, ?_, lie_row (lo := w.heap.size + 2) HP.out (fun W hW => HL.out W fun b' h1 h2 h3 => ?_) (by omega), ?_, ?_⟩
        · rw [HV.out]; simp only [Tm.strip, HS.out]
        · rw [hW b' h1 (by rw [size_set4]; simpa [World.setCell] using h2) h3, heap_set4 _ (by omega), Below.heap_setCell _ _ _ _ (by show b' ≠ w.heap.size; omega)]
        · exact ((((HB3.out.own (p := ⟨w.heap.size, 3, none⟩) (Nat.le_refl _) _).own (p := ⟨w.heap.size + 1, 0, none⟩) (Nat.le_succ _) _).own (p := ⟨w.heap.size + 1, 1, none⟩) (Nat.le_succ _) _).own (p := ⟨w.heap.size + 1, 2, none⟩) (Nat.le_succ _) _).own (p := ⟨w.heap.size + 1, 3, none⟩) (Nat.le_succ _) _
        · rw [HO.out]
          exact (HN3.out.set (p := ⟨w.heap.size, 3, none⟩) (by show w.heap.size ≠ b; omega) _).set4 (by omega) _ _ _ _
end
end Go.Proofs.YtnghanpmmbcbbaaGreatDoor
namespace Go.Proofs.YtnghanpmmbcbbaaGreatDoor
open Go.RowKit
section
variable {gg : Int → Int} {l : List Am} {g lo j : Nat} {wr w2 : World} {R : Nat}
theorem AmOwn.keeps (h : AmOwn wr g l) (k : Keeps R wr w2) (hR : g ≠ R) : AmOwn w2 g l :=
  ⟨Nat.lt_of_lt_of_le h.1 k.size, fun j => (k.frozen (p := ⟨g, j, none⟩) h.1 hR).trans (h.2.1 j), fun i j u hi hu => (k.cell (p := ⟨g, i * 2 + j, none⟩) h.1 hR).trans (h.2.2 i j u hi hu)⟩
theorem AmLie.keeps {x : Am} {X : Nat → Prop} (h : AmLie Any lo X wr x) (k : Keeps R wr w2) (hR : R < lo) : AmLie Any lo X w2 x := h.less k.size fun b h1 h2 h3 => ⟨h1, h3, k.block b h2 (by omega)⟩
theorem AmPut.keeps (h : AmPut gg l g lo j wr) (k : Keeps R wr w2) (hR : R < lo) (hg : g ≠ R) : AmPut gg l g lo j w2 := by
  obtain ⟨news, hn, hs, hr, hk⟩ := h
  exact ⟨news, hn, hs, hr.keeps k hg, fun x hx => (hk x hx).keeps k hR⟩
theorem amput_next_k {u x : Am} (h : AmPut gg l g lo j wr) (hj : j < l.length) (hx : x = l.getD j default) (hlo : lo ≤ wr.heap.size) (hu : u.key = (x.ren gg).key) (hst : AmLie Any wr.heap.size No w2 u) (hb : Keeps R wr w2) (hR : R < lo) (hgR : g ≠ R) (w3 : World)
    (h3 : w3 = w2.setCell ⟨g, j * 2 + 1, none⟩ (.slice u.at_ u.args.length u.cap)) : AmPut gg l g lo (j + 1) w3 := by
  have hg := h.lt
  obtain ⟨news, hn, hs, hr, hk⟩ := h
  have hgx : (news ++ l.drop j).getD j default = x := by
    rw [hx]
    simp [List.getD, List.getElem?_append_right (show news.length ≤ j by omega), hn]
  have hr3 := (hr.keeps hb hgR).store (i := j) (by simp; omega) u (by rw [hgx]; exact (Prod.ext_iff.1 hu).1)
  rw [← h3] at hr3
  have hset : (news ++ l.drop j).set j u = (news ++ [u]) ++ l.drop (j + 1) := by
    rw [List.set_append_right _ _ (by omega), hn, Nat.sub_self, List.drop_eq_getElem_cons hj, List.set_cons_zero, List.append_assoc]
    rfl
  rw [hset] at hr3
  refine ⟨news ++ [u], by simp [hn], ?_, hr3, fun y hy => ?_⟩
  · rw [am_take_next hj, List.map_append, List.map_append, hs, ← hx]
    simp [hu]
  · rw [h3]
    refine AmLie.set (X := Is g) ?_ (p := ⟨g, j * 2 + 1, none⟩) (.inr rfl) _
    rcases List.mem_append.1 hy with hy | hy
    · exact (hk y hy).keeps hb hR
    · obtain rfl : y = u := by simpa using hy
      exact (hst.new_is hg).low hlo
end
def NumAms (b : Nat) (ns : List Int) (l : List Am) (w : World) (e : Ending) (w' : World) : Prop :=
  ∃ (A : Option Addr) (cap : Nat) (cur : List Am), e = .returned (.slice A l.length cap) ∧ cur.length = l.length ∧ cur.map Am.key = (l.map fun x => x.rr (placeS (addAll ns (occL (l.flatMap Am.args))))).map Am.key ∧ (∀ W, Agree w.heap.size No w' W → AmLst W A cur cap) ∧ Keeps b w w' ∧ NumM w' b (addAll ns (occL (l.flatMap Am.args)))
theorem am_ren_rr (x : Am) (g : Int → Int) : x.ren g = x.rr g := by unfold Am.ren Am.rr; rw [ren_rr.2]
theorem am_flat {l : List Am} {j : Nat} (hj : j < l.length) : (l.take (j + 1)).flatMap Am.args = (l.take j).flatMap Am.args ++ (l.getD j default).args := by
  rw [am_take_next hj, List.flatMap_append]; simp
theorem am_flat_drop (l : List Am) (j : Nat) : l.flatMap Am.args = (l.take j).flatMap Am.args ++ (l.drop j).flatMap Am.args := by
  rw [← List.flatMap_append, List.take_append_drop]
theorem am_flat_nodes {l : List Am} {j : Nat} (hj : j < l.length) : nodesL ((l.take j).flatMap Am.args) + nodesL (l.getD j default).args ≤ nodesL (l.flatMap Am.args) := by
  rw [am_flat_drop l (j + 1), nodesL_app, am_flat hj, nodesL_app]
  omega
theorem am_rr_in {l : List Am} {j : Nat} (hj : j < l.length) (ns : List Int) : rrL (l.getD j default).args (placeS (addAll (addAll ns (occL ((l.take j).flatMap Am.args))) (occL (l.getD j default).args))) = rrL (l.getD j default).args (placeS (addAll ns (occL (l.flatMap Am.args)))) := by
  refine rr_like.2 _ _ _ fun v hv => ?_
  rw [← addAll_append, ← occL_append, ← am_flat hj, am_flat_drop l (j + 1), occL_append]
  exact (addAll_more _ _ _ (by rw [am_flat hj, occL_append]; exact List.mem_append_right _ hv)).symm
section
variable {b : Nat}
set_option maxHeartbeats 4000000 in
theorem num_ams_at (w0 : World) (hb0 : w0.heap.size ≤ b) (l : List Am) (A : Option Addr) (c : Nat) (w : World) (ns : List Int) (hw : Below w0.heap.size w0 w) (hl : AmLst w0 A l c) (hM : NumM w b ns) (hsz : l.length ≤ 1000000) (hn : ns.length + nodesL (l.flatMap Am.args) ≤ 1000000) :
    Calls Tryz.prog 44 #[.map (some b), .slice A l.length c] w (NumAms b ns l w) := by
  by_cases h0 : l.length = 0
  · obtain rfl : l = [] := List.length_eq_zero_iff.1 h0
    have Q := Lib.hid (clone_am_none A c w)
    have HM := Lib.hid hM
    clear hl hsz h0 hn hM hw
    show Calls Tryz.prog 44 #[.map (some b), .slice A 0 c] w _
    go_enter Tryz.func44, Tryz.ntmps44
    go_wp2_with fail
    refine (Q.out).mono ?_
    rintro e w1 ⟨A', cap, rfl, h1, h2, _, hb⟩
    have HC := Lib.hid (And.intro h1 h2)
    clear h1 h2
    go_wp2_with fail
    go_loopw [11] (fun i wr => i = .int .i64 0 ∧ Below w.heap.size w wr) (fun _ _ => 0)
    case atStart => exact ⟨rfl, hb⟩
    case round =>
      obtain ⟨rfl, hbw⟩ := hrel
      go_wp2_with fail
      go_ret
      exact ⟨A', cap, [], rfl, rfl, rfl, fun W _ => ⟨HC.out.1, HC.out.2, fun h => by simp at h⟩, Below.keeps hbw b, HM.out.below hbw⟩
  · have hp : 0 < l.length := by omega
    have hlw := hl.below hw
    obtain ⟨b0, o, rfl, hrow⟩ := hlw.2.2 hp
    have hlen : l.length ≤ 9223372036854775807 := by omega
    have Q := Lib.hid (clone_am_at l b0 o c w hp hrow hsz)
    have hbw0 : b < w.heap.size := hM.lt
    have HM0 := Lib.hid hM
    have HW0 := Lib.hid hw
    have HNn := Lib.hid hn
    have HR := Lib.hid (fun (x : Am) (hx : x ∈ l) (W : World) (ms : List Int) (h : Below w0.heap.size w0 W) (hm : NumM W b ms) (hz : ms.length + nodesL x.args ≤ 1000000) => terms_of w0 hb0 x.args x.at_ x.cap W ms h (((hl.mem hx).below h).2) hm hz (fun y hy => term_num_at w0 hb0 y (Lst.mem ((hl.mem hx).2) hy)))
    have HAT := Lib.hid (fun (x : Am) (hx : x ∈ l) => hl.mem hx)
    clear hrow hsz h0 hl hlw hw hM hn
    go_enter Tryz.func44, Tryz.ntmps44
    go_wp2_with fail
    refine (Q.out).mono ?_
    rintro e w1 ⟨A', cap, rfl, h1, h2, h3, hb⟩
    obtain ⟨g, rfl, hg, hrow⟩ := h3 hp
    have HD := Lib.hid (AmPut.start (gg := placeS (addAll ns (occL (l.flatMap Am.args)))) (lo := w.heap.size) hrow)
    have HM1 := Lib.hid (HM0.out.below hb)
    have hcap : l.length ≤ cap := h1
    have hcap2 : cap ≤ 9223372036854775807 := by unfold maxLen at h2; exact h2
    have HG := Lib.hid hg
    clear hrow h3 h1 h2 hg
    go_wp2_with fail
    go_loopw [11] (fun i wr => ∃ j : Nat, j ≤ l.length ∧ i = .int .i64 j ∧ Hid (AmPut (placeS (addAll ns (occL (l.flatMap Am.args)))) l g w.heap.size j wr) ∧ Hid (NumM wr b (addAll ns (occL ((l.take j).flatMap Am.args)))) ∧ Keeps b w wr) (fun i _ => l.length - (intOf i).toNat)
    case atStart => exact ⟨0, Nat.zero_le _, rfl, HD, HM1, Below.keeps hb b⟩
    case round =>
      obtain ⟨j, hj, rfl, HF, HM, hbw⟩ := hrel
      clear hb HD
      by_cases hlt : j < l.length
      · obtain ⟨x, hx⟩ : ∃ x, x = l.getD j default := ⟨_, rfl⟩
        have hcs := HF.out.cells hlt
        have hmem : x ∈ l := by rw [hx]; exact am_getD_mem hlt
        have HRR := Lib.hid (am_rr_in hlt ns)
        have HOC := Lib.hid (am_flat hlt)
        have HSZ := Lib.hid (show (addAll ns (occL ((l.take j).flatMap Am.args))).length + nodesL (l.getD j default).args ≤ 1000000 by
          have h1 := am_flat_nodes hlt
          have h2 := addAll_length ns (occL ((l.take j).flatMap Am.args))
          have h3 := occ_nodes.2 ((l.take j).flatMap Am.args)
          have h4 := HNn.out
          omega)
        rw [← hx] at hcs HRR HOC HSZ
        have c0 := hcs 0 _ rfl
        have c1 := hcs 1 _ rfl
        simp only [Nat.add_zero] at c0
        clear hcs
        have Q1 := Lib.hid (HR.out x hmem)
        have HX := Lib.hid hx
        have HXA := Lib.hid (HAT.out x hmem)
        have hgs : g < wr.heap.size := HF.out.lt
        have hgb : g ≠ b := by have := HG.out; omega
        clear hx hmem
        obtain ⟨s', A', c', a'⟩ := x
        simp only at c0 c1
        go_wp2_with fail
        refine (Q1.out _ _ (Keeps.below HW0.out (hbw.alloc _) hb0) (HM.out.below (below1 _ _)) HSZ.out).mono ?_
        rintro e w2 ⟨A2, p2, cur, rfl, hcl, hst, hL, hk2, hm2⟩
        have hw : Keeps b wr w2 := (Below.keeps (below1 wr _) b).trans hk2
        have HN := Lib.hid (amput_next_k (u := ⟨s', A2, p2, cur⟩) HF.out hlt HX.out hbw.size (Prod.ext rfl (by rw [am_ren_rr]; show stripL cur = _; rw [hst, HRR.out]; rfl)) (fun W _ hW => ⟨HXA.out.1, hL W fun b' h1 h2 h3 => hW b' (by simp at h1; omega) h2 h3⟩) hw hbw0 hgb _ rfl)
        have D2 := Lib.hid (HF.out.keeps hw hbw0 hgb)
        have HM2 := Lib.hid (show NumM w2 b (addAll ns (occL ((l.take (j + 1)).flatMap Am.args))) by rw [HOC.out, occL_append, addAll_append]; exact hm2)
        have hbx := hbw.trans hw
        have e0 := D2.out.cells hlt
        rw [← HX.out] at e0
        have q1 := e0 1 _ rfl
        have f1 := D2.out.free (j * 2 + 1)
        have hgz := D2.out.lt
        simp only at HN
        rw [hcl] at HN
        clear e0 hcl hst hL hk2 hm2 c0 c1 hw
        go_wp2_with fail
        go_roundw
        case rel => exact ⟨j + 1, by omega, by go_num, HN, Lib.hid (HM2.out.set (p := ⟨g, j * 2 + 1, none⟩) hgb _), hbx.own (p := ⟨g, j * 2 + 1, none⟩) HG.out _⟩
        case measure => simp [intOf]; omega
      · obtain rfl : j = l.length := by omega
        obtain ⟨news, hn, hst, hL⟩ := HF.out.done HG.out cap hcap (by unfold maxLen; exact hcap2)
        have HL := Lib.hid hL
        have HN := Lib.hid hn
        have HS := Lib.hid (show news.map Am.key = (l.map fun x => x.rr (placeS (addAll ns (occL (l.flatMap Am.args))))).map Am.key by simp only [am_ren_rr] at hst; exact hst)
        have HMM := Lib.hid (show NumM wr b (addAll ns (occL (l.flatMap Am.args))) by have := HM.out; rw [List.take_length] at this; exact this)
        clear hn hst hL HF HM
        go_wp2_with fail
        go_ret
        exact ⟨_, cap, news, rfl, HN.out, HS.out, fun W hW => HL.out W trivial hW, hbw, HMM.out⟩
end
end Go.Proofs.YtnghanpmmbcbbaaGreatDoor
namespace Go.Proofs.YtnghanpmmbcbbaaGreatDoor
open Go.RowKit
section
variable {gg : Int → Int} {l : List Gl} {g lo j : Nat} {wr w2 : World} {R : Nat}
theorem GlOwn.keeps (h : GlOwn wr g l) (k : Keeps R wr w2) (hR : g ≠ R) : GlOwn w2 g l :=
  ⟨Nat.lt_of_lt_of_le h.1 k.size, fun j => (k.frozen (p := ⟨g, j, none⟩) h.1 hR).trans (h.2.1 j), fun i j u hi hu => (k.cell (p := ⟨g, i * 3 + j, none⟩) h.1 hR).trans (h.2.2 i j u hi hu)⟩
theorem GlLie.keeps {x : Gl} {X : Nat → Prop} (h : GlLie Any lo X wr x) (k : Keeps R wr w2) (hR : R < lo) : GlLie Any lo X w2 x := h.less k.size fun b h1 h2 h3 => ⟨h1, h3, k.block b h2 (by omega)⟩
theorem GlPut.keeps (h : GlPut gg l g lo j wr) (k : Keeps R wr w2) (hR : R < lo) (hg : g ≠ R) : GlPut gg l g lo j w2 := by
  obtain ⟨news, hn, hs, hr, hk⟩ := h
  exact ⟨news, hn, hs, hr.keeps k hg, fun x hx => (hk x hx).keeps k hR⟩
theorem glput_next_k {u x : Gl} (h : GlPut gg l g lo j wr) (hj : j < l.length) (hx : x = l.getD j default) (hlo : lo ≤ wr.heap.size) (hu : u.key = (x.ren gg).key) (hst : GlLie Any wr.heap.size No w2 u) (hb : Keeps R wr w2) (hR : R < lo) (hgR : g ≠ R) (w3 : World)
    (h3 : w3 = w2.setCell ⟨g, j * 3 + 2, none⟩ (.slice u.at_ u.args.length u.cap)) : GlPut gg l g lo (j + 1) w3 := by
  have hg := h.lt
  obtain ⟨news, hn, hs, hr, hk⟩ := h
  have hgx : (news ++ l.drop j).getD j default = x := by
    rw [hx]
    simp [List.getD, List.getElem?_append_right (show news.length ≤ j by omega), hn]
  have hr3 := (hr.keeps hb hgR).store (i := j) (by simp; omega) u (by rw [hgx]; exact (Prod.ext_iff.1 hu).1)
  rw [← h3] at hr3
  have hset : (news ++ l.drop j).set j u = (news ++ [u]) ++ l.drop (j + 1) := by
    rw [List.set_append_right _ _ (by omega), hn, Nat.sub_self, List.drop_eq_getElem_cons hj, List.set_cons_zero, List.append_assoc]
    rfl
  rw [hset] at hr3
  refine ⟨news ++ [u], by simp [hn], ?_, hr3, fun y hy => ?_⟩
  · rw [gl_take_next hj, List.map_append, List.map_append, hs, ← hx]
    simp [hu]
  · rw [h3]
    refine GlLie.set (X := Is g) ?_ (p := ⟨g, j * 3 + 2, none⟩) (.inr rfl) _
    rcases List.mem_append.1 hy with hy | hy
    · exact (hk y hy).keeps hb hR
    · obtain rfl : y = u := by simpa using hy
      exact (hst.new_is hg).low hlo
end
def NumGls (b : Nat) (ns : List Int) (l : List Gl) (w : World) (e : Ending) (w' : World) : Prop :=
  ∃ (A : Option Addr) (cap : Nat) (cur : List Gl), e = .returned (.slice A l.length cap) ∧ cur.length = l.length ∧ cur.map Gl.key = (l.map fun x => x.rr (placeS (addAll ns (occL (l.flatMap Gl.args))))).map Gl.key ∧ (∀ W, Agree w.heap.size No w' W → GlLst W A cur cap) ∧ Keeps b w w' ∧ NumM w' b (addAll ns (occL (l.flatMap Gl.args)))
theorem gl_ren_rr (x : Gl) (g : Int → Int) : x.ren g = x.rr g := by unfold Gl.ren Gl.rr; rw [ren_rr.2]
theorem gl_flat {l : List Gl} {j : Nat} (hj : j < l.length) : (l.take (j + 1)).flatMap Gl.args = (l.take j).flatMap Gl.args ++ (l.getD j default).args := by
  rw [gl_take_next hj, List.flatMap_append]; simp
theorem gl_flat_drop (l : List Gl) (j : Nat) : l.flatMap Gl.args = (l.take j).flatMap Gl.args ++ (l.drop j).flatMap Gl.args := by
  rw [← List.flatMap_append, List.take_append_drop]
theorem gl_flat_nodes {l : List Gl} {j : Nat} (hj : j < l.length) : nodesL ((l.take j).flatMap Gl.args) + nodesL (l.getD j default).args ≤ nodesL (l.flatMap Gl.args) := by
  rw [gl_flat_drop l (j + 1), nodesL_app, gl_flat hj, nodesL_app]
  omega
theorem gl_rr_in {l : List Gl} {j : Nat} (hj : j < l.length) (ns : List Int) : rrL (l.getD j default).args (placeS (addAll (addAll ns (occL ((l.take j).flatMap Gl.args))) (occL (l.getD j default).args))) = rrL (l.getD j default).args (placeS (addAll ns (occL (l.flatMap Gl.args)))) := by
  refine rr_like.2 _ _ _ fun v hv => ?_
  rw [← addAll_append, ← occL_append, ← gl_flat hj, gl_flat_drop l (j + 1), occL_append]
  exact (addAll_more _ _ _ (by rw [gl_flat hj, occL_append]; exact List.mem_append_right _ hv)).symm
section
variable {b : Nat}
set_option maxHeartbeats 4000000 in
theorem num_gls_at (w0 : World) (hb0 : w0.heap.size ≤ b) (l : List Gl) (A : Option Addr) (c : Nat) (w : World) (ns : List Int) (hw : Below w0.heap.size w0 w) (hl : GlLst w0 A l c) (hM : NumM w b ns) (hsz : l.length ≤ 1000000) (hn : ns.length + nodesL (l.flatMap Gl.args) ≤ 1000000) :
    Calls Tryz.prog 45 #[.map (some b), .slice A l.length c] w (NumGls b ns l w) := by
  by_cases h0 : l.length = 0
  · obtain rfl : l = [] := List.length_eq_zero_iff.1 h0
    have Q := Lib.hid (clone_gl_none A c w)
    have HM := Lib.hid hM
    clear hl hsz h0 hn hM hw
    show Calls Tryz.prog 45 #[.map (some b), .slice A 0 c] w _
    go_enter Tryz.func45, Tryz.ntmps45
    go_wp2_with fail
    refine (Q.out).mono ?_
    rintro e w1 ⟨A', cap, rfl, h1, h2, _, hb⟩
    have HC := Lib.hid (And.intro h1 h2)
    clear h1 h2
    go_wp2_with fail
    go_loopw [11] (fun i wr => i = .int .i64 0 ∧ Below w.heap.size w wr) (fun _ _ => 0)
    case atStart => exact ⟨rfl, hb⟩
    case round =>
      obtain ⟨rfl, hbw⟩ := hrel
      go_wp2_with fail
      go_ret
      exact ⟨A', cap, [], rfl, rfl, rfl, fun W _ => ⟨HC.out.1, HC.out.2, fun h => by simp at h⟩, Below.keeps hbw b, HM.out.below hbw⟩
  · have hp : 0 < l.length := by omega
    have hlw := hl.below hw
    obtain ⟨b0, o, rfl, hrow⟩ := hlw.2.2 hp
    have hlen : l.length ≤ 9223372036854775807 := by omega
    have Q := Lib.hid (clone_gl_at l b0 o c w hp hrow hsz)
    have hbw0 : b < w.heap.size := hM.lt
    have HM0 := Lib.hid hM
    have HW0 := Lib.hid hw
    have HNn := Lib.hid hn
    have HR := Lib.hid (fun (x : Gl) (hx : x ∈ l) (W : World) (ms : List Int) (h : Below w0.heap.size w0 W) (hm : NumM W b ms) (hz : ms.length + nodesL x.args ≤ 1000000) => terms_of w0 hb0 x.args x.at_ x.cap W ms h (((hl.mem hx).below h).2.2) hm hz (fun y hy => term_num_at w0 hb0 y (Lst.mem ((hl.mem hx).2.2) hy)))
    have HAT := Lib.hid (fun (x : Gl) (hx : x ∈ l) => hl.mem hx)
    clear hrow hsz h0 hl hlw hw hM hn
    go_enter Tryz.func45, Tryz.ntmps45
    go_wp2_with fail
    refine (Q.out).mono ?_
    rintro e w1 ⟨A', cap, rfl, h1, h2, h3, hb⟩
    obtain ⟨g, rfl, hg, hrow⟩ := h3 hp
    have HD := Lib.hid (GlPut.start (gg := placeS (addAll ns (occL (l.flatMap Gl.args)))) (lo := w.heap.size) hrow)
    have HM1 := Lib.hid (HM0.out.below hb)
    have hcap : l.length ≤ cap := h1
    have hcap2 : cap ≤ 9223372036854775807 := by unfold maxLen at h2; exact h2
    have HG := Lib.hid hg
    clear hrow h3 h1 h2 hg
    go_wp2_with fail
    go_loopw [11] (fun i wr => ∃ j : Nat, j ≤ l.length ∧ i = .int .i64 j ∧ Hid (GlPut (placeS (addAll ns (occL (l.flatMap Gl.args)))) l g w.heap.size j wr) ∧ Hid (NumM wr b (addAll ns (occL ((l.take j).flatMap Gl.args)))) ∧ Keeps b w wr) (fun i _ => l.length - (intOf i).toNat)
    case atStart => exact ⟨0, Nat.zero_le _, rfl, HD, HM1, Below.keeps hb b⟩
    case round =>
      obtain ⟨j, hj, rfl, HF, HM, hbw⟩ := hrel
      clear hb HD
      by_cases hlt : j < l.length
      · obtain ⟨x, hx⟩ : ∃ x, x = l.getD j default := ⟨_, rfl⟩
        have hcs := HF.out.cells hlt
        have hmem : x ∈ l := by rw [hx]; exact gl_getD_mem hlt
        have HRR := Lib.hid (gl_rr_in hlt ns)
        have HOC := Lib.hid (gl_flat hlt)
        have HSZ := Lib.hid (show (addAll ns (occL ((l.take j).flatMap Gl.args))).length + nodesL (l.getD j default).args ≤ 1000000 by
          have h1 := gl_flat_nodes hlt
          have h2 := addAll_length ns (occL ((l.take j).flatMap Gl.args))
          have h3 := occ_nodes.2 ((l.take j).flatMap Gl.args)
          have h4 := HNn.out
          omega)
        rw [← hx] at hcs HRR HOC HSZ
        have c0 := hcs 0 _ rfl
        have c1 := hcs 1 _ rfl
        have c2 := hcs 2 _ rfl
        simp only [Nat.add_zero] at c0
        clear hcs
        have Q1 := Lib.hid (HR.out x hmem)
        have HX := Lib.hid hx
        have HXA := Lib.hid (HAT.out x hmem)
        have hgs : g < wr.heap.size := HF.out.lt
        have hgb : g ≠ b := by have := HG.out; omega
        clear hx hmem
        obtain ⟨o', s', A', c', a'⟩ := x
        simp only at c0 c1 c2
        go_wp2_with fail
        refine (Q1.out _ _ (Keeps.below HW0.out (hbw.alloc _) hb0) (HM.out.below (below1 _ _)) HSZ.out).mono ?_
        rintro e w2 ⟨A2, p2, cur, rfl, hcl, hst, hL, hk2, hm2⟩
        have hw : Keeps b wr w2 := (Below.keeps (below1 wr _) b).trans hk2
        have HN := Lib.hid (glput_next_k (u := ⟨o', s', A2, p2, cur⟩) HF.out hlt HX.out hbw.size (Prod.ext rfl (by rw [gl_ren_rr]; show stripL cur = _; rw [hst, HRR.out]; rfl)) (fun W _ hW => ⟨HXA.out.1, HXA.out.2.1, hL W fun b' h1 h2 h3 => hW b' (by simp at h1; omega) h2 h3⟩) hw hbw0 hgb _ rfl)
        have D2 := Lib.hid (HF.out.keeps hw hbw0 hgb)
        have HM2 := Lib.hid (show NumM w2 b (addAll ns (occL ((l.take (j + 1)).flatMap Gl.args))) by rw [HOC.out, occL_append, addAll_append]; exact hm2)
        have hbx := hbw.trans hw
        have e0 := D2.out.cells hlt
        rw [← HX.out] at e0
        have q1 := e0 2 _ rfl
        have f1 := D2.out.free (j * 3 + 2)
        have hgz := D2.out.lt
        simp only at HN
        rw [hcl] at HN
        clear e0 hcl hst hL hk2 hm2 c0 c1 c2 hw
        go_wp2_with fail
        go_roundw
        case rel => exact ⟨j + 1, by omega, by go_num, HN, Lib.hid (HM2.out.set (p := ⟨g, j * 3 + 2, none⟩) hgb _), hbx.own (p := ⟨g, j * 3 + 2, none⟩) HG.out _⟩
        case measure => simp [intOf]; omega
      · obtain rfl : j = l.length := by omega
        obtain ⟨news, hn, hst, hL⟩ := HF.out.done HG.out cap hcap (by unfold maxLen; exact hcap2)
        have HL := Lib.hid hL
        have HN := Lib.hid hn
        have HS := Lib.hid (show news.map Gl.key = (l.map fun x => x.rr (placeS (addAll ns (occL (l.flatMap Gl.args))))).map Gl.key by simp only [gl_ren_rr] at hst; exact hst)
        have HMM := Lib.hid (show NumM wr b (addAll ns (occL (l.flatMap Gl.args))) by have := HM.out; rw [List.take_length] at this; exact this)
        clear hn hst hL HF HM
        go_wp2_with fail
        go_ret
        exact ⟨_, cap, news, rfl, HN.out, HS.out, fun W hW => HL.out W trivial hW, hbw, HMM.out⟩
end
end Go.Proofs.YtnghanpmmbcbbaaGreatDoor
