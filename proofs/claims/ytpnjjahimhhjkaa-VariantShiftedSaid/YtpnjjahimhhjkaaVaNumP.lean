/-
  Contracts of Number, Top and Variants of the program.
-/
import Derived.Test.YtpnjjahimhhjkaaVaNums
import Derived.Test.YtpnjjahimhhjkaaSuRow
import Derived.Test.YtpnjjahimhhjkaaMaShift
namespace Go.Proofs.Ytpnjjahimhhjkaa
open Go.RowKit Go.Maps

/-- What Number hands out: terms that lie, and the variables. -/
def NumR (n : Nat) (m : List Tm) (vs : List Int) (w : World) (e : Ending) (w' : World) : Prop :=
  ∃ A cap B cb, ∃ cur : List Tm, e = .returned (.tuple #[.slice A n cap, .slice B vs.length cb]) ∧ cur.length = n ∧ stripL cur = stripL m ∧ Lst w' A cur cap ∧ Ints w' B vs ∧ Below w.heap.size w w'
theorem nums_start (w : World) : Nums (w.alloc (.map #[] 0)) w.heap.size [] :=
  ⟨by simp, List.nodup_nil, World.ownsMap_made w Try.prog 3 (plainElem (H := Unit) Try.prog 3)⟩
/-- While the map is filled: its variable at P, the map in block b, the list of variables. -/
structure Filling (w : World) (P b : Nat) (B : Option Addr) (vs : List Int) (j : Nat) (W : World) : Prop where
  below : Below w.heap.size w W
  lo : w.heap.size ≤ b
  var : W.cell? ⟨P, 0, none⟩ = some (.map (some b))
  ne : P ≠ b
  ints : Ints W B vs
  nb : ∀ a, B = some a → a.block ≠ b
  nums : Nums W b (vs.take j)
theorem Filling.next {w : World} {P b : Nat} {B : Option Addr} {vs : List Int} {j : Nat} {W W' : World} (h : Filling w P b B vs j W) (hg : W.grownBy W' (some b)) (hn : Nums W' b (vs.take (j + 1))) : Filling w P b B vs (j + 1) W' := by
  refine ⟨h.below.grown hg h.below.size (fun k hk => by injection hk with hk; rw [← hk]; exact h.lo), h.lo, ?_, h.ne, fun h0 => ?_, h.nb, hn⟩
  · rw [World.cell?_of_block (a := ⟨P, 0, none⟩) (hg.block P (World.block_lt_of_cell? _ _ h.var) (by simpa using h.ne))]
    exact h.var
  · obtain ⟨g, o, e, hc⟩ := h.ints h0
    refine ⟨g, o, e, fun i hi => ?_⟩
    rw [World.cell?_of_block (a := ⟨g, o + i, none⟩) (hg.block g (World.block_lt_of_cell? _ _ (hc i hi)) (by have := h.nb _ e; simpa using this))]
    exact hc i hi

set_option maxHeartbeats 2000000 in
theorem number_at (l : List Tm) (A : Option Addr) (c : Nat) (w : World) (hl : Lst w A l c) (hn : nodesL l ≤ 1000000) :
    Calls Try.prog 19 #[.slice A l.length c] w (NumR l.length (renL l (plc (varsL l))) (varsL l) w) := by
  have hmf : ∀ (fn : Fn) (first cap : Array Value) (w : World), (Instr.makeFunc fn first cap).run Try.prog w = .ok (.func fn first cap) w := fun _ _ _ _ => rfl
  have hmm := @run_makeMap Try.prog
  have hln : l.length ≤ 1000000 := by have := length_le_nodes l; omega
  have hvl : (varsL l).length ≤ 1000000 := by have := varsL_len l; omega
  have Q := Lib.hid (first_occ_at l A c w hl (by have := size_nodes.2 l; omega))
  have QA := Lib.hid (fun (P b : Nat) (W : World) (hc : W.cell? ⟨P, 0, none⟩ = some (.map (some b))) (h : Nums W b (varsL l)) (hb : Below w.heap.size w W) => rename_all_at l A c W _ _ _ (hl.below hb) hln (fun x hx W' h' => rename_at x _ _ _ W (number_renames hvl hc h) W' h' ((hl.mem hx).below (hb.trans (h'.mono hb.size))) (by have := nodes_mem hx; omega)))
  have HND := Lib.hid (varsL_nodup l)
  have HFT := Lib.hid (varsL_fits hl)
  generalize renL l (plc (varsL l)) = m at *
  generalize varsL l = vs at *
  clear hl hn
  go_enter Try.func19, Try.ntmps19
  go_wp2_with fail
  refine Q.out.mono ?_
  rintro e w1 ⟨v, rfl, hown, hb1⟩
  obtain ⟨B, cb, rfl, hI, _⟩ := hown.form
  have HS := Lib.hid (show Filling w (w1.heap.size + 1) w1.heap.size B vs 0 ((w1.alloc (.map #[] 0)).alloc (.cells #[.map (some w1.heap.size)] 73)) from by
    refine ⟨(hb1.alloc hb1.size _).alloc (by have := hb1.size; simp; omega) _, hb1.size, World.cell?_alloc_at _ _ _ _ (by simp), by omega, (hI.below (below1 _ _)).below (below1 _ _), fun a e => ?_, (nums_start w1).keep (below1 _ _)⟩
    subst e
    have := (own_lt hown a.block (by simp [Value.ownBlock])).2
    omega)
  clear hown hI hb1
  go_wp2_with fail
  clear hmm
  go_loopw [12] (fun i wr => ∃ j : Nat, j ≤ vs.length ∧ i = .int .i64 j ∧ Hid (Filling w (w1.heap.size + 1) w1.heap.size B vs j wr)) (fun i _ => vs.length - (intOf i).toNat)
  case atStart => exact ⟨0, Nat.zero_le _, rfl, HS⟩
  case round =>
    obtain ⟨j, hj, rfl, HF⟩ := hrel
    clear HS
    have hc := HF.out.var
    by_cases hlt : j < vs.length
    · obtain ⟨b, o, rfl, hci⟩ := HF.out.ints.get hlt
      have hfx := HFT.out _ (getD_int hlt)
      have HT := Lib.hid (take_int hlt)
      have HX := Lib.hid (show vs.getD j 0 ∉ vs.take j from by
        intro hm
        have hnd := HND.out
        rw [← List.take_append_drop (j + 1) vs, HT.out] at hnd
        have := (List.nodup_append.1 (List.nodup_append.1 hnd).1).2.2 _ hm (vs.getD j 0) (by simp)
        exact this rfl)
      have HLn := Lib.hid (show (vs.take j).length = j by rw [List.length_take]; omega)
      generalize vs.getD j 0 = x at *
      go_wp2_with (at_mapUpdate; refine wpList_number _ rfl _ _ _ rfl _ (vs.take j) rfl HF.out.nums (by rw [HLn.out]; omega) x rfl hfx HX.out (by rw [HLn.out]; rfl) ?_; intro w2 hnum hg2; have HG := Lib.hid (HF.out.next hg2 (by rw [HT.out]; exact hnum)); clear hnum hg2)
      go_roundw
      case rel => exact ⟨j + 1, by omega, by go_num, HG⟩
      case measure => simp [intOf]; omega
    · obtain rfl : j = vs.length := by omega
      have HN := Lib.hid (show Nums wr w1.heap.size vs from by have := HF.out.nums; rwa [List.take_length] at this)
      have Q2 := Lib.hid (QA.out _ _ _ hc HN.out HF.out.below)
      go_wp2_with fail
      refine Q2.out.mono ?_
      rintro e w3 ⟨A', cap, cur, rfl, h1, h2, h3, h4⟩
      have HE := Lib.hid (show NumR l.length m vs w (.returned (.tuple #[.slice A' l.length cap, .slice B vs.length cb])) w3 from ⟨A', cap, B, cb, cur, rfl, by rw [h1], h2, h3 w3 (Agree.refl _ _ _), HF.out.ints.below h4, HF.out.below.trans (h4.mono HF.out.below.size)⟩)
      clear h1 h2 h3 h4
      go_wp2_with fail
      exact bodyPost_ret (v := .tuple #[.slice A' l.length cap, .slice B vs.length cb]) (by simp [results, Try.results19, go_sem]) rfl HE.out

/-! ### Top -/
theorem shiftV_le {f v : Int} (hv : Fits v) : shiftV f v ≤ 9223372036854775807 := (shiftV_fits hv).2
theorem top_at (l : List Tm) (A : Option Addr) (c : Nat) (w : World) (hl : Lst w A l c) (hn : nodesL l ≤ 1000000) :
    Calls Try.prog 23 #[.slice A l.length c] w fun e w' => e = .returned (.int .i64 (topL (occL l))) ∧ Below w.heap.size w w' := by
  have Q := Lib.hid (first_occ_at l A c w hl (by have := size_nodes.2 l; omega))
  have HFT := Lib.hid (varsL_fits hl)
  have hvl : (varsL l).length ≤ 1000000 := by have := varsL_len l; omega
  rw [← topL_varsL]
  generalize varsL l = vs at *
  clear hl hn
  have HTop := Lib.hid (fun (h : 9223372036854775807 ∈ vs) => show topL vs = 9223372036854775807 from by
    obtain ⟨_, h2, h3⟩ := top_from vs 0
    have a := h2 _ h
    have e : shiftV 1 9223372036854775807 = 9223372036854775807 := by unfold shiftV; rw [if_neg (by omega)]
    rw [e] at a
    unfold topL
    rcases h3 with h3 | ⟨v, hv, h3⟩
    · omega
    · have := shiftV_le (f := 1) (HFT.out v hv)
      omega)
  go_enter Try.func23, Try.ntmps23
  go_wp2_with fail
  refine Q.out.mono ?_
  rintro e w1 ⟨v, rfl, hown, hb1⟩
  obtain ⟨B, cb, rfl, hI, _⟩ := hown.form
  clear hown
  go_wp2_with fail
  go_loopw [3, 9] (fun z i wr => ∃ j : Nat, j ≤ vs.length ∧ i = .int .i64 j ∧ z = .int .i64 (topL (vs.take j)) ∧ wr = w1) (fun _ i _ => vs.length - (intOf i).toNat)
  case atStart => exact ⟨0, Nat.zero_le _, rfl, rfl, rfl⟩
  case round =>
    obtain ⟨j, hj, rfl, rfl, rfl⟩ := hrel
    by_cases hlt : j < vs.length
    · obtain ⟨b, o, rfl, hci⟩ := hI.get hlt
      have HM := Lib.hid (getD_int hlt)
      have hfx := HFT.out _ HM.out
      have HT := Lib.hid (show topL (vs.take (j + 1)) = max (topL (vs.take j)) (shiftV 1 (vs.getD j 0)) by rw [take_int hlt]; simp [topL, List.foldl_append])
      generalize vs.getD j 0 = x at *
      generalize topL (vs.take j) = t at *
      by_cases hx : x = 9223372036854775807
      · subst hx
        have HE := Lib.hid (HTop.out HM.out)
        go_wp2_with fail
        go_ret
        exact ⟨by rw [HE.out]; rfl, hb1⟩
      · have hx' : (x == 9223372036854775807) = false := by simpa using hx
        have HS := Lib.hid (show shiftV 1 x = x + 1 by unfold Fits at hfx; rw [shiftV_in (by omega) (by omega)]; omega)
        unfold Fits at hfx
        have h1 := hfx.1
        have h2 : x < 9223372036854775807 := by omega
        clear hfx hx
        go_wp2_with fail
        all_goals
          go_roundw
          case rel => exact ⟨j + 1, by omega, by go_num, by rw [HT.out, HS.out]; congr 1; omega, by first | rfl | trivial⟩
          case measure => simp [intOf]; omega
    · obtain rfl : j = vs.length := by omega
      rw [List.take_length]
      go_wp2_with fail
      go_ret
      exact ⟨rfl, hb1⟩

/-! ### Variants -/
theorem variants_at (a b : List Tm) (A B : Option Addr) (c d : Nat) (w : World) (ha : Lst w A a c) (hb : Lst w B b d) (hna : nodesL a ≤ 1000000) (hnb : nodesL b ≤ 1000000) :
    Calls Try.prog 32 #[.slice A a.length c, .slice B b.length d] w fun e w' => e = .returned (.bool (variantB a b)) ∧ Below w.heap.size w w' := by
  have QA := Lib.hid (number_at a A c w ha hna)
  have QB := Lib.hid (fun W (h : Below w.heap.size w W) => number_at b B d W (hb.below h) hnb)
  have HV := Lib.hid (fun (x y : List Tm) (hx : stripL x = stripL (renL a (plc (varsL a)))) (hy : stripL y = stripL (renL b (plc (varsL b)))) => show (cmpL x y == 0) = variantB a b from by
    have key : ∀ (a x : List Tm), stripL x = stripL (renL a (plc (varsL a))) → canonL x = numL a := fun a x hx => by
      rw [canonL_strip hx, ren_canon.2]
      exact vmap_congr.2 _ fun v hv => by
        unfold plc
        rw [if_pos ((mem_varsL a v).2 hv)]
        rfl
    have e : (cmpL x y = 0) ↔ numL a = numL b := by rw [cmpL_canon, key a x hx, key b y hy]
    rw [Bool.eq_iff_iff, variantB_iff, ← e]
    simp)
  generalize renL a (plc (varsL a)) = ra at *
  generalize renL b (plc (varsL b)) = rb at *
  generalize varsL a = va at *
  generalize varsL b = vb at *
  clear ha hb hna hnb
  go_enter Try.func32, Try.ntmps32
  go_wp2_with fail
  refine QA.out.mono ?_
  rintro e w1 ⟨A1, c1, B1, d1, x, rfl, hx1, hx2, hx3, _, hb1⟩
  have HX := Lib.hid hx3
  have HX2 := Lib.hid hx2
  clear hx2 hx3
  go_wp2_with fail
  refine (QB.out _ hb1).mono ?_
  rintro e w2 ⟨A2, c2, B2, d2, y, rfl, hy1, hy2, hy3, _, hb2⟩
  have qe := equal_func_at x y A1 A2 c1 c2 w2 (HX.out.below hb2) hy3 (HV.out x y HX2.out hy2)
  rw [hx1, hy1] at qe
  have QE := Lib.hid qe
  clear hy2 hy3 qe hx1 hy1
  go_wp2_with fail
  refine QE.out.mono ?_
  rintro e w3 ⟨rfl, hb3⟩
  go_wp2_with fail
  go_ret
  exact ⟨rfl, (hb1.trans (hb2.mono hb1.size)).trans (hb3.mono (Nat.le_trans hb1.size hb2.size))⟩
end Go.Proofs.Ytpnjjahimhhjkaa
