/-
  Contract of fit of the program: whether the terms that are bound are small enough.
  Contract of rightAll of the program: whether all terms of a list are valid.
  What All answers, case by case.
  A world behind another: blocks that were there stay.
  A world behind another, and drawing.
  Contracts of left, Small and Few of the statements.
  Arguments opened: lists of bindings, lists of ints.
  Arguments opened: lists of terms.
  Contracts of slices.IndexFunc over bindings (with the method bindsVarIn, and with the closure of Lookup), slices.ContainsFunc over bindings, the closure of Lookup.
  Contract of Right of the program.
-/
import Derived.Test.YtdjbigfobodecaaMk13
import Derived.Test.YtdjbigfobodecaaMk2
import Derived.Test.YtdjbigfobodecaaMk9
import Derived.Test.YtdjbigfobodecaaMk7
import Derived.Test.YtdjbigfobodecaaMk11
import Derived.Test.YtdjbigfobodecaaMk4
import Derived.Test.YtdjbigfobodecaaMk6
import Derived.Test.YtdjbigfobodecaaMk3
import Derived.Test.YtdjbigfobodecaaMk8
import Derived.BigQuiet
import Derived.Deep.QuietTactic
namespace Go.Proofs.Ytdjbigfobodecaa
open Go.RowKit
attribute [local go_sem] Oper.semAt_some

theorem all_any {f g : Nat → Bool} : ∀ l : List Nat, (∀ i ∈ l, f i = !g i) → (!(l.any f)) = l.all g := by
  intro l
  induction l with
  | nil => intro _; rfl
  | cons x r ih =>
    intro h
    have h1 := h x (by simp)
    have h2 := ih fun i hi => h i (by simp [hi])
    rw [List.any_cons, List.all_cons, h1, Bool.not_or, Bool.not_not, h2]
/-- What fit answers. -/
def FitR (lo : Nat) (X : Nat → Prop) (p : Nat) (z : Value) (G : List Nd) (root r : Nat → Nat) (D : Nat) (bd : List Nat) (w : World) (e : Ending) (w' : World) : Prop :=
  ∃ H, e = .returned (.bool (bd.all fun i => decide ((sol G root D i).size ≤ 200) && decide ((sol G root D i).depth ≤ 20))) ∧ Alike G H ∧ UF H root r ∧ Gph lo X w' p z H ∧ w.grownBy w' z.ownBlock

set_option maxHeartbeats 8000000 in
set_option maxRecDepth 100000 in
theorem fitg_at {lo p D : Nat} {X : Nat → Prop} {z : Value} {G : List Nd} {root r r2 : Nat → Nat} {E : List (Nat × Nat)} {A B : Option Addr} {ca cb : Nat} {bd ord us : List Nat} {w : World} (h : Gph lo X w p z G) (hu : UF G root r) (hcl : Closed G E root) (hrk : Ranked G root r2 D)
    (ho : Ordering G root ord ord.length [] us) (hall : ord.length = G.length) (hbd : ∀ i ∈ bd, i < G.length) (hA : ∀ W, w.grownBy W z.ownBlock → IRow W A bd ca) (hB : ∀ W, w.grownBy W z.ownBlock → IRow W B ord cb) (hBz : ∀ b, B = some b → z.ownBlock ≠ some b.block) :
    Calls Try.prog 29 #[.pointer (some ⟨p, 0, none⟩), .slice A bd.length ca, .slice B ord.length cb] w (FitR lo X p z G root r D bd w) := by
  obtain ⟨zA, zc, rfl, _⟩ := h.slice
  have hsm := h.small
  have c0 := h.hdr
  have hpl := h.lt
  have HG := Lib.hid h
  have HU := Lib.hid hu
  have HCL := Lib.hid hcl
  have HRK := Lib.hid hrk
  have HO := Lib.hid ho
  have HALL := Lib.hid hall
  have HBD := Lib.hid hbd
  have HA := Lib.hid hA
  have HB := Lib.hid hB
  have HBZ := Lib.hid hBz
  have hb2 : w.heap.size < w.heap.size + 1 + 1 := by omega
  have hb3 : w.heap.size < w.heap.size + 1 + 1 + 1 := by omega
  have hb4 : w.heap.size < w.heap.size + 1 + 1 + 1 + 1 := by omega
  have hp1 : p < w.heap.size + 1 := by omega
  have hp2 : p < w.heap.size + 1 + 1 := by omega
  have hp3 : p < w.heap.size + 1 + 1 + 1 := by omega
  have hp4 : p < w.heap.size + 1 + 1 + 1 + 1 := by omega
  have hmk := fun W => make_nums G.length hsm W
  obtain ⟨mc, hmc⟩ : ∃ mc, mc = madeCells (Value.int .i64 0).cells (G.length * 1) := ⟨_, rfl⟩
  rw [← hmc] at hmk
  have HMC := Lib.hid hmc
  clear hmc h hu hcl hrk ho hall hbd hA hB hBz
  refine (callsIn_wide (n := 5)).1 (callsIn_of_wp_marks Try.func29 rfl trivial (wpIn_wide.2 ?_) rfl)
  simp only [Try.ntmps29, List.size_toArray, List.length_cons, List.length_nil, Nat.reduceAdd, Nat.reduceSub, Array.replicate_succ, Array.replicate_zero, List.push_toArray, List.append_toArray, List.nil_append, List.cons_append]
  go_upto_region 1 with (fail)
  go_cut [7, 8] from 14 to 25 (fun s7 s8 W => Hid (Two w p G.length s7 s8 W))
  case first =>
    go_region_held3 (fun w' => w'.cell? ⟨w.heap.size, 0, none⟩ = some (.pointer (some ⟨p, 0, none⟩)) ∧ w'.cell? ⟨p, 0, none⟩ = some (.slice zA G.length zc)) (simp [*, World.cell?_alloc_past]) (fail)
    all_goals go_wp2_with fail
    all_goals go_meet
    all_goals
      refine Lib.hid (two5 fun W hB a0 a1 a2 a3 a4 => ?_)
      exact ⟨_, _, _, _, rfl, rfl, hB, cell_heap a0, by first | exact cell_heap a1 | exact cell_heap a2 | exact cell_heap a3 | exact cell_heap a4, by first | exact cell_heap a1 | exact cell_heap a2 | exact cell_heap a3 | exact cell_heap a4, by rw [← HMC.out]; first | exact a1 | exact a2 | exact a3 | exact a4, by rw [← HMC.out]; first | exact a1 | exact a2 | exact a3 | exact a4, by omega, by omega, by omega, by omega, by omega, by omega, by omega, by omega, by omega⟩
  case rest =>
    obtain ⟨sb, db, b7, b8, rfl, rfl, hB0, t3, t7, t8, ts, td, n1, n2, n3, n4, n5, n6, n7, n8, n9⟩ := hcut.out
    clear hcut hmk hb2 hb3 hb4 hp1 hp2 hp3 hp4
    rename World => w1
    go_wp2_with (go_at_call 48; refine (backward_at B ord.length cb _).mono ?_; rintro e w' ⟨rfl, rfl⟩)
    have hplc : Places sb db b7 b8 w.heap.size w1.heap.size := by
      have a1 := World.block_lt_of_cell? _ _ t7
      have a2 := World.block_lt_of_cell? _ _ t8
      have a3 := (Array.getElem?_eq_some_iff.1 ts).1
      have a4 := (Array.getElem?_eq_some_iff.1 td).1
      simp only at a1 a2
      exact ⟨n1, n2, n3, n4, n5, by omega, by omega, by omega, by omega⟩
    have hsz1 := hB0.size
    have HPL := Lib.hid hplc
    have HS1 := Lib.hid (show Fit0 lo p sb db b7 b8 w1.heap.size X (.slice zA G.length zc) G root r w 0 (List.replicate G.length 0, List.replicate G.length 0) (w1.alloc (.cells #[.slice B ord.length cb] 49)) from by
      have hg1 := (HG.out.below hB0).alloc (.cells #[.slice B ord.length cb] 49)
      have k := World.grownBy_alloc w1 (.cells #[.slice B ord.length cb] 49) none
      have r1 := row_heap (base := w.heap.size + 1) ts (by omega) hsm
      have r2 := row_heap (base := w.heap.size + 1) td (by omega) hsm
      refine ⟨⟨G, Alike.refl _, HU.out, hg1⟩, fr_alloc (fr_below hB0 _) _, ?_, ?_, ?_, World.ownsRow.kept r1 k (.inr (by simp [Value.ownBlock])), World.ownsRow.kept r2 k (.inr (by simp [Value.ownBlock])), ⟨by simp, by simp, fun v => by rw [rep_get]; omega, fun v => by rw [rep_get]; omega⟩, by simp⟩
      · exact (fr_cell k (p := ⟨w.heap.size, 0, none⟩) (World.block_lt_of_cell? _ _ t3) (by simp)).trans t3
      · exact (fr_cell k (p := ⟨b7, 0, none⟩) (World.block_lt_of_cell? _ _ t7) (by simp)).trans t7
      · exact (fr_cell k (p := ⟨b8, 0, none⟩) (World.block_lt_of_cell? _ _ t8) (by simp)).trans t8)
    obtain ⟨ob, hobw, hob⟩ : ∃ ob, ob < w.heap.size ∧ (0 < ord.length → B = some ⟨ob, 0, none⟩ ∧ (∀ j, j < ord.length → (w1.alloc (.cells #[.slice B ord.length cb] 49)).cell? ⟨ob, j, none⟩ = some (.int .i64 (ord.getD j 0 : Nat)))) := by
      by_cases hz : 0 < ord.length
      · obtain ⟨ob, h1, h2⟩ := (HB.out w (fr_refl _ _)).2.2 hz
        have h3 := (HB.out _ HS1.out.fr).2.2 hz
        obtain ⟨ob', h4, h5⟩ := h3
        rw [h1] at h4
        injection h4 with h4
        injection h4 with h4
        subst h4
        exact ⟨ob, World.block_lt_of_cell? _ _ (h2 0 hz), fun _ => ⟨h1, h5⟩⟩
      · exact ⟨0, by omega, fun h => absurd h hz⟩
    have HOB := Lib.hid hob
    clear t3 t7 t8 ts td n1 n2 n3 n4 n5 n6 n7 n8 n9 hob hplc
    have hlen1 : ord.length ≤ 1000000 := by rw [HALL.out]; exact hsm
    refine wpIn_wide (n := 5).1 ?_
    refine wpIn_rangeFunc_ownG rfl (by decide) (gf := 75) (lb := #[.pointer (some ⟨w1.heap.size, 0, none⟩)]) rfl trivial (enters_of Try.func75 (by kernel_rfl) rfl)
      (back_stops (m := G.length) 4 w1.heap.size ob cb B ord HO.out.lt hlen1 (w1.alloc (.cells #[.slice B ord.length cb] 49)) (World.cell?_alloc_at _ _ _ _ rfl) (fun h => HOB.out h))
      Kept2.trans ?keep (Below.refl _ _) (fun _ => rfl)
      (fun pre W => Hid (Fit0 lo p sb db b7 b8 w1.heap.size X (.slice zA G.length zc) G root r w pre.length ((valsP pre).foldl (nodeF G root) (List.replicate G.length 0, List.replicate G.length 0)) W))
      (fun _ _ _ => False) ?own (fun _ _ _ _ _ h _ _ => h) HS1
      (fun x => { tmps := #[.pointer (some ⟨p, 0, none⟩), .slice A bd.length ca, .slice B ord.length cb, .pointer (some ⟨w.heap.size, 0, none⟩), undef, undef, .bool false, .pointer (some ⟨b7, 0, none⟩), .pointer (some ⟨b8, 0, none⟩), undef, .int .i64 ((x.1.2 : Nat) : Int), undef, undef, undef, u14, u15, u16, u17, u18, u19, u20, u21, u22, u23, u24, u25, .slice B ord.length cb, .func (.func 75) #[] #[.pointer (some ⟨w1.heap.size, 0, none⟩)], .int .i64 ((x.1.1 : Nat) : Int), .int .i64 ((x.1.2 : Nat) : Int), undef, undef, undef, undef, undef, undef, undef, undef, undef, undef, undef, undef, undef, undef, undef, undef, undef, undef, undef, undef, undef, undef, undef, undef, undef, undef, undef, undef, undef, undef, undef, undef, undef, undef, undef, undef, undef, undef, undef, undef, undef, undef, undef, undef, undef, undef, undef, undef, undef, undef, undef, undef, undef, undef, undef], defers := [] }) ?assign ?body ?done ?stop
    case keep =>
      intro W l o o' hl _ _ _
      rw [World.size_alloc] at hl
      exact ⟨World.putObj_heap_other (by omega), World.putObj_heap_other (by omega)⟩
    case own =>
      intro pre W W' row h k hr
      refine Lib.hid (h.out.other HG.out HPL.out k fun b hb => ?_)
      have := (hr b hb).1
      rw [World.size_alloc] at this
      omega
    case assign =>
      intro l x W K hK
      gi_wp2
      exact hK
    case body =>
      rintro l pre ⟨⟨xi, xv⟩, hx⟩ W hI hlt
      obtain ⟨hoB, _⟩ := HOB.out (by omega)
      simp only at hx
      have hpn : valsP (pre ++ [(⟨(xi, xv), hx⟩ : Pos G.length)]) = valsP pre ++ [xv] := by simp [valsP]
      have hpl2 : (pre ++ [(⟨(xi, xv), hx⟩ : Pos G.length)]).length = pre.length + 1 := by simp
      have hnode : (valsP pre ++ [xv]).foldl (nodeF G root) (List.replicate G.length 0, List.replicate G.length 0) = nodeF G root ((valsP pre).foldl (nodeF G root) (List.replicate G.length 0, List.replicate G.length 0)) xv := by rw [List.foldl_append]; rfl
      have HPN := Lib.hid (show ∀ W', Fit0 lo p sb db b7 b8 w1.heap.size X (.slice zA G.length zc) G root r w (pre.length + 1) (nodeF G root ((valsP pre).foldl (nodeF G root) (List.replicate G.length 0, List.replicate G.length 0)) xv) W' → Hid (Fit0 lo p sb db b7 b8 w1.heap.size X (.slice zA G.length zc) G root r w (pre ++ [(⟨(xi, xv), hx⟩ : Pos G.length)]).length ((valsP (pre ++ [(⟨(xi, xv), hx⟩ : Pos G.length)])).foldl (nodeF G root) (List.replicate G.length 0, List.replicate G.length 0)) W') from fun W' h => by
        rw [hpl2, hpn, hnode]
        exact h)
      clear hpn hpl2 hnode
      generalize (valsP pre).foldl (nodeF G root) (List.replicate G.length 0, List.replicate G.length 0) = s at *
      generalize pre ++ [(⟨(xi, xv), hx⟩ : Pos G.length)] = pn at *
      generalize hm : pre.length = m at *
      have hmn : m ≤ 1000000 := by omega
      -- the graph's row
      obtain ⟨H, e1, e2, e3⟩ := hI.out.g
      obtain ⟨q, cap, hzz, _⟩ := HG.out.form (by omega)
      injection hzz with hz1 hz3 hz2
      subst hz1 hz2
      clear hz3
      have hqz : q < w.heap.size := (own_lt HG.out.row q rfl).2
      have hp := HPL.out
      have hoq : q ≠ ob := fun e => HBZ.out _ hoB (by rw [e]; rfl)
      have HLS := Lib.hid (show sb < w1.heap.size ∧ sb ≠ ob ∧ db < w1.heap.size ∧ db ≠ ob ∧ q < w1.heap.size ∧ q ≠ ob from ⟨hp.sb.2, by have := hp.sb; omega, hp.db.2, by have := hp.db; omega, by omega, hoq⟩)
      have HL1 := Lib.hid ((Link.refl (Bs := w1.heap.size) (ob := ob) (W := W) (by have := hI.out.big; omega) (by have := hI.out.big; omega)).set (b := sb) (i := xv) (v := .int .i64 1) HLS.out.1 HLS.out.2.1)
      have j1 : p ≠ sb := by have := hp.sb; omega
      have j2 : q ≠ sb := by have := hp.sb; omega
      have j3 : w.heap.size ≠ sb := by have := hp.sb; omega
      have j4 : b7 ≠ sb := Ne.symm hp.s7
      have j5 : b8 ≠ sb := Ne.symm hp.s8
      have HKI := Lib.hid (show ∀ W, w.grownBy W (some q) → IRow W (nd G xv).A (nd G xv).kids (nd G xv).cap from fun W hW => ((HG.out.kids xv hx).fr hW fun b hb _ => .inl hb).at)
      have HKM := Lib.hid (fun c hc => (HCL.out.ok xv hx).mem (c := c) hc)
      have hkl := (HG.out.fine xv hx).kids
      have k3 := hI.out.c3
      have k7 := hI.out.c7
      have kp := e3.hdr
      have d4 := (e3.cells (i := xv) (by rw [e1.len]; exact hx)).2.2.2.2.1
      rw [(e1.tm hx).2.1, (e1.tm hx).2.2.1, (e1.tm hx).2.2.2] at d4
      have s1 := nums_cell hI.out.r1 (v := xv) (by rw [hI.out.ok.l1]; exact hx)
      have s2 := World.ownsRow.frozenAt hI.out.r1 xv
      have HF1 := Lib.hid (hI.out.store1 HG.out HPL.out (i := xv) (v := 1) hI.out.ok.start)
      obtain ⟨lk, hlk⟩ : ∃ l, l = (nd G xv).kids := ⟨_, rfl⟩
      obtain ⟨Ax, hAx⟩ : ∃ l, l = (nd G xv).A := ⟨_, rfl⟩
      obtain ⟨cx, hcx⟩ : ∃ l, l = (nd G xv).cap := ⟨_, rfl⟩
      rw [← hlk, ← hAx, ← hcx] at HKI d4
      rw [← hlk] at HKM hkl
      have HLK := Lib.hid hlk
      have HIB := Lib.hid hI.out
      have hlk9 : lk.length ≤ 9223372036854775807 := by omega
      clear hlk hAx hcx e1 e2 e3 hI hp
      generalize s.1.getD xv 0 = sx at *
      gi_wp2
      gi_loopw [42] (fun s42 wr => ∃ k : Nat, k ≤ lk.length ∧ s42 = .int .i64 (k : Nat) ∧ Hid (Fit0 lo p sb db b7 b8 w1.heap.size X (.slice (some ⟨q, 0, none⟩) G.length zc) G root r w m (kidsF root xv (lk.take k) s) wr) ∧ Hid (Link w1.heap.size ob W wr)) (fun s42 _ => lk.length - (intOf s42).toNat)
      case atStart => exact ⟨0, Nat.zero_le _, rfl, HF1, HL1⟩
      case round =>
        clear HF1 HL1 s1 s2 k3 k7 kp d4
        obtain ⟨k, hk, rfl, HF, HL⟩ := hrel
        by_cases hlk2 : k < lk.length
        · obtain ⟨b, rfl, hb⟩ := (HKI.out wr HF.out.fr).2.2 (by omega)
          have b1 := hb k hlk2
          obtain ⟨c, hc⟩ : ∃ c, c = lk.getD k 0 := ⟨_, rfl⟩
          rw [← hc] at b1
          have hcG : c < G.length := HKM.out c (by rw [hc]; exact nat_getD_mem hlk2)
          obtain ⟨rc, hrc⟩ : ∃ rc, root c = rc := ⟨_, rfl⟩
          have hrl : rc < G.length := by rw [← hrc]; exact (HU.out.root_lt c hcG).1
          obtain ⟨H2, e1, e2, e3⟩ := HF.out.g
          have HQ := Lib.hid (find_to e3 e2 (show c < H2.length by rw [e1.len]; exact hcG) hrc)
          have HE1 := Lib.hid e1
          have k3 := HF.out.c3
          obtain ⟨sn, hsn⟩ : ∃ sn, sn = kidsF root xv (lk.take (k + 1)) s := ⟨_, rfl⟩
          have hsn2 := hsn
          rw [kidsF_next hlk2, ← hc] at hsn2
          obtain ⟨so, hso⟩ : ∃ so, so = kidsF root xv (lk.take k) s := ⟨_, rfl⟩
          rw [← hso] at hsn2 HF
          unfold kidF at hsn2
          rw [hrc] at hsn2
          have HSN := Lib.hid hsn
          have HS2 := Lib.hid hsn2
          clear hb hc hcG hrc e1 e2 e3 hsn hso hsn2
          gi_wp2_with (refine ⟨trivial, ?_⟩; gi_at_call 49; refine (round_calls (HQ.out)).mono ?_; rintro e w3 ⟨H3, rfl, m1, m2, m3, m4, m5⟩)
          have HL3 := Lib.hid (HL.out.gr m4 rfl HLS.out.2.2.2.2.1 HLS.out.2.2.2.2.2)
          have HF3 := Lib.hid (HF.out.call HG.out HPL.out m4 (HE1.out.trans m1) m2 m3)
          have k7 := HF3.out.c7
          have ob1 := HF3.out.ok.b1 xv
          have ob2 := HF3.out.ok.b1 rc
          have s1 := nums_cell HF3.out.r1 (v := xv) (by rw [HF3.out.ok.l1]; exact hx)
          have s2 := nums_cell HF3.out.r1 (v := rc) (by rw [HF3.out.ok.l1]; exact hrl)
          have s3 := World.ownsRow.frozenAt HF3.out.r1 xv
          have hS : w3.drew.cell? ⟨b7, 0, none⟩ = some (.slice (some ⟨sb, 0, none⟩) G.length G.length) := k7
          have hmx : Try.prog.follows .mixedOrders = true := by kernel_rfl
          obtain ⟨v1, hv⟩ : ∃ v1, v1 = min (so.1.getD xv 0 + so.1.getD rc 0) 201 := ⟨_, rfl⟩
          have HF4 := Lib.hid (HF3.out.store1 HG.out HPL.out (m' := m) (i := xv) (v := v1) (HF3.out.ok.set1 (by omega))).drew
          obtain ⟨w4, hw4⟩ : ∃ w4, w4 = (w3.setCell ⟨sb, xv, none⟩ (.int .i64 ((v1 : Nat) : Int))).drew := ⟨_, rfl⟩
          rw [← hv] at HS2
          have HW4 := Lib.hid hw4
          have HL4 := Lib.hid (show Link w1.heap.size ob W w4 from by rw [hw4]; exact (HL3.out.set HLS.out.1 HLS.out.2.1).drew)
          generalize so.1.getD xv 0 = a1 at *
          generalize so.1.getD rc 0 = a2 at *
          have hv1 : (if 201 < IntKind.i64.wrap ((a1 : Int) + (a2 : Int)) then (201 : Int) else IntKind.i64.wrap ((a1 : Int) + (a2 : Int))) = ((v1 : Nat) : Int) := by
            rw [show IntKind.i64.wrap ((a1 : Int) + (a2 : Int)) = (a1 : Int) + a2 from by rw [IntKind.wrap_i64]; omega]; split <;> omega
          clear hv hw4 m1 m2 m3 m4 m5 HQ
          refine round_start 14 rfl (fun W' => W'.cell? ⟨b7, 0, none⟩ = some (.slice (some ⟨sb, 0, none⟩) G.length G.length)) hmx (no_defer (by kernel_rfl)) ?_
          refine round_take (i := 0) (dst := some 49) (v := ?_) rfl rfl (by kernel_rfl) (by kernel_rfl) (by kernel_rfl) rfl hS ?_ ?_; rotate_left
          · intro w' hs; go_simp; with_reducible rfl
          go_frame
          refine round_take (i := 1) (dst := some 50) (v := ?_) rfl rfl (by kernel_rfl) (by kernel_rfl) (by kernel_rfl) rfl hS ?_ ?_; rotate_left
          · intro w' hs; go_simp; with_reducible rfl
          go_frame
          refine round_take (i := 2) (dst := some 51) (v := ?_) rfl rfl (by kernel_rfl) (by kernel_rfl) (by kernel_rfl) rfl hS ?_ ?_; rotate_left
          · intro w' hs; go_simp; with_reducible rfl
          go_frame
          refine round_take (i := 3) (dst := some 52) (v := ?_) rfl rfl (by kernel_rfl) (by kernel_rfl) (by kernel_rfl) rfl hS ?_ ?_; rotate_left
          · intro w' hs; go_simp; with_reducible rfl
          go_frame
          refine round_take (i := 4) (dst := some 53) (v := ?_) rfl rfl (by kernel_rfl) (by kernel_rfl) (by kernel_rfl) rfl hS ?_ ?_; rotate_left
          · intro w' hs; go_simp; with_reducible rfl
          go_frame
          refine round_take (i := 6) (dst := some 55) (v := ?_) rfl rfl (by kernel_rfl) (by kernel_rfl) (by kernel_rfl) rfl hS ?_ ?_; rotate_left
          · intro w' hs; go_simp; with_reducible rfl
          go_frame
          refine round_take (i := 7) (dst := some 56) (v := ?_) rfl rfl (by kernel_rfl) (by kernel_rfl) (by kernel_rfl) rfl hS ?_ ?_; rotate_left
          · intro w' hs; go_simp; with_reducible rfl
          go_frame
          refine round_take (i := 8) (dst := some 57) (v := ?_) rfl rfl (by kernel_rfl) (by kernel_rfl) (by kernel_rfl) rfl hS ?_ ?_; rotate_left
          · intro w' hs; go_simp; with_reducible rfl
          go_frame
          refine round_two (i := 5) (k := 9) (by kernel_rfl) ?first ?second
          case' first =>
            refine round_do (dst := some 54) (v := ?_) rfl rfl rfl ?_ hS ?_; rotate_left
            · go_simp; with_reducible rfl
            go_frame
            refine round_one (i := 9) (by kernel_rfl) ?_
            refine round_do (dst := some 58) (v := ?_) rfl rfl rfl ?_ hS ?_; rotate_left
            · go_simp; with_reducible rfl
            go_frame
            refine round_take (i := 10) (dst := some 59) (v := ?_) rfl rfl (by kernel_rfl) (by kernel_rfl) (by kernel_rfl) rfl hS ?_ ?_; rotate_left
            · intro w' hs; go_simp; with_reducible rfl
            go_frame
            refine round_take (i := 11) (dst := some 60) (v := ?_) rfl rfl (by kernel_rfl) (by kernel_rfl) (by kernel_rfl) rfl hS ?_ ?_; rotate_left
            · intro w' hs; go_simp; with_reducible rfl
            go_frame
            refine round_take (i := 12) (dst := some 61) (v := ?_) rfl rfl (by kernel_rfl) (by kernel_rfl) (by kernel_rfl) rfl hS ?_ ?_; rotate_left
            · intro w' hs; go_simp; with_reducible rfl
            go_frame
            refine round_one (i := 13) (by kernel_rfl) ?_
            refine round_skip (w2 := ?_) rfl rfl ?_ ?_ ?_; rotate_left
            · go_simp; with_reducible rfl
            · exact HF4.out.c7
            refine round_end2 HW4.out (by kernel_rfl) ?_
            gi_wp2
          case' second =>
            refine round_do (dst := some 58) (v := ?_) rfl rfl rfl ?_ hS ?_; rotate_left
            · go_simp; with_reducible rfl
            go_frame
            refine round_one (i := 5) (by kernel_rfl) ?_
            refine round_do (dst := some 54) (v := ?_) rfl rfl rfl ?_ hS ?_; rotate_left
            · go_simp; with_reducible rfl
            go_frame
            refine round_take (i := 10) (dst := some 59) (v := ?_) rfl rfl (by kernel_rfl) (by kernel_rfl) (by kernel_rfl) rfl hS ?_ ?_; rotate_left
            · intro w' hs; go_simp; with_reducible rfl
            go_frame
            refine round_take (i := 11) (dst := some 60) (v := ?_) rfl rfl (by kernel_rfl) (by kernel_rfl) (by kernel_rfl) rfl hS ?_ ?_; rotate_left
            · intro w' hs; go_simp; with_reducible rfl
            go_frame
            refine round_take (i := 12) (dst := some 61) (v := ?_) rfl rfl (by kernel_rfl) (by kernel_rfl) (by kernel_rfl) rfl hS ?_ ?_; rotate_left
            · intro w' hs; go_simp; with_reducible rfl
            go_frame
            refine round_one (i := 13) (by kernel_rfl) ?_
            refine round_skip (w2 := ?_) rfl rfl ?_ ?_ ?_; rotate_left
            · go_simp; with_reducible rfl
            · exact HF4.out.c7
            refine round_end2 HW4.out (by kernel_rfl) ?_
            gi_wp2
          all_goals
            clear hv1 hS s1 s2 s3 k7
            have HF4 := Lib.hid (HW4.out ▸ HF4.out)
            have k8 := HF4.out.c8
            have ob3 := HF4.out.ok.b2 xv
            have ob4 := HF4.out.ok.b2 rc
            have s1 := nums_cell HF4.out.r2 (v := xv) (by rw [HF4.out.ok.l2]; exact hx)
            have s2 := nums_cell HF4.out.r2 (v := rc) (by rw [HF4.out.ok.l2]; exact hrl)
            have s3 := World.ownsRow.frozenAt HF4.out.r2 xv
            have hS : w4.drew.cell? ⟨b8, 0, none⟩ = some (.slice (some ⟨db, 0, none⟩) G.length G.length) := k8
            simp only at ob3 ob4 s1 s2
            obtain ⟨v2, hv⟩ : ∃ v2, v2 = max (so.2.getD xv 0) (so.2.getD rc 0) := ⟨_, rfl⟩
            have HF5 := Lib.hid (HF4.out.store2 HG.out HPL.out (m' := m) (i := xv) (v := v2) (HF4.out.ok.set2 (by omega))).drew
            obtain ⟨w5, hw5⟩ : ∃ w5, w5 = (w4.setCell ⟨db, xv, none⟩ (.int .i64 ((v2 : Nat) : Int))).drew := ⟨_, rfl⟩
            rw [← hv] at HS2
            have HW5 := Lib.hid hw5
            have HL5 := Lib.hid (show Link w1.heap.size ob W w5 from by rw [hw5]; exact (HL4.out.set HLS.out.2.2.1 HLS.out.2.2.2.1).drew)
            generalize so.2.getD xv 0 = d1 at *
            generalize so.2.getD rc 0 = d2 at *
            have hv2 : (if d1 < d2 then (d2 : Int) else (d1 : Int)) = ((v2 : Nat) : Int) := by split <;> omega
            have HE := Lib.hid (show Fit0 lo p sb db b7 b8 w1.heap.size X (.slice (some ⟨q, 0, none⟩) G.length zc) G root r w m (kidsF root xv (lk.take (k + 1)) s) w5 from by rw [← HSN.out, HS2.out, HW5.out]; exact HF5.out)
            clear hv hw5
            refine round_start 13 rfl (fun W' => W'.cell? ⟨b8, 0, none⟩ = some (.slice (some ⟨db, 0, none⟩) G.length G.length)) hmx (no_defer (by kernel_rfl)) ?_
            refine round_take (i := 0) (dst := some 62) (v := ?_) rfl rfl (by kernel_rfl) (by kernel_rfl) (by kernel_rfl) rfl hS ?_ ?_; rotate_left
            · intro w' hs; go_simp; with_reducible rfl
            go_frame
            refine round_take (i := 1) (dst := some 63) (v := ?_) rfl rfl (by kernel_rfl) (by kernel_rfl) (by kernel_rfl) rfl hS ?_ ?_; rotate_left
            · intro w' hs; go_simp; with_reducible rfl
            go_frame
            refine round_take (i := 2) (dst := some 64) (v := ?_) rfl rfl (by kernel_rfl) (by kernel_rfl) (by kernel_rfl) rfl hS ?_ ?_; rotate_left
            · intro w' hs; go_simp; with_reducible rfl
            go_frame
            refine round_take (i := 3) (dst := some 65) (v := ?_) rfl rfl (by kernel_rfl) (by kernel_rfl) (by kernel_rfl) rfl hS ?_ ?_; rotate_left
            · intro w' hs; go_simp; with_reducible rfl
            go_frame
            refine round_take (i := 4) (dst := some 66) (v := ?_) rfl rfl (by kernel_rfl) (by kernel_rfl) (by kernel_rfl) rfl hS ?_ ?_; rotate_left
            · intro w' hs; go_simp; with_reducible rfl
            go_frame
            refine round_take (i := 6) (dst := some 68) (v := ?_) rfl rfl (by kernel_rfl) (by kernel_rfl) (by kernel_rfl) rfl hS ?_ ?_; rotate_left
            · intro w' hs; go_simp; with_reducible rfl
            go_frame
            refine round_take (i := 7) (dst := some 69) (v := ?_) rfl rfl (by kernel_rfl) (by kernel_rfl) (by kernel_rfl) rfl hS ?_ ?_; rotate_left
            · intro w' hs; go_simp; with_reducible rfl
            go_frame
            refine round_take (i := 8) (dst := some 70) (v := ?_) rfl rfl (by kernel_rfl) (by kernel_rfl) (by kernel_rfl) rfl hS ?_ ?_; rotate_left
            · intro w' hs; go_simp; with_reducible rfl
            go_frame
            refine round_two (i := 5) (k := 9) (by kernel_rfl) ?_ ?_
            · refine round_do (dst := some 67) (v := ?_) rfl rfl rfl ?_ hS ?_; rotate_left
              · go_simp; with_reducible rfl
              go_frame
              refine round_one (i := 9) (by kernel_rfl) ?_
              refine round_do (dst := some 71) (v := ?_) rfl rfl rfl ?_ hS ?_; rotate_left
              · go_simp; with_reducible rfl
              go_frame
              refine round_take (i := 10) (dst := some 72) (v := ?_) rfl rfl (by kernel_rfl) (by kernel_rfl) (by kernel_rfl) rfl hS ?_ ?_; rotate_left
              · intro w' hs; go_simp; with_reducible rfl
              go_frame
              refine round_take (i := 11) (dst := some 73) (v := ?_) rfl rfl (by kernel_rfl) (by kernel_rfl) (by kernel_rfl) rfl hS ?_ ?_; rotate_left
              · intro w' hs; go_simp; with_reducible rfl
              go_frame
              refine round_one (i := 12) (by kernel_rfl) ?_
              refine round_skip (w2 := ?_) rfl rfl ?_ ?_ ?_; rotate_left
              · go_simp; with_reducible rfl
              · exact HF5.out.c8
              refine round_end2 HW5.out (by kernel_rfl) ?_
              gi_wp2
              go_roundw
              case rel => exact ⟨k + 1, by omega, by go_num, HE, HL5⟩
              case measure => simp [intOf]; omega
            · refine round_do (dst := some 71) (v := ?_) rfl rfl rfl ?_ hS ?_; rotate_left
              · go_simp; with_reducible rfl
              go_frame
              refine round_one (i := 5) (by kernel_rfl) ?_
              refine round_do (dst := some 67) (v := ?_) rfl rfl rfl ?_ hS ?_; rotate_left
              · go_simp; with_reducible rfl
              go_frame
              refine round_take (i := 10) (dst := some 72) (v := ?_) rfl rfl (by kernel_rfl) (by kernel_rfl) (by kernel_rfl) rfl hS ?_ ?_; rotate_left
              · intro w' hs; go_simp; with_reducible rfl
              go_frame
              refine round_take (i := 11) (dst := some 73) (v := ?_) rfl rfl (by kernel_rfl) (by kernel_rfl) (by kernel_rfl) rfl hS ?_ ?_; rotate_left
              · intro w' hs; go_simp; with_reducible rfl
              go_frame
              refine round_one (i := 12) (by kernel_rfl) ?_
              refine round_skip (w2 := ?_) rfl rfl ?_ ?_ ?_; rotate_left
              · go_simp; with_reducible rfl
              · exact HF5.out.c8
              refine round_end2 HW5.out (by kernel_rfl) ?_
              gi_wp2
              go_roundw
              case rel => exact ⟨k + 1, by omega, by go_num, HE, HL5⟩
              case measure => simp [intOf]; omega
        · obtain rfl : k = lk.length := by omega
          have HF6 := HF.out
          rw [List.take_length] at HF6
          have k8 := HF6.c8
          have ob4 := HF6.ok.b2 xv
          have s1 := nums_cell HF6.r2 (v := xv) (by rw [HF6.ok.l2]; exact hx)
          have s3 := World.ownsRow.frozenAt HF6.r2 xv
          have HF7 := Lib.hid (HF6.store2 HG.out HPL.out (m' := m + 1) (i := xv) (v := (kidsF root xv lk s).2.getD xv 0 + 1) (HF6.ok.set2 (by omega) (by omega)))
          have HE := Lib.hid (show Fit0 lo p sb db b7 b8 w1.heap.size X (.slice (some ⟨q, 0, none⟩) G.length zc) G root r w (m + 1) (nodeF G root s xv) (wr.setCell ⟨db, xv, none⟩ (.int .i64 (((kidsF root xv lk s).2.getD xv 0 + 1 : Nat) : Int))) from by
            have h9 := HF7.out
            unfold nodeF deepF
            rw [← HLK.out]
            exact h9)
          have HL6 := Lib.hid (HL.out.set (i := xv) (v := .int .i64 (((kidsF root xv lk s).2.getD xv 0 + 1 : Nat) : Int)) HLS.out.2.2.1 HLS.out.2.2.2.1)
          clear HF HF6 HF7
          generalize hdx : (kidsF root xv lk s).2.getD xv 0 = dx at *
          clear hdx
          have hdi : ((dx : Int) + 1) = ((dx + 1 : Nat) : Int) := by omega
          have HDI := Lib.hid hdi
          clear hdi
          gi_wp2
          rw [HDI.out]
          exact ⟨by rw [World.size_alloc]; exact HL6.out.1, HL6.out.2.1, HPN.out _ HE.out⟩
    case done =>
      rintro D' xs W hD hxs hI hK
      rw [World.size_alloc] at hD
      rw [hxs] at hI
      have hsum : (!(bd.any (tooBig root (ord.reverse.foldl (nodeF G root) (List.replicate G.length 0, List.replicate G.length 0))))) = bd.all fun i => decide ((sol G root D i).size ≤ 200) && decide ((sol G root D i).depth ≤ 20) := by
        refine all_any bd fun i hi => ?_
        have hil := HBD.out i hi
        have hroot := (HCL.out.lt i hil)
        have hmem := (pigeon _ _ HO.out.nodup HO.out.lt).2 HALL.out (root i) hroot
        obtain ⟨v1, v2⟩ := fit_all HO.out HALL.out (fun i hi => HCL.out.lt i hi) HCL.out.ok (sol_size HCL.out HRK.out) HS1.out.ok ord [] rfl (root i) hmem
        obtain ⟨z1, z2⟩ := sol_size HCL.out HRK.out i hil
        unfold tooBig
        rw [v1, v2, ← z1, ← z2]
        generalize (sol G root D i).size = a
        generalize (sol G root D i).depth = d
        have e1 : decide (200 < min a 201) = !decide (a ≤ 200) := by rw [Bool.eq_iff_iff]; simp; omega
        have e2 : decide (20 < d) = !decide (d ≤ 20) := by rw [Bool.eq_iff_iff]; simp
        rw [e1, e2, Bool.not_and]
      have HSUM := Lib.hid hsum
      have HQ := Lib.hid (contains_fit_at hI.out HG.out HU.out HPL.out HBD.out HA.out)
      have HZL := Lib.hid (fun b e => (own_lt HG.out.row b e).2)
      clear hxs hI hsum
      generalize ord.reverse.foldl (nodeF G root) (List.replicate G.length 0, List.replicate G.length 0) = s at *
      unfold fitFV at HQ
      go_wp2_with (go_at_call 50; refine (HQ.out).mono ?_; rintro e w3 ⟨rfl, g1, g2⟩; have H1 := Lib.hid (And.intro g1 g2); clear g1 g2)
      have hK3 : w3.heap[D']? = some (.deferred (some [])) := (H1.out.2.block D' (Array.getElem?_eq_some_iff.1 hK).1 (fun e => by have := HZL.out D' e.symm; omega)).trans hK
      have HF := H1.out.1.other HG.out HPL.out (grownBy_putObj' w3 D' (.deferred none)) (fun b e => by injection e with e; omega)
      refine ⟨by simp, .inl ⟨_, _, rfl, run_takeDeferred hK3, ?_⟩⟩
      obtain ⟨H, f1, f2, f3⟩ := HF.g
      exact ⟨_, results_tmp rfl _ _ _, H, by rw [← HSUM.out]; rfl, f1, f2, f3, HF.fr⟩
    case stop =>
      rintro D' c pre W _ _ h _
      exact h.elim
end Go.Proofs.Ytdjbigfobodecaa
namespace Go.Proofs.Ytdjbigfobodecaa
open Go.RowKit

def Tm.wrong (t : Tm) : Bool := !t.right
set_option maxHeartbeats 1000000 in
theorem wrong_at (t : Tm) (w : World) (h : t.At w) : Calls Try.prog 44 #[t.val] w fun e w' => e = .returned (.bool t.wrong) ∧ Below w.heap.size w w' := by
  obtain ⟨k, n, s, A, c, a⟩ := t
  have HQ := Lib.hid (fun o => right_tm_at (.mk k n s A c a) (w.alloc o) (h.below ((Below.refl _ w).alloc (Nat.le_refl _) o)) rfl)
  unfold Tm.wrong
  generalize Tm.right (.mk k n s A c a) = r at *
  clear h
  show Calls Try.prog 44 #[.agg #[.int .i64 k, .int .i64 n, .string s, .slice A a.length c]] w _
  go_enter Try.func44, Try.ntmps44
  go_wp2_with (go_at_call 25; refine (HQ.out _).mono ?_; rintro e w3 ⟨rfl, g1⟩; have H1 := Lib.hid (((Below.refl _ w).alloc (Nat.le_refl _) _).trans (g1.mono (by simp))); clear g1)
  go_ret
  exact ⟨rfl, H1.out⟩
def WrongIdx (r : Bool) (w : World) (e : Ending) (w' : World) : Prop := ∃ m : Int, decide (0 ≤ m) = r ∧ e = .returned (.int .i64 m) ∧ Below w.heap.size w w'
theorem tm_take_next {l : List Tm} {i : Nat} (h : i < l.length) : l.take (i + 1) = l.take i ++ [l.getD i default] := by
  rw [List.take_succ_eq_append_getElem h]
  simp [List.getD, List.getElem?_eq_getElem h]
theorem wrong_next {l : List Tm} {j : Nat} (h : j < l.length) : (l.take (j + 1)).any Tm.wrong = ((l.take j).any Tm.wrong || (l.getD j default).wrong) := by
  rw [tm_take_next h, List.any_append, List.any_cons, List.any_nil, Bool.or_false]
theorem wrong_stop {l : List Tm} {k : Nat} (h : k < l.length) (hv : (l.getD k default).wrong = true) : l.any Tm.wrong = true := by
  rw [List.any_eq_true]
  refine ⟨_, ?_, hv⟩
  simp only [List.getD, List.getElem?_eq_getElem h, Option.getD_some]
  exact List.getElem_mem h

set_option maxHeartbeats 2000000 in
theorem wrong_index_at (l : List Tm) (A : Option Addr) (c : Nat) (w : World) (hl : Lst w A l c) {r : Bool} (hr : l.any Tm.wrong = r) :
    Calls Try.prog 71 #[.slice A l.length c, .func (.func 44) #[] #[]] w (WrongIdx r w) := by
  have hlen : l.length ≤ 9223372036854775807 := by have := hl.1; have := hl.2.1; unfold maxLen at *; omega
  have HR := Lib.hid hr
  have HL := Lib.hid hl
  clear hl hr
  go_enter Try.func71, Try.ntmps71
  go_wp2_with fail
  go_loopw [8] (fun i wr => ∃ j : Nat, j ≤ l.length ∧ i = .int .i64 j ∧ Hid ((l.take j).any Tm.wrong = false) ∧ Below w.heap.size w wr) (fun i _ => l.length - (intOf i).toNat)
  case atStart => exact ⟨0, Nat.zero_le _, rfl, Lib.hid rfl, Below.refl _ _⟩
  case round =>
    obtain ⟨j, hj, rfl, HF, hbw⟩ := hrel
    by_cases hlt : j < l.length
    · obtain ⟨b, o, rfl, ⟨c0, c1, c2, c3⟩, hx⟩ := (HL.out.below hbw).get hlt
      have HN := Lib.hid (wrong_next hlt)
      rw [HF.out, Bool.false_or] at HN
      have HS := Lib.hid (wrong_stop hlt)
      generalize l.getD j default = x at *
      have Q := Lib.hid (wrong_at x wr hx)
      clear hx
      generalize x.wrong = N at *
      obtain ⟨k', n', s', A', c', a'⟩ := x
      simp only [Tm.kind, Tm.num, Tm.name, Tm.at_, Tm.args, Tm.cap] at c0 c1 c2 c3
      cases N
      · go_wp2_with fail
        refine (Q.out).mono ?_
        rintro e w2 ⟨rfl, hb3⟩
        go_wp2_with fail
        go_roundw
        case rel => exact ⟨j + 1, by omega, by go_num, HN, hbw.trans (hb3.mono hbw.size)⟩
        case measure => simp [intOf]; omega
      · go_wp2_with fail
        refine (Q.out).mono ?_
        rintro e w2 ⟨rfl, hb3⟩
        go_wp2_with fail
        go_ret
        exact ⟨j, by rw [← HR.out, HS.out trivial]; simp, rfl, hbw.trans (hb3.mono hbw.size)⟩
    · obtain rfl : j = l.length := by omega
      have HE := Lib.hid (show false = r by rw [← HR.out, ← HF.out, List.take_length])
      go_wp2_with fail
      go_ret
      exact ⟨-1, by rw [← HE.out]; rfl, rfl, hbw⟩
theorem wrong_contains_at (l : List Tm) (A : Option Addr) (c : Nat) (w : World) (hl : Lst w A l c) {r : Bool} (hr : l.any Tm.wrong = r) :
    Calls Try.prog 43 #[.slice A l.length c, .func (.func 44) #[] #[]] w fun e w' => e = .returned (.bool r) ∧ Below w.heap.size w w' := by
  have Q := Lib.hid (wrong_index_at l A c w hl hr)
  clear hl hr
  go_enter Try.func43, Try.ntmps43
  go_wp2_with fail
  refine (Q.out).mono ?_
  rintro e w2 ⟨m, hm, rfl, hb⟩
  have HM := Lib.hid hm
  clear hm
  go_wp2_with fail
  go_ret
  exact ⟨by rw [← HM.out]; rfl, hb⟩
theorem all_right : ∀ l : List Tm, l.all Tm.right = !(l.any Tm.wrong) := by
  intro l
  induction l with
  | nil => rfl
  | cons t r ih => rw [List.all_cons, List.any_cons, ih, Bool.not_or]; unfold Tm.wrong; rw [Bool.not_not]
theorem right_all_at (l : List Tm) (A : Option Addr) (c : Nat) (w : World) (hl : Lst w A l c) {r : Bool} (hr : l.all Tm.right = r) :
    Calls Try.prog 27 #[.slice A l.length c] w fun e w' => e = .returned (.bool r) ∧ Below w.heap.size w w' := by
  obtain ⟨q, hq⟩ : ∃ q, l.any Tm.wrong = q := ⟨_, rfl⟩
  have Q := Lib.hid (wrong_contains_at l A c w hl hq)
  have HR := Lib.hid (show (!q) = r by rw [← hr, all_right, hq])
  clear hl hr hq
  go_enter Try.func27, Try.ntmps27
  go_wp2_with fail
  refine (Q.out).mono ?_
  rintro e w2 ⟨rfl, hb⟩
  go_wp2_with fail
  go_ret
  exact ⟨by rw [← HR.out]; rfl, hb⟩
end Go.Proofs.Ytdjbigfobodecaa
namespace Go.Proofs.Ytdjbigfobodecaa
open Go.RowKit

theorem out_arg {la lb : List Tm} (h : (la.all Tm.right && lb.all Tm.right) = false) : AllOut la lb [] 2 := by unfold AllOut; rw [if_pos h]; exact ⟨rfl, rfl⟩
theorem out_arity {la lb : List Tm} (h : (la.all Tm.right && lb.all Tm.right) = true) (hl : la.length ≠ lb.length) : AllOut la lb [] 9 := by unfold AllOut; rw [if_neg (by rw [h]; simp), if_pos hl]; exact ⟨rfl, rfl⟩
theorem out_none {la lb : List Tm} (h : (la.all Tm.right && lb.all Tm.right) = true) (hl : la.length = lb.length) (hn : ∀ f, ¬ Unif (la.zip lb) f) : AllOut la lb [] 13 := by unfold AllOut; rw [if_neg (by rw [h]; simp), if_neg (by simp [hl])]; exact .inl ⟨rfl, rfl, hn⟩
theorem out_some {la lb : List Tm} {s m : List Bd} {e : Int} (h : (la.all Tm.right && lb.all Tm.right) = true) (hl : la.length = lb.length) (hs : Sol (la.zip lb) s) (hm : (allRight s = true ∧ m = s ∧ e = 0) ∨ (allRight s = false ∧ m = [] ∧ e = 6)) : AllOut la lb m e := by
  unfold AllOut; rw [if_neg (by rw [h]; simp), if_neg (by simp [hl])]; exact .inr ⟨s, hs, hm⟩
end Go.Proofs.Ytdjbigfobodecaa
namespace Go.Proofs.Ytdjbigfobodecaa
open Go.RowKit

theorem var_at {n : Int} (w : World) (h : Fits n) : (vr n).At w := by
  refine (At_iff _ _).2 ⟨⟨⟨by simp [vr, Tm.kind], by simp [vr, Tm.kind]⟩, h, by simp [vr, Tm.name]⟩, ?_⟩
  exact Lst.nil w
/-- A world behind another: blocks that were there stay. -/
def Ext (w v : World) : Prop := Below w.heap.size w v
theorem Ext.refl (w : World) : Ext w w := Below.refl _ _
theorem Ext.trans {u v w : World} (h1 : Ext u v) (h2 : Ext v w) : Ext u w := Below.trans h1 (h2.mono h1.size)
theorem Ext.al (w : World) (o : Obj) : Ext w (w.alloc o) := (Below.refl _ w).alloc (Nat.le_refl _) o
theorem Ext.row {u v : World} {cs : Array Value} {T : TypeId} (h : Ext (u.alloc (.cells cs T)) v) (j : Nat) (hj : u.heap.size < (u.alloc (.cells cs T)).heap.size := by simp) : v.cell? ⟨u.heap.size, j, none⟩ = cs[j]? :=
  (h.cell (p := ⟨u.heap.size, j, none⟩) hj).trans (World.cell?_alloc_at _ _ _ _ rfl)
end Go.Proofs.Ytdjbigfobodecaa
namespace Go.Proofs.Ytdjbigfobodecaa
open Go.RowKit

theorem Ext.undrew {w w' : World} (h : Ext w.drew w') : Ext w w' := ⟨h.os, h.tape, h.output, h.size, h.block⟩
theorem Ext.drew (w : World) : Ext w w.drew := ⟨rfl, rfl, rfl, Nat.le_refl _, fun _ _ => rfl⟩
end Go.Proofs.Ytdjbigfobodecaa
namespace Go.Proofs.Ytdjbigfobodecaa
open Go.RowKit

mutual
def Tm.lft : Tm → Int → Int → Int
  | .mk _ _ _ _ _ a, n, d => if d < 1 ∨ n - 1 < 0 then -1 else lftL a (n - 1) (d - 1)
def lftL : List Tm → Int → Int → Int
  | [], n, _ => n
  | t :: r, n, d => if t.lft n d < 0 then -1 else lftL r (t.lft n d) d
end
theorem lftL_append (l m : List Tm) (n d : Int) (h : 0 ≤ lftL l n d) : lftL (l ++ m) n d = lftL m (lftL l n d) d := by
  induction l generalizing n with
  | nil => simp [lftL]
  | cons t r ih =>
    simp only [List.cons_append, lftL] at h ⊢
    split at h
    · omega
    · rename_i h'
      rw [if_neg h', if_neg h', ih _ h]
theorem lftL_next {l : List Tm} {k : Nat} (h : k < l.length) (n d : Int) (hk : 0 ≤ lftL (l.take k) n d) :
    lftL (l.take (k + 1)) n d = if (l.getD k default).lft (lftL (l.take k) n d) d < 0 then -1 else (l.getD k default).lft (lftL (l.take k) n d) d := by
  rw [ttake_next h, lftL_append _ _ _ _ hk]
  simp only [lftL]
theorem lftL_stop {l : List Tm} {k : Nat} (h : k < l.length) (n d : Int) (hk : 0 ≤ lftL (l.take k) n d) (hx : (l.getD k default).lft (lftL (l.take k) n d) d < 0) : lftL l n d = -1 := by
  have e : l = l.take k ++ (l.getD k default :: l.drop (k + 1)) := by
    rw [show l.getD k default = l[k] by simp [List.getD, List.getElem?_eq_getElem h], List.getElem_cons_drop, List.take_append_drop]
  rw [e, lftL_append _ _ _ _ hk]
  simp only [lftL]
  rw [if_pos hx]
theorem lft_facts : (∀ (t : Tm) (n d : Int), -1 ≤ t.lft n d ∧ (0 ≤ t.lft n d → t.lft n d + t.nodes ≤ n)) ∧ (∀ (l : List Tm) (n d : Int), 0 ≤ n → -1 ≤ lftL l n d ∧ (0 ≤ lftL l n d → lftL l n d + nodesL l ≤ n)) := by
  refine Tm.induct2 (fun k n s A c a ih => ?_) ?_ (fun t r h1 h2 => ?_)
  · intro m d
    simp only [Tm.lft, Tm.nodes]
    split
    · exact ⟨by omega, fun h => by omega⟩
    · have := ih (m - 1) (d - 1) (by omega)
      exact ⟨this.1, fun h => by have := this.2 h; omega⟩
  · intro n d h
    simp only [lftL, nodesL]
    omega
  · intro n d h
    simp only [lftL, nodesL]
    have a1 := h1 n d
    split
    · exact ⟨by omega, fun h => by omega⟩
    · rename_i h'
      have a2 := h2 (t.lft n d) d (by omega)
      exact ⟨a2.1, fun h => by have := a2.2 h; have := a1.2 (by omega); omega⟩
theorem small_nodes {t : Tm} {n d : Int} (h : decide (0 ≤ t.lft n d) = true) : (t.nodes : Int) ≤ n := by
  have := (lft_facts.1 t n d).2 (by simpa using h)
  have h0 : 0 ≤ t.lft n d := by simpa using h
  omega
set_option maxHeartbeats 2000000 in
theorem left_at (t : Tm) : ∀ (n d : Int) (w : World), t.At w → -1 ≤ n → n ≤ 1000 → -1 ≤ d → d ≤ 1000 →
    Calls Try.prog 23 #[t.val, .int .i64 n, .int .i64 d] w fun e w' => e = .returned (.int .i64 (t.lft n d)) ∧ Below w.heap.size w w' := by
  induction t using Tm.induct with
  | h k m s A c a ih =>
    intro n d w hat hn1 hn2 hd1 hd2
    have B0 := Lib.hid (show ∀ o, Below w.heap.size w (w.alloc o) from fun o => (Below.refl _ _).alloc (Nat.le_refl _) o)
    have hl : Lst w A a c := hat.lst
    have hlen : a.length ≤ 9223372036854775807 := by have := hl.1; have := hl.2.1; unfold maxLen at *; omega
    have HV := Lib.hid (show (Tm.mk k m s A c a).lft n d = if d < 1 ∨ n - 1 < 0 then -1 else lftL a (n - 1) (d - 1) by simp only [Tm.lft])
    show Calls Try.prog 23 #[.agg #[.int .i64 k, .int .i64 m, .string s, .slice A a.length c], .int .i64 n, .int .i64 d] w _
    by_cases h1 : d < 1
    · have HU := Lib.hid (show (Tm.mk k m s A c a).lft n d = -1 by rw [HV.out, if_pos (.inl h1)])
      clear HV hat hl ih
      go_enter Try.func23, Try.ntmps23
      go_wp2_with fail
      go_ret
      exact ⟨by rw [HU.out]; rfl, B0.out _⟩
    by_cases h2 : n - 1 < 0
    · have HU := Lib.hid (show (Tm.mk k m s A c a).lft n d = -1 by rw [HV.out, if_pos (.inr h2)])
      have h1' : decide (d < 1) = false := by simpa using h1
      clear HV hat hl ih
      go_enter Try.func23, Try.ntmps23
      go_wp2_with fail
      go_ret
      exact ⟨by rw [HU.out]; rfl, B0.out _⟩
    have HU := Lib.hid (show (Tm.mk k m s A c a).lft n d = lftL a (n - 1) (d - 1) by rw [HV.out, if_neg (by omega)])
    have h1' : decide (d < 1) = false := by simpa using h1
    have h2' : decide (n - 1 < 0) = false := by simpa using h2
    have g1 : 1 ≤ d := by omega
    have g2 : 0 ≤ n - 1 := by omega
    have HL := Lib.hid hl
    have QI := Lib.hid ih
    clear HV hat hl ih h1 h2
    go_enter Try.func23, Try.ntmps23
    go_wp2_with fail
    go_loopw [1, 19] (fun z i wr => ∃ j : Nat, j ≤ a.length ∧ i = .int .i64 j ∧ z = .int .i64 (lftL (a.take j) (n - 1) (d - 1)) ∧ Hid (0 ≤ lftL (a.take j) (n - 1) (d - 1)) ∧ Below (w.alloc (.cells #[.int .i64 k, .int .i64 m, .string s, .slice A a.length c] 24)).heap.size (w.alloc (.cells #[.int .i64 k, .int .i64 m, .string s, .slice A a.length c] 24)) wr) (fun _ i _ => a.length - (intOf i).toNat)
    case atStart => exact ⟨0, Nat.zero_le _, rfl, by simp [lftL], Lib.hid (by simpa [lftL] using g2), Below.refl _ _⟩
    case round =>
      obtain ⟨j, hj, rfl, rfl, HF, hbb⟩ := hrel
      obtain ⟨d0, _, _, d3, hbw⟩ := box4 hbb
      clear d0
      by_cases hlt : j < a.length
      · obtain ⟨b, o, rfl, ⟨c0, c1, c2, c3⟩, hx⟩ := (HL.out.below hbw).get hlt
        have HN := Lib.hid (lftL_next hlt (n - 1) (d - 1) HF.out)
        have HS := Lib.hid (lftL_stop hlt (n - 1) (d - 1) HF.out)
        have b1 : 0 ≤ lftL (a.take j) (n - 1) (d - 1) := HF.out
        have b2 : lftL (a.take j) (n - 1) (d - 1) ≤ 1000 := by
          have := (lft_facts.2 (a.take j) (n - 1) (d - 1) g2).2 b1
          omega
        have hm := getD_mem hlt
        have q1 := QI.out _ hm (lftL (a.take j) (n - 1) (d - 1)) (d - 1) wr hx (by omega) b2 (by omega) (by omega)
        have l1 := (lft_facts.1 (a.getD j default) (lftL (a.take j) (n - 1) (d - 1)) (d - 1)).1
        generalize a.getD j default = x at *
        have Q := Lib.hid q1
        clear q1 hm hx QI
        generalize lftL (a.take j) (n - 1) (d - 1) = L at *
        generalize x.lft L (d - 1) = N at *
        obtain ⟨k', n', s', A', c', a'⟩ := x
        simp only [Tm.kind, Tm.num, Tm.name, Tm.at_, Tm.args, Tm.cap] at c0 c1 c2 c3
        go_wp2_with fail
        refine (Q.out).mono ?_
        rintro e w2 ⟨rfl, hb3⟩
        by_cases hN : N < 0
        · have HE := Lib.hid (HS.out hN)
          clear HN HS
          go_wp2_with fail
          go_ret
          exact ⟨by rw [HU.out, HE.out]; rfl, hbw.trans (hb3.mono hbw.size)⟩
        · have hN' : 0 ≤ N := by omega
          have HE := Lib.hid HN.out
          rw [if_neg hN] at HE
          clear HN HS hN
          go_wp2_with fail
          go_roundw
          case rel => exact ⟨j + 1, by omega, by go_num, by rw [HE.out], Lib.hid (by rw [HE.out]; exact hN'), hbb.trans (hb3.mono hbb.size)⟩
          case measure => simp [intOf]; omega
      · obtain rfl : j = a.length := by omega
        clear QI
        have HE := Lib.hid (show lftL (a.take a.length) (n - 1) (d - 1) = lftL a (n - 1) (d - 1) by rw [List.take_length])
        rw [HE.out]
        go_wp2_with fail
        go_ret
        exact ⟨by rw [HU.out]; rfl, hbw⟩

theorem small_at (t : Tm) (w : World) (hat : t.At w) {r : Bool} (hr : decide (0 ≤ t.lft 1000 100) = r) :
    Calls Try.prog 8 #[t.val] w fun e w' => e = .returned (.bool r) ∧ Below w.heap.size w w' := by
  have B0 := Lib.hid (show ∀ o, Below w.heap.size w (w.alloc o) from fun o => (Below.refl _ _).alloc (Nat.le_refl _) o)
  have Q := Lib.hid (fun W (h : Below w.heap.size w W) => left_at t 1000 100 W (hat.below h) (by omega) (by omega) (by omega) (by omega))
  have HR := Lib.hid hr
  clear hat hr
  generalize t.lft 1000 100 = L at *
  obtain ⟨k, n, s, A, c, a⟩ := t
  show Calls Try.prog 8 #[.agg #[.int .i64 k, .int .i64 n, .string s, .slice A a.length c]] w _
  go_enter Try.func8, Try.ntmps8
  go_wp2_with fail
  refine (Q.out _ (B0.out _)).mono ?_
  rintro e w1 ⟨rfl, hb⟩
  go_wp2_with fail
  go_ret
  exact ⟨by rw [← HR.out]; rfl, (B0.out _).trans (hb.mono (by simp))⟩

/-! ### Few -/
def smallB (t : Tm) : Bool := decide (0 ≤ t.lft 1000 100)
def fewB (l : List Tm) : Bool := decide (l.length ≤ 40) && l.all smallB
theorem small_at' (t : Tm) (w : World) (hat : t.At w) : Calls Try.prog 8 #[t.val] w fun e w' => e = .returned (.bool (smallB t)) ∧ Below w.heap.size w w' := small_at t w hat rfl
theorem small_next {l : List Tm} {j : Nat} (h : j < l.length) : (l.take (j + 1)).all smallB = ((l.take j).all smallB && smallB (l.getD j default)) := by
  rw [ttake_next h, List.all_append, List.all_cons, List.all_nil, Bool.and_true]
theorem small_stop {l : List Tm} {k : Nat} (h : k < l.length) (hv : smallB (l.getD k default) = false) : l.all smallB = false := by
  rw [List.all_eq_false]
  exact ⟨_, getD_mem h, by rw [hv]; simp⟩
theorem small_le {t : Tm} (h : smallB t = true) : t.nodes ≤ 1000 := by have := small_nodes h; omega
theorem few_small {l : List Tm} (h : fewB l = true) : l.length ≤ 40 ∧ ∀ t ∈ l, smallB t = true := by
  unfold fewB at h
  simp only [Bool.and_eq_true, decide_eq_true_eq, List.all_eq_true] at h
  exact h
theorem nodesL_le {l : List Tm} {B : Nat} (h : ∀ t ∈ l, t.nodes ≤ B) : nodesL l ≤ l.length * B := by
  induction l with
  | nil => simp [nodesL]
  | cons t r ih =>
    simp only [nodesL, List.length_cons, Nat.succ_mul]
    have := h t (by simp)
    have := ih fun x hx => h x (by simp [hx])
    omega
theorem few_nodes {l : List Tm} (h : fewB l = true) : nodesL l ≤ 40000 := by
  obtain ⟨h1, h2⟩ := few_small h
  have := nodesL_le (B := 1000) fun t ht => small_le (h2 t ht)
  omega

set_option maxHeartbeats 2000000 in
theorem few_at (l : List Tm) (A : Option Addr) (c : Nat) (w : World) (hl : Lst w A l c) {r : Bool} (hr : fewB l = r) :
    Calls Try.prog 15 #[.slice A l.length c] w fun e w' => e = .returned (.bool r) ∧ Below w.heap.size w w' := by
  have hlen : l.length ≤ 9223372036854775807 := by have := hl.1; have := hl.2.1; unfold maxLen at *; omega
  have HL := Lib.hid hl
  clear hl
  by_cases h40 : l.length ≤ 40
  · have hg : decide ((40 : Int) < (l.length : Int)) = false := by simp; omega
    have HR := Lib.hid (show l.all smallB = r by rw [← hr]; simp [fewB, h40])
    clear hr
    go_enter Try.func15, Try.ntmps15
    go_wp2_with fail
    go_loopw [9] (fun i wr => ∃ j : Nat, j ≤ l.length ∧ i = .int .i64 j ∧ Hid ((l.take j).all smallB = true) ∧ Below w.heap.size w wr) (fun i _ => l.length - (intOf i).toNat)
    case atStart => exact ⟨0, Nat.zero_le _, rfl, Lib.hid rfl, Below.refl _ _⟩
    case round =>
      obtain ⟨j, hj, rfl, HF, hbw⟩ := hrel
      by_cases hlt : j < l.length
      · obtain ⟨b, o, rfl, ⟨c0, c1, c2, c3⟩, hx⟩ := (HL.out.below hbw).get hlt
        have HN := Lib.hid (small_next hlt)
        rw [HF.out, Bool.true_and] at HN
        have HS := Lib.hid (small_stop hlt)
        generalize l.getD j default = x at *
        have Q := Lib.hid (small_at' x wr hx)
        clear hx
        generalize smallB x = N at *
        obtain ⟨k', n', s', A', c', a'⟩ := x
        simp only [Tm.kind, Tm.num, Tm.name, Tm.at_, Tm.args, Tm.cap] at c0 c1 c2 c3
        cases N
        · go_wp2_with fail
          refine (Q.out).mono ?_
          rintro e w2 ⟨rfl, hb3⟩
          go_wp2_with fail
          go_ret
          exact ⟨by rw [← HR.out, HS.out trivial]; rfl, hbw.trans (hb3.mono hbw.size)⟩
        · go_wp2_with fail
          refine (Q.out).mono ?_
          rintro e w2 ⟨rfl, hb3⟩
          go_wp2_with fail
          go_roundw
          case rel => exact ⟨j + 1, by omega, by go_num, HN, hbw.trans (hb3.mono hbw.size)⟩
          case measure => simp [intOf]; omega
      · obtain rfl : j = l.length := by omega
        have HE := Lib.hid (show true = r by rw [← HR.out, ← HF.out, List.take_length])
        go_wp2_with fail
        go_ret
        exact ⟨by rw [← HE.out]; rfl, hbw⟩
  · have hg : decide ((40 : Int) < (l.length : Int)) = true := by simp; omega
    have HR := Lib.hid (show false = r by rw [← hr]; simp [fewB, h40])
    clear hr
    go_enter Try.func15, Try.ntmps15
    go_wp2_with fail
    go_ret
    exact ⟨by rw [← HR.out]; rfl, Below.refl _ _⟩
end Go.Proofs.Ytdjbigfobodecaa
namespace Go.Proofs.Ytdjbigfobodecaa
open Go.ChangeShapes Go.WideShapes Go.ChangeAt Go.RowKit
section
variable {H : Type} {enc : TypeId × Value → H} {W : World} {base : Nat} {spare : Nat → Bool} {held : Bool}
set_option maxRecDepth 100000 in
theorem open_bds {r : Reach} {b0 : Nat} {v : Value} {d : DataW H} {p : List MemPlace} (hv : Value.okWide Try.prog W r b0 28 v) (h : DataW.Trod enc Try.prog W base spare held 28 v d p) :
    ∃ (A : Option Addr) (l : List Bd) (c : Nat), v = .slice A l.length c ∧ BLst W A l c := by
  obtain ⟨a, len, cap, rfl⟩ := okWide_slice typesB.lst hv
  obtain ⟨fuel, hf⟩ := h
  exact bds_of typesB hf
set_option maxRecDepth 100000 in
theorem open_nums {r : Reach} {b0 : Nat} {v : Value} {d : DataW H} {p : List MemPlace} (hv : Value.okWide Try.prog W r b0 49 v) (h : DataW.Trod enc Try.prog W base spare held 49 v d p) :
    ∃ (A : Option Addr) (l : List Int) (c : Nat), v = .slice A l.length c ∧ Ints W A l ∧ (∀ n ∈ l, Fits n) ∧ l.length ≤ 9223372036854775807 := by
  obtain ⟨a0, len0, cap0, rfl⟩ := okWide_slice Try.underlying49 hv
  obtain ⟨fuel, hf⟩ := h
  rcases DataW.trod_slice Try.underlying49 hf with ⟨hcs, _⟩ | ⟨a, len, cap, elems, rest, n', hn, hcs, _, _, hl, hm, hlen, hel, _⟩
  · have e : Value.slice a0 len0 cap0 = .slice none 0 0 := (List.cons.inj (show [Value.slice a0 len0 cap0] = [.slice none 0 0] from hcs)).1
    exact ⟨none, [], 0, e, fun h => absurd h (by simp), by simp, by simp⟩
  · have e : Value.slice a0 len0 cap0 = .slice (some a) len cap := (List.cons.inj (show [Value.slice a0 len0 cap0] = [.slice (some a) len cap] from hcs)).1
    have hc : Try.prog.cellsOf 3 = 1 := by kernel_rfl
    obtain ⟨f, hf⟩ := Deep.choose_lt (α := Int) (p := fun i y => W.cell? (a.add i) = some (.int .i64 y) ∧ Fits y) (n := len) (fun i hi => by
      have h1 := hel i hi
      rw [hc, List.getElem?_eq_getElem (by omega)] at h1
      obtain ⟨cs', h2, h3⟩ := Option.bind_eq_some_iff.1 h1
      obtain ⟨y, hy, _, wy⟩ := DataW.trod_int Try.underlying3 h3
      subst hy
      have := (World.cells?_some h2).2.2 0 (by omega)
      refine ⟨y, ?_, int_fits wy⟩
      rw [Nat.mul_one] at this
      unfold Addr.add at this ⊢
      split at this <;> simp_all)
    have hll : ((List.range len).map f).length = len := by simp
    refine ⟨some a, (List.range len).map f, cap, by rw [hll]; exact e, fun h0 => ?_, fun n hn => ?_, by rw [hll]; unfold maxLen at hm; omega⟩
    · rw [hll] at h0
      obtain ⟨b, o, sp⟩ := a
      have c0 := (hf 0 h0).1
      obtain rfl : sp = none := by simpa [Addr.add] using World.cell?_spot c0
      refine ⟨b, o, rfl, fun i hi => ?_⟩
      rw [hll] at hi
      have e : ((List.range len).map f).getD i 0 = f i := by simp [List.getD, hi]
      rw [e]
      have := (hf i hi).1
      rwa [add_plain] at this
    · obtain ⟨i, hi, rfl⟩ := List.mem_map.1 hn
      exact (hf i (by simpa using hi)).2
end
end Go.Proofs.Ytdjbigfobodecaa
namespace Go.Proofs.Ytdjbigfobodecaa
open Go.ChangeShapes Go.WideShapes Go.ChangeAt Go.RowKit
section
variable {H : Type} {enc : TypeId × Value → H} {W : World} {base : Nat} {spare : Nat → Bool} {held : Bool}
set_option maxRecDepth 100000 in
theorem open_terms {r : Reach} {b0 : Nat} {v : Value} {d : DataW H} {p : List MemPlace} (hv : Value.okWide Try.prog W r b0 22 v) (h : DataW.Trod enc Try.prog W base spare held 22 v d p) :
    ∃ (A : Option Addr) (l : List Tm) (c : Nat), v = .slice A l.length c ∧ Lst W A l c := by
  obtain ⟨a, len, cap, rfl⟩ := okWide_slice types.lst hv
  obtain ⟨fuel, hf⟩ := h
  exact open_lst types hf
end
end Go.Proofs.Ytdjbigfobodecaa
namespace Go.Proofs.Ytdjbigfobodecaa
open Go.RowKit

/-- Where the first binding with a property stands, or -1. -/
def FirstIdx (l : List Bd) (p : Bd → Bool) (w : World) (e : Ending) (w' : World) : Prop :=
  ∃ m : Int, ((m = -1 ∧ l.any p = false) ∨ ∃ i : Nat, i < l.length ∧ m = i ∧ p (l.getD i default) = true ∧ (l.take i).any p = false) ∧ e = .returned (.int .i64 m) ∧ Below w.heap.size w w'
theorem bany_next {l : List Bd} {k : Nat} (p : Bd → Bool) (h : k < l.length) : (l.take (k + 1)).any p = ((l.take k).any p || p (l.getD k default)) := by
  rw [btake_next h]; simp

end Go.Proofs.Ytdjbigfobodecaa
namespace Go.Proofs.Ytdjbigfobodecaa
open Go.RowKit Go.Sort

theorem apart_any (l : List Bd) : (!(l.any fun x => hasB l x.tm)) = apartB l := by
  have h1 : ∀ t : Tm, hasB l t = !(t.occ.all fun v => (look l v).isNone) := fun t => by
    unfold hasB
    rw [List.not_all_eq_any_not]
    congr 1
    funext v
    cases look l v <;> rfl
  simp only [h1, apartB, ← List.not_all_eq_any_not, Bool.not_not]
/-- A struct of five cells that was laid, behind a call. -/
theorem box5 {w w' : World} {v0 v1 v2 v3 v4 : Value} {T : TypeId} (hb : Below (w.alloc (.cells #[v0, v1, v2, v3, v4] T)).heap.size (w.alloc (.cells #[v0, v1, v2, v3, v4] T)) w') :
    w'.cell? ⟨w.heap.size, 0, none⟩ = some v0 ∧ w'.cell? ⟨w.heap.size, 1, none⟩ = some v1 ∧ w'.cell? ⟨w.heap.size, 2, none⟩ = some v2 ∧ w'.cell? ⟨w.heap.size, 3, none⟩ = some v3 ∧ w'.cell? ⟨w.heap.size, 4, none⟩ = some v4 ∧ Below w.heap.size w w' := by
  have h : ∀ j, w'.cell? ⟨w.heap.size, j, none⟩ = (#[v0, v1, v2, v3, v4] : Array Value)[j]? := fun j => by
    rw [hb.cell (p := ⟨w.heap.size, j, none⟩) (by simp), World.cell?_alloc_at _ _ _ _ rfl]
  exact ⟨h 0, h 1, h 2, h 3, h 4, ((Below.refl _ _).alloc (Nat.le_refl _) _).trans (hb.mono (by simp))⟩

theorem okAt_parts (l : List Bd) (i : Nat) : okAt l i = ((decide (0 ≤ (l.getD i default).var) && decide ((l.getD i default).var ≤ 1048576)) && ((l.getD i default).tm.right && (decide (i = 0) || decide ((l.getD (i - 1) default).var < (l.getD i default).var)))) := rfl

end Go.Proofs.Ytdjbigfobodecaa
