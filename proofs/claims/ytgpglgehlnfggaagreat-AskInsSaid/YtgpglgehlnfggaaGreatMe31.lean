/-
  AkAllR.
-/
import Derived.Test.YtgpglgehlnfggaaGreatMe26
import Derived.Test.YtgpglgehlnfggaaGreatMe20
import Derived.Test.YtgpglgehlnfggaaGreatMe30
import Derived.Test.YtgpglgehlnfggaaGreatMe14
import Derived.Test.YtgpglgehlnfggaaGreatMe8
import Derived.Deep.RegionHeld3
namespace Go.Proofs.YtgpglgehlnfggaaGreat
open Go.RowKit
set_option linter.unusedVariables false
theorem size_strip_l (l : List Tm) : sizeL (stripL l) = sizeL l := (wordsL_strip l).1
theorem any_nextR {L : List Gl} {j : Nat} (h : j < L.length) (p : Gl → Bool) : (L.take (j + 1)).any p = ((L.take j).any p || p (L.getD j default)) := by
  rw [gl_take_next h, List.any_append]
  simp
theorem any_stopR {L : List Gl} {j : Nat} (h : j < L.length) {p : Gl → Bool} (hp : p (L.getD j default) = true) : L.any p = true := List.any_eq_true.2 ⟨_, gl_getD_mem h, hp⟩
theorem sameG_cmp (x y : Gl) : sameG x y = (cmpG x y == 0) := (cmpG_sg x y).symm
theorem sameG_keys {x x' y y' : Gl} (h : x.key = x'.key) (h2 : y.key = y'.key) : sameG x y = sameG x' y' := by
  rw [sameG_cmp, sameG_cmp, cmpG_key h, cmpG_key2 h2]
theorem made_key {b : List Bd} {u t : Gl} (h : u.op = t.op ∧ u.name = t.name) (hs : stripL u.args = stripL (appL b t.args)) : u.key = (t.appB b).key := by
  unfold Gl.key Gl.hd Gl.appB
  rw [h.1, h.2, hs]
set_option maxHeartbeats 8000000 in
set_option maxRecDepth 100000 in
theorem in_r_at {can : Tm → Tm → Bool} (H : RSolves) (hc : Cans can) (b : List Bd) (B : Option Addr) (d : Nat) (known : List Gl) (g : Gl) (A : Option Addr) (c : Nat) (w : World) (hb : BLst w B b d) (hk : GlLst w A known c) (hg : g.At w) (hkl : known.length ≤ 1000000)
    (hnk : ∀ k ∈ known, nodesL k.args ≤ 1000000) (hng : nodesL g.args ≤ 1000000) (hzg : sizeL (appL b g.args) ≤ 1000000) :
    Calls Tryz.prog 14 #[.slice B b.length d, .slice A known.length c, g.val] w fun e w' => e = .returned (.int .i64 (inV can b known g)) ∧ Below w.heap.size w w' := by
  have QG := Lib.hid (fun W (h : Below w.heap.size w W) => ref_apply_goal_at w b B d hb g hg hng W h)
  have QK := Lib.hid (fun (k : Gl) (hm : k ∈ known) W (h : Below w.heap.size w W) => ref_apply_goal_at w b B d hb k (hk.mem hm) (hnk k hm) W h)
  have QI := Lib.hid (fun (u : Gl) W (hu : u.At W) (hs : stripL u.args = stripL (appL b g.args)) (e1 : u.op = g.op) (e2 : u.name = g.name) => (ris_test_at u W hu (by rw [← size_strip_l u.args, hs, size_strip_l]; exact hzg) (show isT u.op u.name u.args = isT g.op g.name (appL b g.args) by rw [e1, e2, isT_like hs])))
  have QT := Lib.hid (fun (u : Gl) W (hu : u.At W) (hs : stripL u.args = stripL (appL b g.args)) (e1 : u.op = g.op) (e2 : u.name = g.name) => (by
    have h := test_r_at H hc u W hu (by rw [← size_strip_l u.args, hs, size_strip_l]; exact hzg)
    rw [e1, e2, testV_like hc hs] at h
    exact h : Calls Tryz.prog 11 #[u.val] W fun e w' => e = .returned (.int .i64 (testV can g.op g.name (appL b g.args))) ∧ Below W.heap.size W w'))
  have QS := Lib.hid (fun (x y : Gl) W (hx : x.At W) (hy : y.At W) => ref_same_goal_at x y W hx hy rfl)
  have HL := Lib.hid hk
  have HV := Lib.hid (show inV can b known g = if (isT g.op g.name (appL b g.args) && known.any fun k => sameG (g.appB b) (k.appB b)) = true then 1 else testV can g.op g.name (appL b g.args) from rfl)
  have HNX := Lib.hid (fun j (hj : j < known.length) => any_nextR hj (fun k => sameG (g.appB b) (k.appB b)))
  have HST := Lib.hid (fun j (hj : j < known.length) (h : sameG (g.appB b) ((known.getD j default).appB b) = true) => any_stopR hj (p := fun k => sameG (g.appB b) (k.appB b)) h)
  have HMK := Lib.hid (fun (u v k : Gl) (h1 : u.key = (g.appB b).key) (h2 : v.key = (k.appB b).key) => sameG_keys h1 h2)
  have HKU := Lib.hid (fun (u : Gl) (h : u.op = g.op ∧ u.name = g.name) (hs : stripL u.args = stripL (appL b g.args)) => made_key h hs)
  generalize inV can b known g = v at *
  generalize isT g.op g.name (appL b g.args) = t at *
  generalize testV can g.op g.name (appL b g.args) = z at *
  generalize g.appB b = gb at *
  obtain ⟨o', s', A', c', a'⟩ := g
  simp only at QI QT HKU
  clear hb hk hg hnk hng hzg hc H
  show Calls Tryz.prog 14 #[.slice B b.length d, .slice A known.length c, .agg #[.int .i64 o', .string s', .slice A' a'.length c']] w _
  have hb0 := below1 w (.cells #[.int .i64 o', .string s', .slice A' a'.length c'] 24)
  have Q0 := Lib.hid (QG.out _ hb0)
  have B0 := Lib.hid hb0
  clear hb0 QG
  go_enter Tryz.func14, Tryz.ntmps14
  go_wp2_with fail
  refine (Q0.out).mono ?_
  rintro e w1 ⟨u, rfl, hu1, hu2, hu3, hb1⟩
  have H1 := Lib.hid (B0.out.trans (hb1.mono B0.out.size))
  have HU := Lib.hid (HKU.out u hu1 hu2)
  have HAT := Lib.hid (fun W (h : Below w1.heap.size w1 W) => hu3.below h)
  have QI1 := Lib.hid (fun W (h : Below w1.heap.size w1 W) => QI.out u W (hu3.below h) hu2 hu1.1 hu1.2)
  have QT1 := Lib.hid (fun W (h : Below w1.heap.size w1 W) => QT.out u W (hu3.below h) hu2 hu1.1 hu1.2)
  clear hu1 hu2 hu3 hb1 Q0 QI QT HKU B0
  obtain ⟨uo, us, uA, uc, ua⟩ := u
  simp only [Gl.val]
  simp only [Gl.val] at QI1 QT1
  go_wp2_with fail
  obtain ⟨X, hX⟩ : ∃ X, w1.alloc (.cells #[.int .i64 uo, .string us, .slice uA ua.length uc] 24) = X := ⟨_, rfl⟩
  have HX1 := Lib.hid (show Below w1.heap.size w1 X by rw [← hX]; exact below1 _ _)
  have HXC := Lib.hid (show ∀ W, Below X.heap.size X W → W.cell? ⟨w1.heap.size, 0, none⟩ = some (.int .i64 uo) ∧ W.cell? ⟨w1.heap.size, 1, none⟩ = some (.string us) ∧ W.cell? ⟨w1.heap.size, 2, none⟩ = some (.slice uA ua.length uc) from by
    intro W h
    subst hX
    exact ⟨boxN h 0 _ rfl, boxN h 1 _ rfl, boxN h 2 _ rfl⟩)
  rw [hX]
  clear hX
  go_loopw [8] (fun i wr => ∃ j : Nat, j ≤ known.length ∧ i = .int .i64 j ∧ Hid ((t && (known.take j).any fun k => sameG gb (k.appB b)) = false) ∧ Hid (Below X.heap.size X wr)) (fun i _ => known.length - (intOf i).toNat)
  case atStart => exact ⟨0, Nat.zero_le _, rfl, Lib.hid (by simp), Lib.hid (Below.refl _ _)⟩
  case round =>
    obtain ⟨j, hj, rfl, HF, HB⟩ := hrel
    have HB1 := Lib.hid (HX1.out.trans (HB.out.mono HX1.out.size))
    have HW := Lib.hid (H1.out.trans (HB1.out.mono H1.out.size))
    obtain ⟨x0, x1, x2⟩ := HXC.out wr HB.out
    by_cases hlt : j < known.length
    · obtain ⟨b0, o, rfl, hcs, hat⟩ := (HL.out.below HW.out).get hlt
      have HNj := Lib.hid (HNX.out j hlt)
      have HSj := Lib.hid (HST.out j hlt)
      have hmem := gl_getD_mem hlt
      have QKj := Lib.hid (fun W (h : Below w.heap.size w W) => QK.out _ hmem W h)
      generalize known.getD j default = x at *
      have c0 := hcs 0 _ rfl
      have c1 := hcs 1 _ rfl
      have c2 := hcs 2 _ rfl
      simp only [Nat.add_zero] at c0
      clear hcs hat hmem
      cases t
      · have k0 := cell_regrown x0
        have k1 := cell_regrown x1
        have k2 := cell_regrown x2
        have QQ := Lib.hid (fun dd os => QI1.out (Go.Sort.grow (redrawn wr dd) os) (HB1.out.trans ((below_regrown wr dd os).mono HB1.out.size)))
        clear c0 c1 c2 x0 x1 x2
        go_wp2_with fail
        refine wp_region_quiet_below (by kernel_rfl) (by kernel_rfl) ?_
        repeat (go_big_quiet_step (first | (go_at_call 34; exact Calls.regrown_of (QQ.out _ _)) | fail))
        refine wpQuiet_nil ?_
        intro w4 hw'
        have HB4 := Lib.hid (HB.out.trans ((regrown_below hw').mono HB.out.size))
        clear hw' k0 k1 k2
        go_wp2_with fail
        go_roundw
        case rel => exact ⟨j + 1, by omega, by go_num, Lib.hid (by simp), HB4⟩
        case measure => simp [intOf]; omega
      · have HS := Lib.hid (fun W (h : Below wr.heap.size wr W) => (⟨keepv h x0, keepv h x1, keepv h x2, keepv h c0, keepv h c1, keepv h c2⟩ : (fun W => W.cell? ⟨w1.heap.size, 0, none⟩ = some (.int .i64 uo) ∧ W.cell? ⟨w1.heap.size, 1, none⟩ = some (.string us) ∧ W.cell? ⟨w1.heap.size, 2, none⟩ = some (.slice uA ua.length uc) ∧ W.cell? ⟨b0, o + j * 3, none⟩ = some (.int .i64 x.op) ∧ W.cell? ⟨b0, o + j * 3 + 1, none⟩ = some (.string x.name) ∧ W.cell? ⟨b0, o + j * 3 + 2, none⟩ = some (.slice x.at_ x.args.length x.cap)) W))
        have QS1 := Lib.hid (fun (y : Gl) W (hy : y.At W) (h : Below w1.heap.size w1 W) => (show Calls Tryz.prog 40 #[.agg #[.int .i64 uo, .string us, .slice uA ua.length uc], y.val] W (fun e w' => e = .returned (.bool (sameG ⟨uo, us, uA, uc, ua⟩ y)) ∧ Below W.heap.size W w') from QS.out ⟨uo, us, uA, uc, ua⟩ y W (HAT.out W h) hy))
        have HM := Lib.hid (fun (y : Gl) (h : y.op = x.op ∧ y.name = x.name) (hs : stripL y.args = stripL (appL b x.args)) => HMK.out _ y x HU.out (made_key h hs))
        obtain ⟨xo, xs, xA, xc, xa⟩ := x
        simp only at c0 c1 c2 HS
        clear c0 c1 c2 x0 x1 x2
        go_wp2_with fail
        go_region_held3 (fun W => W.cell? ⟨w1.heap.size, 0, none⟩ = some (.int .i64 uo) ∧ W.cell? ⟨w1.heap.size, 1, none⟩ = some (.string us) ∧ W.cell? ⟨w1.heap.size, 2, none⟩ = some (.slice uA ua.length uc) ∧ W.cell? ⟨b0, o + j * 3, none⟩ = some (.int .i64 xo) ∧ W.cell? ⟨b0, o + j * 3 + 1, none⟩ = some (.string xs) ∧ W.cell? ⟨b0, o + j * 3 + 2, none⟩ = some (.slice xA xa.length xc)) (first | (with_reducible exact HS.out _ (Below.refl _ _).drew) | (with_reducible exact HS.out _ E1.out) | (with_reducible exact HS.out _ E2.out) | (with_reducible exact HS.out _ E3.out) | fail) (first
          | (go_at_call 34; have hF := QI1.out wr.drew HB1.out.drew; (with_reducible refine hF.mono ?_); rintro e y1 ⟨rfl, h1⟩; have E1 := Lib.hid (show Below wr.heap.size wr y1 from undrew h1); clear h1 hF)
          | (go_at_call 21; have hF := QKj.out y1 (HW.out.trans (E1.out.mono HW.out.size)); refine hF.mono ?_; rintro e y2 ⟨u2, rfl, hu1, hu2, hu3, h1⟩; have E2 := Lib.hid (E1.out.trans (h1.mono E1.out.size)); have U2 := Lib.hid hu3; have M2 := Lib.hid (HM.out u2 hu1 hu2); clear h1 hF hu1 hu2 hu3)
          | (go_at_call 40; have hF := QS1.out u2 y2 U2.out (HB1.out.trans (E2.out.mono HB1.out.size)); refine hF.mono ?_; rintro e y3 ⟨rfl, h1⟩; have E3 := Lib.hid (E2.out.trans (h1.mono E2.out.size)); clear h1 hF)
          | fail)
        all_goals
          have HB4 := Lib.hid (HB.out.trans (E3.out.mono HB.out.size))
          have HM2 := Lib.hid M2.out
          generalize sameG ⟨uo, us, uA, uc, ua⟩ u2 = q at *
          have hq := HM2.out
          cases q
          · have HF2 := Lib.hid (show (true && (known.take (j + 1)).any fun k => sameG gb (k.appB b)) = false by rw [HNj.out, ← hq]; have := HF.out; simpa using this)
            clear hq HNj HSj
            go_wp2_with fail
            go_roundw
            case rel => exact ⟨j + 1, by omega, by go_num, HF2, HB4⟩
            case measure => simp [intOf]; omega
          · have HE := Lib.hid (show v = 1 by rw [HV.out, HSj.out hq.symm]; rfl)
            clear hq HNj HSj
            go_wp2_with fail
            go_ret
            exact ⟨by rw [HE.out]; try rfl, HW.out.trans (E3.out.mono HW.out.size)⟩
    · obtain rfl : j = known.length := by omega
      have HE := Lib.hid (show v = z by
        have h := HF.out
        rw [List.take_length] at h
        rw [HV.out, h]
        rfl)
      have Q9 := Lib.hid (QT1.out wr HB1.out)
      go_wp2_with fail
      refine (Q9.out).mono ?_
      rintro e w4 ⟨rfl, hb4⟩
      go_wp2_with fail
      go_ret
      exact ⟨by rw [HE.out]; try rfl, HW.out.trans (hb4.mono HW.out.size)⟩
set_option maxHeartbeats 8000000 in
theorem all_r_at {can : Tm → Tm → Bool} (H : RSolves) (hc : Cans can) (b : List Bd) (B : Option Addr) (d : Nat) (known l : List Gl) (A A2 : Option Addr) (c c2 : Nat) (w : World) (hb : BLst w B b d) (hk : GlLst w A known c) (hl : GlLst w A2 l c2) (hkl : known.length ≤ 1000000) (hll : l.length ≤ 1000000)
    (hnk : ∀ k ∈ known, nodesL k.args ≤ 1000000) (hnl : ∀ k ∈ l, nodesL k.args ≤ 1000000) (hzl : ∀ k ∈ l, sizeL (appL b k.args) ≤ 1000000) :
    Calls Tryz.prog 16 #[.slice B b.length d, .slice A known.length c, .slice A2 l.length c2] w fun e w' => e = .returned (.int .i64 (allV can b known l)) ∧ Below w.heap.size w w' := by
  have QI := Lib.hid (fun (g : Gl) (hm : g ∈ l) W (h : Below w.heap.size w W) (hg : g.At W) => in_r_at H hc b B d known g A c W (hb.below h) (hk.below h) hg hkl hnk (hnl g hm) (hzl g hm))
  have HL := Lib.hid hl
  have HNX := Lib.hid (fun j (hj : j < l.length) => allV_next (can := can) (b := b) (known := known) hj)
  have HVS := Lib.hid (fun g => inV_vals can b known g)
  clear hb hk hl hnk hnl hzl hc H
  go_enter Tryz.func16, Tryz.ntmps16
  go_wp2_with fail
  go_loopw [7, 8] (fun r i wr => ∃ (j : Nat) (n : Int), j ≤ l.length ∧ i = .int .i64 j ∧ r = .int .i64 n ∧ Hid (allV can b known (l.take j) = n) ∧ Hid (Below w.heap.size w wr)) (fun _ i _ => l.length - (intOf i).toNat)
  case atStart => exact ⟨0, 1, Nat.zero_le _, rfl, rfl, Lib.hid rfl, Lib.hid (Below.refl _ _)⟩
  case round =>
    obtain ⟨j, n, hj, rfl, rfl, HN, HB⟩ := hrel
    by_cases hlt : j < l.length
    · obtain ⟨b0, o, rfl, hcs, hat⟩ := (HL.out.below HB.out).get hlt
      have HNj := Lib.hid (HNX.out j hlt)
      have hvs := HVS.out (l.getD j default)
      have Q := Lib.hid (QI.out (l.getD j default) (gl_getD_mem hlt) wr HB.out hat)
      rw [HN.out] at HNj
      generalize inV can b known (l.getD j default) = q at *
      generalize l.getD j default = x at *
      have c0 := hcs 0 _ rfl
      have c1 := hcs 1 _ rfl
      have c2 := hcs 2 _ rfl
      simp only [Nat.add_zero] at c0
      clear hcs hat
      obtain ⟨xo, xs, xA, xc, xa⟩ := x
      simp only at c0 c1 c2
      go_wp2_with fail
      refine (Q.out).mono ?_
      rintro e w4 ⟨rfl, hb4⟩
      have HB4 := Lib.hid (HB.out.trans (hb4.mono HB.out.size))
      clear hb4
      rcases hvs with rfl | rfl | rfl
      · by_cases h1 : n = 1
        · subst h1
          have HF := Lib.hid (show allV can b known (l.take (j + 1)) = 0 from HNj.out)
          go_wp2_with fail
          go_roundw
          case rel => exact ⟨j + 1, 0, by omega, by go_num, rfl, HF, HB4⟩
          case measure => simp [intOf]; omega
        · have e1 : (n == 1) = false := by simpa using h1
          have HF := Lib.hid (show allV can b known (l.take (j + 1)) = n from HNj.out.trans (by unfold allStep; rw [if_neg (by omega)]))
          clear h1
          go_wp2_with fail
          go_roundw
          case rel => exact ⟨j + 1, n, by omega, by go_num, rfl, HF, HB4⟩
          case measure => simp [intOf]; omega
      · have HF := Lib.hid (show allV can b known (l.take (j + 1)) = n from HNj.out.trans (by unfold allStep; rw [if_neg (by omega)]))
        go_wp2_with fail
        go_roundw
        case rel => exact ⟨j + 1, n, by omega, by go_num, rfl, HF, HB4⟩
        case measure => simp [intOf]; omega
      · have HF := Lib.hid (show allV can b known (l.take (j + 1)) = 2 from HNj.out.trans (by unfold allStep; rw [if_pos (.inl rfl)]))
        go_wp2_with fail
        go_roundw
        case rel => exact ⟨j + 1, 2, by omega, by go_num, rfl, HF, HB4⟩
        case measure => simp [intOf]; omega
    · obtain rfl : j = l.length := by omega
      have HF := Lib.hid (show allV can b known l = n by have := HN.out; rwa [List.take_length] at this)
      clear HN
      go_wp2_with fail
      go_ret
      exact ⟨by rw [HF.out]; try rfl, HB.out⟩
end Go.Proofs.YtgpglgehlnfggaaGreat
