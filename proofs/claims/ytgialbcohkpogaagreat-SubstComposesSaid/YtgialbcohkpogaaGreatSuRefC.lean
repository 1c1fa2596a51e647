/-
  Contract of Compose of the reference.
-/
import Derived.Test.YtgialbcohkpogaaGreatSuInto
import Derived.Test.YtgialbcohkpogaaGreatSuRefRight
import Derived.Test.YtgialbcohkpogaaGreatSuCompose
import Derived.Test.YtgialbcohkpogaaGreatSuNodes
import Derived.Test.YtgialbcohkpogaaGreatSuFun
import Derived.Deep.RegionHeld3
namespace Go.Proofs.YtgialbcohkpogaaGreat
open Go.RowKit Go.Sort

theorem sortB_snoc (m : List Bd) (y : Bd) : sortB (m ++ [y]) = insB y (sortB m) := by simp [sortB, List.foldl_append]
/-- What was put together so far, in ascending order. -/
structure RComping (m : List Bd) (w : World) (z : Value) (wr : World) (acc : List Bd) : Prop where
  row : RowB (From w) w.heap.size wr z acc
  same : stripB acc = stripB (sortB m)
  below : Below w.heap.size w wr
section
variable {m : List Bd} {w wr w' : World} {z : Value} {acc : List Bd}
theorem RComping.len (h : RComping m w z wr acc) : acc.length = m.length := by rw [← stripB_len acc, h.same, stripB_len, (sortB_perm m).length_eq]
theorem RComping.keep (h : RComping m w z wr acc) (hb : Below wr.heap.size wr w') : RComping m w z w' acc := ⟨h.row.below hb, h.same, h.below.trans (hb.mono h.below.size)⟩
theorem RComping.lie (h : RComping m w z wr acc) : ∀ x ∈ acc, Fits x.var ∧ Lie (From w) w.heap.size No wr x.tm := fun x hx => ⟨(h.row.2 x hx).1, (h.row.2 x hx).2.out fun _ _ _ h => h.elim⟩
theorem RComping.blst {A : Option Addr} {c : Nat} (h : RComping m w (.slice A acc.length c) wr acc) : BLst wr A acc c := h.row.blst h.below
theorem RComping.next {A' : Option Addr} {c' : Nat} {u y : Bd} (h : RComping m w z wr acc) (hu : u.strip = y.strip) (hr : RowB (From w) w.heap.size w' (.slice A' (acc.length + 1) c') (insB u acc)) (hb : Below wr.heap.size wr w') : RComping (m ++ [y]) w (.slice A' (insB u acc).length c') w' (insB u acc) :=
  ⟨by rw [insB_len]; exact hr, by rw [insB_strip, hu, h.same, ← insB_strip, sortB_snoc], h.below.trans (hb.mono h.below.size)⟩
end
theorem allRight_next {l : List Bd} {k : Nat} (h : k < l.length) : allRight (l.take (k + 1)) = (allRight (l.take k) && (l.getD k default).tm.right) := by
  unfold allRight; rw [btake_next h]; simp
theorem allRight_stop {l : List Bd} {k : Nat} (h : k < l.length) (hv : (l.getD k default).tm.right = false) : allRight l = false := by
  unfold allRight
  rw [List.all_eq_false]
  exact ⟨_, bgetD_mem h, by rw [hv]; simp⟩
/-- Right terms have few nodes; so have what is applied to them. -/
theorem app_small {c : List Bd} (hc : ∀ x ∈ c, x.tm.nodes ≤ 200) {t : Tm} (ht : t.nodes ≤ 200) : (t.app c).size ≤ 1000000 := by
  have h1 := (nodes_app hc).1 t
  have h2 := (size_nodes.1 (t.app c)).1
  omega
theorem size_same {t u : Tm} (h : t.strip = u.strip) : t.size = u.size := by rw [← size_strip.1 t, h, size_strip.1 u]
theorem comp_small {a c acc : List Bd} (ha : rightS a = true) (hc : rightS c = true) (hs : stripB acc = stripB (sortB (compL a c))) : ∀ x ∈ acc, x.tm.size ≤ 1000000 := by
  have hna : ∀ x ∈ a, x.tm.nodes ≤ 200 := fun x hx => right_nodes (((rightS_iff a).1 ha).1.1 x hx).2.2
  have hnc : ∀ x ∈ c, x.tm.nodes ≤ 200 := fun x hx => right_nodes (((rightS_iff c).1 hc).1.1 x hx).2.2
  intro x hx
  have hm : x.strip ∈ stripB (sortB (compL a c)) := by rw [← hs]; exact List.mem_map_of_mem hx
  obtain ⟨y, hy, e⟩ := List.mem_map.1 hm
  have hy2 := (sortB_perm (compL a c)).mem_iff.1 hy
  have e2 : y.tm.strip = x.tm.strip := congrArg Bd.tm e
  rw [← size_same e2]
  rcases List.mem_append.1 hy2 with h | h
  · obtain ⟨x0, hx0, _, ht, _⟩ := compA_var h
    rw [ht]
    exact app_small hnc (hna _ hx0)
  · have := hnc _ (List.mem_filter.1 h).1
    have := (size_nodes.1 y.tm).1
    omega

set_option maxHeartbeats 16000000 in
set_option maxRecDepth 100000 in
theorem ref_compose_at (a c : List Bd) (A C : Option Addr) (p q : Nat) (w : World) (ha : BLst w A a p) (hc : BLst w C c q) (hla : a.length + c.length ≤ 1000000) (hna : ∀ x ∈ a, x.tm.nodes ≤ 1000000) (hnc : ∀ x ∈ c, x.tm.nodes ≤ 1000000) :
    Calls Tryz.prog 25 #[.slice A a.length p, .slice C c.length q] w (CompR a c w) := by
  have HA := Lib.hid ha
  have HC := Lib.hid hc
  have hsa : ∀ x ∈ a, x.tm.size ≤ 1000000 := fun x hx => by have := hna x hx; have := (size_nodes.1 x.tm).1; omega
  have hsc : ∀ x ∈ c, x.tm.size ≤ 1000000 := fun x hx => by have := hnc x hx; have := (size_nodes.1 x.tm).1; omega
  have Qa := Lib.hid (fun W (h : Below w.heap.size w W) => ref_right_s_at a A p W (ha.below h) hsa)
  have Qc := Lib.hid (fun W (h : Below w.heap.size w W) => ref_right_s_at c C q W (hc.below h) hsc)
  clear ha hc hsa hsc
  cases hra : rightS a with
  | false =>
    rw [hra] at Qa
    have HE := Lib.hid (show comp a c = ([], 2) by unfold comp; rw [hra]; rfl)
    clear hra Qc hna hnc
    go_enter Tryz.func25, Tryz.ntmps25
    go_wp2_with fail
    refine (Qa.out _ (Below.refl _ _)).mono ?_
    rintro e w1 ⟨rfl, hb1⟩
    go_wp2_with fail
    go_ret2
    exact ⟨none, 0, [], by rw [HE.out]; rfl, by rw [HE.out], BLst.nil _, hb1⟩
  | true =>
    rw [hra] at Qa
    cases hrc : rightS c with
    | false =>
      rw [hrc] at Qc
      have HE := Lib.hid (show comp a c = ([], 2) by unfold comp; rw [hra, hrc]; rfl)
      clear hra hrc hna hnc
      go_enter Tryz.func25, Tryz.ntmps25
      go_wp2_with fail
      refine (Qa.out _ (Below.refl _ _)).mono ?_
      rintro e w1 ⟨rfl, hb1⟩
      go_wp2_with fail
      refine (Qc.out _ hb1).mono ?_
      rintro e w2 ⟨rfl, hb2⟩
      have hb3 := hb1.trans (hb2.mono hb1.size)
      go_wp2_with fail
      go_ret2
      exact ⟨none, 0, [], by rw [HE.out]; rfl, by rw [HE.out], BLst.nil _, hb3⟩
    | true =>
      rw [hrc] at Qc
      have RA := Lib.hid hra
      have RC := Lib.hid hrc
      have HNA := Lib.hid hna
      clear hra hrc hna hnc
      go_enter Tryz.func25, Tryz.ntmps25
      go_wp2_with fail
      refine (Qa.out _ (Below.refl _ _)).mono ?_
      rintro e w1 ⟨rfl, hb1⟩
      go_wp2_with fail
      refine (Qc.out _ hb1).mono ?_
      rintro e w2 ⟨rfl, hb2⟩
      have HK := Lib.hid (show RComping (compA (a.take 0) c) w (.slice none ([] : List Bd).length 0) w2 [] from ⟨RowB.nil _ _ _, rfl, hb1.trans (hb2.mono hb1.size)⟩)
      clear hb1 hb2 Qa Qc
      go_wp2_with fail
      go_loopw [6, 7] (fun z i wr => ∃ (j : Nat) (acc : List Bd) (A' : Option Addr) (c' : Nat), j ≤ a.length ∧ i = .int .i64 j ∧ z = .slice A' acc.length c' ∧ Hid (RComping (compA (a.take j) c) w (.slice A' acc.length c') wr acc)) (fun _ i _ => a.length - (intOf i).toNat)
      case atStart => exact ⟨0, [], none, 0, Nat.zero_le _, rfl, rfl, HK⟩
      case round =>
        clear HK
        obtain ⟨j, acc, A', c', hj, rfl, rfl, HK⟩ := hrel
        by_cases hlt : j < a.length
        · have hK := HK.out
          obtain ⟨b0, o, rfl, ⟨x0, x1, x2, x3, x4⟩, hf, hx⟩ := (HA.out.below hK.below).get hlt
          have hax := (HA.out.mem (bgetD_mem hlt)).2
          have hnx := HNA.out _ (bgetD_mem hlt)
          have HT := Lib.hid (compA_next hlt c)
          have hal : acc.length ≤ 1000000 := by rw [hK.len]; have := compA_len (a.take j) c; simp at this; omega
          generalize a.getD j default = x at *
          have QX := Lib.hid (ref_apply_at w c C q HC.out x.tm hax hnx wr hK.below)
          have HX := Lib.hid hf
          obtain ⟨t, ht⟩ : ∃ t, t = x.tm.app c := ⟨_, rfl⟩
          rw [← ht] at QX
          have hkA : keepA c x = if isV t x.var then none else some ⟨x.var, t⟩ := by unfold keepA; rw [← ht]
          have HKA := Lib.hid hkA
          clear hx hnx hK ht hkA hax hf
          obtain ⟨v, xt⟩ := x
          simp only at HX HKA
          obtain ⟨k', n', s', A1, c1, a1⟩ := xt
          simp only [Tm.kind, Tm.num, Tm.name, Tm.at_, Tm.args, Tm.cap] at x0 x1 x2 x3 x4
          go_wp2_with fail
          refine (QX.out).mono ?_
          rintro e w3 ⟨u, rfl, hu, hlie, hb3⟩
          have hK3 := HK.out.keep hb3
          obtain ⟨uk, un, us, uA, uc, ua⟩ := u
          simp only [Tm.val, Tm.kind, Tm.num, Tm.name, Tm.at_, Tm.args, Tm.cap]
          have hb4 := below1 w3 (.cells #[.int .i64 uk, .int .i64 un, .string us, .slice uA ua.length uc] 29)
          have hH4 := held_new (v0 := .int .i64 uk) (v1 := .int .i64 un) (v2 := .string us) (v3 := .slice uA ua.length uc) w3 29
          have HK4 := Lib.hid (hK3.keep hb4)
          have HL4 := Lib.hid ((hlie.low (lo' := w.heap.size) HK.out.below.size).below hb4)
          have HU := Lib.hid (isV_same hu v)
          have HUS := Lib.hid hu
          have y0 := keepv (hb3.trans (hb4.mono hb3.size)) x0
          have HB4 := Lib.hid (show Below w.heap.size w (w3.alloc (.cells #[.int .i64 uk, .int .i64 un, .string us, .slice uA ua.length uc] 29)) from hK3.below.trans (hb4.mono hK3.below.size))
          generalize hw4 : w3.alloc (.cells #[.int .i64 uk, .int .i64 un, .string us, .slice uA ua.length uc] 29) = w4 at *
          obtain ⟨r, hr⟩ : ∃ r, isV (Tm.mk uk un us uA uc ua) v = r := ⟨_, rfl⟩
          have QV := Lib.hid (fun W => ref_var_at3 v W)
          have QS := Lib.hid (fun W (h : Below w4.heap.size w4 W) => show Calls Tryz.prog 15 #[.agg #[.int .i64 uk, .int .i64 un, .string us, .slice uA ua.length uc], .agg #[.int .i64 1, .int .i64 v, .string ⟨#[]⟩, .slice none 0 0]] W fun e w' => e = .returned (.bool r) ∧ Below W.heap.size W w' from
            ref_same_at (.mk uk un us uA uc ua) (.mk 1 v ⟨#[]⟩ none 0 []) W ((HL4.out.at HB4.out).below h) ((At_iff _ _).2 ⟨⟨by simp only [Tm.kind]; unfold Fits; omega, HX.out, by unfold maxLen; simp [Tm.name, ByteArray.size]⟩, Lst.nil W⟩) (by rw [isV_cmp]; exact hr))
          obtain ⟨_, e0, e1, e2, e3, _⟩ := hH4
          have f0 := cell_regrown e0
          have f1 := cell_regrown e1
          have f2 := cell_regrown e2
          have f3 := cell_regrown e3
          have fy := cell_regrown y0
          rw [hr] at HU
          clear hr hb3 hb4 hK3 hlie hu x0 x1 x2 x3 x4 QX
          go_wp2_with fail
          refine wp_region_quiet_below (by kernel_rfl) (by kernel_rfl) ?_
          repeat (go_big_quiet_step (first | (go_at_call 33; exact Calls.regrown_of (QV.out _)) | (go_at_call 15; exact Calls.regrown_of (QS.out _ (below_regrown _ _ _)))))
          refine wpQuiet_nil ?_
          intro w5 hw'
          have hb5 := regrown_below hw'
          cases r with
          | true =>
            have HS := Lib.hid (show RComping (compA (a.take (j + 1)) c) w (.slice A' acc.length c') w5 acc by
              rw [HT.out, HKA.out, ← HU.out, if_pos rfl]
              simpa using HK4.out.keep hb5)
            clear hw' f0 f1 f2 f3 fy e0 e1 e2 e3 y0
            go_wp2_with fail
            go_roundw
            case rel => exact ⟨j + 1, acc, A', c', by omega, by go_num, rfl, HS⟩
            case measure => simp [intOf]; omega
          | false =>
            have HK5 := Lib.hid (HK4.out.keep hb5)
            have HB5 := Lib.hid (HB4.out.trans (hb5.mono HB4.out.size))
            have g0 := keepv hb5 e0
            have g1 := keepv hb5 e1
            have g2 := keepv hb5 e2
            have g3 := keepv hb5 e3
            have gy := keepv hb5 y0
            have QI := Lib.hid (fun W (h : Below w5.heap.size w5 W) => show Calls Tryz.prog 52 #[.slice A' acc.length c', .agg #[.int .i64 v, .int .i64 uk, .int .i64 un, .string us, .slice uA ua.length uc]] W (IntoR w acc ⟨v, .mk uk un us uA uc ua⟩ W) from
              into_at w acc A' c' ⟨v, .mk uk un us uA uc ua⟩ W (HB5.out.trans (h.mono HB5.out.size)) ((HK5.out.keep h).blst) ((HK5.out.keep h).lie) ⟨HX.out, (HL4.out.below hb5).below h⟩ hal)
            have HKE := Lib.hid (fun (W : World) (h : Below w5.heap.size w5 W) => show Below w5.heap.size w5 W ∧ W.cell? ⟨w3.heap.size, 0, none⟩ = some (.int .i64 uk) ∧ W.cell? ⟨w3.heap.size, 1, none⟩ = some (.int .i64 un) ∧ W.cell? ⟨w3.heap.size, 2, none⟩ = some (.string us) ∧ W.cell? ⟨w3.heap.size, 3, none⟩ = some (.slice uA ua.length uc) ∧ W.cell? ⟨b0, o + j * 5, none⟩ = some (.int .i64 v) from
              ⟨h, keepv h g0, keepv h g1, keepv h g2, keepv h g3, keepv h gy⟩)
            have hr5 : Below w5.heap.size w5 w5 := Below.refl _ _
            have HNX := Lib.hid (fun (W W' : World) (h : Below w5.heap.size w5 W) (A2 : Option Addr) (c2 : Nat) (hr : RowB (From w) w.heap.size W' (.slice A2 (acc.length + 1) c2) (insB ⟨v, .mk uk un us uA uc ua⟩ acc)) (hb : Below W.heap.size W W') => show RComping (compA (a.take (j + 1)) c) w (.slice A2 (insB ⟨v, .mk uk un us uA uc ua⟩ acc).length c2) W' (insB ⟨v, .mk uk un us uA uc ua⟩ acc) from by
              rw [HT.out, HKA.out, ← HU.out, if_neg (by simp)]
              exact (HK5.out.keep h).next (show (⟨v, .mk uk un us uA uc ua⟩ : Bd).strip = _ by simp only [Bd.strip, HUS.out]) hr hb)
            clear hw' f0 f1 f2 f3 fy e0 e1 e2 e3 y0 g0 g1 g2 g3 gy HK HK4 HL4 HB4 hb5 QV QS HT HKA HU HUS
            go_wp2_with fail
            (go_region_held3 (fun W => Below w5.heap.size w5 W ∧ W.cell? ⟨w3.heap.size, 0, none⟩ = some (.int .i64 uk) ∧ W.cell? ⟨w3.heap.size, 1, none⟩ = some (.int .i64 un) ∧ W.cell? ⟨w3.heap.size, 2, none⟩ = some (.string us) ∧ W.cell? ⟨w3.heap.size, 3, none⟩ = some (.slice uA ua.length uc) ∧ W.cell? ⟨b0, o + j * 5, none⟩ = some (.int .i64 v)) (exact HKE.out _ (by first | assumption | exact hr5.drew | exact hr5)) (first
              | (go_at_call 52; have hH := (‹Below w5.heap.size w5 _ ∧ _›).1; (with_reducible refine (QI.out _ hH).mono ?_); rintro e v1 ⟨A2, c2, rfl, hrow, hb1⟩; have hN1 := HNX.out _ _ hH A2 c2 hrow hb1; have hI := hH.trans (hb1.mono hH.size); clear hb1 hH hrow)))
            have HN2 := Lib.hid hN1
            go_wp2_with fail
            go_roundw
            case rel => exact ⟨j + 1, insB ⟨v, .mk uk un us uA uc ua⟩ acc, _, _, by omega, by go_num, by rw [insB_len], HN2⟩
            case measure => simp [intOf]; omega
        · obtain rfl : j = a.length := by omega
          have HK0 := HK.out
          rw [List.take_length] at HK0
          have HK2 := Lib.hid (show RComping (compA a c ++ compC a (c.take 0)) w (.slice A' acc.length c') wr acc from ⟨HK0.row, by rw [HK0.same]; simp [compC], HK0.below⟩)
          clear HK0 HK hlt
          go_wp2_with fail
          go_loopw [6, 9] (fun z i wr => ∃ (j : Nat) (acc : List Bd) (A' : Option Addr) (c' : Nat), j ≤ c.length ∧ i = .int .i64 j ∧ z = .slice A' acc.length c' ∧ Hid (RComping (compA a c ++ compC a (c.take j)) w (.slice A' acc.length c') wr acc)) (fun _ i _ => c.length - (intOf i).toNat)
          case atStart => exact ⟨0, acc, A', c', Nat.zero_le _, rfl, rfl, HK2⟩
          case round =>
            clear HK2
            obtain ⟨j, acc, A', c', hj, rfl, rfl, HK⟩ := hrel
            by_cases hlt : j < c.length
            · have hK := HK.out
              obtain ⟨b0, o, rfl, ⟨x0, x1, x2, x3, x4⟩, hf, hx⟩ := (HC.out.below hK.below).get hlt
              have hcx := (HC.out.mem (bgetD_mem hlt)).2
              have HT := Lib.hid (compC_next a hlt)
              have hal : acc.length ≤ 1000000 := by rw [hK.len, List.length_append]; have := compA_len a c; have := compC_len a (c.take j); simp at this; omega
              generalize c.getD j default = x at *
              have QF := Lib.hid (ref_lookup_at a A p x.var wr (HA.out.below hK.below))
              obtain ⟨lk, hlk⟩ : ∃ lk, look a x.var = lk := ⟨_, rfl⟩
              have HTT := Lib.hid (show compC a (c.take (j + 1)) = compC a (c.take j) ++ (if lk.isNone then [x] else []) by rw [HT.out, hlk])
              rw [hlk] at QF
              have HX := Lib.hid hf
              have HCX := Lib.hid hcx
              clear hx hK hlk HT hf hcx
              obtain ⟨t, ht⟩ : ∃ t, optT lk = t := ⟨_, rfl⟩
              rw [ht] at QF
              clear ht
              obtain ⟨v, xt⟩ := x
              simp only at HX QF HCX
              obtain ⟨k', n', s', A1, c1, a1⟩ := xt
              simp only [Tm.kind, Tm.num, Tm.name, Tm.at_, Tm.args, Tm.cap] at x0 x1 x2 x3 x4
              obtain ⟨tk, tn, ts, tA, tc, ta⟩ := t
              cases lk with
              | some y =>
                have QF2 := Lib.hid (show Calls Tryz.prog 14 #[.slice A a.length p, .int .i64 v] wr fun e w' => e = .returned (.tuple #[.agg #[.int .i64 tk, .int .i64 tn, .string ts, .slice tA ta.length tc], .bool true]) ∧ Below wr.heap.size wr w' from QF.out)
                have HE := Lib.hid (show RComping (compA a c ++ compC a (c.take (j + 1))) w (.slice A' acc.length c') wr acc by rw [HTT.out]; simpa using HK.out)
                clear QF HK HTT x1 x2 x3 x4
                go_wp2_with fail
                refine (QF2.out).mono ?_
                rintro e w3 ⟨rfl, hb3⟩
                have HK3 := Lib.hid ((HE.out.keep hb3).keep (below1 w3 (.cells #[.int .i64 tk, .int .i64 tn, .string ts, .slice tA ta.length tc] 29)))
                clear hb3 QF2 x0
                go_wp2_with fail
                go_roundw
                case rel => exact ⟨j + 1, acc, A', c', by omega, by go_num, rfl, HK3⟩
                case measure => simp [intOf]; omega
              | none =>
                have QF2 := Lib.hid (show Calls Tryz.prog 14 #[.slice A a.length p, .int .i64 v] wr fun e w' => e = .returned (.tuple #[.agg #[.int .i64 tk, .int .i64 tn, .string ts, .slice tA ta.length tc], .bool false]) ∧ Below wr.heap.size wr w' from QF.out)
                clear QF
                go_wp2_with fail
                refine (QF2.out).mono ?_
                rintro e w3 ⟨rfl, hb3⟩
                have hb4 := hb3.trans ((below1 w3 (.cells #[.int .i64 tk, .int .i64 tn, .string ts, .slice tA ta.length tc] 29)).mono hb3.size)
                have HK4 := Lib.hid (HK.out.keep hb4)
                have y0 := keepv hb4 x0
                have y1 := keepv hb4 x1
                have y2 := keepv hb4 x2
                have y3 := keepv hb4 x3
                have y4 := keepv hb4 x4
                generalize hw4 : w3.alloc (.cells #[.int .i64 tk, .int .i64 tn, .string ts, .slice tA ta.length tc] 29) = w4 at *
                have QI := Lib.hid (show Calls Tryz.prog 52 #[.slice A' acc.length c', .agg #[.int .i64 v, .int .i64 k', .int .i64 n', .string s', .slice A1 a1.length c1]] w4 (IntoR w acc ⟨v, .mk k' n' s' A1 c1 a1⟩ w4) from
                  into_at w acc A' c' ⟨v, .mk k' n' s' A1 c1 a1⟩ w4 HK4.out.below HK4.out.blst HK4.out.lie ⟨HX.out, Lie.any fun W hW => HCX.out.below hW⟩ hal)
                have HNX := Lib.hid (fun (W' : World) (A2 : Option Addr) (c2 : Nat) (hr : RowB (From w) w.heap.size W' (.slice A2 (acc.length + 1) c2) (insB ⟨v, .mk k' n' s' A1 c1 a1⟩ acc)) (hb : Below w4.heap.size w4 W') => show RComping (compA a c ++ compC a (c.take (j + 1))) w (.slice A2 (insB ⟨v, .mk k' n' s' A1 c1 a1⟩ acc).length c2) W' (insB ⟨v, .mk k' n' s' A1 c1 a1⟩ acc) from by
                  rw [HTT.out, ← List.append_assoc]
                  exact HK4.out.next rfl hr hb)
                clear hb3 hb4 QF2 x0 x1 x2 x3 x4 HK HK4 HTT
                go_wp2_with fail
                refine (QI.out).mono ?_
                rintro e w5 ⟨A2, c2, rfl, hrow, hb5⟩
                have HN2 := Lib.hid (HNX.out _ A2 c2 hrow hb5)
                clear hrow hb5 HNX QI y0 y1 y2 y3 y4
                go_wp2_with fail
                go_roundw
                case rel => exact ⟨j + 1, insB ⟨v, .mk k' n' s' A1 c1 a1⟩ acc, _, _, by omega, by go_num, by rw [insB_len], HN2⟩
                case measure => simp [intOf]; omega
            · obtain rfl : j = c.length := by omega
              have HK0 := HK.out
              rw [List.take_length] at HK0
              have HK3 := Lib.hid (show RComping (compL a c) w (.slice A' acc.length c') wr acc from HK0)
              have HSM := Lib.hid (comp_small RA.out RC.out HK0.same)
              have HAR := Lib.hid (show allRight acc = allRight (sortB (compL a c)) by rw [← allRight_strip acc, HK3.out.same, allRight_strip])
              have HLB := Lib.hid HK0.blst
              have hal : acc.length ≤ 9223372036854775807 := HK0.blst.len
              clear HK0 HK hlt
              go_wp2_with fail
              rename World => wb
              go_loopw [12] (fun i wr => ∃ (j : Nat), j ≤ acc.length ∧ i = .int .i64 j ∧ Hid (allRight (acc.take j) = true) ∧ Below wb.heap.size wb wr) (fun i _ => acc.length - (intOf i).toNat)
              case atStart => exact ⟨0, Nat.zero_le _, rfl, Lib.hid rfl, Below.refl _ _⟩
              case round =>
                obtain ⟨j, hj, rfl, HF, hbw⟩ := hrel
                by_cases hlt : j < acc.length
                · obtain ⟨b0, o, rfl, ⟨_, x1, x2, x3, x4⟩, _, hx⟩ := (HLB.out.below hbw).get hlt
                  have hsx := HSM.out _ (bgetD_mem hlt)
                  have HN := Lib.hid (allRight_next hlt)
                  have HST := Lib.hid (fun h => allRight_stop hlt h)
                  generalize acc.getD j default = x at *
                  obtain ⟨r, hr⟩ : ∃ r, x.tm.right = r := ⟨_, rfl⟩
                  have QR := Lib.hid (ref_right_tm_at x.tm wr hx hsx hr)
                  rw [hr] at HN HST
                  clear hx hsx hr
                  obtain ⟨v, k', n', s', A1, c1, a1⟩ := x
                  simp only [Tm.kind, Tm.num, Tm.name, Tm.at_, Tm.args, Tm.cap] at x1 x2 x3 x4
                  cases r with
                  | false =>
                    have HE := Lib.hid (show comp a c = ([], 6) by
                      have h1 := HST.out rfl
                      rw [HAR.out] at h1
                      unfold comp
                      rw [RA.out, RC.out, h1]
                      rfl)
                    go_wp2_with fail
                    refine (QR.out).mono ?_
                    rintro e w7 ⟨rfl, hb7⟩
                    go_wp2_with fail
                    go_ret2
                    exact ⟨none, 0, [], by rw [HE.out]; rfl, by rw [HE.out], BLst.nil _, HK3.out.below.trans ((hbw.trans (hb7.mono hbw.size)).mono HK3.out.below.size)⟩
                  | true =>
                    have HE := Lib.hid (show allRight (acc.take (j + 1)) = true by rw [HN.out, HF.out]; rfl)
                    go_wp2_with fail
                    refine (QR.out).mono ?_
                    rintro e w7 ⟨rfl, hb7⟩
                    go_wp2_with fail
                    go_roundw
                    case rel => exact ⟨j + 1, by omega, by go_num, HE, hbw.trans (hb7.mono hbw.size)⟩
                    case measure => simp [intOf]; omega
                · obtain rfl : j = acc.length := by omega
                  have hF := HF.out
                  rw [List.take_length, HAR.out] at hF
                  have HEnd := Lib.hid (comp_end RA.out RC.out hF HK3.out.same)
                  obtain ⟨r, hr⟩ : ∃ r, rightS acc = r := ⟨_, rfl⟩
                  have QR := Lib.hid (ref_right_s_at acc A' c' wr (HLB.out.below hbw) HSM.out)
                  rw [hr] at QR HEnd
                  have HB6 := Lib.hid (HK3.out.below.trans (hbw.mono HK3.out.below.size))
                  have HL6 := Lib.hid (HLB.out.below hbw)
                  clear hF HF hr hlt hbw HAR HSM
                  cases r with
                  | false =>
                    have HE := Lib.hid (HEnd.out.2 rfl)
                    go_wp2_with fail
                    refine (QR.out).mono ?_
                    rintro e w7 ⟨rfl, hb7⟩
                    go_wp2_with fail
                    go_ret2
                    exact ⟨none, 0, [], by rw [HE.out]; rfl, by rw [HE.out], BLst.nil _, HB6.out.trans (hb7.mono HB6.out.size)⟩
                  | true =>
                    have HE := Lib.hid (HEnd.out.1 rfl)
                    go_wp2_with fail
                    refine (QR.out).mono ?_
                    rintro e w7 ⟨rfl, hb7⟩
                    go_wp2_with fail
                    go_ret2
                    exact ⟨A', c', acc, by rw [HE.out.1]; rfl, HE.out.2, HL6.out.below hb7, HB6.out.trans (hb7.mono HB6.out.size)⟩
end Go.Proofs.YtgialbcohkpogaaGreat
