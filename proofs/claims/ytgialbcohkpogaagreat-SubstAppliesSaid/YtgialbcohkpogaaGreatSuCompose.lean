/-
  Contract of Compose of the program.
-/
import Derived.Test.YtgialbcohkpogaaGreatSuRow
import Derived.Test.YtgialbcohkpogaaGreatSuLookup
namespace Go.Proofs.YtgialbcohkpogaaGreat
open Go.RowKit

/-- What Compose hands out. -/
def CompR (a c : List Bd) (w : World) (e : Ending) (w' : World) : Prop :=
  ∃ A q, ∃ l : List Bd, e = .returned (.tuple #[.slice A l.length q, .int .i64 (comp a c).2]) ∧ stripB l = stripB (comp a c).1 ∧ BLst w' A l q ∧ Below w.heap.size w w'
theorem compA_next {a : List Bd} {j : Nat} (hj : j < a.length) (c : List Bd) : compA (a.take (j + 1)) c = compA (a.take j) c ++ (keepA c (a.getD j default)).toList := by
  unfold compA
  rw [btake_next hj, List.filterMap_append]
  simp only [List.filterMap_cons, List.filterMap_nil]
  cases keepA c (a.getD j default) <;> rfl
theorem compC_next (a : List Bd) {c : List Bd} {j : Nat} (hj : j < c.length) : compC a (c.take (j + 1)) = compC a (c.take j) ++ (if (look a (c.getD j default).var).isNone then [c.getD j default] else []) := by
  unfold compC
  rw [btake_next hj, List.filter_append]
  congr 1
  rw [List.filter_cons]
  split <;> rfl
theorem compA_len (a c : List Bd) : (compA a c).length ≤ a.length := List.length_filterMap_le _ _
theorem compC_len (a c : List Bd) : (compC a c).length ≤ c.length := List.length_filter_le _ _
theorem srt_asc {l : List Bd} (hs : Srt l) (hd : Dis l) : Asc l := by
  unfold Asc
  rw [List.pairwise_iff_getElem]
  intro i j hi hj hij
  have h1 := hs i j (by omega) hj
  have h2 := List.pairwise_iff_getElem.1 hd i j hi hj hij
  simp only [List.getD, List.getElem?_eq_getElem hj, List.getElem?_eq_getElem hi, Option.getD_some] at h1
  omega
theorem isV_same {t u : Tm} (h : t.strip = u.strip) (v : Int) : isV t v = isV u v := by
  have := strip_parts h
  unfold isV
  rw [this.1, this.2.1]

/-- What was put together so far. -/
structure Comping (m : List Bd) (w : World) (z : Value) (wr : World) (acc : List Bd) : Prop where
  row : RowB Any w.heap.size wr z acc
  same : stripB acc = stripB m
  below : Below w.heap.size w wr
theorem Comping.len {m : List Bd} {w wr : World} {z : Value} {acc : List Bd} (h : Comping m w z wr acc) : acc.length = m.length := by rw [← stripB_len acc, h.same, stripB_len]
theorem Comping.keep {m : List Bd} {w wr w' : World} {z : Value} {acc : List Bd} (h : Comping m w z wr acc) (hb : Below wr.heap.size wr w') : Comping m w z w' acc := ⟨h.row.below hb, h.same, h.below.trans (hb.mono h.below.size)⟩
/-- Sorted, what was put together is the composition. -/
theorem comp_sorted {a c acc l' : List Bd} (ha : rightS a = true) (hc : rightS c = true) (hs : stripB acc = stripB (compL a c)) (hp : l'.Perm acc) (ho : Srt l') : stripB l' = stripB (sortB (compL a c)) := by
  have hd : Dis acc := by
    have := comp_dis ha hc
    rw [← dis_strip] at this ⊢
    rwa [hs]
  have : l' = sortB acc := sortB_of hd hp (srt_asc ho (hd.perm hp.symm))
  rw [this, sortB_strip, hs, ← sortB_strip]
theorem comp_end {a c l' : List Bd} (ha : rightS a = true) (hc : rightS c = true) (hr : allRight (sortB (compL a c)) = true) (hl : stripB l' = stripB (sortB (compL a c))) :
    (rightS l' = true → (comp a c).2 = 0 ∧ stripB l' = stripB (comp a c).1) ∧ (rightS l' = false → comp a c = ([], 2)) := by
  have e := rightS_like hl
  unfold comp
  rw [ha, hc, hr, ← e]
  constructor
  · intro h
    rw [h]
    exact ⟨rfl, hl⟩
  · intro h
    rw [h]
    rfl
/-- A row that was sorted. -/
theorem sorted_blst {lo g n cap : Nat} {w w' : World} {acc l' : List Bd} (h : RowB Any lo w (.slice (some ⟨g, 0, none⟩) n cap) acc) (hp : l'.Perm acc) (h5 : Row5 w' g l') (hk : Keeps g w w') : BLst w' (some ⟨g, 0, none⟩) l' cap := by
  have hlen := hp.length_eq
  rcases h.1.2 with ⟨e, _⟩ | ⟨g', cap', cur, e, hb, hg, hle, hcap, _⟩
  · injection e with e; cases e
  · injection e with _ _ e3
    subst e3
    refine ⟨by omega, hcap, fun _ => ⟨g, 0, rfl, fun i hi => ⟨fun j u hu => ?_, ?_⟩⟩⟩
    · rw [Nat.zero_add]; exact h5.2.2 i j u hi hu
    · have hm := h.2 _ (hp.mem_iff.1 (bgetD_mem hi))
      exact ⟨hm.1, (hm.2.keeps hk (.inr rfl)).at trivial⟩

set_option maxHeartbeats 8000000 in
set_option maxRecDepth 100000 in
theorem compose_at (a c : List Bd) (A C : Option Addr) (p q : Nat) (w : World) (ha : BLst w A a p) (hc : BLst w C c q) (hla : a.length + c.length ≤ 1000000) (hna : ∀ x ∈ a, x.tm.nodes ≤ 1000000) (hnc : ∀ x ∈ c, x.tm.nodes ≤ 1000000) :
    Calls Tryz.prog 24 #[.slice A a.length p, .slice C c.length q] w (CompR a c w) := by
  obtain ⟨i0, hi, hz0, hz1, hz2⟩ := info_parts bind_info
  have HA := Lib.hid ha
  have HC := Lib.hid hc
  have Qa := Lib.hid (fun W (h : Below w.heap.size w W) => right_s_at a A p W (ha.below h) (by omega))
  have Qc := Lib.hid (fun W (h : Below w.heap.size w W) => right_s_at c C q W (hc.below h) (by omega))
  clear ha hc
  cases hra : rightS a with
  | false =>
    rw [hra] at Qa
    have HE := Lib.hid (show comp a c = ([], 2) by unfold comp; rw [hra]; rfl)
    clear hra Qc hna hnc
    go_enter Tryz.func24, Tryz.ntmps24
    go_wp2_with fail
    refine (Qa.out _ (Below.refl _ _)).mono ?_
    rintro e w1 ⟨rfl, hb1⟩
    go_wp2_with fail
    go_ret2
    exact ⟨none, 0, [], by rw [HE.out]; rfl, by rw [HE.out], BLst.nil _, hb1⟩
  | true =>
    rw [hra] at Qa
    cases hrc : rightS c with
    | false =>
      rw [hrc] at Qc
      have HE := Lib.hid (show comp a c = ([], 2) by unfold comp; rw [hra, hrc]; rfl)
      clear hra hrc hna hnc
      go_enter Tryz.func24, Tryz.ntmps24
      go_wp2_with fail
      refine (Qa.out _ (Below.refl _ _)).mono ?_
      rintro e w1 ⟨rfl, hb1⟩
      go_wp2_with fail
      refine (Qc.out _ hb1).mono ?_
      rintro e w2 ⟨rfl, hb2⟩
      have hb3 := hb1.trans (hb2.mono hb1.size)
      go_wp2_with fail
      go_ret2
      exact ⟨none, 0, [], by rw [HE.out]; rfl, by rw [HE.out], BLst.nil _, hb3⟩
    | true =>
      rw [hrc] at Qc
      have RA := Lib.hid hra
      have RC := Lib.hid hrc
      have GA := Lib.hid (show Good a from ⟨by omega, ((rightS_iff a).1 hra).1.2.srt, hna⟩)
      have GC := Lib.hid (show Good c from ⟨by omega, ((rightS_iff c).1 hrc).1.2.srt, hnc⟩)
      have hla1 : a.length ≤ 1000000 := by omega
      have hlc1 : c.length ≤ 1000000 := by omega
      clear hra hrc hna hnc
      go_enter Tryz.func24, Tryz.ntmps24
      go_wp2_with fail
      refine (Qa.out _ (Below.refl _ _)).mono ?_
      rintro e w1 ⟨rfl, hb1⟩
      go_wp2_with fail
      refine (Qc.out _ hb1).mono ?_
      rintro e w2 ⟨rfl, hb2⟩
      have HK := Lib.hid (show Comping (compA (a.take 0) c) w (.slice none 0 0) w2 [] from ⟨RowB.nil _ _ _, rfl, hb1.trans (hb2.mono hb1.size)⟩)
      clear hb1 hb2 Qa Qc
      go_wp2_with fail
      go_loopw [6, 24] (fun z i wr => ∃ (j : Nat) (acc : List Bd) (x : Value), j ≤ a.length ∧ i = .int .i64 j ∧ z = x ∧ Hid (Comping (compA (a.take j) c) w x wr acc) ∧ Hid (∀ y ∈ a.take j, (y.tm.app c).right = true)) (fun _ i _ => a.length - (intOf i).toNat)
      case atStart => exact ⟨0, [], _, Nat.zero_le _, rfl, rfl, HK, Lib.hid (fun y hy => by simp at hy)⟩
      case round =>
        clear HK
        obtain ⟨j, acc, z, hj, rfl, rfl, HK, HAll⟩ := hrel
        by_cases hlt : j < a.length
        · have hK := HK.out
          obtain ⟨b0, o, rfl, ⟨c0, c1, c2, c3, c4⟩, hf, hx⟩ := (HA.out.below hK.below).get hlt
          have HXm := Lib.hid (bgetD_mem hlt)
          have hnx := GA.out.nodes _ (bgetD_mem hlt)
          have HT := Lib.hid (compA_next hlt c)
          have hal : acc.length ≤ 1000000 := by rw [hK.len]; have := compA_len (a.take j) c; simp at this; omega
          have HTk := Lib.hid (btake_next hlt)
          generalize a.getD j default = x at *
          have QX := Lib.hid (fun W (h : Below wr.heap.size wr W) => apply_s_at c GC.out C q x.tm W ((HC.out.below hK.below).below h) (hx.below h) hnx)
          have HX := Lib.hid hf
          obtain ⟨t, ht⟩ : ∃ t, t = x.tm.app c := ⟨_, rfl⟩
          rw [← ht] at QX
          have HTT := Lib.hid ht
          have hkA : keepA c x = if isV t x.var then none else some ⟨x.var, t⟩ := by unfold keepA; rw [← ht]
          have HKA := Lib.hid hkA
          clear hx hnx hK ht hkA
          obtain ⟨v, xt⟩ := x
          simp only at HX HKA HTT
          obtain ⟨k', n', s', A', c', a'⟩ := xt
          simp only [Tm.kind, Tm.num, Tm.name, Tm.at_, Tm.args, Tm.cap] at c0 c1 c2 c3 c4
          go_wp2_with fail
          refine (QX.out _ (below1 _ _)).mono ?_
          rintro e w3 ⟨u, rfl, hu, hlie, hb3⟩
          have hw : Below wr.heap.size wr w3 := (below1 wr _).trans (hb3.mono (by simp))
          obtain ⟨d0, d1, d2, d3, d4, _⟩ := box5 hb3
          have HK3 := Lib.hid (HK.out.keep hw)
          have HU := Lib.hid hu
          have hri : u.right = t.right := right_same hu
          have hiv : isV u v = isV t v := isV_same hu v
          have HLie := Lib.hid (lie_apart HK.out.row.1 hlie (by have := HK.out.below.size; simp; omega) (by simp))
          have QR := Lib.hid (fun W (h : Below w3.heap.size w3 W) => right_tm_at u W ((hlie.at trivial).below h) hri)
          obtain ⟨r, hr⟩ : ∃ r, t.right = r := ⟨_, rfl⟩
          have HRt := Lib.hid hr
          rw [hr] at QR
          clear hr
          have HIV := Lib.hid hiv
          clear hu hlie hb3 hri hiv hw QX c0 c1 c2 c3 c4
          obtain ⟨uk, un, us, uA, uc, ua⟩ := u
          have d0' : ∀ ob, (w3.alloc ob).cell? _ = _ := fun ob => keepv (below1 w3 ob) d0
          go_wp2_with fail
          refine (QR.out _ (below1 _ _)).mono ?_
          rintro e w4 ⟨rfl, hb4⟩
          obtain ⟨e0, e1, e2, e3, hb5⟩ := box4 hb4
          simp only [Tm.kind, Tm.num, Tm.name, Tm.at_, Tm.args, Tm.cap] at e0 e1 e2 e3 ⊢
          have x0 := keepv hb5 d0
          have HK4 := Lib.hid (HK3.out.keep hb5)
          have HL4 := Lib.hid (HLie.out.below hb5)
          clear hb4 hb5 QR d0 d1 d2 d3 d4 d0'
          cases r
          · have HE := Lib.hid (show comp a c = ([], 6) by
              have hall : (a.all fun x => (x.tm.app c).right) = false := by
                rw [List.all_eq_false]
                exact ⟨_, HXm.out, by rw [← HTT.out, HRt.out]; simp⟩
              have := comp_allRight RA.out RC.out
              unfold comp
              rw [RA.out, RC.out, this, hall]
              rfl)
            go_wp2_with fail
            go_ret2
            exact ⟨none, 0, [], by rw [HE.out]; rfl, by rw [HE.out], BLst.nil _, HK4.out.below⟩
          · have HAl := Lib.hid (show ∀ y ∈ a.take (j + 1), (y.tm.app c).right = true from fun y hy => by
              rw [HTk.out] at hy
              rcases List.mem_append.1 hy with hy | hy
              · exact HAll.out y hy
              · obtain rfl := List.mem_singleton.1 hy
                rw [← HTT.out, HRt.out])
            have HS := Lib.hid (fun (h : isV (Tm.mk uk un us uA uc ua) v = true) => show stripB acc = stripB (compA (a.take (j + 1)) c) by
              rw [HT.out, HKA.out, ← HIV.out, if_pos h]
              simpa using HK.out.same)
            have HS2 := Lib.hid (fun (h : isV (Tm.mk uk un us uA uc ua) v = false) => show stripB (acc ++ [⟨v, .mk uk un us uA uc ua⟩]) = stripB (compA (a.take (j + 1)) c) by
              rw [HT.out, HKA.out, ← HIV.out, if_neg (by rw [h]; simp), stripB_append, stripB_append, HK.out.same]
              simp only [Option.toList_some, stripB, List.map_cons, List.map_nil, Bd.strip, HU.out])
            have HOwn := Lib.hid (own_lt HK4.out.row.1)
            have hlo : w.heap.size ≤ w4.heap.size := HK4.out.below.size
            clear HT HKA HIV HU HTk HXm HTT HRt HAll
            by_cases h1 : uk = 1
            · subst h1
              have n1 : ((1 : Int) != 1) = false := rfl
              by_cases h2 : un = v
              · subst h2
                have n2 : (un != un) = false := by simp
                have HE := Lib.hid (HS.out (by simp [isV, Tm.kind, Tm.num]))
                go_wp2_with fail
                go_roundw
                case rel => exact ⟨j + 1, acc, _, by omega, by go_num, rfl, Lib.hid (Comping.mk HK4.out.row HE.out HK4.out.below), HAl⟩
                case measure => simp [intOf]; omega
              · have n2 : (un != v) = true := by simpa using h2
                have HE := Lib.hid (HS2.out (by simp [isV, Tm.kind, Tm.num, h2]))
                clear h2
                go_wp2_with (at_builtin; refine wpList_append_lies _ rfl _ _ 23 rfl w.heap.size 53 i0 _ 5 64 Tryz.underlying23 hi hz0 hz1 hz2 rfl (by decide) _ acc.length (bcells acc) rfl (HK4.out.row.1.alloc _) ⟨w4.heap.size, 0, none⟩ 1 1 (Bd.cells ⟨v, .mk 1 un us uA uc ua⟩) rfl rfl (bnews1 w4 ⟨v, .mk 1 un us uA uc ua⟩) (bcells_one _) (by decide) (by unfold maxLen; omega) (by omega) (by simp; omega) _ rfl ?_; intro g cap w5 hown hg hat hglt)
                have HR5 := Lib.hid (HK4.out.row.next (u := ⟨v, .mk 1 un us uA uc ua⟩) HX.out HL4.out (below1 w4 _) hown hg hat)
                have HB5 := Lib.hid ((HK4.out.below.alloc HK4.out.below.size _).grown hg (by simp; omega) (fun k hk => (HOwn.out k hk).1))
                clear hown hg hat hglt
                go_wp2_with fail
                go_roundw
                case rel => exact ⟨j + 1, _, _, by omega, by go_num, rfl, Lib.hid (Comping.mk HR5.out HE.out HB5.out), HAl⟩
                case measure => simp [intOf]; omega
            · have n1 : (uk != 1) = true := by simpa using h1
              have HE := Lib.hid (HS2.out (by simp [isV, Tm.kind, Tm.num, h1]))
              clear h1
              go_wp2_with (at_builtin; refine wpList_append_lies _ rfl _ _ 23 rfl w.heap.size 53 i0 _ 5 64 Tryz.underlying23 hi hz0 hz1 hz2 rfl (by decide) _ acc.length (bcells acc) rfl (HK4.out.row.1.alloc _) ⟨w4.heap.size, 0, none⟩ 1 1 (Bd.cells ⟨v, .mk uk un us uA uc ua⟩) rfl rfl (bnews1 w4 ⟨v, .mk uk un us uA uc ua⟩) (bcells_one _) (by decide) (by unfold maxLen; omega) (by omega) (by simp; omega) _ rfl ?_; intro g cap w5 hown hg hat hglt)
              have HR5 := Lib.hid (HK4.out.row.next (u := ⟨v, .mk uk un us uA uc ua⟩) HX.out HL4.out (below1 w4 _) hown hg hat)
              have HB5 := Lib.hid ((HK4.out.below.alloc HK4.out.below.size _).grown hg (by simp; omega) (fun k hk => (HOwn.out k hk).1))
              clear hown hg hat hglt
              go_wp2_with fail
              go_roundw
              case rel => exact ⟨j + 1, _, _, by omega, by go_num, rfl, Lib.hid (Comping.mk HR5.out HE.out HB5.out), HAl⟩
              case measure => simp [intOf]; omega
        · obtain rfl : j = a.length := by omega
          have HK0 := HK.out
          rw [List.take_length] at HK0
          have HAr := Lib.hid (show allRight (sortB (compL a c)) = true by
            rw [comp_allRight RA.out RC.out, List.all_eq_true]
            have := HAll.out
            rw [List.take_length] at this
            exact this)
          have HK2 := Lib.hid (show Comping (compA a c ++ compC a (c.take 0)) w _ wr acc from ⟨HK0.row, by rw [HK0.same]; simp [compC], HK0.below⟩)
          clear HK0 HK HAll hlt
          go_wp2_with fail
          go_loopw [6, 55] (fun z i wr => ∃ (j : Nat) (acc : List Bd) (x : Value), j ≤ c.length ∧ i = .int .i64 j ∧ z = x ∧ Hid (Comping (compA a c ++ compC a (c.take j)) w x wr acc)) (fun _ i _ => c.length - (intOf i).toNat)
          case atStart => exact ⟨0, _, _, Nat.zero_le _, rfl, rfl, HK2⟩
          case round =>
            clear HK2
            obtain ⟨j, acc, z, hj, rfl, rfl, HK⟩ := hrel
            by_cases hlt : j < c.length
            · have hK := HK.out
              obtain ⟨b0, o, rfl, ⟨c0, c1, c2, c3, c4⟩, hf, hx⟩ := (HC.out.below hK.below).get hlt
              have hnx := GC.out.nodes _ (bgetD_mem hlt)
              have HT := Lib.hid (compC_next a hlt)
              have hal : acc.length ≤ 1000000 := by rw [hK.len, List.length_append]; have := compA_len a c; have := compC_len a (c.take j); simp at this; omega
              generalize c.getD j default = x at *
              have QF := Lib.hid (fun W (h : Below wr.heap.size wr W) => find_at a A p x.var W ((HA.out.below hK.below).below h) GA.out.len GA.out.srt)
              have QX := Lib.hid (fun W (h : Below wr.heap.size wr W) => copy_bind_at x W (hx.below h) hnx)
              have HX := Lib.hid hf
              obtain ⟨lk, hlk⟩ : ∃ lk, look a x.var = lk := ⟨_, rfl⟩
              have HT2 : compC a (c.take (j + 1)) = compC a (c.take j) ++ (if lk.isNone then [x] else []) := by rw [HT.out, hlk]
              have HTT := Lib.hid HT2
              rw [hlk] at QF
              clear hx hnx hK hlk HT HT2 hf
              obtain ⟨t, ht⟩ : ∃ t, optT lk = t := ⟨_, rfl⟩
              rw [ht] at QF
              clear ht
              obtain ⟨v, xt⟩ := x
              simp only at HX QF
              obtain ⟨k', n', s', A', c', a'⟩ := xt
              simp only [Tm.kind, Tm.num, Tm.name, Tm.at_, Tm.args, Tm.cap] at c0 c1 c2 c3 c4
              obtain ⟨tk, tn, ts, tA, tc, ta⟩ := t
              cases lk with
              | some y =>
                have HE := Lib.hid (show stripB acc = stripB (compA a c ++ compC a (c.take (j + 1))) by rw [HTT.out, HK.out.same]; simp)
                simp only [Option.isSome_some] at QF
                go_wp2_with fail
                refine (QF.out _ (below1 _ _)).mono ?_
                rintro e w3 ⟨rfl, hb3⟩
                have hw : Below wr.heap.size wr w3 := (below1 wr _).trans (hb3.mono (by simp))
                have HK3 := Lib.hid (HK.out.keep (hw.trans ((below1 w3 (.cells #[.int .i64 tk, .int .i64 tn, .string ts, .slice tA ta.length tc] 29)).mono hw.size)))
                clear hb3 hw QF QX c0 c1 c2 c3 c4
                go_wp2_with fail
                go_roundw
                case rel => exact ⟨j + 1, acc, _, by omega, by go_num, rfl, Lib.hid (Comping.mk HK3.out.row HE.out HK3.out.below)⟩
                case measure => simp [intOf]; omega
              | none =>
                simp only [Option.isSome_none] at QF
                have HS2 := Lib.hid (fun (y : Bd) (hy : y.strip = (⟨v, .mk k' n' s' A' c' a'⟩ : Bd).strip) => show stripB (acc ++ [y]) = stripB (compA a c ++ compC a (c.take (j + 1))) by
                  rw [HTT.out, ← List.append_assoc, stripB_append, stripB_append, HK.out.same]
                  simp [stripB, hy])
                go_wp2_with fail
                refine (QF.out _ (below1 _ _)).mono ?_
                rintro e w3 ⟨rfl, hb3⟩
                have hw : Below wr.heap.size wr w3 := (below1 wr _).trans (hb3.mono (by simp))
                obtain ⟨d0, d1, d2, d3, d4, _⟩ := box5 hb3
                have HK3 := Lib.hid (HK.out.keep hw)
                have HBx := Lib.hid hw
                have d0' : ∀ ob, (w3.alloc ob).cell? _ = _ := fun ob => keepv (below1 w3 ob) d0
                have d1' : ∀ ob, (w3.alloc ob).cell? _ = _ := fun ob => keepv (below1 w3 ob) d1
                have d2' : ∀ ob, (w3.alloc ob).cell? _ = _ := fun ob => keepv (below1 w3 ob) d2
                have d3' : ∀ ob, (w3.alloc ob).cell? _ = _ := fun ob => keepv (below1 w3 ob) d3
                have d4' : ∀ ob, (w3.alloc ob).cell? _ = _ := fun ob => keepv (below1 w3 ob) d4
                clear hb3 hw QF c0 c1 c2 c3 c4
                go_wp2_with fail
                refine (QX.out _ (HBx.out.alloc HBx.out.size _)).mono ?_
                rintro e w4 ⟨y, rfl, hy, hlie, hb4⟩
                have hw4 : Below w3.heap.size w3 w4 := (below1 w3 _).trans (hb4.mono (by simp))
                have HK4 := Lib.hid (HK3.out.keep hw4)
                have HL4 := Lib.hid (lie_apart HK3.out.row.1 hlie (by have := HK3.out.below.size; simp; omega) (by simp))
                have HE := Lib.hid (HS2.out y hy)
                have hFy : Fits y.var := by have : y.var = v := congrArg Bd.var hy; rw [this]; exact HX.out
                have HOwn := Lib.hid (own_lt HK4.out.row.1)
                have hlo : w.heap.size ≤ w4.heap.size := HK4.out.below.size
                clear hy hlie hb4 hw4 QX d0 d1 d2 d3 d4 d0' d1' d2' d3' d4' HS2
                obtain ⟨yv, yk, yn, ys, yA, yc, ya⟩ := y
                go_wp2_with (at_builtin; refine wpList_append_lies _ rfl _ _ 23 rfl w.heap.size 53 i0 _ 5 64 Tryz.underlying23 hi hz0 hz1 hz2 rfl (by decide) _ acc.length (bcells acc) rfl (HK4.out.row.1.alloc _) ⟨w4.heap.size, 0, none⟩ 1 1 (Bd.cells ⟨yv, .mk yk yn ys yA yc ya⟩) rfl rfl (bnews1 w4 ⟨yv, .mk yk yn ys yA yc ya⟩) (bcells_one _) (by decide) (by unfold maxLen; omega) (by omega) (by simp; omega) _ rfl ?_; intro g cap w5 hown hg hat hglt)
                have HR5 := Lib.hid (HK4.out.row.next (u := ⟨yv, .mk yk yn ys yA yc ya⟩) hFy HL4.out (below1 w4 _) hown hg hat)
                have HB5 := Lib.hid ((HK4.out.below.alloc HK4.out.below.size _).grown hg (by simp; omega) (fun k hk => (HOwn.out k hk).1))
                clear hown hg hat hglt
                go_wp2_with fail
                go_roundw
                case rel => exact ⟨j + 1, _, _, by omega, by go_num, rfl, Lib.hid (Comping.mk HR5.out HE.out HB5.out)⟩
                case measure => simp [intOf]; omega
            · obtain rfl : j = c.length := by omega
              have hK := HK.out
              rw [List.take_length] at hK
              have hal : acc.length ≤ 1000000 := by rw [hK.len, List.length_append]; have := compA_len a c; have := compC_len a c; omega
              obtain ⟨A', cz, hz, hcz, hgz⟩ := hK.row.form
              have HKK := Lib.hid hK
              have HCE := Lib.hid (fun l' => comp_end (l' := l') RA.out RC.out HAr.out)
              clear HK hK hlt
              subst hz
              by_cases h0 : acc.length = 0
              · obtain rfl : acc = [] := List.length_eq_zero_iff.1 h0
                have HEe := Lib.hid (show stripB [] = stripB (sortB (compL a c)) from comp_sorted RA.out RC.out HKK.out.same (List.Perm.refl _) (fun i j _ hj => by simp at hj))
                have HBl := Lib.hid (HKK.out.row.blst trivial)
                have QR := Lib.hid (fun W (h : Below wr.heap.size wr W) => right_s_at [] A' cz W (HBl.out.below h) (by simp))
                have HP := Lib.hid (HCE.out [] HEe.out)
                simp only [List.length_nil] at QR HBl ⊢
                have hr : rightS [] = true := rightS_nil
                rw [hr] at QR
                clear h0 hr hgz
                go_wp2_with fail
                refine (sort_none _ _ _).mono ?_
                rintro e w3 ⟨rfl, rfl⟩
                go_wp2_with fail
                refine (QR.out _ (Below.refl _ _)).mono ?_
                rintro e w3 ⟨rfl, hb3⟩
                go_wp2_with fail
                go_ret2
                have hp := HP.out.1 rightS_nil
                exact ⟨A', cz, [], by rw [hp.1]; rfl, hp.2, HBl.out.below hb3, HKK.out.below.trans (hb3.mono HKK.out.below.size)⟩
              · obtain ⟨g, rfl, hg⟩ := hgz (by omega)
                have QS := Lib.hid (sort_at acc g cz wr HKK.out.row.row5 hal)
                clear h0 hgz
                go_wp2_with fail
                refine QS.out.mono ?_
                rintro e w3 ⟨rfl, l', hp, ho, h5, hk⟩
                have hlen := hp.length_eq
                have HBl := Lib.hid (sorted_blst HKK.out.row hp h5 hk)
                have HEe := Lib.hid (comp_sorted RA.out RC.out HKK.out.same hp ho)
                have HBw := Lib.hid (Keeps.below HKK.out.below hk hg)
                have QR := Lib.hid (fun W (h : Below w3.heap.size w3 W) => right_s_at l' (some ⟨g, 0, none⟩) cz W (HBl.out.below h) (by omega))
                rw [hlen] at QR
                have HP := Lib.hid (HCE.out l' HEe.out)
                have HLn := Lib.hid hlen
                obtain ⟨r, hr⟩ : ∃ r, rightS l' = r := ⟨_, rfl⟩
                rw [hr] at QR
                have HR := Lib.hid hr
                clear hp ho h5 hk hlen hr QS
                cases r
                · have hp := HP.out.2 HR.out
                  have HE := Lib.hid hp
                  clear hp
                  go_wp2_with fail
                  refine (QR.out _ (Below.refl _ _)).mono ?_
                  rintro e w4 ⟨rfl, hb4⟩
                  go_wp2_with fail
                  go_ret2
                  exact ⟨none, 0, [], by rw [HE.out]; rfl, by rw [HE.out], BLst.nil _, HBw.out.trans (hb4.mono HBw.out.size)⟩
                · have hp := HP.out.1 HR.out
                  have HE := Lib.hid hp
                  clear hp
                  go_wp2_with fail
                  refine (QR.out _ (Below.refl _ _)).mono ?_
                  rintro e w4 ⟨rfl, hb4⟩
                  go_wp2_with fail
                  go_ret2
                  exact ⟨_, cz, l', by rw [HE.out.1, HLn.out]; rfl, HE.out.2, HBl.out.below hb4, HBw.out.trans (hb4.mono HBw.out.size)⟩
end Go.Proofs.YtgialbcohkpogaaGreat
