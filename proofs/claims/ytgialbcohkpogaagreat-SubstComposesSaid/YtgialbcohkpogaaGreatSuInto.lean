/-
  Contract of into of the reference: a binding is put between others.
-/
import Derived.Test.YtgialbcohkpogaaGreatSuRefA
import Derived.Test.YtgialbcohkpogaaGreatSuRow
import Derived.Maps.AppendAt
import Derived.Deep.AppendSrc
namespace Go.Proofs.YtgialbcohkpogaaGreat
open Go.RowKit

theorem ins_at {x : Bd} : ∀ {l : List Bd} {k : Nat}, k ≤ l.length → (∀ i, i < k → (l.getD i default).var < x.var) → (k < l.length → ¬ (l.getD k default).var < x.var) → insB x l = l.take k ++ [x] ++ l.drop k := by
  intro l
  induction l with
  | nil =>
    intro k hk _ _
    obtain rfl : k = 0 := by simpa using hk
    rfl
  | cons y r ih =>
    intro k hk h1 h2
    cases k with
    | zero =>
      have := h2 (by simp)
      simp only [List.getD_cons_zero] at this
      simp only [insB, if_neg this, List.take_zero, List.drop_zero, List.nil_append, List.singleton_append]
    | succ k =>
      have h0 := h1 0 (by omega)
      simp only [List.getD_cons_zero] at h0
      simp only [insB, if_pos h0, List.take_succ_cons, List.drop_succ_cons, List.cons_append]
      rw [ih (by simpa using hk) (fun i hi => by simpa using h1 (i + 1) (by omega)) (fun hk => by simpa using h2 (by simpa using hk))]

/-- append onto a row of the call's own, of whatever there is (nothing, too). -/
theorem wpList_append_b {ops : Array Oper} {rest : List Oper} {o : Oper} {a : Act} {Q : Exit → Act → World → Prop} {w : World} (hgd : o.guard = none) (s x : Operand)
    (ho : o.op = .call { callee := .builtin .append, args := #[s, x], argTypes := #[23, 23] })
    (base : Nat) (g n cap : Nat) (xs : List Value) (hs : a.eval s = .slice (some ⟨g, 0, none⟩) n cap) (hown : w.ownsRow base 53 5 (.slice (some ⟨g, 0, none⟩) n cap) n xs)
    (A : Option Addr) (m c : Nat) (news : List Value) (hx : a.eval x = .slice A m c) (hl : news.length = m * 5) (hA : A = none → m = 0) (hnews : ∀ ad, A = some ad → ∀ j u, news[j]? = some u → w.cell? (ad.add j) = some u) (h1 : ∀ u ∈ news, u.oneCell' = true)
    (hb : n + m ≤ 2000001) (hbase : base ≤ w.heap.size)
    (h : ∀ g' cap' w', w'.ownsRow base 53 5 (.slice (some ⟨g', 0, none⟩) (n + m) cap') (n + m) (xs ++ news) → w.grownBy w' (some g) → (some g = some g' ∨ g' = w.heap.size) → wpList Tryz.prog ops Q rest (a.put o.dst (.slice (some ⟨g', 0, none⟩) (n + m) cap')) w') :
    wpList Tryz.prog ops Q (o :: rest) a w := by
  obtain ⟨i0, hi, hz0, hz1, hz2⟩ := info_parts bind_info
  have ht : Tryz.prog.underlying 23 = some (.slice 53) := Tryz.underlying23
  refine wpList_plain hgd fun K hK => ?_
  have hrun : ∃ g' cap' w', (Builtin.append_ #[23, 23] o.type #[.slice (some ⟨g, 0, none⟩) n cap, .slice A m c]).run Tryz.prog w = .ok (.slice (some ⟨g', 0, none⟩) (n + m) cap') w' ∧
      w'.ownsRow base 53 5 (.slice (some ⟨g', 0, none⟩) (n + m) cap') (n + m) (xs ++ news) ∧ w.grownBy w' (some g) ∧ (some g = some g' ∨ g' = w.heap.size) := by
    cases A with
    | none =>
      obtain rfl : m = 0 := hA rfl
      obtain rfl : news = [] := List.length_eq_zero_iff.1 (by simpa using hl)
      have hcap : n + 0 ≤ cap := by
        rcases hown.2 with ⟨e, _⟩ | ⟨_, _, _, e, _, _, hle, _⟩
        · injection e with e; cases e
        · injection e with _ _ e3
          subst e3
          omega
      have hr := run_append_room_src (P := Tryz.prog) w 23 23 o.type 53 i0 ht hi g 0 n cap (.slice none 0 c) 0 [] (Src.ofNil w ht c) hcap (fun j hj => by simp at hj) (fun j hj => by simp at hj)
      refine ⟨g, cap, w, hr, ?_, ⟨rfl, rfl, rfl, Nat.le_refl _, fun _ _ _ => rfl⟩, .inl rfl⟩
      rw [List.append_nil]
      exact hown
    | some ad =>
      obtain ⟨v', w', hr, h2, h3, h4, h5⟩ := run_append_own_at (P := Tryz.prog) w base 23 o.type 53 i0 _ 5 64 ht hi hz0 hz1 hz2 rfl (by decide) _ n xs hown ad m c news hl (hnews ad rfl) h1 (by unfold maxLen; omega) (by omega) hbase
      rcases h2.2 with ⟨e, _⟩ | ⟨g', cap', cur, e, _⟩
      · have := (h4.1 e).1
        injection this with this; cases this
      · subst e
        refine ⟨g', cap', w', hr, h2, h3, ?_⟩
        rcases h5 with h5 | h5
        · exact .inl h5.symm
        · exact .inr (by simpa [Value.ownBlock] using h5)
  obtain ⟨g', cap', w', hr, h2, h3, h4⟩ := hrun
  unfold Oper.wp execOp
  simp only [ho, resolve, invoke, builtin, Sem.run_bind, Sem.run_pure, Result.andThen_ok, List.map_toArray, List.map_cons, List.map_nil, hs, hx, hr]
  exact hK _ _ (h g' cap' w' h2 h3 h4)
theorem RowB.of_own {B : World → Prop} {lo g n cap : Nat} {w w' : World} {xs : List Value} {l : List Bd} (hown : w'.ownsRow lo 53 5 (.slice (some ⟨g, 0, none⟩) n cap) n xs) (hx : xs = bcells l) (hn : n = l.length) (he : ∀ x ∈ l, Fits x.var ∧ Lie B lo No w x.tm) (hb : Below w.heap.size w w') (hg : w.heap.size ≤ g) : RowB B lo w' (.slice (some ⟨g, 0, none⟩) n cap) l := by
  subst hx hn
  refine ⟨hown, fun x hx => ⟨(he x hx).1, ((he x hx).2.out (X := fun k => (Value.slice (some ⟨g, 0, none⟩) l.length cap).ownBlock = some k) fun b _ h2 h3 => ?_).below hb⟩⟩
  have : g = b := by simpa [Value.ownBlock] using h3
  omega
/-- The cells of a part of a list. -/
theorem BLst.part {w : World} {b o c : Nat} {l : List Bd} (h : BLst w (some ⟨b, o, none⟩) l c) (k m : Nat) (hkm : k + m ≤ l.length) : ∀ j u, (bcells ((l.drop k).take m))[j]? = some u → w.cell? ⟨b, o + k * 5 + j, none⟩ = some u := by
  intro j u hu
  have hlen : ((l.drop k).take m).length = m := by simp; omega
  have hj : j < m * 5 := by
    have := (List.getElem?_eq_some_iff.1 hu).1
    rwa [bcells_len, hlen] at this
  have h5 : j = (j / 5) * 5 + j % 5 := by omega
  have hi : j / 5 < m := by omega
  have hu' : (bcells ((l.drop k).take m))[j / 5 * 5 + j % 5]? = some u := by rw [← h5]; exact hu
  rw [bcells_get _ (by omega) (by omega)] at hu'
  have e : ((l.drop k).take m).getD (j / 5) default = l.getD (k + j / 5) default := by
    simp [List.getD, hi, List.getElem?_drop]
  rw [e] at hu'
  obtain ⟨b', o', e', hr⟩ := h.2.2 (by omega)
  injection e' with e'
  injection e' with e1 e2 _
  subst e1 e2
  have hc := (hr (k + j / 5) (by omega)).1 (j % 5) u hu'
  have e3 : o + k * 5 + j = o + (k + j / 5) * 5 + j % 5 := by omega
  rw [e3]
  exact hc

/-- What into hands out. -/
def IntoR (w0 : World) (l : List Bd) (u : Bd) (w : World) (e : Ending) (w' : World) : Prop :=
  ∃ A' c', e = .returned (.slice A' (l.length + 1) c') ∧ RowB (From w0) w0.heap.size w' (.slice A' (l.length + 1) c') (insB u l) ∧ Below w.heap.size w w'
theorem insB_len (u : Bd) (l : List Bd) : (insB u l).length = l.length + 1 := by simpa using (insB_perm u l).length_eq
theorem bcells_ones (l : List Bd) : ∀ v ∈ bcells l, v.oneCell' = true := by
  intro v hv
  obtain ⟨x, _, hx⟩ := List.mem_flatMap.1 hv
  exact bcells_one x v hx
theorem BLst.take_cells {w : World} {b o c : Nat} {l : List Bd} (h : BLst w (some ⟨b, o, none⟩) l c) {k : Nat} (hk : k ≤ l.length) : ∀ ad, (some ⟨b, o, none⟩ : Option Addr) = some ad → ∀ j u, (bcells (l.take k))[j]? = some u → w.cell? (ad.add j) = some u := by
  intro ad e j u hu
  injection e with e
  subst e
  have := h.part 0 k (by omega) j u (by simpa using hu)
  rw [add_plain]
  simpa using this
theorem BLst.drop_cells {w : World} {b o c : Nat} {l : List Bd} (h : BLst w (some ⟨b, o, none⟩) l c) {k : Nat} (hk : k ≤ l.length) : ∀ ad, (some ⟨b, o + k * 5, none⟩ : Option Addr) = some ad → ∀ j u, (bcells (l.drop k))[j]? = some u → w.cell? (ad.add j) = some u := by
  intro ad e j u hu
  injection e with e
  subst e
  have := h.part k (l.length - k) (by omega) j u (by rw [List.take_of_length_le (by simp)]; exact hu)
  rw [add_plain]
  exact this

/-- The states behind the three appends. -/
theorem into_one {w wr : World} {cs : Array Value} {T : TypeId} {nq b k g1 cap1 : Nat} {w1 : World} {xs : List Value} (HWD : Below (w.alloc (.cells cs T)).heap.size (w.alloc (.cells cs T)) (wr.drewN nq)) (hsw : w.heap.size + 1 ≤ wr.heap.size)
    (hown1 : w1.ownsRow b 53 5 (.slice (some ⟨g1, 0, none⟩) (0 + k) cap1) (0 + k) ([] ++ xs)) (hg1 : ((wr.drewN nq).alloc (.cells #[] 53)).grownBy w1 (some wr.heap.size)) (hat1 : some wr.heap.size = some g1 ∨ g1 = ((wr.drewN nq).alloc (.cells #[] 53)).heap.size) :
    w.heap.size + 1 ≤ w1.heap.size ∧ w.heap.size + 1 ≤ g1 ∧ Hid (w1.ownsRow b 53 5 (.slice (some ⟨g1, 0, none⟩) k cap1) k xs) ∧ Hid (Below (w.alloc (.cells cs T)).heap.size (w.alloc (.cells cs T)) w1) := by
  rw [Nat.zero_add, List.nil_append] at hown1
  have hb := (HWD.alloc HWD.size _).grown hg1 (by simp; omega) (fun k hk => by injection hk with hk; simp; omega)
  refine ⟨by have := hb.size; simpa using this, ?_, Lib.hid hown1, Lib.hid hb⟩
  rcases hat1 with h | h
  · injection h with h; omega
  · rw [h]; simp; omega
theorem into_two {w w1 w2 : World} {b n g1 g2 cap2 : Nat} {o : Obj} {xs : List Value} (hb : Below w.heap.size w w1) (hg1' : w.heap.size + 1 ≤ g1) (hown2 : w2.ownsRow b 53 5 (.slice (some ⟨g2, 0, none⟩) n cap2) n xs) (hg2 : (w1.alloc o).grownBy w2 (some g1)) (hat2 : some g1 = some g2 ∨ g2 = (w1.alloc o).heap.size) :
    w.heap.size ≤ w2.heap.size ∧ w.heap.size + 1 ≤ g2 ∧ Hid (w2.ownsRow b 53 5 (.slice (some ⟨g2, 0, none⟩) n cap2) n xs) ∧ Hid (Below w.heap.size w w2) := by
  have hs := hb.size
  have hb2 := (hb.alloc hb.size o).grown hg2 (by simp; omega) (fun k hk => by injection hk with hk; omega)
  refine ⟨hb2.size, ?_, Lib.hid hown2, Lib.hid hb2⟩
  rcases hat2 with h | h
  · injection h with h; omega
  · rw [h]; simp; omega
theorem into_three {w w2 w3 : World} {B : World → Prop} {lo n m g2 g3 cap3 : Nat} {xs : List Value} {l : List Bd} (hb : Below w.heap.size w w2) (hs2 : w.heap.size ≤ w2.heap.size) (hg2' : w.heap.size + 1 ≤ g2) (hnm : n = m) (hown3 : w3.ownsRow lo 53 5 (.slice (some ⟨g3, 0, none⟩) n cap3) n xs) (hg3 : w2.grownBy w3 (some g2)) (hat3 : some g2 = some g3 ∨ g3 = w2.heap.size)
    (hl : l.length = m) (he : ∀ x ∈ l, Fits x.var ∧ Lie B lo No w x.tm) (hx : xs = bcells l) : Hid (RowB B lo w3 (.slice (some ⟨g3, 0, none⟩) m cap3) l) ∧ Hid (Below w.heap.size w w3) := by
  subst hnm
  have hb3 := hb.grown hg3 hs2 (fun k hk => by injection hk with hk; omega)
  refine ⟨Lib.hid (RowB.of_own hown3 hx hl.symm he hb3 ?_), Lib.hid hb3⟩
  rcases hat3 with h | h
  · injection h with h; omega
  · rw [h]; exact hs2

set_option maxHeartbeats 8000000 in
set_option maxRecDepth 100000 in
theorem into_at (w0 : World) (l : List Bd) (A : Option Addr) (c : Nat) (u : Bd) (w : World) (hw : From w0 w) (hl : BLst w A l c) (hlx : ∀ x ∈ l, Fits x.var ∧ Lie (From w0) w0.heap.size No w x.tm) (hu : Fits u.var ∧ Lie (From w0) w0.heap.size No w u.tm) (hlen : l.length ≤ 1000000) :
    Calls Tryz.prog 52 #[.slice A l.length c, u.val] w (IntoR w0 l u w) := by
  have HL := Lib.hid hl
  have hc := hl.1
  have hc2 := hl.2.1
  have HX := Lib.hid (fun x (hx : x ∈ insB u l) => show Fits x.var ∧ Lie (From w0) w0.heap.size No w x.tm from by
    rcases List.mem_cons.1 ((insB_perm u l).mem_iff.1 hx) with rfl | hx
    · exact hu
    · exact hlx x hx)
  have HI := Lib.hid (fun (k : Nat) => @ins_at u l k)
  have HN := Lib.hid (insB_len u l)
  have hlo := hw.size
  unfold maxLen at hc2
  clear hl hlx hu hw
  obtain ⟨v, k', n', s', A2, c2, a2⟩ := u
  show Calls Tryz.prog 52 #[.slice A l.length c, .agg #[.int .i64 v, .int .i64 k', .int .i64 n', .string s', .slice A2 a2.length c2]] w _
  simp only at HI
  go_enter Tryz.func52, Tryz.ntmps52
  go_wp2_with fail
  go_loopw [5] (fun i wr => ∃ k : Nat, k ≤ l.length ∧ i = .int .i64 k ∧ Hid (∀ i, i < k → (l.getD i default).var < v) ∧ Hid (Below (w.alloc (boxB ⟨v, .mk k' n' s' A2 c2 a2⟩)).heap.size (w.alloc (boxB ⟨v, .mk k' n' s' A2 c2 a2⟩)) wr)) (fun i _ => l.length - (intOf i).toNat)
  case atStart => exact ⟨0, Nat.zero_le _, rfl, Lib.hid (fun i hi => by omega), Lib.hid (Below.refl _ _)⟩
  case round =>
    obtain ⟨k, hk, rfl, HF, HW⟩ := hrel
    obtain ⟨d0, d1, d2, d3, d4, hbw⟩ := box5 HW.out
    have hsw : w.heap.size + 1 ≤ wr.heap.size := by have := HW.out.size; simpa using this
    have hlo1 : w0.heap.size ≤ wr.heap.size := by omega
    by_cases hlt : k < l.length
    · obtain ⟨b0, o, rfl, ⟨e0, _⟩, _⟩ := (HL.out.below hbw).get hlt
      have HS := Lib.hid (fun h => HI.out k hk HF.out (fun _ => h))
      have HF2 := Lib.hid (fun (h : (l.getD k default).var < v) i (hi : i < k + 1) => show (l.getD i default).var < v from by
        rcases Nat.lt_succ_iff_lt_or_eq.1 hi with h1 | rfl
        · exact HF.out i h1
        · exact h)
      generalize (l.getD k default).var = t at *
      have jlt : decide ((k : Int) < (l.length : Int)) = true := decide_eq_true (by omega)
      by_cases hv : t < v
      · have hv' : decide (t < v) = true := decide_eq_true hv
        have HG := Lib.hid (HF2.out hv)
        clear hv HS HF2
        go_wp2_with fail
        go_quiet (fail)
        go_wp2_with fail
        go_roundw
        case rel => exact ⟨k + 1, by omega, by go_num, HG, Lib.hid (below_drewN HW.out _)⟩
        case measure => simp [intOf]; omega
      · have hv' : decide (t < v) = false := decide_eq_false hv
        have HS2 := Lib.hid (HS.out (by omega))
        have HWD := fun n => below_drewN HW.out n
        have hck : ¬ c = k := by omega
        clear hv HS HF2
        go_wp2_with fail
        go_quiet (fail)
        rename_i nq
        replace HWD := HWD nq
        have HBR := Lib.hid (fun n => show Below w.heap.size w ((wr.drewN n).alloc (.cells #[] 53)) from (below_drewN hbw n).alloc (Nat.le_trans hbw.size (Nat.le_refl _)) _)
        go_wp2_with (first | (at_builtin; refine wpList_append_b rfl _ _ rfl w0.heap.size _ 0 _ [] rfl (World.ownsRow_made _ #[] 0 hlo1 (by decide) rfl) _ k _ (bcells (l.take k)) rfl (by rw [bcells_len, List.length_take, Nat.min_eq_left (by omega)]) (fun e => by cases e) (fun ad e j u hu => (HL.out.below (HBR.out nq)).take_cells hk ad e j u hu) (bcells_ones _) (by omega) (by simp; omega) ?_; intro g1 cap1 w1 hown1 hg1 hat1; obtain ⟨hs1, hg1', HO1, HW1⟩ := into_one HWD hsw hown1 hg1 hat1; clear hown1 hg1 hat1 d0 d1 d2 d3 d4; obtain ⟨d0, d1, d2, d3, d4, hbw1⟩ := box5 HW1.out; simp only [Tm.kind, Tm.num, Tm.name, Tm.at_, Tm.args, Tm.cap] at d1 d2 d3 d4) | (at_builtin; refine wpList_append_b rfl _ _ rfl w0.heap.size _ _ _ _ rfl (HO1.out.alloc _) (some ⟨w1.heap.size, 0, none⟩) 1 _ (Bd.cells ⟨v, .mk k' n' s' A2 c2 a2⟩) rfl rfl (fun e => by cases e) (fun ad e j u hu => by injection e with e; subst e; exact bnews1 w1 ⟨v, .mk k' n' s' A2 c2 a2⟩ j u hu) (bcells_one _) (by omega) (by simp; omega) ?_; intro g2 cap2 w2 hown2 hg2 hat2; obtain ⟨hs2, hg2', HO2, HB2⟩ := into_two hbw1 hg1' hown2 hg2 hat2; clear hat2 hg2 hown2 hbw1 d0 d1 d2 d3 d4) | (at_builtin; refine wpList_append_b rfl _ _ rfl w0.heap.size _ _ _ _ rfl HO2.out _ (l.length - k) _ (bcells (l.drop k)) rfl (by rw [bcells_len]; simp) (fun e => by cases e) (fun ad e j u hu => (HL.out.below HB2.out).drop_cells hk ad e j u hu) (bcells_ones _) (by omega) (by omega) ?_; intro g3 cap3 w3 hown3 hg3 hat3; obtain ⟨HR, HB3⟩ := into_three HB2.out hs2 hg2' (by omega) hown3 hg3 hat3 HN.out HX.out (by rw [HS2.out]; simp [bcells]); clear hown3 hg3 hat3))
        go_ret
        exact ⟨some ⟨g3, 0, none⟩, cap3, by first | rfl | (rw [show k + 1 + (l.length - k) = l.length + 1 by omega]; rfl), HR.out, HB3.out⟩
    · obtain rfl : k = l.length := by omega
      have jlt : decide ((l.length : Int) < (l.length : Int)) = false := decide_eq_false (by omega)
      have HS2 := Lib.hid (HI.out _ hk HF.out (fun h => by omega))
      have HWD := fun n => below_drewN HW.out n
      clear hlt
      by_cases h0 : l.length = 0
      · obtain rfl : l = [] := List.length_eq_zero_iff.1 h0
        clear h0
        have hnil : ([] : List Bd).length = 0 := rfl
        go_wp2_with fail
        go_quiet (fail)
        rename_i nq
        replace HWD := HWD nq
        go_wp2_with (first | (at_builtin; refine wpList_append_b rfl _ _ rfl w0.heap.size _ 0 _ [] rfl (World.ownsRow_made _ #[] 0 hlo1 (by decide) rfl) _ 0 _ [] rfl rfl (fun e => rfl) (fun ad e j u hu => by cases hu) (fun _ h => by cases h) (by omega) (by simp; omega) ?_; intro g1 cap1 w1 hown1 hg1 hat1; obtain ⟨hs1, hg1', HO1, HW1⟩ := into_one HWD hsw hown1 hg1 hat1; clear hown1 hg1 hat1 d0 d1 d2 d3 d4; obtain ⟨d0, d1, d2, d3, d4, hbw1⟩ := box5 HW1.out; simp only [Tm.kind, Tm.num, Tm.name, Tm.at_, Tm.args, Tm.cap] at d1 d2 d3 d4) | (at_builtin; refine wpList_append_b rfl _ _ rfl w0.heap.size _ _ _ _ rfl (HO1.out.alloc _) (some ⟨w1.heap.size, 0, none⟩) 1 _ (Bd.cells ⟨v, .mk k' n' s' A2 c2 a2⟩) rfl rfl (fun e => by cases e) (fun ad e j u hu => by injection e with e; subst e; exact bnews1 w1 ⟨v, .mk k' n' s' A2 c2 a2⟩ j u hu) (bcells_one _) (by omega) (by simp; omega) ?_; intro g2 cap2 w2 hown2 hg2 hat2; obtain ⟨hs2, hg2', HO2, HB2⟩ := into_two hbw1 hg1' hown2 hg2 hat2; clear hat2 hg2 hown2 hbw1 d0 d1 d2 d3 d4) | (at_builtin; refine wpList_append_b rfl _ _ rfl w0.heap.size _ _ _ _ rfl HO2.out _ 0 _ [] rfl rfl (fun e => rfl) (fun ad e j u hu => by cases hu) (fun _ h => by cases h) (by omega) (by omega) ?_; intro g3 cap3 w3 hown3 hg3 hat3; obtain ⟨HR, HB3⟩ := into_three HB2.out hs2 hg2' (by omega) hown3 hg3 hat3 HN.out HX.out (by rw [HS2.out]; simp [bcells]); clear hown3 hg3 hat3))
        go_ret
        exact ⟨some ⟨g3, 0, none⟩, cap3, by first | rfl | (rw [show 0 + 1 + (l.length - 0) = l.length + 1 by omega]; rfl), HR.out, HB3.out⟩
      · obtain ⟨b0, o, rfl, _⟩ := HL.out.2.2 (by omega)
        go_wp2_with fail
        go_quiet (fail)
        rename_i nq
        replace HWD := HWD nq
        have HBR := Lib.hid (fun n => show Below w.heap.size w ((wr.drewN n).alloc (.cells #[] 53)) from (below_drewN hbw n).alloc (Nat.le_trans hbw.size (Nat.le_refl _)) _)
        go_wp2_with (first | (at_builtin; refine wpList_append_b rfl _ _ rfl w0.heap.size _ 0 _ [] rfl (World.ownsRow_made _ #[] 0 hlo1 (by decide) rfl) _ l.length _ (bcells (l.take l.length)) rfl (by rw [bcells_len, List.length_take, Nat.min_eq_left (by omega)]) (fun e => by cases e) (fun ad e j u hu => (HL.out.below (HBR.out nq)).take_cells (Nat.le_refl _) ad e j u hu) (bcells_ones _) (by omega) (by simp; omega) ?_; intro g1 cap1 w1 hown1 hg1 hat1; obtain ⟨hs1, hg1', HO1, HW1⟩ := into_one HWD hsw hown1 hg1 hat1; clear hown1 hg1 hat1 d0 d1 d2 d3 d4; obtain ⟨d0, d1, d2, d3, d4, hbw1⟩ := box5 HW1.out; simp only [Tm.kind, Tm.num, Tm.name, Tm.at_, Tm.args, Tm.cap] at d1 d2 d3 d4) | (at_builtin; refine wpList_append_b rfl _ _ rfl w0.heap.size _ _ _ _ rfl (HO1.out.alloc _) (some ⟨w1.heap.size, 0, none⟩) 1 _ (Bd.cells ⟨v, .mk k' n' s' A2 c2 a2⟩) rfl rfl (fun e => by cases e) (fun ad e j u hu => by injection e with e; subst e; exact bnews1 w1 ⟨v, .mk k' n' s' A2 c2 a2⟩ j u hu) (bcells_one _) (by omega) (by simp; omega) ?_; intro g2 cap2 w2 hown2 hg2 hat2; obtain ⟨hs2, hg2', HO2, HB2⟩ := into_two hbw1 hg1' hown2 hg2 hat2; clear hat2 hg2 hown2 hbw1 d0 d1 d2 d3 d4) | (at_builtin; refine wpList_append_b rfl _ _ rfl w0.heap.size _ _ _ _ rfl HO2.out _ _ _ (bcells (l.drop l.length)) rfl (by rw [bcells_len]; simp) (fun e => by omega) (fun ad e j u hu => by simp [bcells] at hu) (bcells_ones _) (by omega) (by omega) ?_; intro g3 cap3 w3 hown3 hg3 hat3; obtain ⟨HR, HB3⟩ := into_three HB2.out hs2 hg2' (by omega) hown3 hg3 hat3 HN.out HX.out (by rw [HS2.out]; simp [bcells]); clear hown3 hg3 hat3))
        all_goals go_ret
        all_goals exact ⟨some ⟨g3, 0, none⟩, cap3, by first | rfl | (rw [show l.length + 1 + (l.length - l.length) = l.length + 1 by omega]; rfl), HR.out, HB3.out⟩
end Go.Proofs.YtgialbcohkpogaaGreat
