/-
  AkApp.
  AkSearch.
  AkAll.
  AkHold.
  AkBase.
-/
import Derived.Test.YtgpglgehlnfggaaGreatMe18
import Derived.Test.YtgpglgehlnfggaaGreatMe19
import Derived.Test.YtgpglgehlnfggaaGreatMe9
import Derived.Deep.RegionHeld3
import Derived.BigRegion
import Derived.Test.YtgpglgehlnfggaaGreatMe16
import Derived.Test.YtgpglgehlnfggaaGreatMe17
import Derived.Test.YtgpglgehlnfggaaGreatMe7
import Derived.Test.YtgpglgehlnfggaaGreatMe11
import Derived.ShutString
namespace Go.Proofs.YtgpglgehlnfggaaGreat
open Go.RowKit
def Gl.appB (b : List Bd) (x : Gl) : Gl := { x with args := appL b x.args }
def argsL (l : List Gl) : List Tm := l.flatMap Gl.args
theorem argsL_next {l : List Gl} {j : Nat} (h : j < l.length) : argsL (l.take (j + 1)) = argsL (l.take j) ++ (l.getD j default).args := by
  rw [gl_take_next h]; simp [argsL]
theorem argsL_cons (x : Gl) (l : List Gl) : argsL (x :: l) = x.args ++ argsL l := rfl
theorem argsL_drop {l : List Gl} {j : Nat} (h : j < l.length) : argsL (l.drop j) = (l.getD j default).args ++ argsL (l.drop (j + 1)) := by
  have e : l.getD j default = l[j] := by simp [List.getD, List.getElem?_eq_getElem h]
  rw [List.drop_eq_getElem_cons h, argsL_cons, e]
theorem clone_any (l : List Gl) (A : Option Addr) (c : Nat) (w : World) (hl : GlLst w A l c) (hsz : l.length ≤ 1000000) :
    Calls Tryz.prog 73 #[.slice A l.length c] w (GlCloned w l) := by
  rcases Nat.eq_zero_or_pos l.length with h0 | h0
  · obtain rfl : l = [] := List.length_eq_zero_iff.1 h0
    exact clone_gl_none A c w
  · obtain ⟨b, o, rfl, hr⟩ := hl.2.2 h0
    exact clone_gl_at l b o c w h0 hr hsz
theorem appL_append (b : List Bd) (l m : List Tm) : appL b (l ++ m) = appL b l ++ appL b m := by simp [appL_map]
theorem argsL_mem {l : List Gl} {t : Tm} (h : t ∈ argsL l) : ∃ x ∈ l, t ∈ x.args := by simpa [argsL] using h
theorem argsL_nodes {l : List Gl} {j : Nat} : nodesL (argsL (l.take j)) ≤ nodesL (argsL l) := by
  have h : argsL l = argsL (l.take j) ++ argsL (l.drop j) := by
    unfold argsL
    rw [← List.flatMap_append, List.take_append_drop]
  rw [h, nodesL_append]
  exact Nat.le_add_right _ _
theorem strip_split {rest a m : List Tm} (h : stripL rest = stripL (a ++ m)) : a.length ≤ rest.length ∧ stripL (rest.take a.length) = stripL a ∧ stripL (rest.drop a.length) = stripL m := by
  have hl := congrArg List.length h
  rw [stripL_len, stripL_len, List.length_append] at hl
  rw [stripL_map, stripL_map, List.map_append] at h
  refine ⟨by omega, ?_, ?_⟩
  · rw [stripL_map, stripL_map, List.map_take, h, List.take_left' (by simp)]
  · rw [stripL_map, stripL_map, List.map_drop, h, List.drop_left' (by simp)]
theorem row_split {w : World} {a m : List Tm} {b o : Nat} (h : RowAt w (a ++ m) b o) : RowAt w a b o ∧ RowAt w m b (o + a.length * 4) := by
  induction a generalizing o with
  | nil => exact ⟨trivial, by simpa using h⟩
  | cons t r ih =>
    simp only [List.cons_append, RowAt] at h
    have h2 := ih h.2.2
    refine ⟨⟨h.1, h.2.1, h2.1⟩, ?_⟩
    have := h2.2
    rwa [show o + 4 + r.length * 4 = o + (t :: r).length * 4 by rw [List.length_cons]; omega] at this
theorem lst_take {w : World} {A : Option Addr} {l : List Tm} {c k : Nat} (h : Lst w A l c) (hk : k ≤ l.length) : Lst w A (l.take k) c := by
  refine ⟨by have := h.1; simp; omega, h.2.1, fun h0 => ?_⟩
  simp at h0
  obtain ⟨b, o, e, hr⟩ := h.2.2 (by omega)
  rw [← List.take_append_drop k l] at hr
  exact ⟨b, o, e, (row_split hr).1⟩
theorem lst_drop {w : World} {b o : Nat} {l : List Tm} {c k : Nat} (h : Lst w (some ⟨b, o, none⟩) l c) (hk : k ≤ l.length) : Lst w (some ⟨b, o + k * 4, none⟩) (l.drop k) (c - k) := by
  refine ⟨by have := h.1; simp; omega, by have := h.2.1; omega, fun h0 => ?_⟩
  simp at h0
  obtain ⟨b', o', e, hr⟩ := h.2.2 (by omega)
  injection e with e
  injection e with e1 e2 _
  subst e1 e2
  rw [← List.take_append_drop k l] at hr
  have := (row_split hr).2
  rw [show (l.take k).length = k by simp; omega] at this
  exact ⟨b, _, rfl, this⟩
theorem lst_end {w : World} {A : Option Addr} {l : List Tm} {c k : Nat} (h : Lst w A l c) (hk : k = c) : Lst w A (l.drop k) 0 := by
  have h1 := h.1
  have e : l.drop k = [] := List.drop_eq_nil_of_le (by omega)
  rw [e]
  exact ⟨Nat.le_refl _, Nat.zero_le _, fun h0 => absurd h0 (by simp)⟩
theorem wpList_append_zt {ops : Array Oper} {rest : List Oper} {o : Oper} {a : Act} {Q : Exit → Act → World → Prop} {w : World} (hgd : o.guard = none) (s x : Operand)
    (ho : o.op = .call { callee := .builtin .append, args := #[s, x], argTypes := #[22, 22] })
    (base : Nat) (z : Value) (n : Nat) (xs : List Value) (hs : a.eval s = z) (hown : w.ownsRow base 40 4 z n xs)
    (A : Option Addr) (m c : Nat) (news : List Value) (hx : a.eval x = .slice A m c) (hl : news.length = m * 4) (hA : A = none → m = 0) (hnews : ∀ ad, A = some ad → ∀ j u, news[j]? = some u → w.cell? (ad.add j) = some u) (h1 : ∀ u ∈ news, u.oneCell' = true)
    (hb : n + m ≤ 2000001) (hbase : base ≤ w.heap.size)
    (h : ∀ z' w', w'.ownsRow base 40 4 z' (n + m) (xs ++ news) → w.grownBy w' z.ownBlock → wpList Tryz.prog ops Q rest (a.put o.dst z') w') :
    wpList Tryz.prog ops Q (o :: rest) a w := by
  obtain ⟨i0, hi, hz0, hz1, hz2⟩ := info_parts term_info
  have ht : Tryz.prog.underlying 22 = some (.slice 40) := Tryz.underlying22
  refine wpList_plain hgd fun K hK => ?_
  have hrun : ∃ z' w', (Builtin.append_ #[22, 22] o.type #[z, .slice A m c]).run Tryz.prog w = .ok z' w' ∧
      w'.ownsRow base 40 4 z' (n + m) (xs ++ news) ∧ w.grownBy w' z.ownBlock := by
    cases A with
    | none =>
      obtain rfl : m = 0 := hA rfl
      obtain rfl : news = [] := List.length_eq_zero_iff.1 (by simpa using hl)
      have hown0 := hown
      rcases hown.2 with ⟨rfl, _⟩ | ⟨g, cap, cur, rfl, _, _, hle, _⟩
      · refine ⟨.slice none 0 0, w, ?_, ?_, ⟨rfl, rfl, rfl, Nat.le_refl _, fun _ _ _ => rfl⟩⟩
        · simp [Builtin.append_, run_underlying ht, sizeOf, typeInfo, hi, Builtin.lenOf, run_firstCells_none]
        · rw [List.append_nil]; exact hown0
      · have hr := run_append_room_src (P := Tryz.prog) w 22 22 o.type 40 i0 ht hi g 0 n cap (.slice none 0 c) 0 [] (Src.ofNil w ht c) (by omega) (fun j hj => by simp at hj) (fun j hj => by simp at hj)
        refine ⟨_, w, hr, ?_, ⟨rfl, rfl, rfl, Nat.le_refl _, fun _ _ _ => rfl⟩⟩
        rw [List.append_nil]; exact hown0
    | some ad =>
      obtain ⟨v', w', hr, h2, h3, _, _⟩ := run_append_own_at (P := Tryz.prog) w base 22 o.type 40 i0 _ 4 56 ht hi hz0 hz1 hz2 rfl (by decide) _ n xs hown ad m c news hl (hnews ad rfl) h1 (by unfold maxLen; omega) (by omega) hbase
      exact ⟨v', w', hr, h2, h3⟩
  obtain ⟨z', w', hr, h2, h3⟩ := hrun
  unfold Oper.wp execOp
  simp only [ho, resolve, invoke, builtin, Sem.run_bind, Sem.run_pure, Result.andThen_ok, List.map_toArray, List.map_cons, List.map_nil, hs, hx, hr]
  exact hK _ _ (h z' w' h2 h3)
theorem own_lst {w : World} {base : Nat} {z : Value} {l : List Tm} (h : w.ownsRow base 40 4 z l.length (tcells l)) (hat : ∀ x ∈ l, x.At w) : ∃ A c, z = .slice A l.length c ∧ Lst w A l c := by
  rcases h.2 with ⟨e, h0⟩ | ⟨g, cap, cur, rfl, hb, hg, hle, hcap, hcs, hcur⟩
  · obtain rfl : l = [] := List.length_eq_zero_iff.1 h0
    exact ⟨none, 0, e, Lst.nil w⟩
  · refine ⟨_, cap, rfl, hle, hcap, fun _ => ⟨g, 0, rfl, RowAt.of fun i hi => ⟨fun j u hu => ?_, hat _ (getD_mem hi)⟩⟩⟩
    have hj : j < 4 := by
      have := (List.getElem?_eq_some_iff.1 hu).1
      simpa [Tm.cells] using this
    rw [Nat.zero_add, World.ownsRow.cellAt h (4 * i + j) (by omega)]
    exact (tcells_get l hi hj).trans hu
theorem lst_src {w : World} {A : Option Addr} {l : List Tm} {c : Nat} (h : Lst w A l c) : (A = none → l.length = 0) ∧ ∀ ad, A = some ad → ∀ j u, (tcells l)[j]? = some u → w.cell? (ad.add j) = some u := by
  constructor
  · rintro rfl
    rcases Nat.eq_zero_or_pos l.length with h0 | h0
    · exact h0
    · obtain ⟨_, _, e, _⟩ := h.2.2 h0; cases e
  · rintro ad rfl j u hu
    have h0 : 0 < l.length := by
      have h1 := (List.getElem?_eq_some_iff.1 hu).1
      rw [tcells_length] at h1
      omega
    obtain ⟨b, o, e, hr⟩ := h.2.2 h0
    injection e with e
    subst e
    exact hr.cells j u hu
theorem field_args (v : Value) (W : World) : Sem.run Tryz.prog (Instr.field 24 (.agg #[.int .i64 0, .string ⟨#[]⟩, v]) 2) W = .ok v W := by kernel_rfl
def Applied (b : List Bd) (l : List Gl) (w : World) (e : Ending) (w' : World) : Prop :=
  ∃ A cap, ∃ cur : List Gl, e = .returned (.slice A l.length cap) ∧ cur.length = l.length ∧ cur.map Gl.key = (l.map (Gl.appB b)).map Gl.key ∧ l.length ≤ cap ∧ cap ≤ maxLen ∧
    ∃ lo, w.heap.size ≤ lo ∧ lo ≤ w'.heap.size ∧ GlDeep lo w' cur ∧ (0 < l.length → ∃ g, A = some ⟨g, 0, none⟩ ∧ lo ≤ g ∧ GlOwn w' g cur) ∧ Below w.heap.size w w'
def MixedG (b : List Bd) (l : List Gl) (w3 : World) (A4 : Option Addr) (j : Nat) (wr : World) : Prop :=
  ∃ news : List Gl, news.length = j ∧ news.map Gl.key = ((l.take j).map (Gl.appB b)).map Gl.key ∧ (∀ x ∈ news, ∀ W, Below w3.heap.size w3 W → x.At W) ∧ (0 < l.length → ∃ g, A4 = some ⟨g, 0, none⟩ ∧ w3.heap.size ≤ g ∧ GlOwn wr g (news ++ l.drop j))
theorem mixed_nextG {b : List Bd} {l : List Gl} {w3 wr wb : World} {g j : Nat} {u : Gl} (h : MixedG b l w3 (some ⟨g, 0, none⟩) j wr) (hj : j < l.length) (hb : Below wr.heap.size wr wb) (hu : u.key = ((l.getD j default).appB b).key) (hat : ∀ W, Below w3.heap.size w3 W → u.At W) :
    MixedG b l w3 (some ⟨g, 0, none⟩) (j + 1) (wb.setCell ⟨g, j * 3 + 2, none⟩ (.slice u.at_ u.args.length u.cap)) := by
  obtain ⟨news, h1, h2, h3, h4⟩ := h
  refine ⟨news ++ [u], by simp [h1], ?_, fun x hx => ?_, fun h0 => ?_⟩
  · rw [gl_take_next hj, List.map_append, List.map_append, List.map_append, h2]
    simp [hu]
  · rcases List.mem_append.1 hx with hx | hx
    · exact h3 x hx
    · rw [List.mem_singleton.1 hx]; exact hat
  · obtain ⟨g', e, hg, ho⟩ := h4 h0
    injection e with e
    injection e with e _ _
    subst e
    refine ⟨g, rfl, hg, ?_⟩
    have hk : (news ++ l.drop j).getD j default = l.getD j default := by
      simp [List.getD, List.getElem?_append_right (show news.length ≤ j by omega), h1]
    have hs := (ho.below hb).store (i := j) (by simp; omega) u (by
      rw [hk]
      have := congrArg Prod.fst hu
      exact this)
    have e2 : (news ++ l.drop j).set j u = (news ++ [u]) ++ l.drop (j + 1) := by
      rw [List.set_append_right _ _ (by omega), h1, Nat.sub_self, List.drop_eq_getElem_cons hj, List.set_cons_zero, List.append_assoc]
      rfl
    rwa [e2] at hs
theorem MixedG.drew {b : List Bd} {l : List Gl} {w3 wr : World} {A4 : Option Addr} {j : Nat} (h : MixedG b l w3 A4 j wr) : MixedG b l w3 A4 j wr.drew := by
  obtain ⟨news, h1, h2, h3, h4⟩ := h
  exact ⟨news, h1, h2, h3, fun h0 => (by
    obtain ⟨g, e, h5, h6⟩ := h4 h0
    exact ⟨g, e, h5, h6.drew⟩)⟩
theorem mixed_cellG {b : List Bd} {l : List Gl} {w3 wr : World} {A4 : Option Addr} {j : Nat} (h : MixedG b l w3 A4 j wr) (hj : j < l.length) : ∃ g, A4 = some ⟨g, 0, none⟩ ∧ w3.heap.size ≤ g ∧ g < wr.heap.size ∧ (∃ v, wr.cell? ⟨g, j * 3 + 2, none⟩ = some v) ∧ wr.frozen? ⟨g, j * 3 + 2, none⟩ = false := by
  obtain ⟨news, h1, h2, h3, h4⟩ := h
  obtain ⟨g, e, hg, ho⟩ := h4 (by omega)
  exact ⟨g, e, hg, ho.1, ⟨_, ho.2.2 j 2 _ (by simp; omega) (Gl.cells_sl _)⟩, ho.2.1 _⟩
theorem lst_rest {w : World} {A : Option Addr} {l : List Tm} {c k : Nat} (h : Lst w A l c) (hk : k ≤ l.length) : Lst w (if c = k then A else A.map (·.add (k * 4))) (l.drop k) (c - k) := by
  split
  · rename_i hc
    have := lst_end h hc.symm
    rw [show c - k = 0 by omega]
    exact this
  · cases A with
    | none =>
      have h0 : l = [] := by
        rcases Nat.eq_zero_or_pos l.length with h0 | h0
        · exact List.length_eq_zero_iff.1 h0
        · obtain ⟨_, _, e, _⟩ := h.2.2 h0; cases e
      subst h0
      simp at hk
      subst hk
      exact ⟨Nat.zero_le _, Nat.le_trans (Nat.sub_le _ _) h.2.1, fun h => absurd h (by simp)⟩
    | some a =>
      rcases Nat.eq_zero_or_pos l.length with h0 | h0
      · have h0 := List.length_eq_zero_iff.1 h0
        subst h0
        exact ⟨by simp, Nat.le_trans (Nat.sub_le _ _) h.2.1, fun h => absurd h (by simp)⟩
      · obtain ⟨b, o, e, _⟩ := h.2.2 h0
        injection e with e
        subst e
        show Lst w (some ((⟨b, o, none⟩ : Addr).add (k * 4))) _ _
        rw [add_plain]
        exact lst_drop h hk
set_option maxHeartbeats 8000000 in
set_option maxRecDepth 100000 in
theorem apply_all_g_at (b : List Bd) (B : Option Addr) (d : Nat) (l : List Gl) (A : Option Addr) (c : Nat) (w : World) (hb : BLst w B b d) (hbl : b.length ≤ 1000000) (hbn : ∀ x ∈ b, x.tm.nodes ≤ 1000000) (hl : GlLst w A l c) (hln : l.length ≤ 1000000) (hn : nodesL (argsL l) ≤ 1000000) :
    Calls Tryz.prog 41 #[.slice B b.length d, .slice A l.length c] w (Applied b l w) := by
  have HB := Lib.hid (fun W (h : Below w.heap.size w W) => in_order_any b B d W (hb.below h) hbl hbn)
  have HL := Lib.hid hl
  have HN := Lib.hid hn
  have HM := Lib.hid (fun (x : Gl) (hx : x ∈ l) W (h : Below w.heap.size w W) => (hl.below h).mem hx)
  clear hb hbl hbn hl hn
  go_enter Tryz.func41, Tryz.ntmps41
  go_wp2_with fail
  go_loopw [5, 14] (fun z i wr => ∃ (j : Nat) (x : Value), j ≤ l.length ∧ i = .int .i64 j ∧ z = x ∧ Hid (wr.ownsRow w.heap.size 40 4 x (argsL (l.take j)).length (tcells (argsL (l.take j)))) ∧ Hid (Below w.heap.size w wr)) (fun _ i _ => l.length - (intOf i).toNat)
  case atStart => exact ⟨0, _, Nat.zero_le _, rfl, rfl, Lib.hid ⟨rfl, .inl ⟨rfl, rfl⟩⟩, Lib.hid (Below.refl _ _)⟩
  case round =>
    obtain ⟨j, z, hj, rfl, hz, HK, HW⟩ := hrel
    have hz' := hz.symm
    subst hz'
    clear hz
    by_cases hlt : j < l.length
    · obtain ⟨b0, o, rfl, hcs, hat⟩ := (HL.out.below HW.out).get hlt
      have HT := Lib.hid (argsL_next hlt)
      have hnj := argsL_nodes (l := l) (j := j + 1)
      rw [HT.out, nodesL_append] at hnj
      have hl1 := length_le_nodes (argsL (l.take j))
      have hl2 := length_le_nodes (l.getD j default).args
      have HNJ := Lib.hid (show (argsL (l.take j)).length + (l.getD j default).args.length ≤ 2000001 by have := HN.out; omega)
      have HSA := Lib.hid (lst_src hat.2.2).1
      have HSB := Lib.hid (fun o => (lst_src ((hat.2.2).below (below1 wr o))).2)
      generalize l.getD j default = x at *
      have c0 := hcs 0 _ rfl
      have c1 := hcs 1 _ rfl
      have c2 := hcs 2 _ rfl
      simp only [Nat.add_zero] at c0
      clear hcs hat hnj hl1 hl2
      obtain ⟨o', s', A', c', a'⟩ := x
      simp only at c0 c1 c2
      generalize argsL (l.take j) = acc at *
      go_wp2_with (at_builtin; refine wpList_append_zt rfl _ _ rfl w.heap.size _ acc.length (tcells acc) rfl (HK.out.alloc _) A' a'.length c' (tcells a') rfl (tcells_length a') HSA.out (HSB.out _) (tcells_one a') HNJ.out (by have := HW.out.size; simp; omega) ?_; intro z' w2 hown hg)
      have HO := Lib.hid (show w2.ownsRow w.heap.size 40 4 z' (argsL (l.take (j + 1))).length (tcells (argsL (l.take (j + 1)))) by
        rw [HT.out, List.length_append, tcells_append]
        exact hown)
      have HG := Lib.hid (show (wr.alloc (.cells #[.int .i64 o', .string s', .slice A' a'.length c'] 24)).grownBy w2 z.ownBlock from hg)
      have HW2 := Lib.hid ((HW.out.alloc HW.out.size (.cells #[.int .i64 o', .string s', .slice A' a'.length c'] 24)).grown HG.out (by have := HW.out.size; simp; omega) (fun k hk => ((own_lt HK.out) k hk).1))
      clear hown hg
      go_roundw
      case rel => exact ⟨j + 1, _, by omega, by go_num, rfl, HO, HW2⟩
      case measure => simp [intOf]; omega
    · obtain rfl : j = l.length := by omega
      have HAT := Lib.hid (fun (x : Tm) (hx : x ∈ argsL l) W (h : Below w.heap.size w W) => (by
        obtain ⟨y, hy, hxy⟩ := argsL_mem hx
        exact ((HM.out y hy W h).2.2).mem hxy : x.At W))
      obtain ⟨Az, cz, hz, hzl⟩ := own_lst (l := argsL l) (by have := HK.out; rwa [List.take_length] at this) (fun x hx => HAT.out x hx wr HW.out)
      subst hz
      have HZ := Lib.hid hzl
      have QG := Lib.hid (show Calls Tryz.prog 72 #[.slice B b.length d, .agg #[.int .i64 0, .string ⟨#[]⟩, .slice Az (argsL l).length cz]] wr (MadeGl b ⟨0, ⟨#[]⟩, Az, cz, argsL l⟩ wr) from
        apply_goal_at b B d ⟨0, ⟨#[]⟩, Az, cz, argsL l⟩ wr ⟨(show Fits 0 by unfold Fits; omega), by unfold maxLen; simp [ByteArray.size], hzl⟩ HN.out (fun W h => HB.out W (HW.out.trans (h.mono HW.out.size))))
      clear hzl HK hlt
      generalize hacc : argsL l = acc at *
      have HACC := Lib.hid hacc
      clear hacc
      go_wp2_with fail
      refine (QG.out).mono ?_
      rintro e w3 ⟨u, rfl, _, hst, hat, hb3⟩
      have HST := Lib.hid hst
      have HU := Lib.hid hat.2.2
      have H3 := Lib.hid (HW.out.trans (hb3.mono HW.out.size))
      clear hst hat hb3 QG
      obtain ⟨uo, us, uA, uc, ua⟩ := u
      simp only [Gl.val]
      have hfa := field_args (.slice uA ua.length uc) w3
      have QC := Lib.hid (clone_any l A c w3 (HL.out.below H3.out) hln)
      go_wp2_with fail
      refine (QC.out).mono ?_
      rintro e w4 ⟨A4, p4, rfl, hp1, hp2, hg4, hb4⟩
      have HP := Lib.hid (show l.length ≤ p4 ∧ p4 ≤ maxLen from ⟨hp1, hp2⟩)
      have HG4 := Lib.hid hg4
      have H4 := Lib.hid hb4
      clear hp1 hp2 hg4 hb4 QC
      have HM4 := Lib.hid (show MixedG b l w3 A4 0 w4 from ⟨[], rfl, rfl, (fun x hx => by cases hx), (fun h0 => HG4.out h0)⟩)
      go_wp2_with fail
      go_loopw [5, 32] (fun z i wr => ∃ (j : Nat) (Aj : Option Addr) (cj : Nat) (rest : List Tm), j ≤ l.length ∧ i = .int .i64 j ∧ z = .slice Aj rest.length cj ∧ Hid (Lst w3 Aj rest cj ∧ stripL rest = stripL (appL b (argsL (l.drop j)))) ∧ Hid (MixedG b l w3 A4 j wr) ∧ Hid (Below w3.heap.size w3 wr)) (fun _ i _ => l.length - (intOf i).toNat)
      case atStart => exact ⟨0, uA, uc, ua, Nat.zero_le _, rfl, rfl, Lib.hid ⟨HU.out, by rw [List.drop_zero, HACC.out]; exact HST.out⟩, HM4, H4⟩
      case round =>
        clear HM4
        rename World => wx
        obtain ⟨j, Aj, cj, rest, hj, rfl, rfl, HR, HM5, HB5⟩ := hrel
        by_cases hlt : j < l.length
        · have HW5 := Lib.hid (H3.out.trans (HB5.out.mono H3.out.size))
          obtain ⟨b0, o, rfl, hcs, hat⟩ := (HL.out.below HW5.out).get hlt
          obtain ⟨g, rfl, hg, hgl, ⟨v9, hv9⟩, hf9⟩ := mixed_cellG HM5.out hlt
          have HSP := Lib.hid (show (l.getD j default).args.length ≤ rest.length ∧ stripL (rest.take (l.getD j default).args.length) = stripL (appL b (l.getD j default).args) ∧ stripL (rest.drop (l.getD j default).args.length) = stripL (appL b (argsL (l.drop (j + 1)))) from by
            have h := HR.out.2
            rw [argsL_drop hlt, appL_append] at h
            have h2 := strip_split h
            rw [appL_len] at h2
            exact h2)
          have HNX := Lib.hid (fun (u : Gl) wb (hb : Below wx.heap.size wx wb) (hu : u.key = ((l.getD j default).appB b).key) (hat : ∀ W, Below w3.heap.size w3 W → u.At W) => mixed_nextG HM5.out hlt hb hu hat)
          have hkl := HSP.out.1
          have hrc := HR.out.1.1
          have hcm := HR.out.1.2.1
          unfold maxLen at hcm
          have HAT5 := Lib.hid (show Fits (l.getD j default).op ∧ (l.getD j default).name.size ≤ maxLen from ⟨hat.1, hat.2.1⟩)
          generalize l.getD j default = x at *
          have c0 := hcs 0 _ rfl
          have c1 := hcs 1 _ rfl
          have c2 := hcs 2 _ rfl
          simp only [Nat.add_zero] at c0
          have s9 : ∀ ob, (wx.alloc ob).cell? ⟨g, j * 3 + 2, none⟩ = some v9 := fun ob => ((below1 wx ob).cell (p := ⟨g, j * 3 + 2, none⟩) hgl).trans hv9
          have f9 : ∀ ob, (wx.alloc ob).frozen? ⟨g, j * 3 + 2, none⟩ = false := fun ob => ((below1 wx ob).frozen (p := ⟨g, j * 3 + 2, none⟩) hgl).trans hf9
          clear hcs hat hv9 hf9 hgl
          obtain ⟨o', s', A', c', a'⟩ := x
          simp only at c0 c1 c2 hkl
          have hk0 : (a'.length : Int) ≤ (cj : Int) := by omega
          have hk1 : (a'.length : Int) ≤ (rest.length : Int) := by omega
          go_wp2_with fail
          go_region
          all_goals go_wp2_with fail
          have hlk : (rest.take a'.length).length = a'.length := by rw [List.length_take]; exact Nat.min_eq_left (by omega)
          have HM6 := Lib.hid (show MixedG b l w3 (some ⟨g, 0, none⟩) (j + 1) ((wx.alloc (.cells #[.int .i64 o', .string s', .slice A' a'.length c'] 24)).setCell ⟨g, j * 3 + 2, none⟩ (.slice Aj a'.length cj)).drew from by
            have h := (HNX.out ⟨o', s', Aj, cj, rest.take a'.length⟩ _ (below1 wx (.cells #[.int .i64 o', .string s', .slice A' a'.length c'] 24)) (by
              refine Prod.ext rfl ?_
              exact HSP.out.2.1) (fun W h => ⟨HAT5.out.1, HAT5.out.2, (lst_take HR.out.1 (by have := HSP.out.1; exact this)).below h⟩)).drew
            simp only [hlk] at h
            exact h)
          have HR6 := Lib.hid (show Lst w3 (if cj = a'.length then Aj else Option.map (fun x => x.add (a'.length * 4)) Aj) (rest.drop a'.length) (cj - a'.length) ∧ stripL (rest.drop a'.length) = stripL (appL b (argsL (l.drop (j + 1)))) from ⟨lst_rest HR.out.1 HSP.out.1, HSP.out.2.2⟩)
          have HB6 := Lib.hid (show Below w3.heap.size w3 ((wx.alloc (.cells #[.int .i64 o', .string s', .slice A' a'.length c'] 24)).setCell ⟨g, j * 3 + 2, none⟩ (.slice Aj a'.length cj)).drew from ((HB5.out.alloc HB5.out.size _).setCell (p := ⟨g, j * 3 + 2, none⟩) hg _).drew)
          clear hlk
          go_roundw
          case rel => exact ⟨j + 1, _, _, rest.drop a'.length, by omega, by go_num, by rw [List.length_drop], HR6, HM6, HB6⟩
          case measure => simp [intOf]; omega
        · obtain rfl : j = l.length := by omega
          obtain ⟨news, hn1, hn2, hn3, hn4⟩ := HM5.out
          rw [List.take_length] at hn2
          rw [List.drop_length, List.append_nil] at hn4
          have HF := Lib.hid (show Applied b l w (.returned (.slice A4 l.length p4)) wx from
            ⟨A4, p4, news, rfl, hn1, hn2, HP.out.1, HP.out.2, w3.heap.size, H3.out.size, HB5.out.size, fun x hx W h => hn3 x hx W (HB5.out.trans h), hn4, H3.out.trans (HB5.out.mono H3.out.size)⟩)
          clear hn1 hn2 hn3 hn4 hlt
          go_wp2_with fail
          go_ret
          exact HF.out
end Go.Proofs.YtgpglgehlnfggaaGreat
namespace Go.Proofs.YtgpglgehlnfggaaGreat
open Go.RowKit Go.Shelf Go.Lib
def EndedG (l : List Gl) (t : Gl) (w : World) (e : Ending) (w' : World) : Prop :=
  (∃ i : Nat, e = .returned (.tuple #[.int .i64 i, .bool (hasG l t)])) ∧ Below w.heap.size w w'
set_option maxHeartbeats 4000000 in
set_option maxRecDepth 100000 in
theorem search_g_at (l : List Gl) (A : Option Addr) (c n : Nat) (t : Gl) (w : World) (hn : n = l.length) (hl : GlLst w A l c) (ht : t.At w) (hlen : n ≤ 1000000) (hs : SrtG l) :
    Calls Tryz.prog 80 #[.slice A n c, t.val, CMPG] w (EndedG l t w) := by
  have HS := Lib.hid hs
  have HN := Lib.hid hn
  have HL := Lib.hid hl
  have QC := Lib.hid (fun (x : Gl) W (hx : x.At W) (h : RowKit.Below w.heap.size w W) => cmp_goals_at x t W hx (ht.below h))
  have HE := Lib.hid (fun i (h : BoundG l t i i) => hasG_end h hs)
  have HNx := Lib.hid (fun lo hi m (h : BoundG l t lo hi) (hm : m < l.length) (hc : cmpG (l.getD m default) t < 0) => h.left hs hm hc)
  have HNy := Lib.hid (fun lo hi m (h : BoundG l t lo hi) (hc : 0 ≤ cmpG (l.getD m default) t) => h.right (m := m) hs (by omega))
  have HB0 := Lib.hid (show BoundG l t 0 n from ⟨fun k hk => absurd hk (Nat.not_lt_zero _), fun k h1 h2 => by omega⟩)
  unfold EndedG
  generalize hasG l t = r at *
  obtain ⟨o', s', A', c', a'⟩ := t
  clear hl hs hn ht
  have eg : ∀ args W, (callFunc 43 args).run Tryz.prog W = .ok (.enter 43 args) W := enters_of Tryz.func43 (by kernel_rfl) rfl
  show Calls Tryz.prog 80 #[.slice A n c, .agg #[.int .i64 o', .string s', .slice A' a'.length c'], CMPG] w _
  have BX0 := Lib.hid (below1 w (.cells #[.int .i64 o', .string s', .slice A' a'.length c'] 24))
  have CB := Lib.hid (fun W (h : RowKit.Below (w.alloc (.cells #[.int .i64 o', .string s', .slice A' a'.length c'] 24)).heap.size (w.alloc (.cells #[.int .i64 o', .string s', .slice A' a'.length c'] 24)) W) => (⟨boxN h 0 _ rfl, boxN h 1 _ rfl, boxN h 2 _ rfl⟩ : (fun W => W.cell? ⟨w.heap.size, 0, none⟩ = some (.int .i64 o') ∧ W.cell? ⟨w.heap.size, 1, none⟩ = some (.string s') ∧ W.cell? ⟨w.heap.size, 2, none⟩ = some (.slice A' a'.length c')) W))
  go_enter Tryz.func80, Tryz.ntmps80
  go_wp2_with fail
  obtain ⟨X, hX⟩ : ∃ X, w.alloc (.cells #[.int .i64 o', .string s', .slice A' a'.length c'] 24) = X := ⟨_, rfl⟩
  rw [hX] at CB BX0 ⊢
  clear hX
  go_loopw [9, 10] (fun s9 s10 wr => ∃ lo hi : Nat, s9 = .int .i64 lo ∧ s10 = .int .i64 hi ∧ lo ≤ hi ∧ hi ≤ n ∧ Hid (BoundG l ⟨o', s', A', c', a'⟩ lo hi) ∧ Hid (RowKit.Below X.heap.size X wr)) (fun s9 s10 _ => (intOf s10).toNat - (intOf s9).toNat)
  case atStart => exact ⟨0, n, rfl, rfl, Nat.zero_le _, Nat.le_refl _, HB0, Lib.hid (RowKit.Below.refl _ _)⟩
  case round =>
    clear HB0
    obtain ⟨lo, hi, rfl, rfl, hlh, hin, HI, HB⟩ := hrel
    have HW := Lib.hid (BX0.out.trans (HB.out.mono BX0.out.size))
    obtain ⟨b0, b1, b2⟩ := CB.out _ HB.out
    by_cases hlt : lo < hi
    · obtain ⟨m, hm⟩ : ∃ m, m = (lo + hi) / 2 := ⟨_, rfl⟩
      have hm1 : ((lo : Int) + (hi : Int)) / 2 = (m : Int) := by omega
      have hmn : m < n := by omega
      have hml : m < l.length := by rw [← HN.out]; exact hmn
      have hm2 : lo ≤ m ∧ m < hi := by omega
      obtain ⟨b, o, rfl, hcs, hat⟩ := (HL.out.below HW.out).get (i := m) hml
      have HC := Lib.hid (fun (h : cmpG (l.getD m default) ⟨o', s', A', c', a'⟩ < 0) => HNx.out lo hi m HI.out hml h)
      have HD := Lib.hid (fun (h : 0 ≤ cmpG (l.getD m default) ⟨o', s', A', c', a'⟩) => HNy.out lo hi m HI.out h)
      have Q := Lib.hid (fun d os => QC.out (l.getD m default) (Go.Sort.grow (redrawn wr d) os) (hat.below (below_regrown wr d os)) (HW.out.trans ((below_regrown wr d os).mono HW.out.size)))
      generalize cmpG (l.getD m default) ⟨o', s', A', c', a'⟩ = z at *
      generalize l.getD m default = x at *
      have k0 := cell_regrown (hcs 0 _ rfl)
      have k1 := cell_regrown (hcs 1 _ rfl)
      have k2 := cell_regrown (hcs 2 _ rfl)
      simp only [Nat.add_zero] at k0
      have k3 := cell_regrown b0
      have k4 := cell_regrown b1
      have k5 := cell_regrown b2
      clear hcs hat b0 b1 b2 hml hm
      obtain ⟨xo, xs, xA, xc, xa⟩ := x
      simp only at k0 k1 k2
      go_wp2_with fail
      refine wp_region_quiet_below (by kernel_rfl) (by kernel_rfl) ?_
      repeat (go_big_quiet_step (first | (go_at_fn 43; exact Calls.regrown_of (Q.out _ _)) | fail))
      refine wpQuiet_nil ?_
      intro w1 hw'
      have HB1 := Lib.hid (HB.out.trans ((regrown_below hw').mono HB.out.size))
      clear hw' k0 k1 k2 k3 k4 k5
      by_cases hz : z < 0
      · have HI2 := Lib.hid (HC.out hz)
        go_wp2_with fail
        go_roundw
        case rel => exact ⟨m + 1, hi, by go_num, rfl, by omega, hin, HI2, HB1⟩
        case measure => simp [intOf]; omega
      · have HI2 := Lib.hid (HD.out (by omega))
        go_wp2_with fail
        go_roundw
        case rel => exact ⟨lo, m, rfl, rfl, by omega, by omega, HI2, HB1⟩
        case measure => simp [intOf]; omega
    · obtain rfl : hi = lo := by omega
      have HV := Lib.hid (HE.out hi HI.out)
      by_cases hn : hi < n
      · have hml : hi < l.length := by rw [← HN.out]; exact hn
        obtain ⟨b, o, rfl, hcs, hat⟩ := (HL.out.below HW.out).get (i := hi) hml
        have HV2 := Lib.hid (show r = (cmpG (l.getD hi default) ⟨o', s', A', c', a'⟩ == 0) by rw [HV.out, decide_eq_true hml]; rfl)
        have Q := Lib.hid (fun d os => QC.out (l.getD hi default) (Go.Sort.grow (redrawn wr d) os) (hat.below (below_regrown wr d os)) (HW.out.trans ((below_regrown wr d os).mono HW.out.size)))
        generalize cmpG (l.getD hi default) ⟨o', s', A', c', a'⟩ = z at *
        generalize l.getD hi default = x at *
        have k0 := cell_regrown (hcs 0 _ rfl)
        have k1 := cell_regrown (hcs 1 _ rfl)
        have k2 := cell_regrown (hcs 2 _ rfl)
        simp only [Nat.add_zero] at k0
        have k3 := cell_regrown b0
        have k4 := cell_regrown b1
        have k5 := cell_regrown b2
        clear hcs hat b0 b1 b2 hml
        obtain ⟨xo, xs, xA, xc, xa⟩ := x
        simp only at k0 k1 k2
        go_wp2_with fail
        refine wp_region_quiet_below (by kernel_rfl) (by kernel_rfl) ?_
        repeat (go_big_quiet_step (first | (go_at_fn 43; exact Calls.regrown_of (Q.out _ _)) | fail))
        refine wpQuiet_nil ?_
        intro w1 hw'
        have HB1 := Lib.hid (HB.out.trans ((regrown_below hw').mono HB.out.size))
        clear hw' k0 k1 k2 k3 k4 k5
        go_wp2_with fail
        go_ret2
        exact ⟨⟨hi, by rw [HV2.out]; try rfl⟩, BX0.out.trans (HB1.out.mono BX0.out.size)⟩
      · have HV2 := Lib.hid (show r = false by rw [HV.out, decide_eq_false (by rw [← HN.out]; exact hn)]; rfl)
        go_wp2_with fail
        go_region
        all_goals go_wp2_with fail
        go_ret2
        exact ⟨⟨hi, by rw [HV2.out]; try rfl⟩, HW.out.drew⟩
def assV (can : Tm → Tm → Bool) (l : List Gl) (t : Gl) : Int := if (isT t.op t.name t.args && hasG l t) = true then 1 else testV can t.op t.name t.args
set_option maxHeartbeats 4000000 in
theorem assuming_at {can : Tm → Tm → Bool} (hc : Cans can) (l : List Gl) (A : Option Addr) (c n : Nat) (t : Gl) (w : World) (hn : n = l.length) (hl : GlLst w A l c) (ht : t.At w) (hlen : n ≤ 1000000) (hs : SrtG l) :
    Calls Tryz.prog 44 #[.slice A n c, t.val] w fun e w' => e = .returned (.int .i64 (assV can l t)) ∧ RowKit.Below w.heap.size w w' := by
  have Q1 := Lib.hid (fun W (h : RowKit.Below w.heap.size w W) => is_test_at t W (ht.below h) rfl)
  have Q2 := Lib.hid (fun W (h : RowKit.Below w.heap.size w W) => search_g_at l A c n t W hn (hl.below h) (ht.below h) hlen hs)
  have Q3 := Lib.hid (fun W (h : RowKit.Below w.heap.size w W) => test_p_at hc t W (ht.below h))
  have HV := Lib.hid (show assV can l t = if (isT t.op t.name t.args && hasG l t) = true then 1 else testV can t.op t.name t.args from rfl)
  generalize assV can l t = v at *
  unfold EndedG at Q2
  generalize hasG l t = h1 at *
  obtain ⟨o', s', A', c', a'⟩ := t
  simp only at Q1 Q3 HV
  generalize isT o' s' a' = h2 at *
  generalize testV can o' s' a' = z at *
  clear hl ht hs hn
  show Calls Tryz.prog 44 #[.slice A n c, .agg #[.int .i64 o', .string s', .slice A' a'.length c']] w _
  have B0 := Lib.hid (show ∀ o, RowKit.Below w.heap.size w (w.alloc o) from fun o => (RowKit.Below.refl _ _).alloc (Nat.le_refl _) o)
  go_enter Tryz.func44, Tryz.ntmps44
  go_wp2_with fail
  refine (Q1.out _ (B0.out _)).mono ?_
  rintro e w1 ⟨rfl, hb1⟩
  have x0 := boxN hb1 0 _ rfl
  have x1 := boxN hb1 1 _ rfl
  have x2 := boxN hb1 2 _ rfl
  have H1 := Lib.hid ((B0.out _).trans (hb1.mono (by simp)))
  clear hb1
  cases h2
  · go_wp2_with fail
    refine (Q3.out _ H1.out).mono ?_
    rintro e w2 ⟨rfl, hb2⟩
    go_wp2_with fail
    go_ret
    exact ⟨by rw [HV.out]; try rfl, H1.out.trans (hb2.mono H1.out.size)⟩
  · go_wp2_with fail
    refine (Q2.out _ H1.out).mono ?_
    rintro e w2 ⟨⟨i, rfl⟩, hb2⟩
    have H2 := Lib.hid (H1.out.trans (hb2.mono H1.out.size))
    have y0 := keepv hb2 x0
    have y1 := keepv hb2 x1
    have y2 := keepv hb2 x2
    clear hb2 x0 x1 x2
    cases h1
    · go_wp2_with fail
      refine (Q3.out _ H2.out).mono ?_
      rintro e w3 ⟨rfl, hb3⟩
      go_wp2_with fail
      go_ret
      exact ⟨by rw [HV.out]; try rfl, H2.out.trans (hb3.mono H2.out.size)⟩
    · go_wp2_with fail
      go_ret
      exact ⟨by rw [HV.out]; try rfl, H2.out⟩
end Go.Proofs.YtgpglgehlnfggaaGreat
namespace Go.Proofs.YtgpglgehlnfggaaGreat
open Go.RowKit
theorem texts_eq11 : ∀ {a b : List UInt8}, texts a b = 0 → a = b := by
  intro a
  induction a with
  | nil =>
    intro b h
    cases b with
    | nil => rfl
    | cons y q => simp [texts, Op.bytesLess] at h
  | cons x r ih =>
    intro b h
    cases b with
    | nil => simp [texts, Op.bytesLess] at h
    | cons y q =>
      rw [texts_cons] at h
      obtain ⟨h1, h2⟩ := lexz_iff.1 h
      have := ints_zero.1 h1
      rw [ih h2, UInt8.toNat_inj.1 (show x.toNat = y.toNat by omega)]
theorem cmpG_sg (x y : Gl) : (cmpG x y == 0) = sgB x.op y.op x.name y.name x.args y.args := by
  rw [Bool.eq_iff_iff]
  simp only [sgB, cmpG, beq_iff_eq, Bool.and_eq_true, decide_eq_true_eq, lexz_iff, ints_zero]
  constructor
  · rintro ⟨h1, h2, h3⟩
    exact ⟨h1, by cases hn : x.name; cases hn2 : y.name; rw [hn, hn2] at h2; exact congrArg ByteArray.mk (Array.toList_inj.1 (texts_eq11 h2)), h3⟩
  · rintro ⟨h1, h2, h3⟩
    rw [h2]
    exact ⟨h1, texts_self _, h3⟩
theorem cmpG_key2 {y y' : Gl} (h : y.key = y'.key) (x : Gl) : cmpG x y = cmpG x y' := by
  rw [cmpG_flip y x, cmpG_flip y' x, cmpG_key h]
theorem cmpG_swap (x y : Gl) : (cmpG x y == 0) = (cmpG y x == 0) := by
  rw [cmpG_flip x y, Bool.eq_iff_iff]
  simp only [beq_iff_eq]
  omega
theorem key_parts {x y : Gl} (h : x.key = y.key) : x.op = y.op ∧ x.name = y.name ∧ stripL x.args = stripL y.args := by
  simp only [Gl.key, Gl.hd, Prod.mk.injEq, List.cons.injEq, Value.int.injEq, Value.string.injEq, true_and, and_true] at h
  exact ⟨h.1.1, h.1.2, h.2⟩
theorem ass_in {can : Tm → Tm → Bool} (hc : Cans can) {b : List Bd} {known cur l' : List Gl} {u g : Gl} (hp : l'.Perm cur) (hk : cur.map Gl.key = (known.map (Gl.appB b)).map Gl.key) (hu : u.key = (g.appB b).key) : assV can l' u = inV can b known g := by
  obtain ⟨h1, h2, h3⟩ := key_parts hu
  unfold assV inV
  have e : hasG l' u = known.any fun k => sgB g.op k.op g.name k.name (appL b g.args) (appL b k.args) := by
    rw [hasG_perm hp, hasG_keys hk]
    unfold hasG
    rw [List.any_map]
    refine congrArg (fun f => known.any f) (funext fun k => ?_)
    show (cmpG (k.appB b) u == 0) = _
    rw [cmpG_key2 hu, cmpG_swap, cmpG_sg]
    rfl
  have e1 : u.op = g.op := h1
  have e2 : u.name = g.name := h2
  have e3 : stripL u.args = stripL (appL b g.args) := h3
  rw [e, e1, e2, isT_like e3, testV_like hc e3]
theorem hold_vals (b : Bool) : holdV b = 1 ∨ holdV b = 2 := by cases b <;> simp [holdV]
theorem testV_vals (can : Tm → Tm → Bool) (op : Int) (s : ByteArray) (l : List Tm) : testV can op s l = 0 ∨ testV can op s l = 1 ∨ testV can op s l = 2 := by
  have hh : ∀ b : Bool, holdV b = 0 ∨ holdV b = 1 ∨ holdV b = 2 := fun b => .inr (hold_vals b)
  unfold testV
  split
  · split
    · split
      · unfold intV; split
        · exact .inl rfl
        · exact hh _
      · unfold gndV; split
        · exact .inr (.inl rfl)
        · exact .inl rfl
    · split
      · unfold sameV; split
        · exact hh _
        · split
          · exact .inl rfl
          · exact hh _
      · unfold valT; split
        · exact .inr (.inr rfl)
        · split
          · exact .inl rfl
          · split
            · exact .inr (.inr rfl)
            · exact hh _
    · exact .inr (.inr rfl)
  · exact hh _
theorem inV_vals (can : Tm → Tm → Bool) (b : List Bd) (known : List Gl) (g : Gl) : inV can b known g = 0 ∨ inV can b known g = 1 ∨ inV can b known g = 2 := by
  unfold inV
  split
  · exact .inr (.inl rfl)
  · exact testV_vals _ _ _ _
theorem fold_two (can : Tm → Tm → Bool) (b : List Bd) (known l : List Gl) : l.foldl (fun out g => allStep (inV can b known g) out) 2 = 2 := by
  induction l with
  | nil => rfl
  | cons g r ih =>
    rw [List.foldl_cons]
    have : allStep (inV can b known g) 2 = 2 := by
      unfold allStep
      split
      · omega
      · rfl
    rw [this, ih]
theorem allV_two {can : Tm → Tm → Bool} {b : List Bd} {known l : List Gl} {j : Nat} (hj : j < l.length) (h : inV can b known (l.getD j default) = 2) : allV can b known l = 2 := by
  have h1 := allV_next (can := can) (b := b) (known := known) hj
  have h2 : allStep 2 (allV can b known (l.take j)) = 2 := by unfold allStep; rw [if_pos (.inl rfl)]
  rw [h, h2] at h1
  have e : allV can b known l = (l.drop (j + 1)).foldl (fun out g => allStep (inV can b known g) out) (allV can b known (l.take (j + 1))) := by
    unfold allV
    rw [← List.foldl_append, List.take_append_drop]
  rw [e, h1, fold_two]
theorem allV_one (can : Tm → Tm → Bool) (b : List Bd) (known : List Gl) (g : Gl) : allV can b known [g] = inV can b known g := by
  show allStep (inV can b known g) 1 = _
  rcases inV_vals can b known g with h | h | h <;> rw [h] <;> rfl
theorem gl_lst_of {w : World} {g cap : Nat} {l : List Gl} (h : GlOwn w g l) (hat : ∀ x ∈ l, x.At w) (h1 : l.length ≤ cap) (h2 : cap ≤ maxLen) : GlLst w (some ⟨g, 0, none⟩) l cap :=
  ⟨h1, h2, fun _ => ⟨g, 0, rfl, fun i hi => ⟨fun j u hu => by rw [Nat.zero_add]; exact h.2.2 i j u hi hu, hat _ (gl_getD_mem hi)⟩⟩⟩
theorem gl_lst_nil {w : World} {A : Option Addr} {l : List Gl} {cap : Nat} (h0 : l.length = 0) (h2 : cap ≤ maxLen) : GlLst w A l cap := ⟨by omega, h2, fun h => absurd h (by omega)⟩
def Assumed (b : List Bd) (known : List Gl) (A : Option Addr) (cap : Nat) (w w' : World) : Prop :=
  ∃ l' : List Gl, l'.length = known.length ∧ (∃ cur : List Gl, l'.Perm cur ∧ cur.map Gl.key = (known.map (Gl.appB b)).map Gl.key) ∧ SrtG l' ∧ GlLst w' A l' cap ∧ Below w.heap.size w w'
theorem sort_applied {b : List Bd} {known : List Gl} {A : Option Addr} {cap : Nat} {w w1 : World} (h6 : known.length ≤ 6) (h : Applied b known w (.returned (.slice A known.length cap)) w1) :
    Calls Tryz.prog 42 #[.slice A known.length cap, CMPG] w1 fun e w' => e = .returned (.tuple #[]) ∧ Assumed b known A cap w w' := by
  obtain ⟨A', cap', cur, he, hl, hk, hc1, hc2, lo, h1, h2, hD, hO, hb⟩ := h
  injection he with he
  injection he with e1 _ e3
  subst e1 e3
  rcases Nat.eq_zero_or_pos known.length with h0 | h0
  · rw [h0]
    refine (sort_none_g A cap w1).mono ?_
    rintro e w2 ⟨rfl, rfl⟩
    refine ⟨rfl, cur, hl, ⟨cur, List.Perm.refl _, hk⟩, fun i j h3 h4 => by omega, gl_lst_nil (by omega) hc2, hb⟩
  · obtain ⟨g, rfl, hg, ho⟩ := hO h0
    rw [← hl]
    refine (sort_g_at cur g cap lo w1 (by omega) ho hg hD).mono ?_
    rintro e w2 ⟨rfl, l', hp, hs, ho2, hK⟩
    have hlen := hp.length_eq
    have hb2 := keeps_below hK hg h2
    have hb3 : Below w.heap.size w w2 := hb.trans (keeps_below hK (Nat.le_trans h1 hg) hb.size)
    exact ⟨rfl, l', by omega, ⟨cur, hp, hk⟩, hs, gl_lst_of ho2 (fun x hx => hD x (hp.mem_iff.1 hx) w2 hb2) (by omega) hc2, hb3⟩
theorem applied_lst {b : List Bd} {l : List Gl} {A : Option Addr} {cap : Nat} {w w1 : World} (h : Applied b l w (.returned (.slice A l.length cap)) w1) :
    ∃ cur : List Gl, cur.length = l.length ∧ cur.map Gl.key = (l.map (Gl.appB b)).map Gl.key ∧ GlLst w1 A cur cap ∧ Below w.heap.size w w1 := by
  obtain ⟨A', cap', cur, he, hl, hk, hc1, hc2, lo, h1, h2, hD, hO, hb⟩ := h
  injection he with he
  injection he with e1 _ e3
  subst e1 e3
  refine ⟨cur, hl, hk, ?_, hb⟩
  rcases Nat.eq_zero_or_pos l.length with h0 | h0
  · exact gl_lst_nil (by omega) hc2
  · obtain ⟨g, rfl, hg, ho⟩ := hO h0
    exact gl_lst_of ho (fun x hx => hD x hx w1 (Below.refl _ _)) (by omega) hc2
theorem key_at {b : List Bd} {cur l : List Gl} (h : cur.map Gl.key = (l.map (Gl.appB b)).map Gl.key) {j : Nat} (hj : j < l.length) : (cur.getD j default).key = ((l.getD j default).appB b).key := by
  have hl := congrArg List.length h
  simp only [List.length_map] at hl
  have h1 := congrArg (fun m => m[j]?) h
  simp only [List.getElem?_map, List.getElem?_eq_getElem hj, List.getElem?_eq_getElem (show j < cur.length by omega), Option.map_some, Option.some.injEq] at h1
  simpa [List.getD, List.getElem?_eq_getElem hj, List.getElem?_eq_getElem (show j < cur.length by omega)] using h1
set_option maxHeartbeats 8000000 in
set_option maxRecDepth 100000 in
theorem all_p_at {can : Tm → Tm → Bool} (hc : Cans can) (b : List Bd) (B : Option Addr) (d : Nat) (known l : List Gl) (A A2 : Option Addr) (c c2 : Nat) (w : World) (hb : BLst w B b d) (hbl : b.length ≤ 1000000) (hbn : ∀ x ∈ b, x.tm.nodes ≤ 1000000)
    (hk : GlLst w A known c) (hl : GlLst w A2 l c2) (hk6 : known.length ≤ 6) (hll : l.length ≤ 1000000) (hnk : nodesL (argsL known) ≤ 1000000) (hnl : nodesL (argsL l) ≤ 1000000) :
    Calls Tryz.prog 15 #[.slice B b.length d, .slice A known.length c, .slice A2 l.length c2] w fun e w' => e = .returned (.int .i64 (allV can b known l)) ∧ Below w.heap.size w w' := by
  have QA := Lib.hid (apply_all_g_at b B d known A c w hb hbl hbn hk (by omega) hnk)
  have QB := Lib.hid (fun W (h : Below w.heap.size w W) => apply_all_g_at b B d l A2 c2 W (hb.below h) hbl hbn (hl.below h) hll hnl)
  have QS := Lib.hid (fun A cap w1 (h : Applied b known w (.returned (.slice A known.length cap)) w1) => sort_applied hk6 h)
  have QT := Lib.hid (fun (l' : List Gl) A cap (t : Gl) W (h1 : l'.length = known.length) (h2 : GlLst W A l' cap) (h3 : t.At W) (h4 : SrtG l') => assuming_at hc l' A cap known.length t W h1.symm h2 h3 (by omega) h4)
  have HI := Lib.hid (fun (cur l' : List Gl) (u g : Gl) (hp : l'.Perm cur) (hk : cur.map Gl.key = (known.map (Gl.appB b)).map Gl.key) (hu : u.key = (g.appB b).key) => ass_in hc hp hk hu)
  have HNX := Lib.hid (fun j (hj : j < l.length) => allV_next (can := can) (b := b) (known := known) hj)
  have HTW := Lib.hid (fun j (hj : j < l.length) (h : inV can b known (l.getD j default) = 2) => allV_two hj h)
  have HVS := Lib.hid (fun g => inV_vals can b known g)
  clear hb hbl hbn hk hl hnk hnl hc
  go_enter Tryz.func15, Tryz.ntmps15
  go_wp2_with fail
  refine (QA.out).mono ?_
  intro e w1 h1
  obtain ⟨A1, p1, he⟩ : ∃ A1 p1, e = .returned (.slice A1 known.length p1) := by
    obtain ⟨A', cap', _, he, _⟩ := h1
    exact ⟨A', cap', he⟩
  subst he
  have Q1 := Lib.hid (QS.out A1 p1 w1 h1)
  clear h1 QA QS
  go_wp2_with fail
  refine (Q1.out).mono ?_
  rintro e w2 ⟨rfl, l', hlen, ⟨cur, hp, hkk⟩, hs, hL, hb2⟩
  have HLEN := Lib.hid hlen
  have HP := Lib.hid hp
  have HKK := Lib.hid hkk
  have HS := Lib.hid hs
  have HL := Lib.hid hL
  have H2 := Lib.hid hb2
  have Q2 := Lib.hid (QB.out w2 hb2)
  clear hlen hp hkk hs hL hb2 Q1 QB
  go_wp2_with fail
  refine (Q2.out).mono ?_
  intro e w3 h3
  obtain ⟨A3, p3, he⟩ : ∃ A3 p3, e = .returned (.slice A3 l.length p3) := by
    obtain ⟨A', cap', _, he, _⟩ := h3
    exact ⟨A', cap', he⟩
  subst he
  obtain ⟨cur2, hl2, hk2, hg2, hb3⟩ := applied_lst h3
  have HL2 := Lib.hid hl2
  have HK2 := Lib.hid hk2
  have HG2 := Lib.hid hg2
  have HLL := Lib.hid (HL.out.below hb3)
  have H3 := Lib.hid (H2.out.trans (hb3.mono H2.out.size))
  clear h3 hl2 hk2 hg2 hb3 Q2 HL H2
  go_wp2_with fail
  go_loopw [8, 20] (fun r i wr => ∃ (j : Nat) (n : Int), j ≤ l.length ∧ i = .int .i64 j ∧ r = .int .i64 n ∧ (n = 0 ∨ n = 1) ∧ Hid (allV can b known (l.take j) = n) ∧ Hid (Below w3.heap.size w3 wr)) (fun _ i _ => l.length - (intOf i).toNat)
  case atStart => exact ⟨0, 1, Nat.zero_le _, rfl, rfl, .inr rfl, Lib.hid rfl, Lib.hid (Below.refl _ _)⟩
  case round =>
    obtain ⟨j, n, hj, rfl, rfl, hn, HN, HB⟩ := hrel
    by_cases hlt : j < l.length
    · have hlt2 : j < cur2.length := by rw [HL2.out]; exact hlt
      obtain ⟨b0, o, rfl, hcs, hat⟩ := (HG2.out.below HB.out).get hlt2
      have HNj := Lib.hid (HNX.out j hlt)
      have HTj := Lib.hid (HTW.out j hlt)
      have HV := Lib.hid (HI.out cur l' _ _ HP.out HKK.out (key_at HK2.out hlt))
      have hvs := HVS.out (l.getD j default)
      have HB1 := Lib.hid (fun ob => HB.out.trans ((below1 wr ob).mono HB.out.size))
      have Q := Lib.hid (fun ob => QT.out l' A1 p1 (cur2.getD j default) (wr.alloc ob) HLEN.out (HLL.out.below (HB1.out ob)) (hat.below (below1 wr ob)) HS.out)
      rw [HV.out] at Q
      rw [HN.out] at HNj
      generalize inV can b known (l.getD j default) = q at *
      generalize cur2.getD j default = x at *
      have c0 := hcs 0 _ rfl
      have c1 := hcs 1 _ rfl
      have c2 := hcs 2 _ rfl
      simp only [Nat.add_zero] at c0
      clear hcs hat hlt2 HV
      obtain ⟨xo, xs, xA, xc, xa⟩ := x
      simp only at c0 c1 c2
      go_wp2_with fail
      refine (Q.out _).mono ?_
      rintro e w4 ⟨rfl, hb4⟩
      have HB4 := Lib.hid ((HB1.out _).trans (hb4.mono (HB1.out _).size))
      clear hb4
      rcases hvs with rfl | rfl | rfl
      · have HF := Lib.hid (show allV can b known (l.take (j + 1)) = 0 from HNj.out.trans (by rcases hn with rfl | rfl <;> rfl))
        clear hn
        go_wp2_with fail
        go_roundw
        case rel => exact ⟨j + 1, 0, by omega, by go_num, rfl, .inl rfl, HF, HB4⟩
        case measure => simp [intOf]; omega
      · have HF := Lib.hid (show allV can b known (l.take (j + 1)) = n from HNj.out.trans (by unfold allStep; rw [if_neg (by omega)]))
        go_wp2_with fail
        go_roundw
        case rel => exact ⟨j + 1, n, by omega, by go_num, rfl, hn, HF, HB4⟩
        case measure => simp [intOf]; omega
      · have HF := Lib.hid (HTj.out rfl)
        clear hn
        go_wp2_with fail
        go_ret
        exact ⟨by rw [HF.out]; try rfl, H3.out.trans (HB4.out.mono H3.out.size)⟩
    · obtain rfl : j = l.length := by omega
      have HF := Lib.hid (show allV can b known l = n by have := HN.out; rwa [List.take_length] at this)
      clear hn HN
      go_wp2_with fail
      go_ret
      exact ⟨by rw [HF.out]; try rfl, H3.out.trans (HB.out.mono H3.out.size)⟩
set_option maxHeartbeats 4000000 in
theorem in_p_at {can : Tm → Tm → Bool} (hc : Cans can) (b : List Bd) (B : Option Addr) (d : Nat) (known : List Gl) (g : Gl) (A : Option Addr) (c : Nat) (w : World) (hb : BLst w B b d) (hbl : b.length ≤ 1000000) (hbn : ∀ x ∈ b, x.tm.nodes ≤ 1000000)
    (hk : GlLst w A known c) (hg : g.At w) (hk6 : known.length ≤ 6) (hnk : nodesL (argsL known) ≤ 1000000) (hng : nodesL g.args ≤ 1000000) :
    Calls Tryz.prog 13 #[.slice B b.length d, .slice A known.length c, g.val] w fun e w' => e = .returned (.int .i64 (inV can b known g)) ∧ Below w.heap.size w w' := by
  have hng2 : nodesL (argsL [g]) ≤ 1000000 := by simpa [argsL] using hng
  have Q := Lib.hid (fun g2 W (h : Below w.heap.size w W) (hl : GlLst W (some ⟨g2, 0, none⟩) [g] 1) => all_p_at hc b B d known [g] A (some ⟨g2, 0, none⟩) c 1 W (hb.below h) hbl hbn (hk.below h) hl hk6 (by simp) hnk hng2)
  have HV := Lib.hid (allV_one can b known g)
  have HGA := Lib.hid (fun W (h : Below w.heap.size w W) => hg.below h)
  have HOW := Lib.hid (fun (W : World) => World.ownsRow_lit (base := 0) (e := 24) (size := 3) W (Gl.cells g).toArray 1 (Nat.zero_le _) (by unfold maxLen; omega) rfl)
  have HGL := Lib.hid (fun (W : World) (h : Below w.heap.size w W) (W2 : World) (h2 : W2.ownsRow 0 24 3 (.slice (some ⟨W.heap.size, 0, none⟩) 1 1) 1 (Gl.cells g)) (h3 : Below w.heap.size w W2) => (show GlLst W2 (some ⟨W.heap.size, 0, none⟩) [g] 1 from by
    have h4 : W2.ownsRow 0 24 3 (.slice (some ⟨W.heap.size, 0, none⟩) [g].length 1) [g].length (glcells [g]) := by simpa [glcells] using h2
    refine gl_lst_of ⟨(own_lt h4 _ rfl).2, fun j => World.ownsRow.frozenAt h4 j, fun i j u hi hu => ?_⟩ (fun x hx => by rw [List.mem_singleton.1 hx]; exact hg.below h3) (by simp) (by unfold maxLen; omega)
    rw [World.ownsRow.cellAt h4 (i * 3 + j) (by have := Gl.cells_lt hu; simp at hi ⊢; omega)]
    exact (glcells_get [g] hi (Gl.cells_lt hu)).trans hu))
  rw [HV.out] at Q
  clear HV
  generalize inV can b known g = v at *
  obtain ⟨o', s', A', c', a'⟩ := g
  simp only [Gl.cells, Gl.hd, List.cons_append, List.nil_append] at HOW HGL
  clear hb hbl hbn hk hg hnk hng hng2 hc
  show Calls Tryz.prog 13 #[.slice B b.length d, .slice A known.length c, .agg #[.int .i64 o', .string s', .slice A' a'.length c']] w _
  go_enter Tryz.func13, Tryz.ntmps13
  go_wp2_with fail
  have hB1 := below1 w (.cells #[.int .i64 o', .string s', .slice A' a'.length c'] 24)
  have hB2 := below2 w (.cells #[.int .i64 o', .string s', .slice A' a'.length c'] 24) (.cells #[.int .i64 o', .string s', .slice A' a'.length c'] 24)
  have hq := Q.out (w.alloc (.cells #[.int .i64 o', .string s', .slice A' a'.length c'] 24)).heap.size _ hB2 (HGL.out _ hB1 _ (HOW.out _) hB2)
  rw [World.size_alloc] at hq
  refine hq.mono ?_
  rintro e w2 ⟨rfl, hb2⟩
  have H2 := Lib.hid (hB2.trans (hb2.mono hB2.size))
  clear hq hb2 hB1 hB2
  go_wp2_with fail
  go_ret
  exact ⟨rfl, H2.out⟩
end Go.Proofs.YtgpglgehlnfggaaGreat
namespace Go.Proofs.YtgpglgehlnfggaaGreat
open Go.RowKit
set_option linter.unusedVariables false
theorem wpList_append_nil_t {ops : Array Oper} {rest : List Oper} {o : Oper} {a : Act} {Q : Exit → Act → World → Prop} {w : World} (hgd : o.guard = none) (s x : Operand)
    (ho : o.op = .call { callee := .builtin .append, args := #[s, x], argTypes := #[22, 22] })
    (g n cap c : Nat) (hs : a.eval s = .slice (some ⟨g, 0, none⟩) n cap) (hx : a.eval x = .slice none 0 c) (hcap : n + 0 ≤ cap)
    (h : wpList Tryz.prog ops Q rest (a.put o.dst (.slice (some ⟨g, 0, none⟩) (n + 0) cap)) w) :
    wpList Tryz.prog ops Q (o :: rest) a w := by
  obtain ⟨i0, hi, hz0, hz1, hz2⟩ := info_parts term_info
  have ht : Tryz.prog.underlying 22 = some (.slice 40) := Tryz.underlying22
  refine wpList_plain hgd fun K hK => ?_
  have hr := run_append_room_src (P := Tryz.prog) w 22 22 o.type 40 i0 ht hi g 0 n cap (.slice none 0 c) 0 [] (Src.ofNil w ht c) hcap (fun j hj => by simp at hj) (fun j hj => by simp at hj)
  unfold Oper.wp execOp
  simp only [ho, resolve, invoke, builtin, Sem.run_bind, Sem.run_pure, Result.andThen_ok, List.map_toArray, List.map_cons, List.map_nil, hs, hx, hr]
  exact hK _ _ h
set_option maxHeartbeats 1000000 in
theorem fun_none_at (s : ByteArray) (w : World) : Calls Tryz.prog 27 #[.string s, .slice none 0 0] w fun e w' => ∃ g c : Nat, e = .returned (.agg #[.int .i64 2, .int .i64 0, .string s, .slice (some ⟨g, 0, none⟩) 0 c]) ∧ c ≤ maxLen ∧ Below w.heap.size w w' := by
  go_enter Tryz.func27, Tryz.ntmps27
  go_wp2_with (at_builtin; refine wpList_append_nil_t rfl _ _ rfl _ 0 0 0 rfl rfl (Nat.le_refl _) ?_)
  refine bodyPost_ret (v := .agg #[.int .i64 2, .int .i64 0, .string s, .slice (some ⟨w.heap.size + 1, 0, none⟩) 0 0]) (by simp [results, Tryz.results27, go_sem]) rfl ⟨_, 0, rfl, Nat.zero_le _, ?_⟩
  exact below2 _ _ _
theorem akI_at {n : Int} (W : World) (h : Fits n) : (akI n).At W := (At_iff _ _).2 ⟨⟨by simp only [akI, Tm.kind]; unfold Fits; omega, h, by unfold maxLen; simp [akI, Tm.name, ByteArray.size]⟩, Lst.nil W⟩
theorem vr_at {n : Int} (W : World) (h : Fits n) : (vr n).At W := var_at W h
theorem ex_test {can : Tm → Tm → Bool} (hc : Cans can) {op : Int} (ho : Fits op) {x y : Tm} {g : Nat} {W : World} (h : Row4 W g [x, y]) (hx : x.At W) (hy : y.At W) {n : Int} (hn : testV can op ByteArray.empty [x, y] = n) :
    Calls Tryz.prog 10 #[.agg #[.int .i64 op, .string ⟨#[]⟩, .slice (some ⟨g, 0, none⟩) 2 2]] W fun e w' => e = .returned (.int .i64 n) ∧ Below W.heap.size W w' := by
  rw [← hn]
  exact test_p_at hc (twoG op g x y) W (two_lies ho h rfl hx hy)
theorem ex_in {can : Tm → Tm → Bool} (hc : Cans can) {op : Int} (ho : Fits op) {x y : Tm} {g g0 pb pk : Nat} {W : World} (h : Row4 W g [x, y]) (hx : x.At W) (hy : y.At W) (hb : BLst W (some ⟨pb, 0, none⟩) akB 1) (hk : GlLst W (some ⟨pk, 0, none⟩) [twoG 7 g0 (vr 0) (vr 1)] 1) (hz : nodesL [x, y] ≤ 1000000) {n : Int} (hn : inV can akB [twoG 7 g0 (vr 0) (vr 1)] (twoG op g x y) = n) :
    Calls Tryz.prog 13 #[.slice (some ⟨pb, 0, none⟩) 1 1, .slice (some ⟨pk, 0, none⟩) 1 1, .agg #[.int .i64 op, .string ⟨#[]⟩, .slice (some ⟨g, 0, none⟩) 2 2]] W fun e w' => e = .returned (.int .i64 n) ∧ Below W.heap.size W w' := by
  rw [← hn]
  exact in_p_at hc akB _ 1 [twoG 7 g0 (vr 0) (vr 1)] (twoG op g x y) _ 1 W hb (by simp [akB]) (fun z hz => by
    rw [List.mem_singleton.1 hz]
    simp [akI, Tm.nodes, nodesL]) hk (two_lies ho h rfl hx hy) (by simp) (by simp [argsL, vr, Tm.nodes, nodesL]) hz
theorem ex_fol {x y : Tm} {g g0 : Nat} {W : World} (h0 : (twoG 7 g0 (vr 0) (vr 1)).At W) (h : Row4 W g [x, y]) (hx : x.At W) (hy : y.At W) {n : Bool} (hn : folB 7 8 ByteArray.empty ByteArray.empty [vr 0, vr 1] [x, y] = n) :
    Calls Tryz.prog 17 #[.agg #[.int .i64 7, .string ⟨#[]⟩, .slice (some ⟨g0, 0, none⟩) 2 2], .agg #[.int .i64 8, .string ⟨#[]⟩, .slice (some ⟨g, 0, none⟩) 2 2]] W fun e w' => e = .returned (.bool n) ∧ Below W.heap.size W w' := by
  rw [← hn]
  exact follows_at (twoG 7 g0 (vr 0) (vr 1)) (twoG 8 g x y) W h0 (two_lies (by unfold Fits; omega) h rfl hx hy)
end Go.Proofs.YtgpglgehlnfggaaGreat
namespace Go.Proofs.YtgpglgehlnfggaaGreat
open Go.RowKit
set_option linter.unusedVariables false
def PExample : Prop := ∀ w : World, Calls Tryz.prog 9 #[] w fun e w' => e = .returned (.bool true) ∧ Below w.heap.size w w'
theorem gls_one {g : Gl} {W : World} (hg : g.At W) (T : TypeId) : GlLst (W.alloc (.cells #[.int .i64 g.op, .string g.name, .slice g.at_ g.args.length g.cap] T)) (some ⟨W.heap.size, 0, none⟩) [g] 1 := by
  have c : ∀ j v, (#[.int .i64 g.op, .string g.name, .slice g.at_ g.args.length g.cap] : Array Value)[j]? = some v → (W.alloc (.cells #[.int .i64 g.op, .string g.name, .slice g.at_ g.args.length g.cap] T)).cell? ⟨W.heap.size, j, none⟩ = some v := fun j v e => by
    rw [World.cell?_alloc_at _ _ _ _ rfl]; exact e
  refine ⟨Nat.le_refl _, by unfold maxLen; simp, fun _ => ⟨W.heap.size, 0, rfl, fun i hi => ?_⟩⟩
  obtain rfl : i = 0 := by simp at hi; omega
  refine ⟨fun j u hu => ?_, hg.below (below1 _ _)⟩
  rw [show 0 + 0 * 3 + j = j by omega]
  have hj := Gl.cells_lt hu
  refine c j u ?_
  rw [← hu]
  match j, hj with
  | 0, _ => rfl
  | 1, _ => rfl
  | 2, _ => rfl
theorem gls_two {g u : Gl} {W : World} (hg : g.At W) (hu : u.At W) (T : TypeId) : GlLst (W.alloc (.cells #[.int .i64 g.op, .string g.name, .slice g.at_ g.args.length g.cap, .int .i64 u.op, .string u.name, .slice u.at_ u.args.length u.cap] T)) (some ⟨W.heap.size, 0, none⟩) [g, u] 2 := by
  have c : ∀ j v, (#[.int .i64 g.op, .string g.name, .slice g.at_ g.args.length g.cap, .int .i64 u.op, .string u.name, .slice u.at_ u.args.length u.cap] : Array Value)[j]? = some v → (W.alloc (.cells #[.int .i64 g.op, .string g.name, .slice g.at_ g.args.length g.cap, .int .i64 u.op, .string u.name, .slice u.at_ u.args.length u.cap] T)).cell? ⟨W.heap.size, j, none⟩ = some v := fun j v e => by
    rw [World.cell?_alloc_at _ _ _ _ rfl]; exact e
  refine ⟨Nat.le_refl _, by unfold maxLen; simp, fun _ => ⟨W.heap.size, 0, rfl, fun i hi => ?_⟩⟩
  have h2 : i = 0 ∨ i = 1 := by simp at hi; omega
  rcases h2 with rfl | rfl
  · refine ⟨fun j v hv => ?_, hg.below (below1 _ _)⟩
    have hj := Gl.cells_lt hv
    rw [show 0 + 0 * 3 + j = j by omega]
    refine c j v ?_
    rw [← hv]
    match j, hj with
    | 0, _ => rfl
    | 1, _ => rfl
    | 2, _ => rfl
  · refine ⟨fun j v hv => ?_, hu.below (below1 _ _)⟩
    have hj := Gl.cells_lt hv
    rw [show 0 + 1 * 3 + j = 3 + j by omega]
    refine c (3 + j) v ?_
    rw [← hv]
    match j, hj with
    | 0, _ => rfl
    | 1, _ => rfl
    | 2, _ => rfl
theorem great_g1 (g : Gl) (most : Int) (W : World) (b : Nat) (hb : b = W.heap.size) (hg : g.At W) (h0 : 0 ≤ most) (h1 : most ≤ 1000000) {r : Bool} (hr : decide (weighGl [g] most < 0) = r) :
    Calls Tryz.prog 8 #[.slice (some ⟨b, 0, none⟩) 1 1, .int .i64 most] (W.alloc (.cells #[.int .i64 g.op, .string g.name, .slice g.at_ g.args.length g.cap] 24)) fun e w' => e = .returned (.bool r) ∧ Below W.heap.size W w' := by
  subst hb
  exact (great_gls_at [g] _ 1 most _ (gls_one hg _) h0 h1 hr).mono fun e w' ⟨he, h⟩ => ⟨he, (below1 _ _).trans (Below.mono h (below1 _ _).size)⟩
theorem great_g2 (g u : Gl) (most : Int) (W : World) (b : Nat) (hb : b = W.heap.size) (hg : g.At W) (hu : u.At W) (h0 : 0 ≤ most) (h1 : most ≤ 1000000) {r : Bool} (hr : decide (weighGl [g, u] most < 0) = r) :
    Calls Tryz.prog 8 #[.slice (some ⟨b, 0, none⟩) 2 2, .int .i64 most] (W.alloc (.cells #[.int .i64 g.op, .string g.name, .slice g.at_ g.args.length g.cap, .int .i64 u.op, .string u.name, .slice u.at_ u.args.length u.cap] 24)) fun e w' => e = .returned (.bool r) ∧ Below W.heap.size W w' := by
  subst hb
  exact (great_gls_at [g, u] _ 2 most _ (gls_two hg hu _) h0 h1 hr).mono fun e w' ⟨he, h⟩ => ⟨he, (below1 _ _).trans (Below.mono h (below1 _ _).size)⟩
theorem gl_nodes {l : List Gl} {m : Int} (h : decide (weighGl l m < 0) = false) : (l.length : Int) ≤ m ∧ ∀ x ∈ l, (nodesL x.args : Int) ≤ m := by
  have h1 := weighGl_facts l m (by simpa using h)
  have h2 : 0 ≤ weighGl l m := by simpa using h
  exact ⟨by omega, h1.2⟩
end Go.Proofs.YtgpglgehlnfggaaGreat
