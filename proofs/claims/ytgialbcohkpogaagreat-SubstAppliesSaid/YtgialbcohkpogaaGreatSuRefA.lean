/-
  Contracts of Apply and ApplyTerms of the reference.
-/
import Derived.Test.YtgialbcohkpogaaGreatSuRefRight
import Derived.Test.YtgialbcohkpogaaGreatSuApply
namespace Go.Proofs.YtgialbcohkpogaaGreat
open Go.RowKit

/-- The worlds behind w0. -/
abbrev From (w0 : World) : World → Prop := fun W => Below w0.heap.size w0 W
/-- A term like t: its parts lie where the caller's do, or in blocks of the call's own. -/
def RMade (w0 : World) (t : Tm) (w : World) (e : Ending) (w' : World) : Prop := ∃ u : Tm, e = .returned u.val ∧ u.strip = t.strip ∧ Lie (From w0) w.heap.size No w' u ∧ Below w.heap.size w w'
def RMadeN (w0 : World) (n : Nat) (m : List Tm) (w : World) (e : Ending) (w' : World) : Prop :=
  ∃ A cap, ∃ cur : List Tm, e = .returned (.slice A n cap) ∧ cur.length = n ∧ stripL cur = stripL m ∧ (∀ W, From w0 W → Agree w.heap.size No w' W → Lst W A cur cap) ∧ Below w.heap.size w w'
theorem rlie_row {B : World → Prop} {w w' : World} {k n : Int} {s : ByteArray} {A : Option Addr} {cap lo : Nat} {cur : List Tm} (hp : Fits k ∧ Fits n ∧ s.size ≤ maxLen) (h : ∀ W, B W → Agree lo No w' W → Lst W A cur cap) (hlo : w.heap.size ≤ lo) : Lie B w.heap.size No w' (.mk k n s A cap cur) :=
  fun W hB hW => (At_iff _ _).2 ⟨hp, h W hB fun b h1 h2 h3 => hW b (by omega) h2 h3⟩
theorem take_tm {l : List Tm} {k : Nat} (h : k < l.length) : l.take (k + 1) = l.take k ++ [l.getD k default] := by
  rw [List.take_add_one, List.getElem?_eq_getElem h]
  simp [List.getD, List.getElem?_eq_getElem h]

set_option maxHeartbeats 4000000 in
set_option maxRecDepth 100000 in
theorem ref_apply_terms_at (w0 : World) (b : List Bd) (D : Option Addr) (q : Nat) (l : List Tm) (A : Option Addr) (c : Nat) (w : World) (hl : Lst w A l c) (hsz : l.length ≤ 1000000)
    (ih : ∀ x ∈ l, ∀ W : World, Below w.heap.size w W → Calls Tryz.prog 17 #[.slice D b.length q, x.val] W (RMade w0 (x.app b) W)) :
    Calls Tryz.prog 44 #[.slice D b.length q, .slice A l.length c] w (RMadeN w0 l.length (appL b l) w) := by
  obtain ⟨i0, hi, hz0, hz1, hz2⟩ := info_parts term_info
  have HL := Lib.hid hl
  have HI := Lib.hid ih
  have HA := Lib.hid (fun l => appL_map b l)
  clear hl ih
  go_enter Tryz.func44, Tryz.ntmps44
  go_wp2_with fail
  go_loopw [5, 6] (fun z i wr => ∃ (j : Nat) (acc : List Tm) (x : Value), j ≤ l.length ∧ i = .int .i64 j ∧ z = x ∧ Hid (RowT (From w0) w.heap.size wr x acc) ∧ Hid (stripL acc = stripL (appL b (l.take j))) ∧ Hid (acc.length = j) ∧ Below w.heap.size w wr) (fun _ i _ => l.length - (intOf i).toNat)
  case atStart => exact ⟨0, [], _, Nat.zero_le _, rfl, rfl, Lib.hid (RowT.nil _ _ _), Lib.hid rfl, Lib.hid rfl, Below.refl _ _⟩
  case round =>
    obtain ⟨j, acc, z, hj, rfl, hz, HK, HS, HAc, hbw⟩ := hrel
    have hz' := hz.symm
    subst hz'
    clear hz
    by_cases hlt : j < l.length
    · obtain ⟨b0, o, rfl, ⟨c0, c1, c2, c3⟩, _⟩ := (HL.out.below hbw).get hlt
      have HT := Lib.hid (take_tm hlt)
      have Q := Lib.hid (fun W (h : Below w.heap.size w W) => HI.out _ (getD_mem hlt) W h)
      have hal : acc.length ≤ 1000000 := by rw [HAc.out]; omega
      generalize l.getD j default = x at *
      obtain ⟨k', n', s', A', c', a'⟩ := x
      simp only [Tm.kind, Tm.num, Tm.name, Tm.at_, Tm.args, Tm.cap] at c0 c1 c2 c3
      go_wp2_with fail
      refine (Q.out _ hbw).mono ?_
      rintro e w2 ⟨u, rfl, hu, hlie, hb2⟩
      have HU := Lib.hid (lie_apart HK.out.1 hlie hbw.size (Nat.le_refl _))
      have HK2 := Lib.hid (HK.out.below hb2)
      have HS2 := Lib.hid (show stripL (acc ++ [u]) = stripL (appL b (l.take (j + 1))) by
        rw [HT.out, HA.out, List.map_append, stripL_append, stripL_append, HS.out, HA.out]
        simp only [stripL, List.map_cons, List.map_nil, hu])
      have hbw2 := hbw.trans (hb2.mono hbw.size)
      have HOwn := Lib.hid (own_lt HK2.out.1)
      have hlo := hbw2.size
      clear hu hlie hb2 hbw c0 c1 c2 c3 HK HS Q
      obtain ⟨k2, n2, s2, A2, p2, a2⟩ := u
      go_wp2_with (at_builtin; refine wpList_append_lies _ rfl _ _ 27 rfl w.heap.size 29 i0 _ 4 56 Tryz.underlying27 hi hz0 hz1 hz2 rfl (by decide) _ acc.length (tcells acc) rfl (HK2.out.1.alloc _) ⟨w2.heap.size, 0, none⟩ 1 1 (Tm.cells (.mk k2 n2 s2 A2 p2 a2)) rfl rfl (tnews1 w2 (.mk k2 n2 s2 A2 p2 a2) _) (cells_one _) (by decide) (by unfold maxLen; omega) (by omega) (by simp; omega) _ rfl ?_; intro g cap w5 hown hg hat hglt)
      have HR5 := Lib.hid (HK2.out.next (u := .mk k2 n2 s2 A2 p2 a2) HU.out (below1 w2 _) hown hg hat)
      have HB5 : Below w.heap.size w w5 := (hbw2.alloc hbw2.size _).grown hg (by simp; omega) (fun k hk => (HOwn.out k hk).1)
      clear hown hg hat hglt
      go_wp2_with fail
      go_roundw
      case rel => exact ⟨j + 1, acc ++ [.mk k2 n2 s2 A2 p2 a2], _, by omega, by go_num, rfl, HR5, HS2, Lib.hid (by rw [List.length_append, HAc.out]; rfl), HB5⟩
      case measure => simp [intOf]; omega
    · obtain rfl : j = l.length := by omega
      have hK := HK.out
      obtain ⟨A', cz, hz, hcz⟩ := hK.form
      subst hz
      have HF := Lib.hid hK.lies
      have HE := Lib.hid (show stripL acc = stripL (appL b l) by rw [HS.out, List.take_length])
      rw [HAc.out]
      clear hK HK hlt HS hcz
      go_wp2_with fail
      go_ret
      exact ⟨A', cz, acc, rfl, HAc.out, HE.out, HF.out, hbw⟩

set_option maxHeartbeats 4000000 in
theorem ref_apply_at (w0 : World) (b : List Bd) (D : Option Addr) (q : Nat) (hb : BLst w0 D b q) (t : Tm) : t.At w0 → t.nodes ≤ 1000000 → ∀ w : World, Below w0.heap.size w0 w → Calls Tryz.prog 17 #[.slice D b.length q, t.val] w (RMade w0 (t.app b) w) := by
  induction t using Tm.induct with
  | h k n s A c a ih =>
    intro hat hnodes w hw
    show Calls Tryz.prog 17 #[.slice D b.length q, .agg #[.int .i64 k, .int .i64 n, .string s, .slice A a.length c]] w _
    have HT := Lib.hid hat
    have HP := Lib.hid ((At_iff _ _).1 hat).1
    simp only [Tm.kind, Tm.num, Tm.name] at HP
    obtain ⟨HB0, HB1⟩ := two_boxes w (.int .i64 k) (.int .i64 n) (.string s) (.slice A a.length c) (.int .i64 0) (.int .i64 0) (.string ⟨#[]⟩) (.slice none 0 0) 29
    have H0 := Lib.hid HB0
    have H1 := Lib.hid HB1
    clear HB0 HB1
    by_cases k2 : k = 2
    · subst k2
      have hl : Lst w0 A a c := hat.lst
      have hna : nodesL a ≤ 1000000 := by simp only [Tm.nodes] at hnodes; omega
      have hln : a.length ≤ 1000000 := by have := length_le_nodes a; omega
      have Q1 := Lib.hid (fun W (h : Below w.heap.size w W) => ref_apply_terms_at w0 b D q a A c W ((hl.below hw).below h) hln (fun x hx W' h' => ih x hx (hl.mem hx) (by have := nodes_mem hx; omega) W' (hw.trans ((h.trans (h'.mono h.size)).mono hw.size))))
      have HV := Lib.hid (show (Tm.mk 2 n s A c a).app b = .mk 2 n s A c (appL b a) by simp [Tm.app])
      clear hat ih hl hna hnodes hln hb hw HT
      go_enter Tryz.func17, Tryz.ntmps17
      go_wp2_with fail
      refine (Q1.out _ (below2 _ _ _)).mono ?_
      rintro e w1 ⟨A', cap, cur, rfl, hcl, hst, hL, hb2⟩
      have HK := Lib.hid (H0.out.below hb2)
      have HM := Lib.hid (H1.out.below hb2)
      have hb1 := (below2 w (.cells #[.int .i64 2, .int .i64 n, .string s, .slice A a.length c] 29) zeroBox).trans (hb2.mono (by simp; omega))
      obtain ⟨hz0, d0, d1, d2, d3, f⟩ := HK.out
      obtain ⟨hz, e0, e1, e2, e3, f'⟩ := HM.out
      have f3 := f 3
      have f0' := f' 0
      have f1' := f' 1
      have f2' := f' 2
      have f3' := f' 3
      have HB := Lib.hid hb1
      have HL := Lib.hid hL
      have HS := Lib.hid hst
      have HC := Lib.hid hcl
      clear f f' hb1 hL hst hcl hb2 Q1
      go_wp2_with fail
      refine bodyPost_ret (v := .agg #[.int .i64 2, .int .i64 n, .string s, .slice A' a.length cap]) (by simp [results, Tryz.results17, go_sem, e0, e1, e2, e3]) rfl ?_
      have hsz : ((w.alloc (.cells #[.int .i64 2, .int .i64 n, .string s, .slice A a.length c] 29)).alloc zeroBox).heap.size = w.heap.size + 2 := by simp
      refine ⟨.mk 2 n s A' cap cur, by rw [← HC.out]; rfl, ?_, rlie_row (lo := w.heap.size + 2) HP.out (fun W hBW hW => HL.out W hBW fun b' h1 h2 h3 => ?_) (by omega), set4c (HB.out.setCell (Nat.le_refl _) _) (Nat.le_succ _)⟩
      · rw [HV.out]
        simp only [Tm.strip, HS.out]
      · rw [hsz] at h1
        rw [hW b' h1 (by rw [size_set4]; simpa [World.setCell] using h2) h3, heap_set4 _ (by omega), Below.heap_setCell _ _ _ _ (by show b' ≠ w.heap.size; omega)]
    · have k2' : (k == 2) = false := by simpa using k2
      by_cases k1 : k = 1
      · subst k1
        have hF := Lib.hid (fun W (h : Below w.heap.size w W) => ref_lookup_at b D q n W ((hb.below hw).below h))
        have HLk := Lib.hid (fun (x : Tm) (hx : look b n = some x) => show x.At w0 from hb.look hx)
        have HV := Lib.hid (show (Tm.mk 1 n s A c a).app b = (look b n).getD (.mk 1 n s A c a) by simp [Tm.app])
        clear hat ih hnodes hb k2 k2' hw
        generalize look b n = lk at *
        cases lk with
        | none =>
          simp only [Option.getD_none] at HV
          obtain ⟨z0, hz0⟩ : ∃ z, optT none = z := ⟨_, rfl⟩
          rw [hz0] at hF
          clear hz0 HLk
          obtain ⟨zk, zn, zs, zA, zc, za⟩ := z0
          have QF := Lib.hid (fun W (h : Below w.heap.size w W) => show Calls Tryz.prog 14 #[.slice D b.length q, .int .i64 n] W fun e w' => e = .returned (.tuple #[.agg #[.int .i64 zk, .int .i64 zn, .string zs, .slice zA za.length zc], .bool false]) ∧ Below W.heap.size W w' from hF.out W h)
          clear hF
          go_enter Tryz.func17, Tryz.ntmps17
          go_wp2_with fail
          refine (QF.out _ (below2 _ _ _)).mono ?_
          rintro e w1 ⟨rfl, hb2⟩
          have HK := Lib.hid ((H0.out.below hb2).alloc (.cells #[.int .i64 zk, .int .i64 zn, .string zs, .slice zA za.length zc] 29))
          have HM := Lib.hid ((H1.out.below hb2).alloc (.cells #[.int .i64 zk, .int .i64 zn, .string zs, .slice zA za.length zc] 29))
          have HB := Lib.hid (((below2 w (.cells #[.int .i64 1, .int .i64 n, .string s, .slice A a.length c] 29) zeroBox).trans (hb2.mono (by simp; omega))).alloc (by have := hb2.size; simp at this; omega) (.cells #[.int .i64 zk, .int .i64 zn, .string zs, .slice zA za.length zc] 29))
          obtain ⟨hz0, d0, d1, d2, d3, _⟩ := HK.out
          obtain ⟨hz, e0, e1, e2, e3, f'⟩ := HM.out
          have f0' := f' 0
          have f1' := f' 1
          have f2' := f' 2
          have f3' := f' 3
          clear hb2 QF f'
          go_wp2_with fail
          refine bodyPost_ret (v := .agg #[.int .i64 1, .int .i64 n, .string s, .slice A a.length c]) (by simp [results, Tryz.results17, go_sem, e0, e1, e2, e3]) rfl ?_
          exact ⟨.mk 1 n s A c a, rfl, by rw [HV.out], Lie.any fun W hW => HT.out.below hW, set4c HB.out (Nat.le_succ _)⟩
        | some x =>
          simp only [Option.getD_some] at HV
          have HX := Lib.hid (HLk.out x rfl)
          rw [HV.out]
          clear HV HT
          obtain ⟨xk, xn, xs, xA, xc, xa⟩ := x
          have QF := Lib.hid (fun W (h : Below w.heap.size w W) => show Calls Tryz.prog 14 #[.slice D b.length q, .int .i64 n] W fun e w' => e = .returned (.tuple #[.agg #[.int .i64 xk, .int .i64 xn, .string xs, .slice xA xa.length xc], .bool true]) ∧ Below W.heap.size W w' from hF.out W h)
          clear hF HLk
          go_enter Tryz.func17, Tryz.ntmps17
          go_wp2_with fail
          refine (QF.out _ (below2 _ _ _)).mono ?_
          rintro e w1 ⟨rfl, hb2⟩
          have HM := Lib.hid ((H1.out.below hb2).alloc (.cells #[.int .i64 xk, .int .i64 xn, .string xs, .slice xA xa.length xc] 29))
          have HB := Lib.hid (((below2 w (.cells #[.int .i64 1, .int .i64 n, .string s, .slice A a.length c] 29) zeroBox).trans (hb2.mono (by simp; omega))).alloc (by have := hb2.size; simp at this; omega) (.cells #[.int .i64 xk, .int .i64 xn, .string xs, .slice xA xa.length xc] 29))
          obtain ⟨hz, e0, e1, e2, e3, f'⟩ := HM.out
          have f0' := f' 0
          have f1' := f' 1
          have f2' := f' 2
          have f3' := f' 3
          clear hb2 QF f'
          go_wp2_with fail
          refine bodyPost_ret (v := .agg #[.int .i64 xk, .int .i64 xn, .string xs, .slice xA xa.length xc]) (by simp [results, Tryz.results17, go_sem, e0, e1, e2, e3]) rfl ?_
          exact ⟨.mk xk xn xs xA xc xa, rfl, rfl, Lie.any fun W hW => HX.out.below hW, set4c HB.out (Nat.le_succ _)⟩
      · have k1' : (k == 1) = false := by simpa using k1
        have HV := Lib.hid (show (Tm.mk k n s A c a).app b = .mk k n s A c a by simp [Tm.app, k1, k2])
        clear hat ih hnodes hb k1 k2 hw
        go_enter Tryz.func17, Tryz.ntmps17
        go_wp2_with fail
        refine bodyPost_ret (v := .agg #[.int .i64 k, .int .i64 n, .string s, .slice A a.length c]) (by simp [results, Tryz.results17, go_sem]) rfl ?_
        exact ⟨.mk k n s A c a, rfl, by rw [HV.out], Lie.any fun W hW => HT.out.below hW, below2 _ _ _⟩
end Go.Proofs.YtgialbcohkpogaaGreat
