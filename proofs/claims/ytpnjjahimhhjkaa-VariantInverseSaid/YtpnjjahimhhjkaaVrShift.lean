/-
  Contracts of sum, shiftTerms, Shift, place of the reference.
-/
import Derived.Test.YtpnjjahimhhjkaaSuRefs
import Derived.Test.YtpnjjahimhhjkaaVaPure
import Derived.Test.YtpnjjahimhhjkaaMaShift
import Derived.Test.YtpnjjahimhhjkaaTmVarAll
namespace Go.Proofs.Ytpnjjahimhhjkaa
open Go.RowKit

set_option maxHeartbeats 1000000 in
theorem sum_at (n k : Int) (hn : Fits n) (hk : Fits k) (w : World) : Calls Try.prog 39 #[.int .i64 n, .int .i64 k] w fun e w' => e = .returned (.int .i64 (shiftV k n)) ∧ Below w.heap.size w w' := by
  unfold Fits at hk hn
  go_enter Try.func39, Try.ntmps39
  go_wp2_with fail
  all_goals
    go_ret
    refine ⟨congrArg (fun m => Ending.returned (.int .i64 m)) ?_, Below.refl _ _⟩
    unfold shiftV
    (try unfold wrap64 at *)
    first | (rw [if_neg (by omega)]; done) | (rw [if_pos (by omega)]; try omega)

set_option maxHeartbeats 4000000 in
set_option maxRecDepth 100000 in
theorem ref_shift_terms_at (w0 : World) (kk : Int) (l : List Tm) (A : Option Addr) (c : Nat) (w : World) (hl : Lst w A l c) (hsz : l.length ≤ 1000000)
    (ih : ∀ x ∈ l, ∀ W : World, Below w.heap.size w W → Calls Try.prog 13 #[x.val, .int .i64 kk] W (RMade w0 (x.rr (shiftV kk)) W)) :
    Calls Try.prog 40 #[.slice A l.length c, .int .i64 kk] w (RMadeN w0 l.length (rrL l (shiftV kk)) w) := by
  obtain ⟨i0, hi, hz0, hz1, hz2⟩ := info_parts term_info
  have HL := Lib.hid hl
  have HI := Lib.hid ih
  have HA := Lib.hid (fun l => rrL_map l (shiftV kk))
  clear hl ih
  go_enter Try.func40, Try.ntmps40
  go_wp2_with fail
  go_loopw [5, 6] (fun z i wr => ∃ (j : Nat) (acc : List Tm) (x : Value), j ≤ l.length ∧ i = .int .i64 j ∧ z = x ∧ Hid (RowT (From w0) w.heap.size wr x acc) ∧ Hid (stripL acc = stripL (rrL (l.take j) (shiftV kk))) ∧ Hid (acc.length = j) ∧ Below w.heap.size w wr) (fun _ i _ => l.length - (intOf i).toNat)
  case atStart => exact ⟨0, [], _, Nat.zero_le _, rfl, rfl, Lib.hid (RowT.nil _ _ _), Lib.hid rfl, Lib.hid rfl, Below.refl _ _⟩
  case round =>
    obtain ⟨j, acc, z, hj, rfl, hz, HK, HS, HAc, hbw⟩ := hrel
    have hz' := hz.symm
    subst hz'
    clear hz
    by_cases hlt : j < l.length
    · obtain ⟨b0, o, rfl, ⟨c0, c1, c2, c3⟩, _⟩ := (HL.out.below hbw).get hlt
      have HT := Lib.hid (take_tm hlt)
      have Q := Lib.hid (fun W (h : Below w.heap.size w W) => HI.out _ (getD_mem hlt) W h)
      have hal : acc.length ≤ 1000000 := by rw [HAc.out]; omega
      generalize l.getD j default = x at *
      obtain ⟨k', n', s', A', c', a'⟩ := x
      simp only [Tm.kind, Tm.num, Tm.name, Tm.at_, Tm.args, Tm.cap] at c0 c1 c2 c3
      go_wp2_with fail
      refine (Q.out _ hbw).mono ?_
      rintro e w2 ⟨u, rfl, hu, hlie, hb2⟩
      have HU := Lib.hid (lie_apart HK.out.1 hlie hbw.size (Nat.le_refl _))
      have HK2 := Lib.hid (HK.out.below hb2)
      have HS2 := Lib.hid (show stripL (acc ++ [u]) = stripL (rrL (l.take (j + 1)) (shiftV kk)) by
        rw [HT.out, HA.out, List.map_append, stripL_append, stripL_append, HS.out, HA.out]
        simp only [stripL, List.map_cons, List.map_nil, hu])
      have hbw2 := hbw.trans (hb2.mono hbw.size)
      have HOwn := Lib.hid (own_lt HK2.out.1)
      have hlo := hbw2.size
      clear hu hlie hb2 hbw c0 c1 c2 c3 HK HS Q
      obtain ⟨k2, n2, s2, A2, p2, a2⟩ := u
      go_wp2_with (at_builtin; refine wpList_append_lies _ rfl _ _ 22 rfl w.heap.size 24 i0 _ 4 56 Try.underlying22 hi hz0 hz1 hz2 rfl (by decide) _ acc.length (tcells acc) rfl (HK2.out.1.alloc _) ⟨w2.heap.size, 0, none⟩ 1 1 (Tm.cells (.mk k2 n2 s2 A2 p2 a2)) rfl rfl (tnews1 w2 (.mk k2 n2 s2 A2 p2 a2) _) (cells_one _) (by decide) (by unfold maxLen; omega) (by omega) (by simp; omega) _ rfl ?_; intro g cap w5 hown hg hat hglt)
      have HR5 := Lib.hid (HK2.out.next (u := .mk k2 n2 s2 A2 p2 a2) HU.out (below1 w2 _) hown hg hat)
      have HB5 : Below w.heap.size w w5 := (hbw2.alloc hbw2.size _).grown hg (by simp; omega) (fun k hk => (HOwn.out k hk).1)
      clear hown hg hat hglt
      go_wp2_with fail
      go_roundw
      case rel => exact ⟨j + 1, acc ++ [.mk k2 n2 s2 A2 p2 a2], _, by omega, by go_num, rfl, HR5, HS2, Lib.hid (by rw [List.length_append, HAc.out]; rfl), HB5⟩
      case measure => simp [intOf]; omega
    · obtain rfl : j = l.length := by omega
      have hK := HK.out
      obtain ⟨A', cz, hz, hcz⟩ := hK.form
      subst hz
      have HF := Lib.hid hK.lies
      have HE := Lib.hid (show stripL acc = stripL (rrL l (shiftV kk)) by rw [HS.out, List.take_length])
      rw [HAc.out]
      clear hK HK hlt HS hcz
      go_wp2_with fail
      go_ret
      exact ⟨A', cz, acc, rfl, HAc.out, HE.out, HF.out, hbw⟩

theorem Held.set1r {B : Nat} {w : World} {v0 v1 v2 v3 : Value} (h : Held B w v0 v1 v2 v3) (v : Value) : Held B (w.setCell ⟨B, 1, none⟩ v) v0 v v2 v3 := by
  have n : ∀ j, j ≠ 1 → (⟨B, 1, none⟩ : Addr) ≠ ⟨B, j, none⟩ := fun j hj e => by injection e with _ e _; omega
  refine ⟨by simpa [World.setCell] using h.lt, ?_, ?_, ?_, ?_, fun j => by rw [World.frozen?_setCell]; exact h.free j⟩
  · rw [World.cell?_setCell_other _ _ _ _ (n 0 (by omega))]; exact h.c0
  · exact World.cell?_setCell_same' _ _ _ (by rw [h.c1]; rfl)
  · rw [World.cell?_setCell_other _ _ _ _ (n 2 (by omega))]; exact h.c2
  · rw [World.cell?_setCell_other _ _ _ _ (n 3 (by omega))]; exact h.c3

set_option maxHeartbeats 4000000 in
theorem ref_shift_at (w0 : World) (kk : Int) (hk : Fits kk) (t : Tm) : t.At w0 → t.nodes ≤ 1000000 → ∀ w : World, Below w0.heap.size w0 w → Calls Try.prog 13 #[t.val, .int .i64 kk] w (RMade w0 (t.rr (shiftV kk)) w) := by
  induction t using Tm.induct with
  | h k n s A c a ih =>
    intro hat hnodes w hw
    show Calls Try.prog 13 #[.agg #[.int .i64 k, .int .i64 n, .string s, .slice A a.length c], .int .i64 kk] w _
    have HT := Lib.hid hat
    have HP := Lib.hid ((At_iff _ _).1 hat).1
    simp only [Tm.kind, Tm.num, Tm.name] at HP
    obtain ⟨HB0, HB1⟩ := two_boxes w (.int .i64 k) (.int .i64 n) (.string s) (.slice A a.length c) (.int .i64 0) (.int .i64 0) (.string ⟨#[]⟩) (.slice none 0 0) 24
    have H0 := Lib.hid HB0
    have H1 := Lib.hid HB1
    clear HB0 HB1
    by_cases k2 : k = 2
    · subst k2
      have hl : Lst w0 A a c := hat.lst
      have hna : nodesL a ≤ 1000000 := by simp only [Tm.nodes] at hnodes; omega
      have hln : a.length ≤ 1000000 := by have := length_le_nodes a; omega
      have Q1 := Lib.hid (fun W (h : Below w.heap.size w W) => ref_shift_terms_at w0 kk a A c W ((hl.below hw).below h) hln (fun x hx W' h' => ih x hx (hl.mem hx) (by have := nodes_mem hx; omega) W' (hw.trans ((h.trans (h'.mono h.size)).mono hw.size))))
      rw [rr_fun]
      clear hat ih hl hna hnodes hln hw HT
      go_enter Try.func13, Try.ntmps13
      go_wp2_with fail
      refine (Q1.out _ (below2 _ _ _)).mono ?_
      rintro e w3 ⟨A', cap, cur, rfl, hcl, hst, hL, hb3⟩
      have HK3 := Lib.hid (H0.out.below hb3)
      have HM3 := Lib.hid (H1.out.below hb3)
      have HB3 := Lib.hid ((below2 w (.cells #[.int .i64 2, .int .i64 n, .string s, .slice A a.length c] 24) zeroBox).trans (hb3.mono (by simp; omega)))
      obtain ⟨hz3, p0, p1, p2, p3, f⟩ := HK3.out
      obtain ⟨hz, e0, e1, e2, e3, f'⟩ := HM3.out
      have f3 := f 3
      have f0' := f' 0
      have f1' := f' 1
      have f2' := f' 2
      have f3' := f' 3
      have HL := Lib.hid (show ∀ W, From w0 W → Agree (w.heap.size + 2) No w3 W → Lst W A' cur cap from fun W h1 hW => hL W h1 fun b' h1 h2 h3 => hW b' (by simpa using h1) h2 h3)
      have HS := Lib.hid hst
      have HC := Lib.hid hcl
      clear f f' hL hst hcl hb3 Q1 H0 H1
      go_wp2_with fail
      refine bodyPost_ret (v := .agg #[.int .i64 2, .int .i64 n, .string s, .slice A' a.length cap]) (by simp [results, Try.results13, go_sem, e0, e1, e2, e3]) rfl ?_
      refine ⟨.mk 2 n s A' cap cur, by rw [← HC.out]; rfl, ?_, rlie_row (lo := w.heap.size + 2) HP.out (fun W hBW hW => HL.out W hBW fun b' h1 h2 h3 => ?_) (by omega), set4c (HB3.out.setCell (Nat.le_refl _) _) (Nat.le_succ _)⟩
      · simp only [Tm.strip, HS.out]
      · rw [hW b' h1 (by rw [size_set4]; simpa [World.setCell] using h2) h3, heap_set4 _ (by omega), Below.heap_setCell _ _ _ _ (by show b' ≠ w.heap.size; omega)]
    · have k2' : (k == 2) = false := by simpa using k2
      by_cases k1 : k = 1
      · subst k1
        have Q := Lib.hid (fun W => sum_at n kk HP.out.2.1 hk W)
        have HFG := Lib.hid (shiftV_fits (f := kk) HP.out.2.1)
        have HX := Lib.hid (fun W (h : From w0 W) => show (Tm.mk 1 (shiftV kk n) s A c a).At W from (At_iff _ _).2 ⟨⟨HP.out.1, HFG.out, HP.out.2.2⟩, (HT.out.below h).lst⟩)
        rw [rr_var]
        generalize shiftV kk n = m at *
        clear hat ih hnodes hw HT k2 k2'
        go_enter Try.func13, Try.ntmps13
        go_wp2_with fail
        refine (Q.out _).mono ?_
        rintro e w1 ⟨rfl, hb2⟩
        have HKa := Lib.hid (H0.out.below hb2)
        have HM := Lib.hid (H1.out.below hb2)
        have HB := Lib.hid (((below2 w (.cells #[.int .i64 1, .int .i64 n, .string s, .slice A a.length c] 24) zeroBox).trans (hb2.mono (by simp; omega))).setCell (p := ⟨w.heap.size, 1, none⟩) (Nat.le_refl _) (.int .i64 m))
        obtain ⟨hz0, d0, d1, d2, d3, f⟩ := HKa.out
        obtain ⟨hz, e0, e1, e2, e3, f'⟩ := HM.out
        have f1 := f 1
        have f0' := f' 0
        have f1' := f' 1
        have f2' := f' 2
        have f3' := f' 3
        clear f f' hb2 H0 H1
        go_wp2_with fail
        refine bodyPost_ret (v := .agg #[.int .i64 1, .int .i64 m, .string s, .slice A a.length c]) (by simp [results, Try.results13, go_sem, e0, e1, e2, e3]) rfl ?_
        exact ⟨.mk 1 m s A c a, rfl, rfl, Lie.any HX.out, set4c HB.out (Nat.le_succ _)⟩
      · have k1' : (k == 1) = false := by simpa using k1
        rw [rr_else _ _ _ _ _ _ k1 k2]
        have HM := H1.out
        obtain ⟨hz, e0, e1, e2, e3, f'⟩ := HM
        have f0' := f' 0
        have f1' := f' 1
        have f2' := f' 2
        have f3' := f' 3
        have H0o := H0.out
        obtain ⟨_, p0, p1, p2, p3, _⟩ := H0o
        clear hat ih hnodes k1 k2 hw f'
        go_enter Try.func13, Try.ntmps13
        go_wp2_with fail
        refine bodyPost_ret (v := .agg #[.int .i64 k, .int .i64 n, .string s, .slice A a.length c]) (by simp [results, Try.results13, go_sem]) rfl ?_
        exact ⟨.mk k n s A c a, rfl, rfl, Lie.any fun W hW => HT.out.below hW, below2 _ _ _⟩

set_option maxHeartbeats 400000 in
theorem place_at (A : Option Addr) (l : List Int) (c : Nat) (n : Int) (w : World) (hI : Ints w A l) (hlen : l.length ≤ 1000000) :
    Calls Try.prog 73 #[.slice A l.length c, .int .i64 n] w fun e w' => e = .returned (.int .i64 (place l n)) ∧ w = w' := by
  go_enter Try.func73, Try.ntmps73
  go_wp2
  go_loop [5] (fun i => ∃ j : Nat, j ≤ l.length ∧ i = .int .i64 j ∧ Hid (n ∉ l.take j)) (fun i => l.length - (intOf i).toNat)
  case atStart => exact ⟨0, Nat.zero_le _, rfl, Lib.hid (by simp)⟩
  case round =>
    obtain ⟨j, hj, rfl, HN⟩ := hrel
    by_cases hlt : j < l.length
    · obtain ⟨b, o, rfl, hc⟩ := hI.get hlt
      have HT := Lib.hid (take_int hlt)
      have HM := Lib.hid (fun (h : l.getD j 0 = n) => show place l n = (j : Int) from by
        unfold place
        have e : l = l.take j ++ (n :: l.drop (j + 1)) := by
          rw [← h]
          conv => lhs; rw [← List.take_append_drop (j + 1) l, take_int hlt, List.append_assoc]
          rfl
        rw [e, List.idxOf_append, if_neg HN.out]
        simp
        omega)
      generalize l.getD j 0 = x at *
      by_cases hx : x = n
      · have HE := Lib.hid (HM.out hx)
        subst hx
        go_wp2
        go_ret
        exact ⟨by rw [HE.out]; rfl, rfl⟩
      · have hx' : (x == n) = false := by simpa using hx
        have HN' := Lib.hid (show n ∉ l.take (j + 1) by
          rw [HT.out, List.mem_append, List.mem_singleton]
          exact fun h => h.elim HN.out (fun e => hx e.symm))
        clear hx
        go_wp2
        go_round
        case rel => exact ⟨j + 1, by omega, by go_num, HN'⟩
        case measure => simp [intOf]; omega
    · obtain rfl : j = l.length := by omega
      have HE := Lib.hid (show place l n = (l.length : Int) by
        have := HN.out
        rw [List.take_length] at this
        unfold place
        rw [List.idxOf_eq_length this])
      go_wp2
      go_ret
      exact ⟨by rw [HE.out]; rfl, rfl⟩
end Go.Proofs.Ytpnjjahimhhjkaa
