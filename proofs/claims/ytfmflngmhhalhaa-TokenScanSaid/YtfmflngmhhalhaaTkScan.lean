/-
  The contract of Scan of the program.
-/
import Derived.Test.YtfmflngmhhalhaaTkMem
import Derived.Deep.AppendSrc
import Derived.WalkSpells
namespace Go.Proofs.Ytfmflngmhhalhaa
open Go.RowKit

/-- The answer of Scan of either side. -/
def ScanR (s : ByteArray) (w : World) (e : Ending) (w' : World) : Prop :=
  ∃ A c, e = .returned (.tuple #[.slice A (scanP s).1.length c, .int .i64 ((scanP s).2.1 : Int), .int .i64 (scanP s).2.2]) ∧ TLst w' A (scanP s).1 c ∧ Below w.heap.size w w'
theorem RowK.alloc2 {lo : Nat} {w : World} {z : Value} {acc : List Tk} (h : RowK lo w z acc) (o o' : Obj) : ((w.alloc o).alloc o').ownsRow lo 24 3 z acc.length (kcells acc) := World.ownsRow.alloc (World.ownsRow.alloc h _) _
theorem knews2 (w : World) (o : Obj) (u : Tk) (T : TypeId) : ∀ j v, (tokC u)[j]? = some v → ((w.alloc o).alloc (.cells #[.int .i64 u.1, .int .i64 (u.2.1 : Int), .string (S u.2.2)] T)).cell? ((⟨w.heap.size + 1, 0, none⟩ : Addr).add j) = some v := by
  have := knews1 (w.alloc o) u T
  rwa [World.size_alloc] at this
theorem far_cell {w w5 : World} {v0 v1 v2 : Value} {T : TypeId} {o : Obj} {row : Option Nat} (hg : ((w.alloc (.cells #[v0, v1, v2] T)).alloc o).grownBy w5 row) (hr : ∀ k, row = some k → k < w.heap.size) : w5.cell? ⟨w.heap.size, 0, none⟩ = some v0 := by
  rw [hg.cell_far _ (by simp; omega) (fun e => Nat.lt_irrefl _ (hr _ e.symm)), (below1 (w.alloc (.cells #[v0, v1, v2] T)) o).cell (p := ⟨w.heap.size, 0, none⟩) (by simp), World.cell?_alloc_at _ _ _ _ rfl]
  rfl
theorem ScanR.err {s : ByteArray} {w w' : World} {q : Nat} {er : Int} (h : scanP s = ([], q, er)) (hb : Below w.heap.size w w') : ScanR s w (.returned (.tuple #[.slice none 0 0, .int .i64 (q : Int), .int .i64 er])) w' :=
  ⟨none, 0, by rw [h]; rfl, by rw [h]; exact TLst.nil _, hb⟩
theorem ScanR.ok {s : ByteArray} {w w' : World} {lo n cap : Nat} {A : Option Addr} {l : List Tk} (h : scanP s = (l, 0, 0)) (hr : RowK lo w' (.slice A n cap) l) (hn : n = l.length) (hb : Below w.heap.size w w') : ScanR s w (.returned (.tuple #[.slice A n cap, .int .i64 0, .int .i64 0])) w' :=
  ⟨A, cap, by rw [h, hn]; rfl, by rw [h]; exact hr.lies, hb⟩

/-- Within the loop: what was found, and what is still to come. -/
structure Scanning (s : ByteArray) (w : World) (z : Value) (p : Nat) (n : Nat) (acc : List Tk) (wr : World) : Prop where
  row : RowK w.heap.size wr z acc
  all : fin acc (toksAt s n p) = scanP s
  le : p ≤ s.size
  time : s.size < p + n
  len : acc.length + n ≤ s.size + 1
  below : Below w.heap.size w wr

set_option maxHeartbeats 2000000 in
theorem scan_big (s : ByteArray) (w : World) (hs : s.size ≤ 100000) (hbig : 16384 < s.size) :
    Calls Try.prog 13 #[.string s] w (ScanR s w) := by
  have QN := Lib.hid (fun W => next_at s 0 W hs)
  rw [show nextP s 0 = ((0, 0, []), 0, 6) by unfold nextP; rw [if_neg (by omega), if_pos hbig]] at QN
  have HV := Lib.hid (show scanP s = ([], 0, 6) by unfold scanP; rw [if_pos hbig])
  go_enter Try.func13, Try.ntmps13
  go_wp2_with fail
  go_loopw [6] (fun i wr => i = .int .i64 0 ∧ Hid (Below w.heap.size w wr)) (fun i _ => 0)
  case atStart => exact ⟨rfl, Lib.hid (Below.refl _ _)⟩
  case round =>
    obtain ⟨rfl, HB⟩ := hrel
    go_wp2_with fail
    refine (QN.out _).mono ?_
    rintro e w2 ⟨rfl, hb2⟩
    have HB2 := Lib.hid (show Below w.heap.size w (w2.alloc (.cells #[.int .i64 0, .int .i64 0, .string (S [])] 24)) from (HB.out.trans (hb2.mono HB.out.size)).alloc (Nat.le_trans HB.out.size hb2.size) _)
    clear hb2
    go_wp2_with fail
    exact bodyPost_ret (v := .tuple #[.slice none 0 0, .int .i64 0, .int .i64 6]) (by simp [results, Try.results13, go_sem]) rfl (ScanR.err HV.out HB2.out)

set_option maxHeartbeats 4000000 in
theorem scan_inside (s : ByteArray) (w : World) (hs : s.size ≤ 16384) :
    Calls Try.prog 13 #[.string s] w (ScanR s w) := by
  have QN := Lib.hid (fun (p : Nat) W (hp : p ≤ s.size) => next_in s p W hs hp)
  obtain ⟨i0, hi, hz0, hz1, hz2⟩ := info_parts token_info
  have HS := Lib.hid (show fin [] (toksAt s (s.size + 1) 0) = scanP s by rw [fin_nil]; unfold scanP; rw [if_neg (by omega)])
  go_enter Try.func13, Try.ntmps13
  go_wp2_with fail
  go_loopw [5, 6] (fun z i wr => ∃ (p n : Nat) (acc : List Tk) (x : Value), p ≤ s.size ∧ i = .int .i64 (p : Int) ∧ z = x ∧ Hid (Scanning s w x p n acc wr)) (fun _ i _ => s.size + 1 - (intOf i).toNat)
  case atStart => exact ⟨0, s.size + 1, [], _, Nat.zero_le _, rfl, rfl, Lib.hid ⟨RowK.nil _ _, HS.out, Nat.zero_le _, by omega, by simp, Below.refl _ _⟩⟩
  case round =>
    obtain ⟨p, n, acc, z, hp, rfl, hz, HK⟩ := hrel
    have hz' := hz.symm
    subst hz'
    clear hz
    have Q := Lib.hid (fun W => QN.out p W hp)
    generalize hx : tokAt s p = x at Q
    obtain ⟨⟨k, at_, t⟩, m, er⟩ := x
    have HX := Lib.hid hx
    clear hx
    obtain ⟨K1, K2, K3, K4, K5, K6⟩ := HK.out
    obtain ⟨n, rfl⟩ : ∃ n', n = n' + 1 := ⟨n - 1, by omega⟩
    have hacl : acc.length ≤ 16385 := by omega
    by_cases her : er = 0
    · subst her
      obtain ⟨t1, t2, t3, t4, t5, t6, _⟩ := tokAt_facts hp (by rw [HX.out])
      rw [HX.out] at t1 t2 t4 t5 t6
      have HT : Hid (k ≠ 0 → p < m) := Lib.hid (fun h => by have := t5 h; simp only at t1 t2 this; omega)
      have hm : m ≤ s.size := t4
      go_wp2_with fail
      refine (Q.out _).mono ?_
      rintro e w2 ⟨rfl, hb2⟩
      have hbw2 := K6.trans (hb2.mono K6.size)
      have HK2 := Lib.hid (K1.below hb2)
      have HOwn := Lib.hid (own_lt HK2.out)
      have hlo := hbw2.size
      have HE : Hid (k = 0 → scanP s = (acc ++ [(k, at_, t)], 0, 0)) := Lib.hid (fun h => by
        rw [← K2, fin_end acc (by rw [HX.out]) (by rw [HX.out]; exact h), HX.out])
      have HN : Hid (k ≠ 0 → fin (acc ++ [(k, at_, t)]) (toksAt s n m) = scanP s) := Lib.hid (fun h => by
        rw [← K2, fin_next acc (by rw [HX.out]) (by rw [HX.out]; exact h), HX.out])
      clear t1 t2 t4 t5 t6 hb2 K1 K2 K6 HX Q HK
      by_cases hk : k = 0
      · subst hk
        go_wp2_with (at_builtin; refine wpList_append_lies _ rfl _ _ 30 rfl w.heap.size 24 i0 _ 3 32 Try.underlying30 hi hz0 hz1 hz2 rfl (by decide) _ acc.length (kcells acc) rfl (HK2.out.alloc2 _ _) ⟨w2.heap.size + 1, 0, none⟩ 1 1 (tokC (0, at_, t)) rfl rfl (knews2 w2 _ (0, at_, t) _) (kcells_one _) (by decide) (by unfold maxLen; omega) (by omega) (by simp; omega) _ rfl ?_; intro g cap w5 hown hg hat hglt; have d0 := far_cell hg (fun k hk => (HOwn.out k hk).2); have HR5 := Lib.hid (RowK.next (u := (0, at_, t)) hown); have HB5 := Lib.hid (show Below w.heap.size w w5 from ((hbw2.alloc hbw2.size _).alloc (by simp; omega) _).grown hg (by simp; omega) (fun k hk => (HOwn.out k hk).1)); clear hown hg hat hglt)
        exact bodyPost_ret (v := .tuple #[.slice (some ⟨g, 0, none⟩) (acc.length + 1) cap, .int .i64 0, .int .i64 0]) (by simp [results, Try.results13, go_sem]) rfl (ScanR.ok (HE.out trivial) HR5.out (by simp) HB5.out)
      · have hk' : (k == 0) = false := by simpa using hk
        have HT2 := Lib.hid (HT.out hk)
        have HN2 := Lib.hid (HN.out hk)
        clear hk HT HN HE
        go_wp2_with (at_builtin; refine wpList_append_lies _ rfl _ _ 30 rfl w.heap.size 24 i0 _ 3 32 Try.underlying30 hi hz0 hz1 hz2 rfl (by decide) _ acc.length (kcells acc) rfl (HK2.out.alloc2 _ _) ⟨w2.heap.size + 1, 0, none⟩ 1 1 (tokC (k, at_, t)) rfl rfl (knews2 w2 _ (k, at_, t) _) (kcells_one _) (by decide) (by unfold maxLen; omega) (by omega) (by simp; omega) _ rfl ?_; intro g cap w5 hown hg hat hglt; have d0 := far_cell hg (fun k hk => (HOwn.out k hk).2); have HR5 := Lib.hid (RowK.next (u := (k, at_, t)) hown); have HB5 := Lib.hid (show Below w.heap.size w w5 from ((hbw2.alloc hbw2.size _).alloc (by simp; omega) _).grown hg (by simp; omega) (fun k hk => (HOwn.out k hk).1)); clear hown hg hat hglt)
        have hpm := HT2.out
        go_roundw
        case rel => exact ⟨m, n, acc ++ [(k, at_, t)], _, hm, rfl, rfl, Lib.hid ⟨HR5.out, HN2.out, hm, by omega, by rw [List.length_append]; simp; omega, HB5.out⟩⟩
        case measure => simp [intOf]; omega
    · have HV := Lib.hid (show scanP s = ([], m, er) by rw [← K2, fin_err acc (by rw [HX.out]; exact her), HX.out])
      have her' : (er != 0) = true := by simpa using her
      go_wp2_with fail
      refine (Q.out _).mono ?_
      rintro e w2 ⟨rfl, hb2⟩
      have HB2 := Lib.hid (fun o => (K6.trans (hb2.mono K6.size)).alloc (Nat.le_trans K6.size hb2.size) o)
      clear hb2 K1 K2 K6 HX HK Q her
      go_wp2_with fail
      exact bodyPost_ret (v := .tuple #[.slice none 0 0, .int .i64 (m : Int), .int .i64 er]) (by simp [results, Try.results13, go_sem]) rfl (ScanR.err HV.out (HB2.out _))
theorem scan_at (s : ByteArray) (w : World) (hs : s.size ≤ 100000) : Calls Try.prog 13 #[.string s] w (ScanR s w) := by
  by_cases h : 16384 < s.size
  · exact scan_big s w hs h
  · exact scan_inside s w (by omega)
end Go.Proofs.Ytfmflngmhhalhaa
