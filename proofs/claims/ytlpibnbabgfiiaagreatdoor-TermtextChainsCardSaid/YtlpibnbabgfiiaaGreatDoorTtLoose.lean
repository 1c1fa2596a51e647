/-
  The contract of loose.
-/
import Derived.Test.YtlpibnbabgfiiaaGreatDoorTtText
import Derived.Test.YtlpibnbabgfiiaaGreatDoorNmLab
namespace Go.Proofs.YtlpibnbabgfiiaaGreatDoor
open Go.RowKit

/-- What loose makes of a byte. -/
def lo (c : UInt8) : List UInt8 := if c = 40 ∨ c = 41 then [32, c, 32, 32] else if c = 44 then [32, 44] else [c]
def looseB (l : List UInt8) : List UInt8 := l.flatMap lo
theorem lo_len (c : UInt8) : (lo c).length ≤ 4 := by unfold lo; split; · simp
                                                     · split <;> simp
theorem loose_len (l : List UInt8) : (looseB l).length ≤ 4 * l.length := by
  induction l with
  | nil => simp [looseB]
  | cons c r ih =>
    have := lo_len c
    simp only [looseB, List.flatMap_cons, List.length_append, List.length_cons] at ih ⊢
    omega
theorem loose_next (s : ByteArray) {j : Nat} (h : j < s.size) : looseB (s.data.toList.take (j + 1)) = looseB (s.data.toList.take j) ++ lo s[j] := by
  have hj : j < s.data.toList.length := by rw [len_str]; exact h
  rw [List.take_succ_eq_append_getElem hj, looseB, List.flatMap_append]
  have hx : s.data.toList[j] = s[j] := by rw [Array.getElem_toList]; rfl
  simp only [List.flatMap_cons, List.flatMap_nil, List.append_nil, hx]
  rfl
theorem u8_info : (Tryz.prog.info? 5).map (fun i => (i.zero, i.size, i.bytes)) = some (some (.int .u8 0), 1, 1) := by kernel_rfl
/-- What holds at the head of the loop. -/
def LooseRow (w : World) (l : List UInt8) (z : Value) (wr : World) : Prop := wr.ownsRow w.heap.size 5 1 z l.length (bcells l) ∧ Below w.heap.size w wr
theorem LooseRow.lies {w wr : World} {l : List UInt8} {z : Value} (h : LooseRow w l z wr) : ∃ A c, z = .slice A l.length c ∧ Lies wr A l := by
  rcases h.1.2 with ⟨rfl, h0⟩ | ⟨g, cap, cur, rfl, _, _, _, _, _, _⟩
  · obtain rfl : l = [] := List.length_eq_zero_iff.1 h0
    exact ⟨none, 0, rfl, Lies.nil _ _⟩
  · exact ⟨_, cap, rfl, Lies.mk fun i hi => by
      have := World.ownsRow.cellAt h.1 i (by rw [Nat.mul_one]; exact hi)
      rw [this, bcells_get hi]⟩

set_option maxHeartbeats 4000000 in
set_option maxRecDepth 10000 in
theorem loose_at (s : ByteArray) (w : World) (hs : s.size ≤ 100000000) :
    Calls Tryz.prog 25 #[.string s] w fun e w' => e = .returned (.string (S (looseB s.data.toList))) ∧ Below w.heap.size w w' := by
  obtain ⟨i0, hi, hz0, hz1, hz2⟩ := info_parts u8_info
  have hs' : s.size ≤ 9223372036854775807 := by omega
  have HLen := Lib.hid (fun j => (show (looseB (s.data.toList.take j)).length ≤ 400000000 by
    have h1 := loose_len (s.data.toList.take j)
    have h2 := List.length_take_le j s.data.toList
    have h3 := len_str s
    rw [List.length_take] at h1
    omega))
  have H0 := Lib.hid (show LooseRow w (looseB (s.data.toList.take 0)) (.slice none 0 0) w from ⟨⟨rfl, .inl ⟨rfl, rfl⟩⟩, Below.refl _ _⟩)
  go_enter Tryz.func25, Tryz.ntmps25
  go_wp2_with fail
  go_loopw [3, 4] (fun z i wr => ∃ (j : Nat) (x : Value), j ≤ s.size ∧ i = .int .i64 j ∧ z = x ∧ Hid (LooseRow w (looseB (s.data.toList.take j)) x wr)) (fun _ i _ => s.size - (intOf i).toNat)
  case atStart => exact ⟨0, _, Nat.zero_le _, rfl, rfl, H0⟩
  case round =>
    clear H0
    obtain ⟨j, z, hj, rfl, hzx, hI⟩ := hrel
    have hzx' := hzx.symm
    clear hzx
    subst hzx'
    by_cases hlt : j < s.size
    · have HN := Lib.hid (loose_next s hlt)
      have hl1 := HLen.out j
      have hl2 := HLen.out (j + 1)
      have hsz : w.heap.size ≤ wr.heap.size := hI.out.2.size
      obtain ⟨y, hy⟩ : ∃ y, looseB (s.data.toList.take j) = y := ⟨_, rfl⟩
      rw [hy] at hI HN hl1
      have HOwn := Lib.hid (own_lt' hI.out.1)
      obtain ⟨c, hc⟩ : ∃ c, s[j] = c := ⟨_, rfl⟩
      rw [hc] at HN
      clear hy
      by_cases h40 : c = 40
      · subst h40
        have HN' := Lib.hid (show looseB (s.data.toList.take (j + 1)) = y ++ [32, 40, 32, 32] from HN.out)
        go_wp2_with (at_builtin; refine wpList_append_lies _ rfl _ _ 78 rfl w.heap.size 5 i0 _ 1 1 Tryz.underlying78 hi hz0 hz1 hz2 rfl (by decide) z y.length (bcells y) rfl (hI.out.1.alloc _) ⟨wr.heap.size, 0, none⟩ 4 4 (bcells [32, 40, 32, 32]) rfl rfl (World.news_of_block (cs := (bcells [32, 40, 32, 32]).toArray) (t := 5) (fr := (0, 0)) (heap_alloc_new wr _)) (bcells_one _) (by decide) (by unfold maxLen; omega) (by omega) (by simp; omega) _ rfl ?_; intro g cap w4 hown hg hat hglt)
        have HR := Lib.hid (show LooseRow w (looseB (s.data.toList.take (j + 1))) (.slice (some ⟨g, 0, none⟩) (y.length + 4) cap) w4 from ⟨by rw [HN'.out, List.length_append, bcells_append]; exact hown, (hI.out.2.alloc hsz _).grown hg (by simp; omega) (fun k h => (HOwn.out k h).1)⟩)
        clear hown hg hat hglt
        go_wp2_with fail
        go_roundw
        case rel => exact ⟨j + 1, _, by omega, by go_num, rfl, HR⟩
        case measure => simp [intOf]; omega
      by_cases h41 : c = 41
      · subst h41
        have HN' := Lib.hid (show looseB (s.data.toList.take (j + 1)) = y ++ [32, 41, 32, 32] from HN.out)
        go_wp2_with (at_builtin; refine wpList_append_lies _ rfl _ _ 78 rfl w.heap.size 5 i0 _ 1 1 Tryz.underlying78 hi hz0 hz1 hz2 rfl (by decide) z y.length (bcells y) rfl (hI.out.1.alloc _) ⟨wr.heap.size, 0, none⟩ 4 4 (bcells [32, 41, 32, 32]) rfl rfl (World.news_of_block (cs := (bcells [32, 41, 32, 32]).toArray) (t := 5) (fr := (0, 0)) (heap_alloc_new wr _)) (bcells_one _) (by decide) (by unfold maxLen; omega) (by omega) (by simp; omega) _ rfl ?_; intro g cap w4 hown hg hat hglt)
        have HR := Lib.hid (show LooseRow w (looseB (s.data.toList.take (j + 1))) (.slice (some ⟨g, 0, none⟩) (y.length + 4) cap) w4 from ⟨by rw [HN'.out, List.length_append, bcells_append]; exact hown, (hI.out.2.alloc hsz _).grown hg (by simp; omega) (fun k h => (HOwn.out k h).1)⟩)
        clear hown hg hat hglt
        go_wp2_with fail
        go_roundw
        case rel => exact ⟨j + 1, _, by omega, by go_num, rfl, HR⟩
        case measure => simp [intOf]; omega
      by_cases h44 : c = 44
      · subst h44
        have HN' := Lib.hid (show looseB (s.data.toList.take (j + 1)) = y ++ [32, 44] from HN.out)
        go_wp2_with (at_builtin; refine wpList_append_lies _ rfl _ _ 78 rfl w.heap.size 5 i0 _ 1 1 Tryz.underlying78 hi hz0 hz1 hz2 rfl (by decide) z y.length (bcells y) rfl (hI.out.1.alloc _) ⟨wr.heap.size, 0, none⟩ 2 2 (bcells [32, 44]) rfl rfl (World.news_of_block (cs := (bcells [32, 44]).toArray) (t := 5) (fr := (0, 0)) (heap_alloc_new wr _)) (bcells_one _) (by decide) (by unfold maxLen; omega) (by omega) (by simp; omega) _ rfl ?_; intro g cap w4 hown hg hat hglt)
        have HR := Lib.hid (show LooseRow w (looseB (s.data.toList.take (j + 1))) (.slice (some ⟨g, 0, none⟩) (y.length + 2) cap) w4 from ⟨by rw [HN'.out, List.length_append, bcells_append]; exact hown, (hI.out.2.alloc hsz _).grown hg (by simp; omega) (fun k h => (HOwn.out k h).1)⟩)
        clear hown hg hat hglt
        go_wp2_with fail
        go_roundw
        case rel => exact ⟨j + 1, _, by omega, by go_num, rfl, HR⟩
        case measure => simp [intOf]; omega
      · have HN' := Lib.hid (show looseB (s.data.toList.take (j + 1)) = y ++ [c] by rw [HN.out, lo, if_neg (by simp [h40, h41]), if_neg h44])
        have n40 : ((c.toNat : Int) == 40) = false := by rw [beq_eq_false_iff_ne]; intro h; exact h40 (UInt8.toNat_inj.1 (by show c.toNat = _; simp only [UInt8.reduceToNat]; omega))
        have n41 : ((c.toNat : Int) == 41) = false := by rw [beq_eq_false_iff_ne]; intro h; exact h41 (UInt8.toNat_inj.1 (by show c.toNat = _; simp only [UInt8.reduceToNat]; omega))
        have n44 : ((c.toNat : Int) == 44) = false := by rw [beq_eq_false_iff_ne]; intro h; exact h44 (UInt8.toNat_inj.1 (by show c.toNat = _; simp only [UInt8.reduceToNat]; omega))
        go_wp2_with (at_builtin; refine wpList_append_lies _ rfl _ _ 78 rfl w.heap.size 5 i0 _ 1 1 Tryz.underlying78 hi hz0 hz1 hz2 rfl (by decide) z y.length (bcells y) rfl (hI.out.1.alloc _) ⟨wr.heap.size, 0, none⟩ 1 1 (bcells [c]) rfl rfl (World.news_of_block (cs := (bcells [c]).toArray) (t := 5) (fr := (0, 0)) (heap_alloc_new wr _)) (bcells_one _) (by decide) (by unfold maxLen; omega) (by omega) (by simp; omega) _ rfl ?_; intro g cap w4 hown hg hat hglt)
        have HR := Lib.hid (show LooseRow w (looseB (s.data.toList.take (j + 1))) (.slice (some ⟨g, 0, none⟩) (y.length + 1) cap) w4 from ⟨by rw [HN'.out, List.length_append, bcells_append]; exact hown, (hI.out.2.alloc hsz _).grown hg (by simp; omega) (fun k h => (HOwn.out k h).1)⟩)
        clear hown hg hat hglt
        go_wp2_with fail
        go_roundw
        case rel => exact ⟨j + 1, _, by omega, by go_num, rfl, HR⟩
        case measure => simp [intOf]; omega
    · obtain rfl : j = s.size := by omega
      have HV := Lib.hid (show looseB (s.data.toList.take s.size) = looseB s.data.toList by rw [List.take_of_length_le (by rw [len_str]; omega)])
      obtain ⟨A, c, rfl, hl⟩ := hI.out.lies
      have hcv := hl.str (P := Tryz.prog) c Tryz.underlying78 Tryz.underlying5 Tryz.underlying9
      clear hl
      go_wp2_with fail
      go_ret
      exact ⟨ret_str (by rw [HV.out]), hI.out.2⟩
end Go.Proofs.YtlpibnbabgfiiaaGreatDoor
