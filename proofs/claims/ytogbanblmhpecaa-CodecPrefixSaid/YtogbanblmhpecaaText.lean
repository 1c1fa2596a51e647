/-
  Contracts of the codec's Text and Bool, and of bytes.Equal and bytes.HasPrefix.
-/
import Derived.Test.YtogbanblmhpecaaGet
import Derived.WalkSpells
namespace Go.Proofs.Ytogbanblmhpecaa
open Go.RowKit

theorem int_at (A : Option Addr) (l : List UInt8) (c : Nat) (at_ low high : Int) (w : World) (hl : Lies w A l) (hb : l.length ≤ 140737488355328) (hcap : l.length ≤ c) {n nx e0 : Int} (hr : intE l at_ low high = (n, nx, e0)) :
    Calls Try.prog 15 #[.slice A l.length c, .int .i64 at_, .int .i64 low, .int .i64 high] w fun e w' => e = .returned (.tuple #[.int .i64 n, .int .i64 nx, .int .i64 e0]) ∧ w = w' := by
  refine (int_any A l c at_ low high w hl hb hcap).mono fun e w' h => ?_
  rw [hr] at h
  exact h

/-- What is read without an error lies between the offset and the end. -/
theorem intE_ok {l : List UInt8} {at_ low high n nx : Int} (h : intE l at_ low high = (n, nx, 0)) :
    ∃ k s : Nat, at_ = (k : Int) ∧ nx = ((k + s : Nat) : Int) ∧ 1 ≤ s ∧ k + s ≤ l.length ∧ low ≤ n ∧ n ≤ high ∧ enc (zig n) = (l.drop k).take s ∧ -9223372036854775808 ≤ n ∧ n ≤ 9223372036854775807 ∧ s = (enc (zig n)).length := by
  unfold intE at h
  by_cases h1 : at_ < 0 ∨ (l.length : Int) < at_ ∨ high < low
  · rw [if_pos h1] at h; simp at h
  rw [if_neg h1] at h
  by_cases h2 : (rd 0 0 (l.drop at_.toNat)).2.2 ≠ 0
  · rw [if_pos h2] at h
    simp only [Prod.mk.injEq] at h
    exact absurd h.2.2 h2
  rw [if_neg h2] at h
  by_cases h3 : zag (rd 0 0 (l.drop at_.toNat)).1 < low ∨ high < zag (rd 0 0 (l.drop at_.toNat)).1
  · rw [if_pos h3] at h; simp at h
  rw [if_neg h3] at h
  simp only [Prod.mk.injEq] at h
  obtain ⟨h4, h5, -⟩ := h
  obtain ⟨u, s, e0, hr⟩ : ∃ u s e0, rd 0 0 (l.drop at_.toNat) = (u, s, e0) := ⟨_, _, _, rfl⟩
  rw [hr] at h2 h3 h4 h5
  simp only at h2 h3 h4 h5
  obtain rfl : e0 = 0 := by omega
  obtain ⟨q1, q2, q3, q4, q5⟩ := rd_ok0 hr
  rw [List.length_drop] at q5
  have hz : zig n = u := by rw [← h4, zig_zag]
  have hbd := zag_bd q3
  refine ⟨at_.toNat, s, by omega, by omega, q4, by omega, by omega, by omega, by rw [hz]; exact q2, by omega, by omega, by rw [hz]; exact q1⟩
theorem intE_err {l : List UInt8} {at_ low high n nx e : Int} (h : intE l at_ low high = (n, nx, e)) (he : e ≠ 0) : n = 0 ∧ nx = 0 := by
  unfold intE at h
  repeat' split at h
  all_goals simp only [Prod.mk.injEq] at h
  all_goals omega

/-- What Text answers: the bytes of the string, the offset behind it, the code of the error. -/
def textE (l : List UInt8) (at_ most : Int) : List UInt8 × Int × Int :=
  if (intE l at_ 0 most).2.2 ≠ 0 then ([], 0, (intE l at_ 0 most).2.2)
  else if (l.length : Int) - (intE l at_ 0 most).2.1 < (intE l at_ 0 most).1 then ([], 0, 4)
  else ((l.drop (intE l at_ 0 most).2.1.toNat).take (intE l at_ 0 most).1.toNat, (intE l at_ 0 most).2.1 + (intE l at_ 0 most).1, 0)
def textV (r : List UInt8 × Int × Int) : Value := .tuple #[.string ⟨r.1.toArray⟩, .int .i64 r.2.1, .int .i64 r.2.2]

set_option maxHeartbeats 1000000 in
theorem text_any (A : Option Addr) (l : List UInt8) (c : Nat) (at_ most : Int) (w : World) (hl : Lies w A l) (hb : l.length ≤ 140737488355328) (hcap : l.length ≤ c) :
    Calls Try.prog 16 #[.slice A l.length c, .int .i64 at_, .int .i64 most] w fun e w' => e = .returned (textV (textE l at_ most)) ∧ w = w' := by
  obtain ⟨n, nx, e0, hr⟩ : ∃ n nx e0, intE l at_ 0 most = (n, nx, e0) := ⟨_, _, _, rfl⟩
  have hin : textE l at_ most = if e0 ≠ 0 then ([], 0, e0) else if (l.length : Int) - nx < n then ([], 0, 4) else ((l.drop nx.toNat).take n.toNat, nx + n, 0) := by
    unfold textE
    rw [hr]
  have HIN := Lib.hid hin
  have hc := int_at A l c at_ 0 most w hl hb hcap hr
  have HC := Lib.hid hc
  clear hin hc
  by_cases h3 : e0 = 0
  · subst h3
    obtain ⟨k, s, -, rfl, h1, h2, h4, -, -, -, h5, -⟩ := intE_ok hr
    obtain ⟨m, rfl⟩ : ∃ m : Nat, n = (m : Int) := ⟨n.toNat, by omega⟩
    have hks : k + s ≤ l.length := h2
    obtain ⟨st, hst⟩ : ∃ st, st = k + s := ⟨_, rfl⟩
    rw [← hst] at HIN HC hks
    clear hr hst h1 h2 h4
    by_cases h6 : (l.length : Int) - (st : Int) < (m : Int)
    · go_enter Try.func16, Try.ntmps16
      go_wp2_with (go_at_call 15; refine HC.out.mono ?_; rintro e w' ⟨rfl, rfl⟩)
      go_ret3
      exact ⟨by rw [HIN.out, if_neg (by simp), if_pos h6]; rfl, rfl⟩
    · have hsm : st + m ≤ l.length := by omega
      have h6' : (m : Int) ≤ (l.length : Int) - (st : Int) := by omega
      obtain ⟨S, hS⟩ : ∃ S : ByteArray, S = ⟨((l.drop st).take m).toArray⟩ := ⟨_, rfl⟩
      have hml : ((l.drop st).take m).length = m := by simp; omega
      have HS := Lib.hid hS
      have hfin : textV (textE l at_ most) = .tuple #[.string S, .int .i64 ((st : Int) + (m : Int)), .int .i64 0] := by rw [HIN.out, if_neg (by simp), if_neg h6, hS]; rfl
      have HF := Lib.hid hfin
      by_cases hcs : c = st
      · have hconv : (convert 22 9 (.slice A m 0)).run Try.prog w = .ok (.string S) w := by
          have hlt : Lies w A ((l.drop st).take m) := (Lies.cut1 (by omega)).take m
          have := hlt.str (P := Try.prog) 0 Try.underlying22 Try.underlying5 Try.underlying9
          rw [hml, ← hS] at this
          exact this
        subst hcs
        clear hS hml hfin
        go_enter Try.func16, Try.ntmps16
        go_wp2_with (go_at_call 15; refine HC.out.mono ?_; rintro e w' ⟨rfl, rfl⟩)
        go_ret3
        exact ⟨by rw [HF.out]; rfl, rfl⟩
      · have hconv : (convert 22 9 (.slice (Option.map (fun x => x.add st) A) m (c - st))).run Try.prog w = .ok (.string S) w := by
          have hlt : Lies w (Option.map (fun x => x.add st) A) ((l.drop st).take m) := (hl.cut2 st).take m
          have := hlt.str (P := Try.prog) (c - st) Try.underlying22 Try.underlying5 Try.underlying9
          rw [hml, ← hS] at this
          exact this
        clear hS hml hfin
        go_enter Try.func16, Try.ntmps16
        go_wp2_with (go_at_call 15; refine HC.out.mono ?_; rintro e w' ⟨rfl, rfl⟩)
        go_ret3
        exact ⟨by rw [HF.out]; rfl, rfl⟩
  · have h3' : (e0 != 0) = true := by simpa using h3
    have H3 := Lib.hid h3
    clear hr h3
    go_enter Try.func16, Try.ntmps16
    go_wp2_with (go_at_call 15; refine HC.out.mono ?_; rintro e w' ⟨rfl, rfl⟩)
    go_ret3
    exact ⟨by rw [HIN.out, if_pos H3.out]; rfl, rfl⟩

theorem text_at (A : Option Addr) (l : List UInt8) (c : Nat) (at_ most : Int) (w : World) (hl : Lies w A l) (hb : l.length ≤ 140737488355328) (hcap : l.length ≤ c) {S : ByteArray} {nx e0 : Int} (hr : textE l at_ most = (S.data.toList, nx, e0)) :
    Calls Try.prog 16 #[.slice A l.length c, .int .i64 at_, .int .i64 most] w fun e w' => e = .returned (.tuple #[.string S, .int .i64 nx, .int .i64 e0]) ∧ w = w' := by
  refine (text_any A l c at_ most w hl hb hcap).mono fun e w' h => ?_
  rw [hr] at h
  exact h

/-- What Bool answers. -/
def boolE (l : List UInt8) (at_ : Int) : Bool × Int × Int :=
  if at_ < 0 ∨ (l.length : Int) < at_ then (false, 0, 2)
  else if at_ = (l.length : Int) then (false, 0, 4)
  else if 1 < (l.getD at_.toNat 0).toNat then (false, 0, 3)
  else ((l.getD at_.toNat 0).toNat == 1, at_ + 1, 0)
def boolV (r : Bool × Int × Int) : Value := .tuple #[.bool r.1, .int .i64 r.2.1, .int .i64 r.2.2]

set_option maxHeartbeats 1000000 in
theorem bool_any (A : Option Addr) (l : List UInt8) (c : Nat) (at_ : Int) (w : World) (hl : Lies w A l) (hb : l.length ≤ 140737488355328) :
    Calls Try.prog 17 #[.slice A l.length c, .int .i64 at_] w fun e w' => e = .returned (boolV (boolE l at_)) ∧ w = w' := by
  by_cases h0 : at_ < 0
  · have hv : boolE l at_ = (false, 0, 2) := by unfold boolE; rw [if_pos (.inl h0)]
    go_enter Try.func17, Try.ntmps17
    go_wp2_with (go_at_call 22; refine (offset_low _ _ _ _ _ h0).mono ?_; rintro e w' ⟨rfl, rfl⟩)
    go_ret3
    exact ⟨by rw [hv]; rfl, rfl⟩
  by_cases h1 : (l.length : Int) < at_
  · have hv : boolE l at_ = (false, 0, 2) := by unfold boolE; rw [if_pos (.inr h1)]
    go_enter Try.func17, Try.ntmps17
    go_wp2_with (go_at_call 22; refine (offset_high _ _ _ _ _ h1).mono ?_; rintro e w' ⟨rfl, rfl⟩)
    go_ret3
    exact ⟨by rw [hv]; rfl, rfl⟩
  obtain ⟨k, rfl⟩ : ∃ k : Nat, at_ = (k : Int) := ⟨at_.toNat, by omega⟩
  have hk : k ≤ l.length := by omega
  by_cases h2 : k = l.length
  · have hv : boolE l k = (false, 0, 4) := by unfold boolE; rw [if_neg (by omega), if_pos (by omega)]
    have h2' : ((k : Int) == (l.length : Int)) = true := by simp; omega
    clear h2
    go_enter Try.func17, Try.ntmps17
    go_wp2_with (go_at_call 22; refine (offset_yes _ _ _ _ _ hk).mono ?_; rintro e w' ⟨rfl, rfl⟩)
    go_ret3
    exact ⟨by rw [hv]; rfl, rfl⟩
  have hk2 : k < l.length := by omega
  have h2' : ((k : Int) == (l.length : Int)) = false := by simp; omega
  obtain ⟨b, o, rfl, hc⟩ := hl.cell hk2
  obtain ⟨x, hx⟩ : ∃ x, x = l.getD k 0 := ⟨_, rfl⟩
  rw [← hx] at hc
  have hx256 : x.toNat < 256 := x.toNat_lt
  have hin : boolE l k = if 1 < x.toNat then (false, 0, 3) else (x.toNat == 1, (k : Int) + 1, 0) := by
    unfold boolE
    rw [if_neg (by omega), if_neg (by omega), Int.toNat_natCast, ← hx]
  have HIN := Lib.hid hin
  clear h0 h1 h2 hx hin hl
  by_cases h3 : 1 < x.toNat
  · have h3' : (1 : Int) < (x.toNat : Int) := by omega
    have H3 := Lib.hid h3
    clear h3
    go_enter Try.func17, Try.ntmps17
    go_wp2_with (go_at_call 22; refine (offset_yes _ _ _ _ _ hk).mono ?_; rintro e w' ⟨rfl, rfl⟩)
    go_ret3
    exact ⟨by rw [HIN.out, if_pos H3.out]; rfl, rfl⟩
  · have h3' : (x.toNat : Int) ≤ 1 := by omega
    have H3 := Lib.hid h3
    clear h3
    go_enter Try.func17, Try.ntmps17
    go_wp2_with (go_at_call 22; refine (offset_yes _ _ _ _ _ hk).mono ?_; rintro e w' ⟨rfl, rfl⟩)
    go_ret3
    refine ⟨?_, rfl⟩
    have e : ((x.toNat : Int) == 1) = (x.toNat == 1) := by rw [Bool.eq_iff_iff]; simp; omega
    rw [HIN.out, if_neg H3.out]
    show Ending.returned (.tuple #[.bool ((x.toNat : Int) == 1), .int .i64 ((k : Int) + 1), .int .i64 0]) = _
    rw [e]
    rfl

theorem equal_any (A B : Option Addr) (l m : List UInt8) (c d : Nat) (w : World) (hl : Lies w A l) (hm : Lies w B m) :
    Calls Try.prog 8 #[.slice A l.length c, .slice B m.length d] w fun e w' => e = .returned (.bool (decide (l = m))) ∧ w = w' := by
  obtain ⟨S, hS⟩ : ∃ S : ByteArray, S = ⟨l.toArray⟩ := ⟨_, rfl⟩
  obtain ⟨T, hT⟩ : ∃ T : ByteArray, T = ⟨m.toArray⟩ := ⟨_, rfl⟩
  have h1 := hl.str (P := Try.prog) c Try.underlying22 Try.underlying5 Try.underlying9
  have h2 := hm.str (P := Try.prog) d Try.underlying22 Try.underlying5 Try.underlying9
  rw [← hS] at h1
  rw [← hT] at h2
  have HS := Lib.hid hS
  have HT := Lib.hid hT
  clear hS hT
  go_enter Try.func8, Try.ntmps8
  go_wp2
  go_ret
  have e : (S.toList == T.toList) = decide (l = m) := by
    rw [HS.out, HT.out, Bool.eq_iff_iff]
    simp
  exact ⟨by rw [← e]; rfl, rfl⟩

theorem equal_at (A B : Option Addr) (l m : List UInt8) (c d : Nat) (w : World) (hl : Lies w A l) (hm : Lies w B m) {r : Bool} (hr : decide (l = m) = r) :
    Calls Try.prog 8 #[.slice A l.length c, .slice B m.length d] w fun e w' => e = .returned (.bool r) ∧ w = w' := by
  subst hr
  exact equal_any A B l m c d w hl hm

theorem prefix_any (A B : Option Addr) (l m : List UInt8) (c d : Nat) (w : World) (hl : Lies w A l) (hm : Lies w B m) (hc : l.length ≤ c) :
    Calls Try.prog 18 #[.slice A l.length c, .slice B m.length d] w fun e w' => e = .returned (.bool (decide (m <+: l))) ∧ w = w' := by
  by_cases h : m.length ≤ l.length
  · have hml : (l.take m.length).length = m.length := by rw [List.length_take]; omega
    have h' : (m.length : Int) ≤ (l.length : Int) := by omega
    have he := equal_any A B (l.take m.length) m c d w (hl.take _) hm
    rw [hml] at he
    have HE := Lib.hid he
    clear he hml
    go_enter Try.func18, Try.ntmps18
    go_wp2_with fail
    refine HE.out.mono ?_
    rintro e w' ⟨rfl, rfl⟩
    go_wp2_with fail
    go_ret
    have e : decide (l.take m.length = m) = decide (m <+: l) := by
      rw [Bool.eq_iff_iff]
      simp only [decide_eq_true_eq]
      exact ⟨fun he => by rw [← he]; exact List.take_prefix _ _, fun hp => (List.prefix_iff_eq_take.1 hp).symm⟩
    exact ⟨by rw [← e]; rfl, rfl⟩
  · have h' : (l.length : Int) < (m.length : Int) := by omega
    have hd : decide (m <+: l) = false := by
      simp only [decide_eq_false_iff_not]
      intro hp
      exact h hp.length_le
    have HD := Lib.hid hd
    clear h hd
    go_enter Try.func18, Try.ntmps18
    go_wp2
    go_ret
    exact ⟨by rw [HD.out]; rfl, rfl⟩

theorem prefix_at (A B : Option Addr) (l m : List UInt8) (c d : Nat) (w : World) (hl : Lies w A l) (hm : Lies w B m) (hc : l.length ≤ c) {r : Bool} (hr : decide (m <+: l) = r) :
    Calls Try.prog 18 #[.slice A l.length c, .slice B m.length d] w fun e w' => e = .returned (.bool r) ∧ w = w' := by
  subst hr
  exact prefix_any A B l m c d w hl hm hc

theorem bounds_i64 {a : Int} (h : (Lit.int .i64 a).wf = true) : -9223372036854775808 ≤ a ∧ a ≤ 9223372036854775807 := by
  have h1 : IntKind.i64.min = -9223372036854775808 := rfl
  have h2 : IntKind.i64.max = 9223372036854775807 := rfl
  simp only [Lit.wf, Bool.and_eq_true, decide_eq_true_eq, h1, h2] at h
  exact h

theorem textE_ok {l : List UInt8} {at_ most nx : Int} {S : ByteArray} (h : textE l at_ most = (S.data.toList, nx, 0)) :
    ∃ k t : Nat, at_ = (k : Int) ∧ nx = ((k + t : Nat) : Int) ∧ 1 ≤ t ∧ k + t ≤ l.length ∧ enc (zig S.size) ++ S.data.toList = (l.drop k).take t ∧ t = (enc (zig S.size) ++ S.data.toList).length ∧ (S.size : Int) ≤ most := by
  unfold textE at h
  by_cases h1 : (intE l at_ 0 most).2.2 ≠ 0
  · rw [if_pos h1] at h
    simp only [Prod.mk.injEq] at h
    exact absurd h.2.2 h1
  rw [if_neg h1] at h
  by_cases h2 : (l.length : Int) - (intE l at_ 0 most).2.1 < (intE l at_ 0 most).1
  · rw [if_pos h2] at h; simp at h
  rw [if_neg h2] at h
  obtain ⟨n, x, e0, hr⟩ : ∃ n x e0, intE l at_ 0 most = (n, x, e0) := ⟨_, _, _, rfl⟩
  rw [hr] at h1 h2 h
  simp only [Prod.mk.injEq] at h1 h2 h
  obtain rfl : e0 = 0 := by omega
  obtain ⟨k, s, e1, rfl, q1, q2, q3, q4, q5, -, -, q8⟩ := intE_ok hr
  obtain ⟨m, rfl⟩ : ∃ m : Nat, n = (m : Int) := ⟨n.toNat, by omega⟩
  simp only [Int.toNat_natCast] at h
  obtain ⟨h4, h5, -⟩ := h
  have hm : S.size = m := by
    have := congrArg List.length h4
    rw [len_string, List.length_take, List.length_drop] at this
    omega
  have hcat : enc (zig S.size) ++ S.data.toList = (l.drop k).take (s + m) := by
    rw [hm, q5, ← h4, List.take_add, List.drop_drop]
  refine ⟨k, s + m, e1, by omega, by omega, by omega, hcat, ?_, by omega⟩
  have := congrArg List.length hcat
  rw [this, List.length_take, List.length_drop]
  omega
theorem textE_err {l : List UInt8} {at_ most nx e : Int} {S : List UInt8} (h : textE l at_ most = (S, nx, e)) (he : e ≠ 0) : S = [] ∧ nx = 0 := by
  unfold textE at h
  repeat' split at h
  all_goals simp only [Prod.mk.injEq] at h
  · exact ⟨h.1.symm, h.2.1.symm⟩
  · exact ⟨h.1.symm, h.2.1.symm⟩
  · exact absurd h.2.2.symm he

theorem drop_app {b m : List UInt8} : (b ++ m).drop b.length = m := by simp
/-- What was put is read back: an integer. -/
theorem intE_put {b rest L : List UInt8} {n low high : Int} (hL : L = b ++ enc (zig n) ++ rest) (h1 : -9223372036854775808 ≤ n) (h2 : n ≤ 9223372036854775807) (hlo : low ≤ n) (hhi : n ≤ high) :
    intE L b.length low high = (n, (((b ++ enc (zig n)).length : Nat) : Int), 0) := by
  have hr : rd 0 0 (L.drop b.length) = (zig n, (enc (zig n)).length, 0) := by
    rw [hL, List.append_assoc, drop_app]
    exact rd_enc0 (zig_lt h1 h2) rest
  have hl : L.length = b.length + (enc (zig n)).length + rest.length := by rw [hL]; simp; omega
  unfold intE
  rw [if_neg (by omega), Int.toNat_natCast, hr, if_neg (by simp)]
  simp only [zag_zig]
  rw [if_neg (by omega), List.length_append]
  simp
/-- A string. -/
theorem textE_put {b rest L : List UInt8} {S : ByteArray} (hL : L = b ++ enc (zig S.size) ++ S.data.toList ++ rest) (hs : S.size ≤ 1000000) :
    textE L b.length S.size = (S.data.toList, (((b ++ enc (zig S.size) ++ S.data.toList).length : Nat) : Int), 0) := by
  have hr := intE_put (b := b) (L := L) (n := (S.size : Int)) (low := 0) (high := (S.size : Int)) (rest := S.data.toList ++ rest) (by rw [hL]; simp) (by omega) (by omega) (by omega) (by omega)
  have hl : L.length = (b ++ enc (zig S.size)).length + S.size + rest.length := by rw [hL, ← len_string]; simp; omega
  unfold textE
  rw [hr, if_neg (by simp)]
  simp only
  rw [if_neg (by omega), Int.toNat_natCast, Int.toNat_natCast]
  have hd : (L.drop (b ++ enc (zig S.size)).length).take S.size = S.data.toList := by
    rw [hL, List.append_assoc (b ++ enc (zig S.size)), drop_app]
    rw [List.take_append_of_le_length (by rw [len_string]; omega), List.take_of_length_le (by rw [len_string]; omega)]
  have he : (b ++ enc (zig S.size) ++ S.data.toList).length = (b ++ enc (zig S.size)).length + S.size := by rw [List.length_append, len_string]
  rw [hd, he]
  simp only [Prod.mk.injEq, true_and, and_true]
  omega
/-- A boolean. -/
theorem boolE_put {b rest L : List UInt8} {x : Bool} (hL : L = b ++ [if x then 1 else 0] ++ rest) : boolE L b.length = (x, (((b ++ [if x then (1 : UInt8) else 0]).length : Nat) : Int), 0) := by
  have hl : L.length = b.length + 1 + rest.length := by rw [hL]; simp; omega
  have hg : L.getD b.length 0 = if x then 1 else 0 := by rw [hL]; simp [List.getD]
  unfold boolE
  rw [if_neg (by omega), if_neg (by omega), Int.toNat_natCast, hg]
  cases x <;> simp

theorem bool_at (A : Option Addr) (l : List UInt8) (c : Nat) (at_ : Int) (w : World) (hl : Lies w A l) (hb : l.length ≤ 140737488355328) {x : Bool} {nx e0 : Int} (hr : boolE l at_ = (x, nx, e0)) :
    Calls Try.prog 17 #[.slice A l.length c, .int .i64 at_] w fun e w' => e = .returned (.tuple #[.bool x, .int .i64 nx, .int .i64 e0]) ∧ w = w' := by
  refine (bool_any A l c at_ w hl hb).mono fun e w' h => ?_
  rw [hr] at h
  exact h
end Go.Proofs.Ytogbanblmhpecaa
