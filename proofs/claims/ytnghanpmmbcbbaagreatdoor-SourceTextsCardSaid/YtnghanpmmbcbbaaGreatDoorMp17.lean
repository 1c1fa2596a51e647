/-
  SrWrite.
  SrRuleP.
  SrRule.
  SrProgP.
-/
import Derived.Test.YtnghanpmmbcbbaaGreatDoorMp16
import Derived.Test.YtnghanpmmbcbbaaGreatDoorMp7
import Derived.Test.YtnghanpmmbcbbaaGreatDoorMp8
import Derived.Test.YtnghanpmmbcbbaaGreatDoorMp10
import Derived.Test.YtnghanpmmbcbbaaGreatDoorMp3
import Derived.Deep.RegionHeld3
import Derived.Deep.CutBlock
import Derived.Test.YtnghanpmmbcbbaaGreatDoorMp11
import Derived.Test.YtnghanpmmbcbbaaGreatDoorMp15
namespace Go.Proofs.YtnghanpmmbcbbaaGreatDoor
open Go.RowKit
def joinS : Nat → List (List UInt8) → List UInt8 → List UInt8
  | _, [], s => s
  | i, x :: r, s => joinS (i + 1) r (if i = 0 then s ++ x else s ++ [44, 32] ++ x)
theorem joinS_snoc : ∀ (l : List (List UInt8)) (i : Nat) (x s : List UInt8), joinS i (l ++ [x]) s = if i + l.length = 0 then joinS i l s ++ x else joinS i l s ++ [44, 32] ++ x
  | [], i, x, s => by simp [joinS]
  | y :: r, i, x, s => by
    rw [List.cons_append, joinS, joinS_snoc r (i + 1) x, if_neg (show ¬ i + 1 + r.length = 0 by omega), if_neg (show ¬ i + (y :: r).length = 0 by simp only [List.length_cons]; omega), joinS]
theorem joinS_len (m : Nat) : ∀ (l : List (List UInt8)) (i : Nat) (s : List UInt8), (∀ x ∈ l, x.length ≤ m) → (joinS i l s).length ≤ s.length + l.length * (m + 2)
  | [], i, s, _ => by simp [joinS]
  | y :: r, i, s, h => by
    have h1 := joinS_len m r (i + 1) (if i = 0 then s ++ y else s ++ [44, 32] ++ y) (fun x hx => h x (List.mem_cons_of_mem _ hx))
    have h2 := h y (by simp)
    have h3 : (if i = 0 then s ++ y else s ++ [44, 32] ++ y).length ≤ s.length + (m + 2) := by
      split <;> simp <;> omega
    rw [joinS, List.length_cons, Nat.add_mul]
    omega
theorem joinS_rest : ∀ (l : List (List UInt8)) (i : Nat) (s : List UInt8), 0 < i → joinS i l s = s ++ restT plain l
  | [], i, s, _ => by simp [joinS, restT]
  | y :: r, i, s, h => by
    rw [joinS, joinS_rest r (i + 1) _ (by omega), if_neg (by omega), restT]
    simp [Sty.cm, plain, sp]
theorem joinS_tjoin (l : List (List UInt8)) : joinS 0 l [] = tjoinT l := by
  rcases l with _ | ⟨x, r⟩
  · rfl
  · rw [joinS, joinS_rest r 1 _ (by omega), if_pos rfl]
    simp [tjoinT]
theorem call_bound {s : List UInt8} {l : List Tm} (hs : s.length ≤ 1000) (hf : formL l = true) (hz : sizeL l ≤ 200) : (callT plain s (txtL plain l)).length ≤ 100000 := by
  have h1 := call_len slim_plain s (txtL plain l)
  have h2 := (txt_len slim_plain).2 l hf
  omega
theorem atom_bound (s : ByteArray) (l : List Tm) : (atomT s l).length ≤ 100000 := by
  unfold atomT
  split
  · rename_i h
    obtain ⟨_, h2, _, h4, h5⟩ := atomB_parts h
    exact call_bound (by omega) h4 h5
  · simp
theorem words_len (i : Nat) : (goalWords.getD i []).length ≤ 1000 := by
  rcases Nat.lt_or_ge i goalWords.length with h | h
  · have : ∀ x ∈ goalWords, x.length ≤ 1000 := by decide
    rw [show goalWords.getD i [] = goalWords[i] from by simp [List.getD, h]]
    exact this _ (List.getElem_mem h)
  · rw [show goalWords.getD i [] = [] from by simp [List.getD, h]]; simp
theorem getD_txt_len {l : List Tm} (hf : formL l = true) (hz : sizeL l ≤ 200) (i : Nat) : ((txtL plain l).getD i []).length ≤ 51000 := by
  have h2 := (txt_len slim_plain).2 l hf
  have h3 : ∀ (m : List (List UInt8)) (i : Nat), (m.getD i []).length ≤ (m.map fun x => x.length + 3).sum := by
    intro m
    induction m with
    | nil => intro i; simp
    | cons x r ih =>
      intro i
      cases i with
      | zero => simp; omega
      | succ i =>
        have := ih i
        simp only [List.getD_cons_succ, List.map_cons, List.sum_cons]
        omega
  have := h3 (txtL plain l) i
  omega
theorem goal_bound (op : Int) (s : ByteArray) (l : List Tm) : (goalT op s l).length ≤ 300000 := by
  unfold goalT
  split
  · rename_i h
    by_cases h0 : op = 0
    · subst h0
      have h' : atomB s.data.toList l = true := by simpa [goalB] using h
      obtain ⟨_, h2, _, h4, h5⟩ := atomB_parts h'
      have := call_bound (s := s.data.toList) (by omega) h4 h5
      unfold goalW
      rw [if_pos rfl]
      omega
    · obtain ⟨_, _, _, h4, h5, _⟩ := builtin_parts h h0
      unfold goalW
      rw [if_neg h0]
      split
      · have := call_bound (words_len op.toNat) h4 h5
        omega
      · have h6 := getD_txt_len h4 h5 0
        have h7 := getD_txt_len h4 h5 1
        have h8 := words_len op.toNat
        simp only [topT, List.length_append, List.length_cons]
        omega
  · simp
def Am.ok (x : Am) : Bool := (atomB x.name.data.toList x.args)
def Am.tx (x : Am) : List UInt8 := (atomT x.name x.args)
def allAm (l : List Am) : Bool := l.all Am.ok
def txtAm (l : List Am) : List UInt8 := joinS 0 (l.map Am.tx) []
theorem txtAm_len (l : List Am) : (txtAm l).length ≤ l.length * 100002 := by
  have := joinS_len 100000 (l.map Am.tx) 0 [] (fun x hx => by
    obtain ⟨y, _, rfl⟩ := List.mem_map.1 hx
    exact atom_bound _ _)
  simpa [txtAm] using this
theorem allAm_no {l : List Am} {j : Nat} (hj : j < l.length) (h : (l.getD j default).ok = false) : allAm l = false := by
  cases h2 : allAm l
  · rfl
  · rw [allAm, List.all_eq_true] at h2
    rw [h2 _ (am_getD_mem hj)] at h
    cases h
theorem takeAm_all {l : List Am} {j : Nat} (hj : j < l.length) (h : allAm (l.take j) = true) (h2 : (l.getD j default).ok = true) : allAm (l.take (j + 1)) = true := by
  rw [am_take_next hj]
  simp only [allAm, List.all_append, List.all_cons, List.all_nil, Bool.and_true] at h ⊢
  rw [h, h2]; rfl
set_option maxHeartbeats 4000000 in
set_option maxRecDepth 100000 in
theorem sheads_at (l : List Am) (A : Option Addr) (c : Nat) (w : World) (hl : AmLst w A l c) (hsz : l.length ≤ 1000) (hn : ∀ x ∈ l, sizeL x.args ≤ 1000000) :
    Calls Tryz.prog 39 #[.slice A l.length c] w fun e w' => e = .returned (.tuple #[.string (S (if allAm l then txtAm l else [])), .bool (allAm l)]) ∧ Below w.heap.size w w' := by
  have hll : l.length ≤ 9223372036854775807 := by omega
  have HL := Lib.hid hl
  have HS := Lib.hid hsz
  have QR := Lib.hid (fun (x : Am) (hx : x ∈ l) (W : World) (h : Below w.heap.size w W) => ref_right_atom_at x W ((hl.mem hx).below h) (hn x hx) (r := x.ok) rfl)
  have QT := Lib.hid (fun (x : Am) (hx : x ∈ l) (W : World) (h : Below w.heap.size w W) => show Calls Tryz.prog 74 #[x.val] W fun e w' => e = .returned (.string (S x.tx)) ∧ Below W.heap.size W w' from tr_atom x W ((hl.mem hx).below h) (hn x hx))
  clear hl hn
  obtain ⟨q0, hq0⟩ : ∃ q, allAm l = q := ⟨_, rfl⟩
  rw [hq0]
  obtain ⟨t0, ht0⟩ : ∃ t, (if q0 = true then txtAm l else []) = t := ⟨_, rfl⟩
  rw [ht0]
  have HQ0 := Lib.hid hq0
  have HT0 := Lib.hid ht0
  clear hq0 ht0
  go_enter Tryz.func39, Tryz.ntmps39
  go_wp2_with fail
  go_loopw [4, 5] (fun z i wr => ∃ (j : Nat) (x : List UInt8), j ≤ l.length ∧ i = .int .i64 j ∧ z = .string (S x) ∧ Hid (txtAm (l.take j) = x) ∧ Hid (allAm (l.take j) = true) ∧ Below w.heap.size w wr) (fun _ i _ => l.length - (intOf i).toNat)
  case atStart => exact ⟨0, [], Nat.zero_le _, rfl, rfl, Lib.hid rfl, Lib.hid rfl, Below.refl _ _⟩
  case round =>
    obtain ⟨j, z, hj, rfl, rfl, HI, HO, hbw⟩ := hrel
    by_cases hlt : j < l.length
    · obtain ⟨b, o, rfl, hcs, hxa⟩ := (HL.out.below hbw).get hlt
      have hmem := am_getD_mem hlt
      have HNO := Lib.hid (allAm_no hlt)
      have HYS := Lib.hid (takeAm_all hlt HO.out)
      have hzl := txtAm_len (l.take j)
      have hz1 : (l.take j).length ≤ 1000 := by rw [List.length_take]; have := HS.out; omega
      have hz2 := Nat.mul_le_mul_right 100002 hz1
      rw [HI.out] at hzl
      have HNX := Lib.hid (show txtAm (l.take (j + 1)) = if j = 0 then z ++ (l.getD j default).tx else z ++ [44, 32] ++ (l.getD j default).tx by
        rw [am_take_next hlt, txtAm, List.map_append, List.map_cons, List.map_nil, joinS_snoc, Nat.zero_add, List.length_map, List.length_take, Nat.min_eq_left hj]
        rw [show joinS 0 ((l.take j).map Am.tx) [] = z from HI.out])
      have htl : (l.getD j default).tx.length ≤ 100000 := atom_bound _ _
      have Q1 := Lib.hid (QR.out _ hmem)
      have Q2 := Lib.hid (QT.out _ hmem)
      have HLen := Lib.hid (show z.length ≤ 400000000 ∧ (l.getD j default).tx.length ≤ 400000 from by omega)
      have c0 := hcs 0 _ rfl; have c1 := hcs 1 _ rfl
      simp only [Nat.add_zero] at c0
      clear hcs hxa hmem HO hz1 hzl hz2 htl
      generalize l.getD j default = x at *
      obtain ⟨t, ht⟩ : ∃ t, x.tx = t := ⟨_, rfl⟩
      obtain ⟨r, hr⟩ : ∃ r, x.ok = r := ⟨_, rfl⟩
      rw [ht] at HNX Q2 HLen
      rw [hr] at Q1 HNO HYS
      obtain ⟨s, A1, p1, a1⟩ := x
      clear ht hr
      simp only at c0 c1
      have hb0 : b < wr.heap.size := World.block_lt_of_cell? _ _ c0
      cases r
      · have hf := HNO.out rfl
        have e1 : q0 = false := by rw [← HQ0.out]; exact hf
        have e2 : t0 = [] := by rw [← HT0.out, e1]; rfl
        subst e1 e2
        clear HNO HYS Q2 HNX HQ0 HT0 hf
        go_wp2_with fail
        refine (Q1.out _ hbw).mono ?_
        rintro e w2 ⟨rfl, hb2⟩
        have HB := Lib.hid (hbw.trans (hb2.mono hbw.size))
        clear hb2 c0 c1
        go_wp2_with fail
        refine bodyPost_ret (v := .tuple #[.string ⟨#[]⟩, .bool false]) (by simp [results, Tryz.results39, go_sem]) rfl ?_
        exact ⟨rfl, HB.out⟩
      · have HY2 := Lib.hid (HYS.out rfl)
        clear HNO HYS
        go_wp2_with fail
        refine (Q1.out _ hbw).mono ?_
        rintro e w2 ⟨rfl, hb2⟩
        have HB := Lib.hid (hbw.trans (hb2.mono hbw.size))
        have d0 := keepv hb2 c0
        have d1 := keepv hb2 c1
        clear hb2 c0 c1 Q1
        by_cases hj0 : j = 0
        · subst hj0
          have h1 : ¬ 9223372036854775807 < z.length + t.length := by have := HLen.out; omega
          have HNN := Lib.hid (show txtAm (l.take (0 + 1)) = z ++ t from HNX.out)
          clear HNX
          simp only [Nat.zero_mul, Nat.add_zero] at d0 d1
          go_wp2_with fail
          refine (Q2.out _ HB.out).mono ?_
          rintro e w3 ⟨rfl, hb3⟩
          have HB3 := Lib.hid (HB.out.trans (hb3.mono HB.out.size))
          clear hb3 d0 d1
          go_wp2_with fail
          go_roundw
          case rel => exact ⟨0 + 1, _, by omega, by go_num, by rw [append_str], HNN, HY2, HB3.out⟩
          case measure => simp [intOf]; omega
        · have hj1 : 0 < j := by omega
          have h1 : ¬ 9223372036854775807 < z.length + 2 := by have := HLen.out; omega
          have h2 : ¬ 9223372036854775807 < z.length + 2 + t.length := by have := HLen.out; omega
          have HNN := Lib.hid (show txtAm (l.take (j + 1)) = z ++ [44, 32] ++ t by rw [HNX.out, if_neg hj0])
          clear HNX hj0
          go_wp2_with fail
          refine (Q2.out _ HB.out).mono ?_
          rintro e w3 ⟨rfl, hb3⟩
          have HB3 := Lib.hid (HB.out.trans (hb3.mono HB.out.size))
          clear hb3 d0 d1
          go_wp2_with fail
          go_roundw
          case rel => exact ⟨j + 1, _, by omega, by go_num, by rw [show (⟨#[44, 32]⟩ : ByteArray) = S [44, 32] from rfl, append_str, append_str], HNN, HY2, HB3.out⟩
          case measure => simp [intOf]; omega
    · obtain rfl : j = l.length := by omega
      have HV := Lib.hid (show txtAm l = z by rw [← HI.out, List.take_of_length_le (Nat.le_refl _)])
      have HW := Lib.hid (show allAm l = true by have := HO.out; rwa [List.take_of_length_le (Nat.le_refl _)] at this)
      have e1 : q0 = true := by rw [← HQ0.out]; exact HW.out
      have e2 : t0 = z := by rw [← HT0.out, e1]; exact HV.out
      subst e1 e2
      clear hlt HI HO HQ0 HT0
      go_wp2_with fail
      refine bodyPost_ret (v := .tuple #[.string (S t0), .bool true]) (by simp [results, Tryz.results39, go_sem]) rfl ?_
      exact ⟨rfl, hbw⟩
def Gl.ok (x : Gl) : Bool := (goalB x.op x.name x.args)
def Gl.tx (x : Gl) : List UInt8 := (goalT x.op x.name x.args)
def allGl (l : List Gl) : Bool := l.all Gl.ok
def txtGl (l : List Gl) : List UInt8 := joinS 0 (l.map Gl.tx) []
theorem txtGl_len (l : List Gl) : (txtGl l).length ≤ l.length * 300002 := by
  have := joinS_len 300000 (l.map Gl.tx) 0 [] (fun x hx => by
    obtain ⟨y, _, rfl⟩ := List.mem_map.1 hx
    exact goal_bound _ _ _)
  simpa [txtGl] using this
theorem allGl_no {l : List Gl} {j : Nat} (hj : j < l.length) (h : (l.getD j default).ok = false) : allGl l = false := by
  cases h2 : allGl l
  · rfl
  · rw [allGl, List.all_eq_true] at h2
    rw [h2 _ (gl_getD_mem hj)] at h
    cases h
theorem takeGl_all {l : List Gl} {j : Nat} (hj : j < l.length) (h : allGl (l.take j) = true) (h2 : (l.getD j default).ok = true) : allGl (l.take (j + 1)) = true := by
  rw [gl_take_next hj]
  simp only [allGl, List.all_append, List.all_cons, List.all_nil, Bool.and_true] at h ⊢
  rw [h, h2]; rfl
set_option maxHeartbeats 4000000 in
set_option maxRecDepth 100000 in
theorem sgoals_at (l : List Gl) (A : Option Addr) (c : Nat) (w : World) (hl : GlLst w A l c) (hsz : l.length ≤ 1000) (hn : ∀ x ∈ l, sizeL x.args ≤ 1000000) :
    Calls Tryz.prog 40 #[.slice A l.length c] w fun e w' => e = .returned (.tuple #[.string (S (if allGl l then txtGl l else [])), .bool (allGl l)]) ∧ Below w.heap.size w w' := by
  have hll : l.length ≤ 9223372036854775807 := by omega
  have HL := Lib.hid hl
  have HS := Lib.hid hsz
  have QR := Lib.hid (fun (x : Gl) (hx : x ∈ l) (W : World) (h : Below w.heap.size w W) => ref_right_goal_at x W ((hl.mem hx).below h) (hn x hx) (r := x.ok) rfl)
  have QT := Lib.hid (fun (x : Gl) (hx : x ∈ l) (W : World) (h : Below w.heap.size w W) => show Calls Tryz.prog 76 #[x.val] W fun e w' => e = .returned (.string (S x.tx)) ∧ Below W.heap.size W w' from tr_goal x W ((hl.mem hx).below h) (hn x hx))
  clear hl hn
  obtain ⟨q0, hq0⟩ : ∃ q, allGl l = q := ⟨_, rfl⟩
  rw [hq0]
  obtain ⟨t0, ht0⟩ : ∃ t, (if q0 = true then txtGl l else []) = t := ⟨_, rfl⟩
  rw [ht0]
  have HQ0 := Lib.hid hq0
  have HT0 := Lib.hid ht0
  clear hq0 ht0
  go_enter Tryz.func40, Tryz.ntmps40
  go_wp2_with fail
  go_loopw [4, 5] (fun z i wr => ∃ (j : Nat) (x : List UInt8), j ≤ l.length ∧ i = .int .i64 j ∧ z = .string (S x) ∧ Hid (txtGl (l.take j) = x) ∧ Hid (allGl (l.take j) = true) ∧ Below w.heap.size w wr) (fun _ i _ => l.length - (intOf i).toNat)
  case atStart => exact ⟨0, [], Nat.zero_le _, rfl, rfl, Lib.hid rfl, Lib.hid rfl, Below.refl _ _⟩
  case round =>
    obtain ⟨j, z, hj, rfl, rfl, HI, HO, hbw⟩ := hrel
    by_cases hlt : j < l.length
    · obtain ⟨b, o, rfl, hcs, hxa⟩ := (HL.out.below hbw).get hlt
      have hmem := gl_getD_mem hlt
      have HNO := Lib.hid (allGl_no hlt)
      have HYS := Lib.hid (takeGl_all hlt HO.out)
      have hzl := txtGl_len (l.take j)
      have hz1 : (l.take j).length ≤ 1000 := by rw [List.length_take]; have := HS.out; omega
      have hz2 := Nat.mul_le_mul_right 300002 hz1
      rw [HI.out] at hzl
      have HNX := Lib.hid (show txtGl (l.take (j + 1)) = if j = 0 then z ++ (l.getD j default).tx else z ++ [44, 32] ++ (l.getD j default).tx by
        rw [gl_take_next hlt, txtGl, List.map_append, List.map_cons, List.map_nil, joinS_snoc, Nat.zero_add, List.length_map, List.length_take, Nat.min_eq_left hj]
        rw [show joinS 0 ((l.take j).map Gl.tx) [] = z from HI.out])
      have htl : (l.getD j default).tx.length ≤ 300000 := goal_bound _ _ _
      have Q1 := Lib.hid (QR.out _ hmem)
      have Q2 := Lib.hid (QT.out _ hmem)
      have HLen := Lib.hid (show z.length ≤ 400000000 ∧ (l.getD j default).tx.length ≤ 400000 from by omega)
      have c0 := hcs 0 _ rfl; have c1 := hcs 1 _ rfl; have c2 := hcs 2 _ rfl
      simp only [Nat.add_zero] at c0
      clear hcs hxa hmem HO hz1 hzl hz2 htl
      generalize l.getD j default = x at *
      obtain ⟨t, ht⟩ : ∃ t, x.tx = t := ⟨_, rfl⟩
      obtain ⟨r, hr⟩ : ∃ r, x.ok = r := ⟨_, rfl⟩
      rw [ht] at HNX Q2 HLen
      rw [hr] at Q1 HNO HYS
      obtain ⟨p0, s, A1, p1, a1⟩ := x
      clear ht hr
      simp only at c0 c1 c2
      have hb0 : b < wr.heap.size := World.block_lt_of_cell? _ _ c0
      cases r
      · have hf := HNO.out rfl
        have e1 : q0 = false := by rw [← HQ0.out]; exact hf
        have e2 : t0 = [] := by rw [← HT0.out, e1]; rfl
        subst e1 e2
        clear HNO HYS Q2 HNX HQ0 HT0 hf
        go_wp2_with fail
        refine (Q1.out _ hbw).mono ?_
        rintro e w2 ⟨rfl, hb2⟩
        have HB := Lib.hid (hbw.trans (hb2.mono hbw.size))
        clear hb2 c0 c1 c2
        go_wp2_with fail
        refine bodyPost_ret (v := .tuple #[.string ⟨#[]⟩, .bool false]) (by simp [results, Tryz.results40, go_sem]) rfl ?_
        exact ⟨rfl, HB.out⟩
      · have HY2 := Lib.hid (HYS.out rfl)
        clear HNO HYS
        go_wp2_with fail
        refine (Q1.out _ hbw).mono ?_
        rintro e w2 ⟨rfl, hb2⟩
        have HB := Lib.hid (hbw.trans (hb2.mono hbw.size))
        have d0 := keepv hb2 c0
        have d1 := keepv hb2 c1
        have d2 := keepv hb2 c2
        clear hb2 c0 c1 c2 Q1
        by_cases hj0 : j = 0
        · subst hj0
          have h1 : ¬ 9223372036854775807 < z.length + t.length := by have := HLen.out; omega
          have HNN := Lib.hid (show txtGl (l.take (0 + 1)) = z ++ t from HNX.out)
          clear HNX
          simp only [Nat.zero_mul, Nat.add_zero] at d0 d1 d2
          go_wp2_with fail
          refine (Q2.out _ HB.out).mono ?_
          rintro e w3 ⟨rfl, hb3⟩
          have HB3 := Lib.hid (HB.out.trans (hb3.mono HB.out.size))
          clear hb3 d0 d1 d2
          go_wp2_with fail
          go_roundw
          case rel => exact ⟨0 + 1, _, by omega, by go_num, by rw [append_str], HNN, HY2, HB3.out⟩
          case measure => simp [intOf]; omega
        · have hj1 : 0 < j := by omega
          have h1 : ¬ 9223372036854775807 < z.length + 2 := by have := HLen.out; omega
          have h2 : ¬ 9223372036854775807 < z.length + 2 + t.length := by have := HLen.out; omega
          have HNN := Lib.hid (show txtGl (l.take (j + 1)) = z ++ [44, 32] ++ t by rw [HNX.out, if_neg hj0])
          clear HNX hj0
          go_wp2_with fail
          refine (Q2.out _ HB.out).mono ?_
          rintro e w3 ⟨rfl, hb3⟩
          have HB3 := Lib.hid (HB.out.trans (hb3.mono HB.out.size))
          clear hb3 d0 d1 d2
          go_wp2_with fail
          go_roundw
          case rel => exact ⟨j + 1, _, by omega, by go_num, by rw [show (⟨#[44, 32]⟩ : ByteArray) = S [44, 32] from rfl, append_str, append_str], HNN, HY2, HB3.out⟩
          case measure => simp [intOf]; omega
    · obtain rfl : j = l.length := by omega
      have HV := Lib.hid (show txtGl l = z by rw [← HI.out, List.take_of_length_le (Nat.le_refl _)])
      have HW := Lib.hid (show allGl l = true by have := HO.out; rwa [List.take_of_length_le (Nat.le_refl _)] at this)
      have e1 : q0 = true := by rw [← HQ0.out]; exact HW.out
      have e2 : t0 = z := by rw [← HT0.out, e1]; exact HV.out
      subst e1 e2
      clear hlt HI HO HQ0 HT0
      go_wp2_with fail
      refine bodyPost_ret (v := .tuple #[.string (S t0), .bool true]) (by simp [results, Tryz.results40, go_sem]) rfl ?_
      exact ⟨rfl, hbw⟩
def limT (l : List UInt8) : List UInt8 := if 16384 < l.length then [] else l
theorem limited_at (l : List UInt8) (hl : l.length ≤ 1000000000) (w : World) :
    Calls Tryz.prog 42 #[.string (S l)] w fun e w' => e = .returned (.string (S (limT l))) ∧ w = w' := by
  by_cases h : 16384 < l.length
  · have e : limT l = [] := if_pos h
    rw [e]
    go_enter Tryz.func42, Tryz.ntmps42
    go_wp2_with fail
    go_ret
    exact ⟨rfl, rfl⟩
  · have e : limT l = l := if_neg h
    rw [e]
    go_enter Tryz.func42, Tryz.ntmps42
    go_wp2_with fail
    go_ret
    exact ⟨rfl, rfl⟩
end Go.Proofs.YtnghanpmmbcbbaaGreatDoor
namespace Go.Proofs.YtnghanpmmbcbbaaGreatDoor
open Go.RowKit
structure Rl.Good (u : Rl) : Prop where
  keep : allAm u.keep = true
  remove : allAm u.remove = true
  guard : allGl u.guard = true
  body : allGl u.body = true
  some : u.keep.length + u.remove.length ≠ 0
  few : u.keep.length + u.remove.length ≤ 4
  guards : u.guard.length ≤ 12
  bodies : u.body.length ≤ 12
  name : u.name.size = 0 ∨ rightB u.name.data.toList = true
  noTrue : ¬ (u.body.length = 1 ∧ (u.body.getD 0 default).op = 1)
def Rl.labT (u : Rl) : List UInt8 := if u.name.size = 0 then [] else u.name.data.toList ++ [32, 64, 32]
def Rl.headT (u : Rl) : List UInt8 :=
  if u.remove.length = 0 then txtAm u.keep ++ [32, 61, 61, 62, 32]
  else if u.keep.length = 0 then txtAm u.keep ++ txtAm u.remove ++ [32, 60, 61, 62, 32]
  else txtAm u.keep ++ [32, 92, 32] ++ txtAm u.remove ++ [32, 60, 61, 62, 32]
def Rl.bodT (u : Rl) : List UInt8 := (if u.guard.length = 0 then [] else txtGl u.guard ++ [32, 124, 32]) ++ ((if u.body.length = 0 then [116, 114, 117, 101] else txtGl u.body) ++ [46])
def Rl.txt (u : Rl) : List UInt8 := u.labT ++ (u.headT ++ u.bodT)
open Classical in
noncomputable def Rl.src (u : Rl) : List UInt8 := if u.Good then limT u.txt else []
theorem src_bad {u : Rl} (h : ¬ u.Good) : u.src = [] := if_neg h
theorem src_good {u : Rl} (h : u.Good) : u.src = limT u.txt := if_pos h
theorem txt_strip (σ : Sty) : (∀ t : Tm, t.strip.txt σ = t.txt σ) ∧ (∀ l, txtL σ (stripL l) = txtL σ l) := by
  refine Tm.induct2 (fun k n s A c a ih => ?_) rfl (fun t r h1 h2 => ?_)
  · have hp : ∀ i, ((stripL a).getD i default).pw = (a.getD i default).pw := fun i => by
      rw [stripL_map]
      rcases Nat.lt_or_ge i a.length with h | h
      · rw [List.getD_eq_getElem?_getD, List.getD_eq_getElem?_getD, List.getElem?_map, List.getElem?_eq_getElem h]
        obtain ⟨k', n', s', A', c', a'⟩ := a[i]
        simp only [Option.map_some, Option.getD_some, Tm.strip, Tm.pw, Tm.name]
      · rw [List.getD_eq_getElem?_getD, List.getD_eq_getElem?_getD, List.getElem?_map, List.getElem?_eq_none h]
        rfl
    simp only [Tm.strip, Tm.txt, ih, hp]
  · simp only [stripL, txtL, h1, h2]
theorem rightL_strip (l : List Tm) : rightL (stripL l) = rightL l := by unfold rightL; rw [form_strip.2, size_strip.2, depth_strip.2]
theorem atomB_strip (s : List UInt8) (l : List Tm) : atomB s (stripL l) = atomB s l := by unfold atomB; rw [stripL_len, rightL_strip]
theorem goalB_strip (op : Int) (s : ByteArray) (l : List Tm) : goalB op s (stripL l) = goalB op s l := by unfold goalB builtinB; rw [atomB_strip, stripL_len, rightL_strip]
theorem am_same_key {x y : Am} (h : x.key = y.key) : x.ok = y.ok ∧ x.tx = y.tx := by
  obtain ⟨s, A, c, a⟩ := x
  obtain ⟨s', A', c', a'⟩ := y
  simp only [Am.key, Am.hd, Prod.mk.injEq, List.cons.injEq, Value.string.injEq, and_true] at h
  obtain ⟨rfl, h2⟩ := h
  have e1 : atomB s.data.toList a = atomB s.data.toList a' := by rw [← atomB_strip, h2, atomB_strip]
  have e2 : txtL plain a = txtL plain a' := by rw [← (txt_strip plain).2, h2, (txt_strip plain).2]
  exact ⟨e1, by unfold Am.tx atomT; simp only; rw [e1, e2]⟩
theorem gl_same_key {x y : Gl} (h : x.key = y.key) : x.ok = y.ok ∧ x.tx = y.tx ∧ x.op = y.op := by
  obtain ⟨p, s, A, c, a⟩ := x
  obtain ⟨p', s', A', c', a'⟩ := y
  simp only [Gl.key, Gl.hd, Prod.mk.injEq, List.cons.injEq, Value.string.injEq, Value.int.injEq, true_and, and_true] at h
  obtain ⟨⟨rfl, rfl⟩, h2⟩ := h
  have e1 : goalB p s a = goalB p s a' := by rw [← goalB_strip, h2, goalB_strip]
  have e2 : txtL plain a = txtL plain a' := by rw [← (txt_strip plain).2, h2, (txt_strip plain).2]
  exact ⟨e1, by unfold Gl.tx goalT goalW; simp only; rw [e1, e2], rfl⟩
theorem allAm_map (l : List Am) : allAm l = (l.map Am.ok).all id := by unfold allAm; rw [List.all_map]; rfl
theorem allGl_map (l : List Gl) : allGl l = (l.map Gl.ok).all id := by unfold allGl; rw [List.all_map]; rfl
theorem allAm_key {l m : List Am} (h : l.map Am.key = m.map Am.key) : allAm l = allAm m := by rw [allAm_map, allAm_map, keys_map (fun x y e => (am_same_key e).1) h]
theorem allGl_key {l m : List Gl} (h : l.map Gl.key = m.map Gl.key) : allGl l = allGl m := by rw [allGl_map, allGl_map, keys_map (fun x y e => (gl_same_key e).1) h]
theorem txtAm_key {l m : List Am} (h : l.map Am.key = m.map Am.key) : txtAm l = txtAm m := by unfold txtAm; rw [keys_map (fun x y e => (am_same_key e).2) h]
theorem txtGl_key {l m : List Gl} (h : l.map Gl.key = m.map Gl.key) : txtGl l = txtGl m := by unfold txtGl; rw [keys_map (fun x y e => (gl_same_key e).2.1) h]
theorem opGl_key {l m : List Gl} (h : l.map Gl.key = m.map Gl.key) : (l.getD 0 default).op = (m.getD 0 default).op := by
  have h2 := keys_map (f := Gl.op) (fun x y e => (gl_same_key e).2.2) h
  have h3 : ∀ k : List Gl, (k.getD 0 default).op = (k.map Gl.op).getD 0 (default : Gl).op := fun k => by cases k <;> rfl
  rw [h3, h3, h2]
theorem Rl.Twin.src {u v : Rl} (h : u.Twin v) : u.src = v.src := by
  have hg : u.Good ↔ v.Good := by
    constructor
    · intro g
      exact ⟨by rw [← allAm_key h.keep]; exact g.keep, by rw [← allAm_key h.remove]; exact g.remove, by rw [← allGl_key h.guard]; exact g.guard, by rw [← allGl_key h.body]; exact g.body, by rw [← map_len h.keep, ← map_len h.remove]; exact g.some, by rw [← map_len h.keep, ← map_len h.remove]; exact g.few, by rw [← map_len h.guard]; exact g.guards, by rw [← map_len h.body]; exact g.bodies, by rw [← h.name]; exact g.name, by rw [← map_len h.body, ← opGl_key h.body]; exact g.noTrue⟩
    · intro g
      exact ⟨by rw [allAm_key h.keep]; exact g.keep, by rw [allAm_key h.remove]; exact g.remove, by rw [allGl_key h.guard]; exact g.guard, by rw [allGl_key h.body]; exact g.body, by rw [map_len h.keep, map_len h.remove]; exact g.some, by rw [map_len h.keep, map_len h.remove]; exact g.few, by rw [map_len h.guard]; exact g.guards, by rw [map_len h.body]; exact g.bodies, by rw [h.name]; exact g.name, by rw [map_len h.body, opGl_key h.body]; exact g.noTrue⟩
  have ht : u.txt = v.txt := by
    unfold Rl.txt Rl.labT Rl.headT Rl.bodT
    rw [h.name, map_len h.keep, map_len h.remove, map_len h.guard, map_len h.body, txtAm_key h.keep, txtAm_key h.remove, txtGl_key h.guard, txtGl_key h.body]
  by_cases hv : v.Good
  · rw [src_good hv, src_good (hg.2 hv), ht]
  · rw [src_bad hv, src_bad fun e => hv (hg.1 e)]
end Go.Proofs.YtnghanpmmbcbbaaGreatDoor
namespace Go.Proofs.YtnghanpmmbcbbaaGreatDoor
open Go.RowKit
set_option maxHeartbeats 16000000 in
set_option maxRecDepth 100000 in
theorem src_rule_at (r : Rl) (w : World) (h : r.At w) (hs : r.Tiny) (hn : r.name.size ≤ 100000) :
    Calls Tryz.prog 11 #[r.val] w fun e w' => e = .returned (.string (S r.numR.src)) ∧ Below w.heap.size w w' := by
  obtain ⟨src, hsrc⟩ : ∃ s, r.numR.src = s := ⟨_, rfl⟩
  rw [hsrc]
  have HSrc0 := Lib.hid hsrc
  clear hsrc
  obtain ⟨X, hX⟩ : ∃ X, w.alloc (.cells #[.string r.name, .slice r.kA r.keep.length r.kc, .slice r.rA r.remove.length r.rc, .slice r.gA r.guard.length r.gc, .slice r.bA r.body.length r.bc, .int .i64 r.vars] 25) = X := ⟨_, rfl⟩
  have H0 := Lib.hid (show HeldL w.heap.size X [.string r.name, .slice r.kA r.keep.length r.kc, .slice r.rA r.remove.length r.rc, .slice r.gA r.guard.length r.gc, .slice r.bA r.body.length r.bc, .int .i64 r.vars] from by rw [← hX]; exact heldL_new _ _ _)
  have HX := Lib.hid (show Ext w X from by rw [← hX]; exact below1 _ _)
  have HXs := Lib.hid (show X.heap.size = w.heap.size + 1 from by rw [← hX]; simp)
  have QN := Lib.hid (num_rule_at r w X h HX.out hs)
  have HSm := Lib.hid hs
  have HNm := Lib.hid hn
  have HAt := Lib.hid h
  clear h hs hn
  show Calls Tryz.prog 11 #[.agg #[.string r.name, .slice r.kA r.keep.length r.kc, .slice r.rA r.remove.length r.rc, .slice r.gA r.guard.length r.gc, .slice r.bA r.body.length r.bc, .int .i64 r.vars]] w _
  go_enter Tryz.func11, Tryz.ntmps11
  go_upto_region 1 with (fail)
  (try rw [hX])
  clear hX
  have p00 := (H0.out).cell 0 _ rfl
  have p01 := (H0.out).cell 1 _ rfl
  have p02 := (H0.out).cell 2 _ rfl
  have p03 := (H0.out).cell 3 _ rfl
  have p04 := (H0.out).cell 4 _ rfl
  have p05 := (H0.out).cell 5 _ rfl
  have pf0 := H0.out.free 0
  have pf1 := H0.out.free 1
  have pf2 := H0.out.free 2
  have pf3 := H0.out.free 3
  have pf4 := H0.out.free 4
  have pf5 := H0.out.free 5
  go_wp2_with fail
  refine QN.out.mono ?_
  rintro e Y ⟨u, rfl, hlike, hat, hby⟩
  have HT := Lib.hid (like_num hlike)
  have HLk := Lib.hid hlike
  have HY := Lib.hid hby
  have HB1 := Lib.hid (H0.out.below hby)
  clear hlike QN p00 p01 p02 p03 p04 p05 pf0 pf1 pf2 pf3 pf4 pf5
  have q0 := (HB1.out).cell 0 _ rfl
  have q1 := (HB1.out).cell 1 _ rfl
  have q2 := (HB1.out).cell 2 _ rfl
  have q3 := (HB1.out).cell 3 _ rfl
  have q4 := (HB1.out).cell 4 _ rfl
  have q5 := (HB1.out).cell 5 _ rfl
  have qf0 := HB1.out.free 0
  have qf1 := HB1.out.free 1
  have qf2 := HB1.out.free 2
  have qf3 := HB1.out.free 3
  have qf4 := HB1.out.free 4
  have qf5 := HB1.out.free 5
  have qz := HB1.out.lt
  go_upto_region 2 with (fail)
  obtain ⟨W1, hW1⟩ : ∃ W1, ((((((Y.setCell ⟨w.heap.size, 0, none⟩ (.string u.name)).setCell ⟨w.heap.size, 1, none⟩ (.slice u.kA u.keep.length u.kc)).setCell ⟨w.heap.size, 2, none⟩ (.slice u.rA u.remove.length u.rc)).setCell ⟨w.heap.size, 3, none⟩ (.slice u.gA u.guard.length u.gc)).setCell ⟨w.heap.size, 4, none⟩ (.slice u.bA u.body.length u.bc)).setCell ⟨w.heap.size, 5, none⟩ (.int .i64 u.vars)) = W1 := ⟨_, rfl⟩
  have HU1 := Lib.hid (show HeldL w.heap.size W1 [.string u.name, .slice u.kA u.keep.length u.kc, .slice u.rA u.remove.length u.rc, .slice u.gA u.guard.length u.gc, .slice u.bA u.body.length u.bc, .int .i64 u.vars] from by
    rw [← hW1]
    exact (((((HB1.out.set (j := 0) (by simp) _).set (j := 1) (by simp) _).set (j := 2) (by simp) _).set (j := 3) (by simp) _).set (j := 4) (by simp) _).set (j := 5) (by simp) _)
  have hfar : ∀ b, w.heap.size < b → W1.heap[b]? = Y.heap[b]? := fun b hb => by
    have hne : ∀ j, b ≠ (⟨w.heap.size, j, none⟩ : Addr).block := fun j => by show b ≠ w.heap.size; omega
    rw [← hW1, Below.heap_setCell _ _ _ _ (hne 5), Below.heap_setCell _ _ _ _ (hne 4), Below.heap_setCell _ _ _ _ (hne 3), Below.heap_setCell _ _ _ _ (hne 2), Below.heap_setCell _ _ _ _ (hne 1), Below.heap_setCell _ _ _ _ (hne 0)]
  have hsize : W1.heap.size = Y.heap.size := by rw [← hW1]; simp [World.setCell]
  have HW1 := Lib.hid (show Ext w W1 from by
    rw [← hW1]
    exact (((((((Ext.trans HX.out HY.out : Below w.heap.size w Y).setCell (p := ⟨w.heap.size, 0, none⟩) (Nat.le_refl _) _).setCell (p := ⟨w.heap.size, 1, none⟩) (Nat.le_refl _) _).setCell (p := ⟨w.heap.size, 2, none⟩) (Nat.le_refl _) _).setCell (p := ⟨w.heap.size, 3, none⟩) (Nat.le_refl _) _).setCell (p := ⟨w.heap.size, 4, none⟩) (Nat.le_refl _) _).setCell (p := ⟨w.heap.size, 5, none⟩) (Nat.le_refl _) _))
  have HUat := Lib.hid (fun (W : World) (h : Ext W1 W) => show u.At W from hat W (Ext.trans HW1.out h) fun b h1 h2 _ => (h.block b (by rw [hsize]; exact h2)).trans (hfar b (by have := HXs.out; omega)))
  rw [hW1]
  clear hW1 hat hfar hsize HB1 HY q0 q1 q2 q3 q4 q5 qf0 qf1 qf2 qf3 qf4 qf5 qz
  have QK := Lib.hid (fun (W : World) (h : Ext W1 W) => sheads_at u.keep u.kA u.kc W (HUat.out W h).keep (by have h1 := HLk.out.kl; have h2 := HSm.out.k1; simp only at h1; omega) (am_small HLk.out.keep HSm.out.k2))
  have QR := Lib.hid (fun (W : World) (h : Ext W1 W) => sheads_at u.remove u.rA u.rc W (HUat.out W h).remove (by have h1 := HLk.out.rl; have h2 := HSm.out.r1; simp only at h1; omega) (am_small HLk.out.remove HSm.out.r2))
  have QG := Lib.hid (fun (W : World) (h : Ext W1 W) => sgoals_at u.guard u.gA u.gc W (HUat.out W h).guard (by have h1 := HLk.out.gl; have h2 := HSm.out.g1; simp only at h1; omega) (gl_small HLk.out.guard HSm.out.g2))
  have QB := Lib.hid (fun (W : World) (h : Ext W1 W) => sgoals_at u.body u.bA u.bc W (HUat.out W h).body (by have h1 := HLk.out.bl; have h2 := HSm.out.b1; simp only at h1; omega) (gl_small HLk.out.body HSm.out.b2))
  have HLs := Lib.hid (show ((txtAm u.keep).length ≤ 40000000 ∧ (txtAm u.remove).length ≤ 40000000 ∧ (txtGl u.guard).length ≤ 100000000 ∧ (txtGl u.body).length ≤ 100000000 ∧ u.name.size ≤ 100000) ∧ u.keep.length ≤ 300 ∧ u.remove.length ≤ 300 ∧ u.guard.length ≤ 300 ∧ u.body.length ≤ 300 from by
    have h1 := txtAm_len u.keep
    have h2 := txtAm_len u.remove
    have h3 := txtGl_len u.guard
    have h4 := txtGl_len u.body
    have k1 := HLk.out.kl
    have k2 := HLk.out.rl
    have k3 := HLk.out.gl
    have k4 := HLk.out.bl
    have m1 := HSm.out.k1
    have m2 := HSm.out.r1
    have m3 := HSm.out.g1
    have m4 := HSm.out.b1
    have e := HLk.out.name
    simp only at k1 k2 k3 k4 e
    refine ⟨⟨by omega, by omega, by omega, by omega, by rw [e]; exact HNm.out⟩, by omega, by omega, by omega, by omega⟩)
  have HTw := Lib.hid HT.out.src
  have HSrc := Lib.hid (show u.src = src from by rw [HTw.out]; exact HSrc0.out)
  clear HTw HT HSrc0
  obtain ⟨k1, hk1⟩ : ∃ q, allAm u.keep = q := ⟨_, rfl⟩
  obtain ⟨tk, htk⟩ : ∃ t, (if k1 = true then txtAm u.keep else []) = t := ⟨_, rfl⟩
  obtain ⟨r1, hr1⟩ : ∃ q, allAm u.remove = q := ⟨_, rfl⟩
  obtain ⟨tr, htr⟩ : ∃ t, (if r1 = true then txtAm u.remove else []) = t := ⟨_, rfl⟩
  obtain ⟨g1, hg1⟩ : ∃ q, allGl u.guard = q := ⟨_, rfl⟩
  obtain ⟨tg, htg⟩ : ∃ t, (if g1 = true then txtGl u.guard else []) = t := ⟨_, rfl⟩
  obtain ⟨b1, hb1⟩ : ∃ q, allGl u.body = q := ⟨_, rfl⟩
  obtain ⟨tb, htb⟩ : ∃ t, (if b1 = true then txtGl u.body else []) = t := ⟨_, rfl⟩
  rw [hk1, htk] at QK
  rw [hr1, htr] at QR
  rw [hg1, htg] at QG
  rw [hb1, htb] at QB
  have HQ := Lib.hid (show (allAm u.keep = k1 ∧ allAm u.remove = r1 ∧ allGl u.guard = g1 ∧ allGl u.body = b1) ∧ ((if k1 = true then txtAm u.keep else []) = tk ∧ (if r1 = true then txtAm u.remove else []) = tr ∧ (if g1 = true then txtGl u.guard else []) = tg ∧ (if b1 = true then txtGl u.body else []) = tb) from ⟨⟨hk1, hr1, hg1, hb1⟩, htk, htr, htg, htb⟩)
  clear hk1 htk hr1 htr hg1 htg hb1 htb
  have a0 := (HU1.out.below (Ext.refl W1)).cell 0 _ rfl
  have a1 := (HU1.out.below (Ext.refl W1)).cell 1 _ rfl
  have a2 := (HU1.out.below (Ext.refl W1)).cell 2 _ rfl
  have a3 := (HU1.out.below (Ext.refl W1)).cell 3 _ rfl
  have a4 := (HU1.out.below (Ext.refl W1)).cell 4 _ rfl
  have a5 := (HU1.out.below (Ext.refl W1)).cell 5 _ rfl
  go_wp2_with fail
  refine (QK.out W1 (Ext.refl W1)).mono ?_
  rintro e y1 ⟨rfl, hb0⟩
  have E1 := Lib.hid (show Ext W1 y1 from Ext.trans (Ext.refl W1) hb0)
  clear hb0 a0 a1 a2 a3 a4 a5
  have b0 := (HU1.out.below E1.out).cell 0 _ rfl
  have b1 := (HU1.out.below E1.out).cell 1 _ rfl
  have b2 := (HU1.out.below E1.out).cell 2 _ rfl
  have b3 := (HU1.out.below E1.out).cell 3 _ rfl
  have b4 := (HU1.out.below E1.out).cell 4 _ rfl
  have b5 := (HU1.out.below E1.out).cell 5 _ rfl
  go_wp2_with fail
  refine (QR.out y1 E1.out).mono ?_
  rintro e y2 ⟨rfl, hb1⟩
  have E2 := Lib.hid (show Ext W1 y2 from Ext.trans E1.out hb1)
  clear hb1 b0 b1 b2 b3 b4 b5
  have d0 := (HU1.out.below E2.out).cell 0 _ rfl
  have d1 := (HU1.out.below E2.out).cell 1 _ rfl
  have d2 := (HU1.out.below E2.out).cell 2 _ rfl
  have d3 := (HU1.out.below E2.out).cell 3 _ rfl
  have d4 := (HU1.out.below E2.out).cell 4 _ rfl
  have d5 := (HU1.out.below E2.out).cell 5 _ rfl
  go_wp2_with fail
  refine (QG.out y2 E2.out).mono ?_
  rintro e y3 ⟨rfl, hb2⟩
  have E3 := Lib.hid (show Ext W1 y3 from Ext.trans E2.out hb2)
  clear hb2 d0 d1 d2 d3 d4 d5
  have e0 := (HU1.out.below E3.out).cell 0 _ rfl
  have e1 := (HU1.out.below E3.out).cell 1 _ rfl
  have e2 := (HU1.out.below E3.out).cell 2 _ rfl
  have e3 := (HU1.out.below E3.out).cell 3 _ rfl
  have e4 := (HU1.out.below E3.out).cell 4 _ rfl
  have e5 := (HU1.out.below E3.out).cell 5 _ rfl
  go_wp2_with fail
  refine (QB.out y3 E3.out).mono ?_
  rintro e y4 ⟨rfl, hb3⟩
  have E4 := Lib.hid (show Ext W1 y4 from Ext.trans E3.out hb3)
  clear hb3 e0 e1 e2 e3 e4 e5
  have c0 := (HU1.out.below E4.out).cell 0 _ rfl
  have c1 := (HU1.out.below E4.out).cell 1 _ rfl
  have c2 := (HU1.out.below E4.out).cell 2 _ rfl
  have c3 := (HU1.out.below E4.out).cell 3 _ rfl
  have c4 := (HU1.out.below E4.out).cell 4 _ rfl
  have c5 := (HU1.out.below E4.out).cell 5 _ rfl
  go_upto_region 7 with (fail)
  have HBel := Lib.hid (show Below w.heap.size w y4 from Ext.trans HW1.out E4.out)
  have hwr : wrap64 ((u.keep.length : Int) + (u.remove.length : Int)) = ((u.keep.length + u.remove.length : Nat) : Int) := by
    have h1 := HLs.out.2.1
    have h2 := HLs.out.2.2.1
    unfold wrap64
    omega
  rw [hwr]
  clear hwr
  obtain ⟨n, hn⟩ : ∃ n, u.keep.length + u.remove.length = n := ⟨_, rfl⟩
  rw [hn]
  have HN := Lib.hid hn
  obtain ⟨nm, hnm⟩ : ∃ x, u.name = x := ⟨_, rfl⟩
  rw [hnm] at c0
  have HNm2 := Lib.hid hnm
  clear hn hnm QK QR QG QB
  have HE := Lib.hid (fun (h : ¬ u.Good) => show src = [] from by rw [← HSrc.out]; exact src_bad h)
  go_cut [90] from 13 (fun b W => W = y4 ∧ ∃ q, b = .bool q ∧ Hid ((q = true → src = []) ∧ (q = false → allAm u.keep = true ∧ allAm u.remove = true ∧ allGl u.guard = true ∧ allGl u.body = true ∧ u.keep.length + u.remove.length ≠ 0 ∧ u.keep.length + u.remove.length ≤ 4 ∧ u.guard.length ≤ 12 ∧ u.body.length ≤ 12 ∧ (u.name.size = 0 ∨ rightB u.name.data.toList = true))))
  case first =>
    cases k1
    · have e := HE.out (fun g => by have := g.keep; rw [HQ.out.1.1] at this; cases this)
      go_wp2_with fail
      go_meet
      case rel => exact ⟨rfl, true, rfl, Lib.hid ⟨fun _ => e, fun h => absurd h (by simp)⟩⟩
    cases r1
    · have e := HE.out (fun g => by have := g.remove; rw [HQ.out.1.2.1] at this; cases this)
      go_wp2_with fail
      go_meet
      case rel => exact ⟨rfl, true, rfl, Lib.hid ⟨fun _ => e, fun h => absurd h (by simp)⟩⟩
    cases g1
    · have e := HE.out (fun g => by have := g.guard; rw [HQ.out.1.2.2.1] at this; cases this)
      go_wp2_with fail
      go_meet
      case rel => exact ⟨rfl, true, rfl, Lib.hid ⟨fun _ => e, fun h => absurd h (by simp)⟩⟩
    cases b1
    · have e := HE.out (fun g => by have := g.body; rw [HQ.out.1.2.2.2] at this; cases this)
      go_wp2_with fail
      go_meet
      case rel => exact ⟨rfl, true, rfl, Lib.hid ⟨fun _ => e, fun h => absurd h (by simp)⟩⟩
    by_cases n0 : n = 0
    · have e := HE.out (fun g => g.some (by rw [HN.out]; exact n0))
      subst n0
      go_wp2_with fail
      go_meet
      case rel => exact ⟨rfl, true, rfl, Lib.hid ⟨fun _ => e, fun h => absurd h (by simp)⟩⟩
    have n0' : ((n : Int) == 0) = false := by simpa using n0
    by_cases n4 : 4 < n
    · have e := HE.out (fun g => by have := g.few; rw [HN.out] at this; omega)
      go_wp2_with fail
      go_meet
      case rel => exact ⟨rfl, true, rfl, Lib.hid ⟨fun _ => e, fun h => absurd h (by simp)⟩⟩
    by_cases g12 : 12 < u.guard.length
    · have e := HE.out (fun g => by have := g.guards; omega)
      go_wp2_with fail
      go_meet
      case rel => exact ⟨rfl, true, rfl, Lib.hid ⟨fun _ => e, fun h => absurd h (by simp)⟩⟩
    by_cases b12 : 12 < u.body.length
    · have e := HE.out (fun g => by have := g.bodies; omega)
      go_wp2_with fail
      go_meet
      case rel => exact ⟨rfl, true, rfl, Lib.hid ⟨fun _ => e, fun h => absurd h (by simp)⟩⟩
    have n4' : decide ((4 : Int) < (n : Int)) = false := by simp; omega
    have g12' : decide ((12 : Int) < (u.guard.length : Int)) = false := by simp; omega
    have b12' : decide ((12 : Int) < (u.body.length : Int)) = false := by simp; omega
    by_cases hne : nm = ⟨#[]⟩
    · subst hne
      go_wp2_with fail
      go_meet
      case rel => exact ⟨rfl, false, rfl, Lib.hid (⟨(fun h => absurd h (by simp)), fun _ => ⟨HQ.out.1.1, HQ.out.1.2.1, HQ.out.1.2.2.1, HQ.out.1.2.2.2, by rw [HN.out]; exact n0, by rw [HN.out]; omega, by omega, by omega, .inl (by rw [HNm2.out]; rfl)⟩⟩)⟩
    · obtain ⟨q, hq⟩ : ∃ q, rightB nm.data.toList = q := ⟨_, rfl⟩
      have hnz : nm.size ≠ 0 := fun e => hne (by
        apply WideShapes.bytes_inj
        have : nm.data.toList.length = 0 := by simpa using e
        rw [List.length_eq_zero_iff.1 this])
      have QRN := Lib.hid (fun W => ref_right_at nm W (by have := HLs.out.1.2.2.2.2; rw [HNm2.out] at this; omega) hq)
      have HQq := Lib.hid hq
      have HNz := Lib.hid hnz
      have hfull : nm.toList.isEmpty = false := str_full (fun e => hnz (by show nm.data.size = 0; rw [← Array.length_toList, e]; rfl))
      have hnl : ¬ nm.toList = [] := by rw [raw_list]; exact fun e => hnz (by show nm.data.size = 0; rw [← Array.length_toList, e]; rfl)
      clear hq hnz
      cases q
      · have e := HE.out (fun g => by
          rcases g.name with h | h
          · rw [HNm2.out] at h; exact HNz.out h
          · rw [HNm2.out, HQq.out] at h; cases h)
        go_wp2_with (go_at_call 41; (with_reducible refine (QRN.out _).mono ?_); rintro e w5 ⟨rfl, rfl⟩)
        go_meet
        case rel => exact ⟨rfl, true, rfl, Lib.hid ⟨fun _ => e, fun h => absurd h (by simp)⟩⟩
      · go_wp2_with (go_at_call 41; (with_reducible refine (QRN.out _).mono ?_); rintro e w5 ⟨rfl, rfl⟩)
        go_meet
        case rel => exact ⟨rfl, false, rfl, Lib.hid (⟨(fun h => absurd h (by simp)), fun _ => ⟨HQ.out.1.1, HQ.out.1.2.1, HQ.out.1.2.2.1, HQ.out.1.2.2.2, by rw [HN.out]; exact n0, by rw [HN.out]; omega, by omega, by omega, .inr (by rw [HNm2.out]; exact HQq.out)⟩⟩)⟩
  case rest =>
    obtain ⟨hW, q, rfl, HG⟩ := hcut
    have hW' := hW.symm
    subst hW'
    clear hW
    cases q
    case true =>
      have e := HG.out.1 rfl
      subst e
      go_wp2_with fail
      go_ret
      exact ⟨rfl, HBel.out⟩
    have HGd := Lib.hid (HG.out.2 rfl)
    clear HG HE HN
    go_upto_region 9 with (fail)
    go_cut [102] from 13 (fun b W => W = y4 ∧ ∃ q, b = .bool q ∧ Hid ((q = true → src = []) ∧ (q = false → src = limT u.txt)))
    case first =>
      by_cases hb1 : u.body.length = 1
      · obtain ⟨b, o, hA, hcs, _⟩ := (HUat.out _ E4.out).body.get (i := 0) (by omega)
        rw [hA] at c4
        rw [hb1] at c4
        have d0 := hcs 0 _ rfl
        simp only [Nat.zero_mul, Nat.add_zero] at d0
        obtain ⟨op, hop⟩ : ∃ q, (u.body.getD 0 default).op = q := ⟨_, rfl⟩
        rw [hop] at d0
        have HOp := Lib.hid hop
        clear hcs hop
        by_cases hop1 : op = 1
        · subst hop1
          have e : src = [] := by rw [← HSrc.out]; exact src_bad fun g => g.noTrue ⟨hb1, HOp.out⟩
          go_wp2_with fail
          go_meet
          case rel => exact ⟨rfl, true, rfl, Lib.hid ⟨fun _ => e, fun h => absurd h (by simp)⟩⟩
        · have hop1' : (op == 1) = false := by simpa using hop1
          have e : src = limT u.txt := by rw [← HSrc.out]; exact src_good ⟨HGd.out.1, HGd.out.2.1, HGd.out.2.2.1, HGd.out.2.2.2.1, HGd.out.2.2.2.2.1, HGd.out.2.2.2.2.2.1, HGd.out.2.2.2.2.2.2.1, HGd.out.2.2.2.2.2.2.2.1, HGd.out.2.2.2.2.2.2.2.2, fun h => hop1 (by rw [← HOp.out]; exact h.2)⟩
          go_wp2_with fail
          go_meet
          case rel => exact ⟨rfl, false, rfl, Lib.hid ⟨(fun h => absurd h (by simp)), fun _ => e⟩⟩
      · have hb1' : ((u.body.length : Int) == 1) = false := by simp; omega
        have e : src = limT u.txt := by rw [← HSrc.out]; exact src_good ⟨HGd.out.1, HGd.out.2.1, HGd.out.2.2.1, HGd.out.2.2.2.1, HGd.out.2.2.2.2.1, HGd.out.2.2.2.2.2.1, HGd.out.2.2.2.2.2.2.1, HGd.out.2.2.2.2.2.2.2.1, HGd.out.2.2.2.2.2.2.2.2, fun h => hb1 h.1⟩
        go_wp2_with fail
        go_meet
        case rel => exact ⟨rfl, false, rfl, Lib.hid ⟨(fun h => absurd h (by simp)), fun _ => e⟩⟩
    case rest =>
      obtain ⟨hW, q, rfl, HG⟩ := hcut
      have hW' := hW.symm
      subst hW'
      clear hW
      cases q
      case true =>
        have e := HG.out.1 rfl
        subst e
        go_wp2_with fail
        go_ret
        exact ⟨rfl, HBel.out⟩
      have HTx := Lib.hid (show limT u.txt = src from (HG.out.2 rfl).symm)
      have HTs := Lib.hid (show tk = txtAm u.keep ∧ tr = txtAm u.remove ∧ tg = txtGl u.guard ∧ tb = txtGl u.body from by
        have e1 : k1 = true := by rw [← HQ.out.1.1]; exact HGd.out.1
        have e2 : r1 = true := by rw [← HQ.out.1.2.1]; exact HGd.out.2.1
        have e3 : g1 = true := by rw [← HQ.out.1.2.2.1]; exact HGd.out.2.2.1
        have e4 : b1 = true := by rw [← HQ.out.1.2.2.2]; exact HGd.out.2.2.2.1
        exact ⟨by rw [← HQ.out.2.1, if_pos e1], by rw [← HQ.out.2.2.1, if_pos e2], by rw [← HQ.out.2.2.2.1, if_pos e3], by rw [← HQ.out.2.2.2.2, if_pos e4]⟩)
      have HLn := Lib.hid (show tk.length ≤ 40000000 ∧ tr.length ≤ 40000000 ∧ tg.length ≤ 100000000 ∧ tb.length ≤ 100000000 from by
        rw [HTs.out.1, HTs.out.2.1, HTs.out.2.2.1, HTs.out.2.2.2]
        exact ⟨HLs.out.1.1, HLs.out.1.2.1, HLs.out.1.2.2.1, HLs.out.1.2.2.2.1⟩)
      clear HG HSrc HGd HQ
      obtain ⟨nl, rfl⟩ : ∃ nl, nm = S nl := ⟨nm.data.toList, rfl⟩
      have HNl := Lib.hid (show u.name.size = nl.length ∧ u.name.data.toList = nl ∧ nl.length ≤ 100000 from by
        have h1 := HLs.out.1.2.2.2.2
        rw [HNm2.out] at h1 ⊢
        exact ⟨by simp [ByteArray.size], by simp, by simpa [ByteArray.size] using h1⟩)
      clear HNm2
      go_upto_if 106 with (fail)
      go_cut [12] from 13 (fun s W => W = y4 ∧ ∃ l : List UInt8, s = .string (S l) ∧ Hid (l = u.labT ++ tk))
      case first =>
        by_cases hz : nl = []
        · subst hz
          go_wp2_with fail
          go_meet
          case rel => exact ⟨rfl, tk, rfl, Lib.hid (by unfold Rl.labT; rw [if_pos (by rw [HNl.out.1]; rfl)]; rfl)⟩
        · have hfull : (S nl).toList.isEmpty = false := str_full (by simpa using hz)
          have hnl : ¬ (S nl).toList = [] := by rw [raw_list]; simpa using hz
          have hem : (!nl.isEmpty) = true := by simpa using hz
          have h1 : ¬ 9223372036854775807 < nl.length + 3 := by have := HNl.out.2.2; omega
          have h2 : ¬ 9223372036854775807 < nl.length + 3 + tk.length := by have := HNl.out.2.2; have := HLn.out.1; omega
          have hpos : nl.length ≠ 0 := fun e => hz (List.length_eq_zero_iff.1 e)
          have HP := Lib.hid hpos
          clear hpos
          go_wp2_with fail
          go_meet
          case rel => exact ⟨rfl, nl ++ [32, 64, 32] ++ tk, by rw [show (⟨#[32, 64, 32]⟩ : ByteArray) = S [32, 64, 32] from rfl, append_str, append_str], Lib.hid (by unfold Rl.labT; rw [if_neg (by rw [HNl.out.1]; exact HP.out), HNl.out.2.1])⟩
          rename_i hx; rw [hem] at hx; cases hx
      case rest =>
        obtain ⟨hW, l1, rfl, HL1⟩ := hcut
        have hW' := hW.symm
        subst hW'
        clear hW
        have HB1 := Lib.hid (show l1.length ≤ 41000000 from by
          rw [HL1.out]
          have h1 := HNl.out.2.2
          have h2 := HLn.out.1
          have h3 : u.labT.length ≤ nl.length + 3 := by
            unfold Rl.labT
            split
            · simp
            · rw [HNl.out.2.1]; simp
          rw [List.length_append]
          omega)
        go_upto_block 0 with (fail)
        go_cut [12] from 13 (fun s W => W = y4 ∧ ∃ l : List UInt8, s = .string (S l) ∧ Hid (l = u.labT ++ u.headT))
        case first =>
          by_cases hr0 : u.remove.length = 0
          · have hr0' : ((u.remove.length : Int) == 0) = true := by simp [hr0]
            have h1 : ¬ 9223372036854775807 < l1.length + 5 := by have := HB1.out; omega
            have HH := Lib.hid (show u.labT ++ u.headT = l1 ++ [32, 61, 61, 62, 32] from by rw [HL1.out, HTs.out.1]; unfold Rl.headT; rw [if_pos hr0, List.append_assoc])
            clear hr0
            go_wp2_with fail
            go_meet
            case rel => exact ⟨rfl, l1 ++ [32, 61, 61, 62, 32], by rw [show (⟨#[32, 61, 61, 62, 32]⟩ : ByteArray) = S [32, 61, 61, 62, 32] from rfl, append_str], Lib.hid HH.out.symm⟩
          · have hr0' : ((u.remove.length : Int) == 0) = false := by simp; exact fun e => hr0 (by rw [e]; rfl)
            by_cases hk0 : u.keep.length = 0
            · have hk0' : ((u.keep.length : Int) == 0) = true := by simp [hk0]
              have h1 : ¬ 9223372036854775807 < l1.length + tr.length := by have := HB1.out; have := HLn.out.2.1; omega
              have h2 : ¬ 9223372036854775807 < l1.length + tr.length + 5 := by have := HB1.out; have := HLn.out.2.1; omega
              have HH := Lib.hid (show u.labT ++ u.headT = l1 ++ tr ++ [32, 60, 61, 62, 32] from by rw [HL1.out, HTs.out.1, HTs.out.2.1]; unfold Rl.headT; rw [if_neg hr0, if_pos hk0]; simp)
              clear hr0 hk0
              go_wp2_with fail
              go_meet
              case rel => exact ⟨rfl, l1 ++ tr ++ [32, 60, 61, 62, 32], by rw [show (⟨#[32, 60, 61, 62, 32]⟩ : ByteArray) = S [32, 60, 61, 62, 32] from rfl, append_str, append_str], Lib.hid HH.out.symm⟩
            · have hk0' : ((u.keep.length : Int) == 0) = false := by simp; exact fun e => hk0 (by rw [e]; rfl)
              have h1 : ¬ 9223372036854775807 < l1.length + 3 := by have := HB1.out; omega
              have h2 : ¬ 9223372036854775807 < l1.length + 3 + tr.length := by have := HB1.out; have := HLn.out.2.1; omega
              have h3 : ¬ 9223372036854775807 < l1.length + 3 + tr.length + 5 := by have := HB1.out; have := HLn.out.2.1; omega
              have HH := Lib.hid (show u.labT ++ u.headT = l1 ++ [32, 92, 32] ++ tr ++ [32, 60, 61, 62, 32] from by rw [HL1.out, HTs.out.1, HTs.out.2.1]; unfold Rl.headT; rw [if_neg hr0, if_neg hk0]; simp)
              clear hr0 hk0
              go_wp2_with fail
              go_meet
              case rel => exact ⟨rfl, l1 ++ [32, 92, 32] ++ tr ++ [32, 60, 61, 62, 32], by rw [show (⟨#[32, 92, 32]⟩ : ByteArray) = S [32, 92, 32] from rfl, show (⟨#[32, 60, 61, 62, 32]⟩ : ByteArray) = S [32, 60, 61, 62, 32] from rfl, append_str, append_str, append_str], Lib.hid HH.out.symm⟩
        case rest =>
          obtain ⟨hW, l2, rfl, HL2⟩ := hcut
          have hW' := hW.symm
          subst hW'
          clear hW
          have HB2 := Lib.hid (show l2.length ≤ 90000000 from by
            have h1 := HNl.out.2.2
            have h2 := HLn.out.1
            have h4 := HLn.out.2.1
            have h3 : u.labT.length ≤ nl.length + 3 := by
              unfold Rl.labT
              split
              · simp
              · rw [HNl.out.2.1]; simp
            have h5 : u.headT.length ≤ tk.length + tr.length + 10 := by
              rw [HTs.out.1, HTs.out.2.1]
              unfold Rl.headT
              split
              · simp; omega
              · split <;> simp <;> omega
            rw [HL2.out, List.length_append]
            omega)
          clear HB1 HL1
          go_upto_if 136 with (fail)
          go_cut [12] from 13 (fun s W => W = y4 ∧ ∃ l : List UInt8, s = .string (S l) ∧ Hid (l = u.labT ++ (u.headT ++ (if u.guard.length = 0 then [] else txtGl u.guard ++ [32, 124, 32]))))
          case first =>
            by_cases hg0 : u.guard.length = 0
            · have hg0' : decide ((0 : Int) < (u.guard.length : Int)) = false := by rw [hg0]; rfl
              have HH := Lib.hid (show l2 = u.labT ++ (u.headT ++ (if u.guard.length = 0 then [] else txtGl u.guard ++ [32, 124, 32])) from by rw [if_pos hg0, HL2.out, List.append_nil])
              go_wp2_with fail
              go_meet
              case rel => exact ⟨rfl, l2, rfl, HH⟩
            · have hg0' : 0 < u.guard.length := by omega
              have h1 : ¬ 9223372036854775807 < l2.length + tg.length := by have := HB2.out; have := HLn.out.2.2.1; omega
              have h2 : ¬ 9223372036854775807 < l2.length + tg.length + 3 := by have := HB2.out; have := HLn.out.2.2.1; omega
              have HH := Lib.hid (show l2 ++ tg ++ [32, 124, 32] = u.labT ++ (u.headT ++ (if u.guard.length = 0 then [] else txtGl u.guard ++ [32, 124, 32])) from by rw [if_neg hg0, HL2.out, HTs.out.2.2.1]; simp)
              clear hg0
              go_wp2_with fail
              go_meet
              case rel => exact ⟨rfl, l2 ++ tg ++ [32, 124, 32], by rw [show (⟨#[32, 124, 32]⟩ : ByteArray) = S [32, 124, 32] from rfl, append_str, append_str], HH⟩
          case rest =>
            obtain ⟨hW, l3, rfl, HL3⟩ := hcut
            have hW' := hW.symm
            subst hW'
            clear hW
            have HB3 := Lib.hid (show l3.length ≤ 200000000 from by
              have h1 := HB2.out
              have h2 := HLn.out.2.2.1
              rw [HL2.out, List.length_append] at h1
              rw [HTs.out.2.2.1] at h2
              rw [HL3.out, List.length_append, List.length_append]
              have h3 : (if u.guard.length = 0 then [] else txtGl u.guard ++ [32, 124, 32]).length ≤ (txtGl u.guard).length + 3 := by split <;> simp
              omega)
            clear HB2 HL2
            go_upto_if 144 with (fail)
            go_cut [10] from 13 (fun s W => W = y4 ∧ ∃ l : List UInt8, s = .string (S l) ∧ Hid (l = if u.body.length = 0 then [116, 114, 117, 101] else txtGl u.body))
            case first =>
              by_cases hb0 : u.body.length = 0
              · have hb0' : ((u.body.length : Int) == 0) = true := by simp [hb0]
                have HH := Lib.hid (show [116, 114, 117, 101] = if u.body.length = 0 then [116, 114, 117, 101] else txtGl u.body from by rw [if_pos hb0])
                clear hb0
                go_wp2_with fail
                go_meet
                case rel => exact ⟨rfl, [116, 114, 117, 101], rfl, HH⟩
              · have hb0' : ((u.body.length : Int) == 0) = false := by simp; exact fun e => hb0 (by rw [e]; rfl)
                have HH := Lib.hid (show tb = if u.body.length = 0 then [116, 114, 117, 101] else txtGl u.body from by rw [if_neg hb0, HTs.out.2.2.2])
                clear hb0
                go_wp2_with fail
                go_meet
                case rel => exact ⟨rfl, tb, rfl, HH⟩
            case rest =>
              obtain ⟨hW, l4, rfl, HL4⟩ := hcut
              have hW' := hW.symm
              subst hW'
              clear hW
              have HB4 := Lib.hid (show l4.length ≤ 200000000 from by
                rw [HL4.out]
                have h2 := HLn.out.2.2.2
                rw [HTs.out.2.2.2] at h2
                split
                · simp
                · omega)
              have HF := Lib.hid (show limT (l3 ++ l4 ++ [46]) = src from by
                rw [← HTx.out]
                unfold Rl.txt Rl.bodT
                rw [HL3.out, HL4.out]
                simp)
              have h1 : ¬ 9223372036854775807 < l3.length + l4.length := by have := HB3.out; have := HB4.out; omega
              have h2 : ¬ 9223372036854775807 < l3.length + l4.length + 1 := by have := HB3.out; have := HB4.out; omega
              have QL := Lib.hid (fun W => limited_at (l3 ++ l4 ++ [46]) (by have := HB3.out; have := HB4.out; simp only [List.length_append, List.length_cons, List.length_nil]; omega) W)
              rw [HF.out] at QL
              have HJ := Lib.hid (show (S l3 ++ S l4 ++ (⟨#[46]⟩ : ByteArray)) = S (l3 ++ l4 ++ [46]) from by rw [show (⟨#[46]⟩ : ByteArray) = S [46] from rfl, append_str, append_str])
              clear HF HB3 HB4 HL3 HL4 HTs HTx
              go_wp2_with (go_at_call 42; rw [HJ.out]; (with_reducible refine (QL.out _).mono ?_); rintro e w5 ⟨rfl, rfl⟩)
              go_ret
              exact ⟨rfl, HBel.out⟩
end Go.Proofs.YtnghanpmmbcbbaaGreatDoor
namespace Go.Proofs.YtnghanpmmbcbbaaGreatDoor
open Go.RowKit
def Dc.ok (d : Dc) : Bool := rightB d.name.data.toList && (decide (0 ≤ d.arity) && decide (d.arity ≤ 6))
def Dc.tx (d : Dc) : List UInt8 := d.name.data.toList ++ [47] ++ Lib.itoa d.arity
def dsT (l : List Dc) : List UInt8 := joinS 0 (l.map Dc.tx) []
def dlineT (l : List Dc) : List UInt8 := if l.length = 0 then [] else [99, 111, 110, 115, 116, 114, 97, 105, 110, 116, 32] ++ dsT l ++ [46, 10]
noncomputable def linesR (l : List Rl) : List UInt8 := l.flatMap fun r => r.numR.src ++ [10]
structure Pm.Good (p : Pm) : Prop where
  d30 : p.decls.length ≤ 30
  r40 : p.rules.length ≤ 40
  decls : p.decls.all Dc.ok = true
  rules : ∀ r ∈ p.rules, r.numR.src ≠ []
open Classical in
noncomputable def Pm.src (p : Pm) : List UInt8 := if p.Good then limT (dlineT p.decls ++ linesR p.rules) else []
theorem limT_len (l : List UInt8) : (limT l).length ≤ 16384 := by
  unfold limT
  split
  · simp
  · omega
theorem src_len (u : Rl) : u.src.length ≤ 16384 := by
  by_cases h : u.Good
  · rw [src_good h]; exact limT_len _
  · rw [src_bad h]; simp
theorem dc_tx_len {d : Dc} (h : d.ok = true) (hn : d.name.size ≤ 100) : d.tx.length ≤ 112 := by
  simp only [Dc.ok, Bool.and_eq_true, decide_eq_true_eq] at h
  have h1 := itoa_len (n := d.arity) (by omega) (by omega)
  have h2 : d.name.data.toList.length = d.name.size := Array.length_toList
  simp only [Dc.tx, List.length_append, List.length_cons, List.length_nil]
  omega
theorem dsT_len {l : List Dc} (h : l.all Dc.ok = true) (hn : ∀ d ∈ l, d.name.size ≤ 100) : (dsT l).length ≤ l.length * 114 := by
  have := joinS_len 112 (l.map Dc.tx) 0 [] (fun x hx => by
    obtain ⟨y, hy, rfl⟩ := List.mem_map.1 hx
    exact dc_tx_len (List.all_eq_true.1 h y hy) (hn y hy))
  simpa [dsT] using this
theorem linesR_len (l : List Rl) : (linesR l).length ≤ l.length * 16385 := by
  induction l with
  | nil => simp [linesR]
  | cons r l ih =>
    have h := src_len r.numR
    unfold linesR at ih ⊢
    rw [List.flatMap_cons, List.length_append, List.length_append, List.length_cons, List.length_cons, List.length_nil]
    omega
theorem linesR_next {l : List Rl} {j : Nat} (h : j < l.length) : linesR (l.take (j + 1)) = linesR (l.take j) ++ ((l.getD j default).numR.src ++ [10]) := by
  rw [rl_take_next h]
  unfold linesR
  rw [List.flatMap_append]
  simp
theorem dc_no {l : List Dc} {j : Nat} (hj : j < l.length) (h : (l.getD j default).ok = false) : l.all Dc.ok = false := by
  cases h2 : l.all Dc.ok
  · rfl
  · rw [List.all_eq_true.1 h2 _ (dc_getD_mem hj)] at h
    cases h
theorem dc_yes {l : List Dc} {j : Nat} (hj : j < l.length) (h : (l.take j).all Dc.ok = true) (h2 : (l.getD j default).ok = true) : (l.take (j + 1)).all Dc.ok = true := by
  rw [dc_take_next hj]
  simp only [List.all_append, List.all_cons, List.all_nil, Bool.and_true, h, h2]
theorem dsT_next {l : List Dc} {j : Nat} (h : j < l.length) : dsT (l.take (j + 1)) = if j = 0 then dsT (l.take j) ++ (l.getD j default).tx else dsT (l.take j) ++ [44, 32] ++ (l.getD j default).tx := by
  rw [dc_take_next h, dsT, List.map_append, List.map_cons, List.map_nil, joinS_snoc, Nat.zero_add, List.length_map, List.length_take, Nat.min_eq_left (Nat.le_of_lt h)]
  rfl
end Go.Proofs.YtnghanpmmbcbbaaGreatDoor
