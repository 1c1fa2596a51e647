/-
  Contracts of slices.Clone at goals and of the program's renaming of them.
-/
import Derived.Test.YtpnjjahimhhjkaaVgGl
namespace Go.Proofs.Ytpnjjahimhhjkaa
open Go.RowKit

def GlCloned (w : World) (l : List Gl) (e : Ending) (w' : World) : Prop := ∃ A cap, e = .returned (.slice A l.length cap) ∧ l.length ≤ cap ∧ cap ≤ maxLen ∧ (0 < l.length → ∃ g, A = some ⟨g, 0, none⟩ ∧ w.heap.size ≤ g ∧ GlOwn w' g l) ∧ Below w.heap.size w w'
set_option maxHeartbeats 1000000 in
theorem clone_gl_at (l : List Gl) (b o c : Nat) (w : World) (h0 : 0 < l.length) (hl : GlRow w l b o) (hsz : l.length ≤ 1000000) :
    Calls Try.prog 70 #[.slice (some ⟨b, o, none⟩) l.length c] w (GlCloned w l) := by
  obtain ⟨i0, hi, hz0, hz1, hz2⟩ := info_parts gl_info
  have hn := fun (W : World) => Lib.run_eql_slice_nil (P := Try.prog) W 31 87 (some ⟨b, o, none⟩) l.length c 0 0 Try.underlying31
  go_enter Try.func70, Try.ntmps70
  have hl1 : GlRow (w.alloc (.cells #[] 87)) l b o := hl.below ((Below.refl _ _).alloc (Nat.le_refl _) _)
  have HC := Lib.hid hl1.cells
  have HO := Lib.hid (World.ownsRow_lit (base := w.heap.size) (e := 87) (size := 3) w #[] 0 (Nat.le_refl _) (Nat.zero_le _) rfl)
  clear hl hl1
  go_wp2_with (at_builtin; refine wpList_append_own _ rfl _ _ 31 rfl w.heap.size 87 i0 _ 3 48 Try.underlying31 hi hz0 hz1 hz2 rfl (by decide) _ 0 [] rfl HO.out ⟨b, o, none⟩ l.length c (glcells l) rfl (glcells_len l) HC.out (glcells_all l) (by unfold maxLen; omega) (by omega) (by simp) ?_; intro v' w1 hown1 hg1 _)
  have HG := Lib.hid hg1
  have HW := Lib.hid hown1
  clear hg1 hown1
  go_ret
  have hw := HW.out
  simp only [Nat.zero_add, List.nil_append] at hw
  obtain ⟨hlen, hv⟩ := hw
  rcases hv with ⟨_, h⟩ | ⟨g, cap, cur, rfl, hb, hheap, hle, hcap, _, hcur⟩
  · omega
  · have hw := HW.out
    simp only [Nat.zero_add, List.nil_append] at hw
    refine ⟨_, cap, rfl, hle, hcap, fun _ => ⟨g, rfl, hb, ⟨(own_lt hw g rfl).2, fun j => World.ownsRow.frozenAt hw j, fun i j u hi hu => ?_⟩⟩, ((Below.refl _ _).alloc (Nat.le_refl _) _).grown HG.out (by simp) (fun k hk => (World.ownsRow.lt HO.out k hk).1)⟩
    have hj := Gl.cells_lt hu
    rw [World.ownsRow.cellAt hw (i * 3 + j) (by omega)]
    exact (glcells_get l hi hj).trans hu
set_option maxHeartbeats 1000000 in
theorem clone_gl_none (A : Option Addr) (c : Nat) (w : World) :
    Calls Try.prog 70 #[.slice A 0 c] w (GlCloned w []) := by
  obtain ⟨i0, hi, hz0, hz1, hz2⟩ := info_parts gl_info
  have hn := fun (W : World) => Lib.run_eql_slice_nil (P := Try.prog) W 31 87 A 0 c 0 0 Try.underlying31
  cases A with
  | none =>
    go_enter Try.func70, Try.ntmps70
    go_wp2_with fail
    go_ret
    exact ⟨none, 0, rfl, Nat.le_refl _, Nat.zero_le _, fun h => by simp at h, Below.refl _ _⟩
  | some a =>
    go_enter Try.func70, Try.ntmps70
    have HO := Lib.hid (World.ownsRow_lit (base := w.heap.size) (e := 87) (size := 3) w #[] 0 (Nat.le_refl _) (Nat.zero_le _) rfl)
    go_wp2_with (at_builtin; refine wpList_append_own _ rfl _ _ 31 rfl w.heap.size 87 i0 _ 3 48 Try.underlying31 hi hz0 hz1 hz2 rfl (by decide) _ 0 [] rfl HO.out a 0 c [] rfl rfl (fun _ _ h => by simp at h) (fun _ h => by simp at h) (by unfold maxLen; omega) (by omega) (by simp) ?_; intro v' w1 hown1 hg1 _)
    have HG := Lib.hid hg1
    have HW := Lib.hid hown1
    clear hg1 hown1
    go_ret
    have hb : Below w.heap.size w w1 := ((Below.refl _ _).alloc (Nat.le_refl _) _).grown HG.out (by simp) (fun k hk => (World.ownsRow.lt HO.out k hk).1)
    rcases HW.out.2 with ⟨rfl, _⟩ | ⟨g, cap, cur, rfl, _, _, _, hcap, _, _⟩
    · exact ⟨none, 0, rfl, Nat.le_refl _, Nat.zero_le _, fun h => by simp at h, hb⟩
    · exact ⟨_, cap, rfl, Nat.zero_le _, hcap, fun h => by simp at h, hb⟩

/-- The first j are what is made of them, in blocks from lo on. -/
def GlPut (gg : Int → Int) (l : List Gl) (g lo j : Nat) (wr : World) : Prop :=
  ∃ news : List Gl, news.length = j ∧ news.map Gl.key = (l.take j).map (fun x => (x.ren gg).key) ∧ GlOwn wr g (news ++ l.drop j) ∧ ∀ x ∈ news, GlLie Any lo (Is g) wr x
section
variable {gg : Int → Int} {l : List Gl} {g lo j : Nat} {wr : World}
theorem GlPut.below {w' : World} (h : GlPut gg l g lo j wr) (hb : Below wr.heap.size wr w') : GlPut gg l g lo j w' := by
  obtain ⟨news, hn, hs, hr, hk⟩ := h
  exact ⟨news, hn, hs, hr.below hb, fun x hx => (hk x hx).below hb⟩
theorem GlPut.cells (h : GlPut gg l g lo j wr) (hj : j < l.length) : ∀ i v, (l.getD j default).cells[i]? = some v → wr.cell? ⟨g, j * 3 + i, none⟩ = some v := by
  obtain ⟨news, hn, hs, hr, hk⟩ := h
  intro i v hv
  have hgx : (news ++ l.drop j).getD j default = l.getD j default := by
    simp [List.getD, List.getElem?_append_right (show news.length ≤ j by omega), hn]
  exact hr.2.2 j i v (by simp; omega) (by rw [hgx]; exact hv)
theorem GlPut.lt (h : GlPut gg l g lo j wr) : g < wr.heap.size := by
  obtain ⟨_, _, _, hr, _⟩ := h
  exact hr.1
theorem GlPut.free (h : GlPut gg l g lo j wr) : ∀ i, wr.frozen? ⟨g, i, none⟩ = false := by
  obtain ⟨_, _, _, hr, _⟩ := h
  exact hr.2.1
theorem GlPut.start (h : GlOwn wr g l) : GlPut gg l g lo 0 wr := ⟨[], rfl, rfl, by simpa using h, fun x hx => by cases hx⟩
theorem glput_next {w2 : World} {u x : Gl} (h : GlPut gg l g lo j wr) (hj : j < l.length) (hx : x = l.getD j default) (hlo : lo ≤ wr.heap.size) (hu : u.key = (x.ren gg).key) (hst : GlLie Any wr.heap.size No w2 u) (hb : Below wr.heap.size wr w2) (w3 : World)
    (h3 : w3 = w2.setCell ⟨g, j * 3 + 2, none⟩ (.slice u.at_ u.args.length u.cap)) : GlPut gg l g lo (j + 1) w3 := by
  have hg := h.lt
  obtain ⟨news, hn, hs, hr, hk⟩ := h
  have hgx : (news ++ l.drop j).getD j default = x := by
    rw [hx]
    simp [List.getD, List.getElem?_append_right (show news.length ≤ j by omega), hn]
  have hr2 := hr.below hb
  have hr3 := hr2.store (i := j) (by simp; omega) u (by rw [hgx]; exact (Prod.ext_iff.1 hu).1)
  rw [← h3] at hr3
  have hset : (news ++ l.drop j).set j u = (news ++ [u]) ++ l.drop (j + 1) := by
    rw [List.set_append_right _ _ (by omega), hn, Nat.sub_self, List.drop_eq_getElem_cons hj, List.set_cons_zero, List.append_assoc]
    rfl
  rw [hset] at hr3
  refine ⟨news ++ [u], by simp [hn], ?_, hr3, fun y hy => ?_⟩
  · rw [gl_take_next hj, List.map_append, List.map_append, hs, ← hx]
    simp [hu]
  · rw [h3]
    refine GlLie.set (X := Is g) ?_ (p := ⟨g, j * 3 + 2, none⟩) (.inr rfl) _
    rcases List.mem_append.1 hy with hy | hy
    · exact (hk y hy).below hb
    · obtain rfl : y = u := by simpa using hy
      exact (hst.new_is hg).low hlo
theorem GlPut.done (h : GlPut gg l g lo l.length wr) (hlo : lo ≤ g) (cap : Nat) (hc : l.length ≤ cap) (hcm : cap ≤ maxLen) :
    ∃ news : List Gl, news.length = l.length ∧ news.map Gl.key = (l.map fun x => x.ren gg).map Gl.key ∧ ∀ W, Any W → Agree lo No wr W → GlLst W (some ⟨g, 0, none⟩) news cap := by
  obtain ⟨news, hn, hst, hr, hk⟩ := h
  rw [List.drop_length, List.append_nil] at hr
  rw [List.take_length] at hst
  refine ⟨news, hn, by rw [hst, List.map_map]; rfl, fun W _ hW => ⟨by omega, hcm, fun _ => ⟨g, 0, rfl, fun i hi => ⟨fun j u hu => ?_, ?_⟩⟩⟩⟩
  · rw [Nat.zero_add, hW.cell (p := ⟨g, i * 3 + j, none⟩) hlo hr.1 (fun h => h)]
    exact hr.2.2 i j u hi hu
  · exact hk _ (gl_getD_mem hi) W trivial fun b h1 h2 _ => hW b h1 h2 (fun h => h)
end

set_option maxHeartbeats 4000000 in
theorem rename_gls_at (l : List Gl) (A : Option Addr) (c : Nat) (w : World) (F : FuncId) (caps : Array Value) (gg : Int → Int) (hR : Renames F caps gg w) (hl : GlLst w A l c) (hsz : l.length ≤ 1000000) (hnd : ∀ x ∈ l, nodesL x.args ≤ 1000000) :
    Calls Try.prog 47 #[.slice A l.length c, .func (.func F) #[] caps] w (GlMade Any l.length (l.map fun x => x.ren gg) w) := by
  by_cases h0 : l.length = 0
  · obtain rfl : l = [] := List.length_eq_zero_iff.1 h0
    have Q := Lib.hid (clone_gl_none A c w)
    clear hR hl hsz h0 hnd
    show Calls Try.prog 47 #[.slice A 0 c, .func (.func F) #[] caps] w _
    go_enter Try.func47, Try.ntmps47
    go_wp2_with fail
    refine (Q.out).mono ?_
    rintro e w1 ⟨A', cap, rfl, h1, h2, _, hb⟩
    have HC := Lib.hid (And.intro h1 h2)
    clear h1 h2
    go_wp2_with fail
    go_loopw [12] (fun i wr => i = .int .i64 0 ∧ Below w.heap.size w wr) (fun _ _ => 0)
    case atStart => exact ⟨rfl, hb⟩
    case round =>
      obtain ⟨rfl, hbw⟩ := hrel
      go_wp2_with fail
      go_ret
      exact ⟨A', cap, [], rfl, rfl, rfl, fun W _ _ => ⟨HC.out.1, HC.out.2, fun h => by simp at h⟩, hbw⟩
  · have hp : 0 < l.length := by omega
    obtain ⟨b0, o, rfl, hrow⟩ := hl.2.2 hp
    have hlen : l.length ≤ 9223372036854775807 := by omega
    have Q := Lib.hid (clone_gl_at l b0 o c w hp hrow hsz)
    have HR := Lib.hid (fun (x : Gl) (hx : x ∈ l) (W : World) (h : Below w.heap.size w W) => rename_all_at x.args x.at_ x.cap W F caps gg (((hl.mem hx).below h).2.2) (by have := hnd x hx; have := length_le_nodes x.args; omega) (fun y hy W' h' => rename_at y F caps gg w hR W' (h.trans (h'.mono h.size)) ((Lst.mem (((hl.mem hx).below h).2.2) hy).below h') (by have := nodes_mem hy; have := hnd x hx; omega)))
    have HLL := Lib.hid (fun W (h : Below w.heap.size w W) => hl.below h)
    clear hrow hsz h0 hl hR hnd
    go_enter Try.func47, Try.ntmps47
    go_wp2_with fail
    refine (Q.out).mono ?_
    rintro e w1 ⟨A', cap, rfl, h1, h2, h3, hb⟩
    obtain ⟨g, rfl, hg, hrow⟩ := h3 hp
    have HD := Lib.hid (GlPut.start (gg := gg) (lo := w.heap.size) hrow)
    have hcap : l.length ≤ cap := h1
    have hcap2 : cap ≤ 9223372036854775807 := by unfold maxLen at h2; exact h2
    have HG := Lib.hid hg
    clear hrow h3 h1 h2 hg
    go_wp2_with fail
    go_loopw [12] (fun i wr => ∃ j : Nat, j ≤ l.length ∧ i = .int .i64 j ∧ Hid (GlPut gg l g w.heap.size j wr) ∧ Below w.heap.size w wr) (fun i _ => l.length - (intOf i).toNat)
    case atStart => exact ⟨0, Nat.zero_le _, rfl, HD, hb⟩
    case round =>
      obtain ⟨j, hj, rfl, HF, hbw⟩ := hrel
      clear hb HD
      by_cases hlt : j < l.length
      · obtain ⟨x, hx⟩ : ∃ x, x = l.getD j default := ⟨_, rfl⟩
        obtain ⟨b1, o1, e1, hcs, _⟩ := (HLL.out _ hbw).get hlt
        injection e1 with e1
        injection e1 with e1 e2
        subst e1 e2
        rw [← hx] at hcs
        have c0 := hcs 0 _ rfl
        have c1 := hcs 1 _ rfl
        have c2 := hcs 2 _ rfl
        simp only [Nat.add_zero] at c0
        clear hcs
        have hmem : x ∈ l := by rw [hx]; exact gl_getD_mem hlt
        have Q1 := Lib.hid (fun W (h : Below w.heap.size w W) => HR.out x hmem W h)
        have HX := Lib.hid hx
        have HXA := Lib.hid ((HLL.out _ (Below.refl _ _)).mem hmem)
        have hgs : g < wr.heap.size := HF.out.lt
        clear hx hmem
        obtain ⟨o', s', A', c', a'⟩ := x
        simp only at c0 c1 c2
        go_wp2_with fail
        refine (Q1.out _ (hbw.alloc hbw.size _)).mono ?_
        rintro e w2 ⟨A2, p2, cur, rfl, hcl, hst, hL, hb2⟩
        have hw : Below wr.heap.size wr w2 := (below1 wr _).trans (hb2.mono (by simp))
        have HN := Lib.hid (glput_next (u := ⟨o', s', A2, p2, cur⟩) HF.out hlt HX.out hbw.size (Prod.ext rfl (by show stripL cur = _; rw [hst]; rfl)) (fun W _ hW => ⟨HXA.out.1, HXA.out.2.1, hL W fun b' h1 h2 h3 => hW b' (by simp at h1; omega) h2 h3⟩) hw _ rfl)
        have D2 := Lib.hid (HF.out.below hw)
        have hbx := hbw.trans (hw.mono hbw.size)
        have e0 := D2.out.cells hlt
        rw [← HX.out] at e0
        have q1 := e0 2 _ rfl
        have f1 := D2.out.free (j * 3 + 2)
        have hgz := D2.out.lt
        simp only at HN
        rw [hcl] at HN
        clear e0 hcl hst hL hb2 c0 c1 c2 hw
        go_wp2_with fail
        go_roundw
        case rel => exact ⟨j + 1, by omega, by go_num, HN, hbx.setCell HG.out _⟩
        case measure => simp [intOf]; omega
      · obtain rfl : j = l.length := by omega
        obtain ⟨news, hn, hst, hL⟩ := HF.out.done HG.out cap hcap (by unfold maxLen; exact hcap2)
        have HL := Lib.hid hL
        have HN := Lib.hid hn
        have HS := Lib.hid hst
        clear hn hst hL HF
        go_wp2_with fail
        go_ret
        exact ⟨_, cap, news, rfl, HN.out, HS.out, HL.out, hbw⟩
end Go.Proofs.Ytpnjjahimhhjkaa
