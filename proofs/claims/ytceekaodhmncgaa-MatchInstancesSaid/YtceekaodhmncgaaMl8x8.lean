/-
  Contract of matchVar of the program.
  Contracts of EqualFunc with match, matchAll and match of the program.
  Contract of match of the program.
  Contract of binding of the program: a copy of what is new at a variable.
  What extend of the program has put together, and what is still to come, plainly and in memory.
-/
import Derived.Test.YtceekaodhmncgaaMl8x7
import Derived.Test.YtceekaodhmncgaaMl8x5
import Derived.WalkSpells
import Derived.Test.YtceekaodhmncgaaMl8x4
import Derived.Test.YtceekaodhmncgaaMl8x3
namespace Go.Proofs.Ytceekaodhmncgaa
open Go.RowKit Go.Maps

/-- What matching a variable answers. -/
def varR (e : List Bd) (n : Int) (t : Tm) : Option (List Bd) := match look e n with
  | some u => if cmpT u t = 0 then some e else none
  | none => some (insE ⟨n, t⟩ e)
theorem varR_some {e : List Bd} {n : Int} {t u : Tm} (h : look e n = some u) : varR e n t = if cmpT u t == 0 then some e else none := by
  unfold varR; rw [h]; simp
theorem varR_none {e : List Bd} {n : Int} {t : Tm} (h : look e n = none) : varR e n t = some (insE ⟨n, t⟩ e) := by
  unfold varR; rw [h]
/-- The state is as it was. -/
theorem mat_same_state {w0 W W' : World} {env N : List Bd} {M : Nat} {zk : Kb} {k : Nat} {b : Bool} {r : Option (List Bd)} (hS : Mst w0 M zk N W) (hN : New env N) (hk : N.length ≤ k) (hb : Below W.heap.size W W') (hr : r = if b then some (insAll env N) else none) :
    MatR w0 env M zk r k (.returned (.bool b)) W' := by
  subst hr
  refine ⟨by cases b <;> rfl, (hS.below hb).be, fun e' he => ?_⟩
  cases b
  · simp at he
  · simp at he
    exact ⟨N, he.symm, hN, hk, hS.below hb⟩

/-- A new entry. -/
theorem mst_put {w0 w w5 : World} {M mb : Nat} {zk : Kb} {N : List Bd} {D : DataW Value} {n : Int} {t : Tm} (hS : Mst w0 M zk N w) (hM : w.cell? ⟨M, 1, none⟩ = some (.map (some mb))) (hmm : M ≠ mb) (hlo : w0.heap.size ≤ mb ∧ zk.w.heap.size ≤ mb) (hvm : VMap8 D N) (hn : Fits n)
    (hNn : look N n = none) (ht : t.At w0) (hnt : t.nodes ≤ 1000000) (hown : w5.ownsMap Try.prog 3 heldR mb (N.length + 1) (D.put (KL n) (.held t.val))) (hg : w.grownBy w5 (some mb)) : Mst w0 M zk (N ++ [⟨n, t⟩]) w5 := by
  have hb : w5.heap[M]? = w.heap[M]? := hg.block M hS.lt (by simpa using hmm)
  refine ⟨hS.be.grown hg hS.be.size (fun k hk => by simp at hk; omega), hS.lo, Nat.lt_of_lt_of_le hS.lt hg.size, Nat.le_trans hS.sz hg.size, fun b h1 h2 => (hg.block b (Nat.lt_of_lt_of_le h1 hS.sz) (by simp; have := hlo.2; omega)).trans (hS.ag b h1 h2), (World.cell?_of_block (a := ⟨M, 0, none⟩) hb).trans hS.c0, fun j => (World.frozen?_of_block (a := ⟨M, j, none⟩) hb).trans (hS.fz j), ?_, fun x hx => ?_⟩
  · exact .inr ⟨mb, _, (World.cell?_of_block (a := ⟨M, 1, none⟩) hb).trans hM, hmm, hlo, by rw [List.length_append]; exact hown, hvm.put hn t hNn⟩
  · rcases List.mem_append.1 hx with hx | hx
    · exact hS.tm x hx
    · rw [List.mem_singleton.1 hx]; exact ⟨hn, ht, hnt⟩
/-- The map is made. -/
theorem mst_made {w0 w : World} {M : Nat} {zk : Kb} (hS : Mst w0 M zk [] w) : Mst w0 M zk [] ((w.alloc (.map #[] 0)).setCell ⟨M, 1, none⟩ (.map (some w.heap.size))) ∧
    ((w.alloc (.map #[] 0)).setCell ⟨M, 1, none⟩ (.map (some w.heap.size))).ownsMap Try.prog 3 heldR w.heap.size 0 (.map []) ∧
    ((w.alloc (.map #[] 0)).setCell ⟨M, 1, none⟩ (.map (some w.heap.size))).cell? ⟨M, 1, none⟩ = some (.map (some w.heap.size)) := by
  have h1 := hS.alloc (.map #[] 0)
  have hne : w.heap.size ≠ M := Nat.ne_of_gt hS.lt
  have hm : ((w.alloc (.map #[] 0)).setCell ⟨M, 1, none⟩ (.map (some w.heap.size))).ownsMap Try.prog 3 heldR w.heap.size 0 (.map []) := (World.ownsMap_made w Try.prog 3 heldR).setCell hne _
  have hc : ((w.alloc (.map #[] 0)).setCell ⟨M, 1, none⟩ (.map (some w.heap.size))).cell? ⟨M, 1, none⟩ = some (.map (some w.heap.size)) := by
    rcases h1.mp with ⟨_, h2⟩ | ⟨_, _, h2, _⟩ <;> exact World.cell?_setCell_same _ _ _ h2
  refine ⟨⟨h1.be.setCell h1.lo _, h1.lo, by simpa [World.setCell] using h1.lt, by simpa [World.setCell] using h1.sz, fun b e1 e2 => (Below.heap_setCell _ _ _ _ (by intro e; exact e2 (by first | exact e | exact e.symm))).trans (h1.ag b e1 e2), ?_, fun j => ?_, .inr ⟨_, _, hc, hne.symm, ⟨Nat.le_trans hS.lo (Nat.le_of_lt hS.lt), hS.sz⟩, hm, VMap8.empty⟩, h1.tm⟩, hm, hc⟩
  · exact (World.cell?_setCell_other _ _ _ _ (by simp)).trans h1.c0
  · rw [World.frozen?_setCell]; exact h1.fz j

theorem look8_nil (W : World) {n : Int} (hn : Fits n) : (Instr.lookup 74 (.map none) (.int .i64 n) true).run Try.prog W = .ok (.tuple #[.agg #[.int .i64 0, .int .i64 0, .string ⟨#[]⟩, .slice none 0 0], .bool false]) W := by
  have hz : (zeroValue 25).run Try.prog W = .ok (.agg #[.int .i64 0, .int .i64 0, .string ⟨#[]⟩, .slice none 0 0]) W := by kernel_rfl
  simpa using Maps.look_nil (w := W) true keyed Try.underlying74 hz (keyOf_int_mk Try.underlying3 (fits_wf hn))

set_option maxRecDepth 20000 in
set_option maxHeartbeats 4000000 in
theorem match_var_at (w0 : World) (env kn : List Bd) (D : Option Addr) (q M : Nat) (zw : World) (hk : ∀ W : World, Below w0.heap.size w0 W → (∀ b, b < zw.heap.size → b ≠ M → W.heap[b]? = zw.heap[b]?) → BLst W D kn q) (hkt : ∀ x ∈ kn, x.tm.At w0) (hG : Good kn) (hlk : ∀ v, look kn v = look env v) (N : List Bd) (n : Int) (hn : Fits n) (t : Tm) (ht : t.At w0) (hnt : t.nodes ≤ 1000000)
    (hNew : New env N) (hlen : N.length < 1000000) (W : World) (hS : Mst w0 M ⟨.slice D kn.length q, zw⟩ N W) :
    Calls Try.prog 77 #[.pointer (some ⟨M, 0, none⟩), .int .i64 n, t.val] W (MatR w0 env M ⟨.slice D kn.length q, zw⟩ (varR (insAll env N) n t) (N.length + 1)) := by
  have HS := Lib.hid hS
  have QF := Lib.hid (fun W' (h : Below W.heap.size W W') => find_at kn D q n W' (hk _ (hS.below h).be (hS.below h).ag) hG.len hG.srt)
  have hlook := look_insAll hNew n
  have m0 := hS.c0
  have hlt := hS.lt
  cases hkn : look kn n with
  | some u =>
    rw [← hlk, hkn] at hlook
    have HV := Lib.hid (varR_some (t := t) (show look (insAll env N) n = some u by rw [hlook]; rfl))
    have QS := Lib.hid (fun W' (h : Below w0.heap.size w0 W') => same_at u t W' (by obtain ⟨x, hx, _, rfl⟩ := look_some hkn; exact (hkt x hx).below h) (ht.below h) rfl)
    have HN := Lib.hid hNew
    rw [hkn] at QF
    clear hlook hkn ht hnt hNew hk hG hlk
    generalize (cmpT u t == 0) = b at *
    obtain ⟨k1, n1, s1, A1, c1, a1⟩ := t
    obtain ⟨k2, n2, s2, A2, c2, a2⟩ := u
    show Calls Try.prog 77 #[.pointer (some ⟨M, 0, none⟩), .int .i64 n, .agg #[.int .i64 k1, .int .i64 n1, .string s1, .slice A1 a1.length c1]] W _
    go_enter Try.func77, Try.ntmps77
    have p0 := (HS.out.alloc (.cells #[.int .i64 k1, .int .i64 n1, .string s1, .slice A1 a1.length c1] 25)).c0
    go_wp2_with fail
    refine (QF.out _ (below1 _ _)).mono ?_
    rintro e w1 ⟨rfl, hb1⟩
    simp only [optT, Option.getD_some, Option.isSome_some]
    have hW := (below1 W _).trans (hb1.mono (by simp))
    obtain ⟨d0, d1, d2, d3, _⟩ := box4 hb1
    have hz1 : W.heap.size < w1.heap.size := by have := hb1.size; simp at this; omega
    clear hb1
    go_wp2_with fail
    have hW2 := hW.alloc hW.size (.cells #[.int .i64 k2, .int .i64 n2, .string s2, .slice A2 a2.length c2] 25)
    refine (QS.out _ (HS.out.below hW2).be).mono ?_
    rintro e w2 ⟨rfl, hb2⟩
    go_wp2_with fail
    go_ret
    exact mat_same_state HS.out HN.out (Nat.le_succ _) (hW2.trans (hb2.mono hW2.size)) HV.out
  | none =>
    rw [← hlk, hkn] at hlook
    have hlook' : look (insAll env N) n = look N n := by rw [hlook]; simp
    have hke : look env n = none := by rw [← hlk]; exact hkn
    rw [hkn] at QF
    have HN := Lib.hid hNew
    rcases hS.mp with ⟨hn0, m1⟩ | ⟨mb, DM, m1, hmm, hlo, hown, hvm⟩
    · subst hn0
      have HV := Lib.hid (varR_none (t := t) (show look (insAll env []) n = none by rw [hlook']; rfl))
      have HX := Lib.hid (hNew.next t hke rfl)
      have HU := Lib.hid (fun W' (h : Mst w0 M ⟨.slice D kn.length q, zw⟩ [] W') => by
        obtain ⟨h1, h2, h3⟩ := mst_made h
        obtain ⟨w5, e1, e2, e3⟩ := h2.drew.update keyed Try.underlying74 (by unfold maxLen; omega) (keyOf_int_mk Try.underlying3 (fits_wf hn)) (show heldR t.val = some (.held t.val, []) from rfl)
        exact (⟨w5, e1, mst_put h1.drew h3 (Nat.ne_of_lt h.lt) ⟨by have := h.lo; have := h.lt; omega, h.sz⟩ VMap8.empty hn rfl ht hnt e2 e3⟩ : ∃ w5, (Instr.mapUpdate 74 (.map (some W'.heap.size)) (.int .i64 n) t.val).run Try.prog ((W'.alloc (.map #[] 0)).setCell ⟨M, 1, none⟩ (.map (some W'.heap.size))).drew = .ok () w5 ∧ Mst w0 M ⟨.slice D kn.length q, zw⟩ ([] ++ [⟨n, t⟩]) w5))
      have hfz := hS.fz 1
      clear hlook hlook' hke hkn ht hnt hNew hk hG hlk hS
      obtain ⟨k1, n1, s1, A1, c1, a1⟩ := t
      show Calls Try.prog 77 #[.pointer (some ⟨M, 0, none⟩), .int .i64 n, .agg #[.int .i64 k1, .int .i64 n1, .string s1, .slice A1 a1.length c1]] W _
      go_enter Try.func77, Try.ntmps77
      have p0 := (HS.out.alloc (.cells #[.int .i64 k1, .int .i64 n1, .string s1, .slice A1 a1.length c1] 25)).c0
      go_wp2_with fail
      refine (QF.out _ (below1 _ _)).mono ?_
      rintro e w1 ⟨rfl, hb1⟩
      simp only [optT, Option.getD_none, Option.isSome_none]
      have hW := (below1 W _).trans (hb1.mono (by simp))
      obtain ⟨d0, d1, d2, d3, _⟩ := box4 hb1
      have hz1 : W.heap.size < w1.heap.size := by have := hb1.size; simp at this; omega
      have hM1 := keepv hW m1
      have hlt1 : M < w1.heap.size := by have := hW.size; omega
      have hf1 : w1.frozen? ⟨M, 1, none⟩ = false := (hW.frozen (p := ⟨M, 1, none⟩) hlt).trans hfz
      have hne1 : W.heap.size ≠ M := by omega
      have hdj : ∀ j v, w1.cell? ⟨W.heap.size, j, none⟩ = some v → ∀ o1 o2 o3 u, ((((w1.alloc o1).alloc o2).alloc o3).setCell ⟨M, 1, none⟩ u).drew.cell? ⟨W.heap.size, j, none⟩ = some v := fun j v h o1 o2 o3 u =>
        (World.cell?_setCell_other _ _ _ _ (fun e => by injection e with e _; omega)).trans (keepv (below1 _ _) (keepv (below1 _ _) (keepv (below1 _ _) h)))
      have y0 := hdj 0 _ d0
      have y1 := hdj 1 _ d1
      have y2 := hdj 2 _ d2
      have y3 := hdj 3 _ d3
      clear hb1 hdj
      rw [show zeroT.val = .agg #[.int .i64 0, .int .i64 0, .string ⟨#[]⟩, .slice none 0 0] from rfl]
      have hq := fun W' => run_eql_map_nil (P := Try.prog) W' 74 _ _ none Try.underlying74
      have hql := fun W' => look8_nil W' hn
      have hmm := @run_makeMap Try.prog
      have hfx : ∀ o1 o2 o3, (((w1.alloc o1).alloc o2).alloc o3).frozen? ⟨M, 1, none⟩ = false := fun o1 o2 o3 => ((((HS.out.below hW).alloc o1).alloc o2).alloc o3).fz 1
      have hcx : ∀ o1 o2 o3, (((w1.alloc o1).alloc o2).alloc o3).cell? ⟨M, 1, none⟩ = some (.map none) := fun o1 o2 o3 => keepv (below1 _ _) (keepv (below1 _ _) (keepv (below1 _ _) hM1))
      have hW2 := (hW.alloc hW.size zeroBox).alloc (by have := hW.size; simp; omega) (.cells #[.int .i64 0, .int .i64 0, .string ⟨#[]⟩, .slice none 0 0] 25)
      obtain ⟨w5, hup, hE⟩ := HU.out _ (HS.out.below hW2)
      have HE := Lib.hid hE
      have hup2 : (Instr.mapUpdate 74 (.map (some (w1.heap.size + 1 + 1))) (.int .i64 n) (.agg #[.int .i64 k1, .int .i64 n1, .string s1, .slice A1 a1.length c1])).run Try.prog ((((w1.alloc (.cells #[.int .i64 0, .int .i64 0, .string ⟨#[]⟩, .slice none 0 0] 25)).alloc (.cells #[.int .i64 0, .int .i64 0, .string ⟨#[]⟩, .slice none 0 0] 25)).alloc (.map #[] 0)).setCell ⟨M, 1, none⟩ (.map (some (w1.heap.size + 1 + 1)))).drew = .ok () w5 := by simp only [World.size_alloc] at hup; exact hup
      have HUP := Lib.hid hup2
      clear hup hE hup2
      go_wp2_with fail
      have hup2 := HUP.out
      go_region
      go_wp2_with fail
      go_ret
      exact ⟨by rw [HV.out]; rfl, HE.out.be, fun e' he => ⟨_, by rw [HV.out] at he; rw [insAll_next]; exact (Option.some.inj he).symm, HX.out, by simp, HE.out⟩⟩
    · cases hNn : look N n with
      | some u =>
        have hu := look_some hNn
        have HV := Lib.hid (varR_some (t := t) (show look (insAll env N) n = some u by rw [hlook', hNn]))
        have QS := Lib.hid (fun W' (h : Below w0.heap.size w0 W') => same_at u t W' (by obtain ⟨x, hx, _, rfl⟩ := hu; exact (hS.tm x hx).2.1.below h) (ht.below h) rfl)
        have QL := Lib.hid (fun W' (h : Below W.heap.size W W') => (look8 (ownsMap_below hown h) hvm hn).1 u hNn)
        clear hlook hlook' hke hkn ht hnt hNew hk hG hlk hS hown hvm hu hNn
        generalize (cmpT u t == 0) = b at *
        obtain ⟨k1, n1, s1, A1, c1, a1⟩ := t
        obtain ⟨k2, n2, s2, A2, c2, a2⟩ := u
        show Calls Try.prog 77 #[.pointer (some ⟨M, 0, none⟩), .int .i64 n, .agg #[.int .i64 k1, .int .i64 n1, .string s1, .slice A1 a1.length c1]] W _
        go_enter Try.func77, Try.ntmps77
        have p0 := (HS.out.alloc (.cells #[.int .i64 k1, .int .i64 n1, .string s1, .slice A1 a1.length c1] 25)).c0
        go_wp2_with fail
        refine (QF.out _ (below1 _ _)).mono ?_
        rintro e w1 ⟨rfl, hb1⟩
        simp only [optT, Option.getD_none, Option.isSome_none]
        have hW := (below1 W _).trans (hb1.mono (by simp))
        obtain ⟨d0, d1, d2, d3, _⟩ := box4 hb1
        have hz1 : W.heap.size < w1.heap.size := by have := hb1.size; simp at this; omega
        have hM1 := keepv hW m1
        have hlt1 : M < w1.heap.size := by have := hW.size; omega
        clear hb1
        have QL2 := QL.out _ (hW.alloc hW.size zeroBox)
        rw [show zeroT.val = .agg #[.int .i64 0, .int .i64 0, .string ⟨#[]⟩, .slice none 0 0] from rfl]
        go_wp2_with fail
        have hW2 := (hW.alloc hW.size zeroBox).alloc (by have := hW.size; simp; omega) (.cells #[.int .i64 k2, .int .i64 n2, .string s2, .slice A2 a2.length c2] 25)
        refine (QS.out _ (HS.out.below hW2).be).mono ?_
        rintro e w2 ⟨rfl, hb2⟩
        go_wp2_with fail
        go_ret
        exact mat_same_state HS.out HN.out (Nat.le_succ _) (hW2.trans (hb2.mono hW2.size)) HV.out
      | none =>
        have HV := Lib.hid (varR_none (t := t) (show look (insAll env N) n = none by rw [hlook', hNn]))
        have QL := Lib.hid (fun W' (h : Below W.heap.size W W') => (look8 (ownsMap_below hown h) hvm hn).2.1 hNn)
        have HU := Lib.hid (fun W' (h : Below W.heap.size W W') => (ownsMap_below hown h).update keyed Try.underlying74 (by unfold maxLen; omega) (keyOf_int_mk Try.underlying3 (fits_wf hn)) (show heldR t.val = some (.held t.val, []) from rfl))
        have HP := Lib.hid (fun W' (h : Below W.heap.size W W') w5 h1 h2 => mst_put (w5 := w5) (HS.out.below h) (keepv h m1) hmm hlo hvm hn hNn ht hnt h1 h2)
        have HX := Lib.hid (hNew.next t hke hNn)
        clear hlook hlook' hke hkn ht hnt hNew hk hG hlk hS hown hvm hNn
        obtain ⟨k1, n1, s1, A1, c1, a1⟩ := t
        show Calls Try.prog 77 #[.pointer (some ⟨M, 0, none⟩), .int .i64 n, .agg #[.int .i64 k1, .int .i64 n1, .string s1, .slice A1 a1.length c1]] W _
        go_enter Try.func77, Try.ntmps77
        have p0 := (HS.out.alloc (.cells #[.int .i64 k1, .int .i64 n1, .string s1, .slice A1 a1.length c1] 25)).c0
        go_wp2_with fail
        refine (QF.out _ (below1 _ _)).mono ?_
        rintro e w1 ⟨rfl, hb1⟩
        simp only [optT, Option.getD_none, Option.isSome_none]
        have hW := (below1 W _).trans (hb1.mono (by simp))
        obtain ⟨d0, d1, d2, d3, _⟩ := box4 hb1
        have hz1 : W.heap.size < w1.heap.size := by have := hb1.size; simp at this; omega
        have hM1 := keepv hW m1
        have hlt1 : M < w1.heap.size := by have := hW.size; omega
        clear hb1
        rw [show zeroT.val = .agg #[.int .i64 0, .int .i64 0, .string ⟨#[]⟩, .slice none 0 0] from rfl]
        have QL2 := QL.out _ (hW.alloc hW.size zeroBox)
        have hW2 := (hW.alloc hW.size zeroBox).alloc (by have := hW.size; simp; omega) zeroBox
        obtain ⟨w5, hup, hown5, hg5⟩ := HU.out _ hW2.drew
        have hE : Mst w0 M ⟨.slice D kn.length q, zw⟩ (N ++ [⟨n, .mk k1 n1 s1 A1 c1 a1⟩]) w5 := HP.out _ hW2.drew w5 hown5 hg5
        have HE := Lib.hid hE
        have hup2 : (Instr.mapUpdate 74 (.map (some mb)) (.int .i64 n) (.agg #[.int .i64 k1, .int .i64 n1, .string s1, .slice A1 a1.length c1])).run Try.prog ((w1.alloc zeroBox).alloc (.cells #[.int .i64 0, .int .i64 0, .string ⟨#[]⟩, .slice none 0 0] 25)).drew = .ok () w5 := hup
        clear hown5 hg5 hup hE
        have hq := fun W' => run_eql_map_nil (P := Try.prog) W' 74 _ _ (some mb) Try.underlying74
        go_wp2_with fail
        go_region
        go_wp2_with fail
        go_ret
        exact ⟨by rw [HV.out]; rfl, HE.out.be, fun e' he => ⟨_, by rw [HV.out] at he; rw [insAll_next]; exact (Option.some.inj he).symm, HX.out, by simp, HE.out⟩⟩
end Go.Proofs.Ytceekaodhmncgaa
namespace Go.Proofs.Ytceekaodhmncgaa
open Go.RowKit Go.Maps

theorem matL_append {e : List Bd} {a a' b b' : List Tm} (h : a.length = a'.length) : matL e (a ++ b) (a' ++ b') = (matL e a a').bind fun e' => matL e' b b' := by
  induction a generalizing e a' with
  | nil =>
    cases a' with
    | nil => simp [matL]
    | cons _ _ => simp at h
  | cons x r ih =>
    cases a' with
    | nil => simp at h
    | cons y m =>
      simp only [List.cons_append, matL]
      cases matT e x y with
      | none => rfl
      | some e1 => exact ih (by simpa using h)
theorem matL_step {e e1 : List Bd} {ps ts : List Tm} {j : Nat} (hp : j < ps.length) (ht : j < ts.length) (h : matL e (ps.take j) (ts.take j) = some e1) : matL e (ps.take (j + 1)) (ts.take (j + 1)) = matT e1 (ps.getD j default) (ts.getD j default) := by
  rw [ttake_next hp, ttake_next ht, matL_append (by simp; omega), h]
  simp only [Option.bind_some, matL]
  cases matT e1 (ps.getD j default) (ts.getD j default) <;> rfl
theorem matL_halt {e : List Bd} {ps ts : List Tm} {j : Nat} (hp : j < ps.length) (ht : j < ts.length) (h : matL e (ps.take (j + 1)) (ts.take (j + 1)) = none) : matL e ps ts = none := by
  have := matL_append (e := e) (a := ps.take (j + 1)) (a' := ts.take (j + 1)) (b := ps.drop (j + 1)) (b' := ts.drop (j + 1)) (by simp; omega)
  rw [List.take_append_drop, List.take_append_drop, h] at this
  exact this
theorem nodesL_take_next {l : List Tm} {k : Nat} (h : k < l.length) : nodesL (l.take (k + 1)) = nodesL (l.take k) + (l.getD k default).nodes := by
  have hap : ∀ a b : List Tm, nodesL (a ++ b) = nodesL a + nodesL b := fun a b => by
    induction a with
    | nil => simp [nodesL]
    | cons x r ih => simp only [List.cons_append, nodesL, ih]; omega
  rw [ttake_next h, hap]
  simp [nodesL]
theorem nodesL_take_le (l : List Tm) (k : Nat) : nodesL (l.take k) ≤ nodesL l := by
  induction l generalizing k with
  | nil => simp [nodesL]
  | cons x r ih =>
    cases k with
    | zero => simp [nodesL]
    | succ k => simp only [List.take_succ_cons, nodesL]; have := ih k; omega

/-- What one step of matching must do. -/
def Step8 (w0 : World) (env : List Bd) (M : Nat) (zk : Kb) (p : Tm) : Prop := ∀ (N : List Bd) (t : Tm) (W : World), New env N → N.length + p.nodes ≤ 1000000 → t.At w0 → t.nodes ≤ 1000000 → Mst w0 M zk N W →
  Calls Try.prog 67 #[.pointer (some ⟨M, 0, none⟩), p.val, t.val] W (MatR w0 env M zk (matT (insAll env N) p t) (N.length + p.nodes))

set_option maxHeartbeats 4000000 in
theorem equal_m_at (w0 : World) (env : List Bd) (M : Nat) (zk : Kb) (ps ts : List Tm) (A B : Option Addr) (c d : Nat) (hl : Lst w0 A ps c) (hm : Lst w0 B ts d) (hnt : ∀ t ∈ ts, t.nodes ≤ 1000000) (ih : ∀ p ∈ ps, Step8 w0 env M zk p)
    (N : List Bd) (hNew : New env N) (hlen : N.length + nodesL ps ≤ 1000000) (W : World) (hS : Mst w0 M zk N W) :
    Calls Try.prog 66 #[.slice A ps.length c, .slice B ts.length d, .func (.func 67) #[.pointer (some ⟨M, 0, none⟩)] #[]] W
      (MatR w0 env M zk (matL (insAll env N) ps ts) (N.length + nodesL ps)) := by
  have hlp : ps.length ≤ 9223372036854775807 := hl.len
  have hlt : ts.length ≤ 9223372036854775807 := hm.len
  by_cases hne : ps.length = ts.length
  · have hne' : ((ps.length : Int) != (ts.length : Int)) = false := by simp; omega
    have HNE := Lib.hid hne
    have HS0 := Lib.hid (show matL (insAll env N) (ps.take 0) (ts.take 0) = some (insAll env N) ∧ New env N ∧ N.length ≤ N.length + nodesL (ps.take 0) ∧ Mst w0 M zk N W from ⟨by simp [matL], hNew, Nat.le_add_right _ _, hS⟩)
    have HL := Lib.hid hl
    have HM := Lib.hid hm
    have HI := Lib.hid ih
    have HT := Lib.hid hnt
    have HLN := Lib.hid hlen
    clear hne hl hm ih hnt hNew hS hlen
    go_enter Try.func66, Try.ntmps66
    go_wp2_with fail
    go_loopw [17] (fun i wr => ∃ j Nj, j ≤ ps.length ∧ j ≤ ts.length ∧ i = .int .i64 (j : Nat) ∧ Hid (matL (insAll env N) (ps.take j) (ts.take j) = some (insAll env Nj) ∧ New env Nj ∧ Nj.length ≤ N.length + nodesL (ps.take j) ∧ Mst w0 M zk Nj wr)) (fun i _ => ps.length - (intOf i).toNat)
    case atStart => exact ⟨0, N, Nat.zero_le _, Nat.zero_le _, rfl, HS0⟩
    case round =>
      clear HS0
      obtain ⟨j, Nj, hj, hjm, rfl, HF⟩ := hrel
      by_cases hlt' : j < ps.length
      · have hjt : j < ts.length := by have := HNE.out; omega
        have hb := HF.out.2.2.2.be
        obtain ⟨b, o, rfl, ⟨c0, c1, c2, c3⟩, _⟩ := (HL.out.below hb).get hlt'
        obtain ⟨b', o', rfl, ⟨g0, g1, g2, g3⟩, _⟩ := (HM.out.below hb).get hjt
        have hb1 := ((World.block_lt_of_cell? _ _ c0 : b < wr.heap.size))
        have hb2 := ((World.block_lt_of_cell? _ _ g0 : b' < wr.heap.size))
        have HN := Lib.hid (matL_step hlt' hjt HF.out.1)
        have HH := Lib.hid (fun h => matL_halt (e := insAll env N) hlt' hjt h)
        have HK := Lib.hid (show Nj.length + (ps.getD j default).nodes ≤ N.length + nodesL (ps.take (j + 1)) from by rw [nodesL_take_next hlt']; have := HF.out.2.2.1; omega)
        have Q1 := Lib.hid (fun W' (h : Below wr.heap.size wr W') => HI.out _ (getD_mem hlt') Nj (ts.getD j default) W' HF.out.2.1 (by have := HK.out; have := nodesL_take_le ps (j + 1); have := HLN.out; omega) (HM.out.mem (getD_mem hjt)) (HT.out _ (getD_mem hjt)) (HF.out.2.2.2.below h))
        generalize ps.getD j default = x at *
        generalize ts.getD j default = y at *
        generalize matT (insAll env Nj) x y = r at *
        clear hb
        obtain ⟨k1, n1, s1, A1, p1, a1⟩ := x
        obtain ⟨k2, n2, s2, A2, p2, a2⟩ := y
        simp only [Tm.kind, Tm.num, Tm.name, Tm.at_, Tm.args, Tm.cap] at c0 c1 c2 c3 g0 g1 g2 g3
        cases r with
        | none =>
          go_wp2_with fail
          refine (Q1.out _ (((Below.refl _ _).alloc (Nat.le_refl _) _).alloc (by simp) _)).mono ?_
          rintro e w2 ⟨rfl, hb3, _⟩
          simp only [Option.isSome_none]
          go_wp2_with fail
          go_ret
          have hh := HH.out HN.out
          exact ⟨by rw [hh]; rfl, hb3, fun e' he => by rw [hh] at he; cases he⟩
        | some e1 =>
          go_wp2_with fail
          refine (Q1.out _ (((Below.refl _ _).alloc (Nat.le_refl _) _).alloc (by simp) _)).mono ?_
          rintro e w2 ⟨rfl, hb3, h4⟩
          simp only [Option.isSome_some]
          obtain ⟨N', h5, h6, h7, h8⟩ := h4 e1 rfl
          have HX := Lib.hid (show matL (insAll env N) (ps.take (j + 1)) (ts.take (j + 1)) = some (insAll env N') ∧ New env N' ∧ N'.length ≤ N.length + nodesL (ps.take (j + 1)) ∧ Mst w0 M zk N' w2 from ⟨by rw [HN.out, h5], h6, Nat.le_trans h7 HK.out, h8⟩)
          clear h4 h5 h6 h7 h8
          go_wp2_with fail
          go_roundw
          case rel => exact ⟨j + 1, N', by omega, by omega, by go_num, HX⟩
          case measure => simp [intOf]; omega
      · obtain rfl : j = ps.length := by omega
        have HX := Lib.hid (show matL (insAll env N) ps ts = some (insAll env Nj) from by
          have := HF.out.1
          rw [List.take_length] at this
          rwa [show ps.length = ts.length from HNE.out, List.take_length] at this)
        go_wp2_with fail
        go_ret
        have h := HF.out
        rw [List.take_length] at h
        exact ⟨by rw [HX.out]; rfl, h.2.2.2.be, fun e' he => ⟨Nj, by rw [HX.out] at he; exact (Option.some.inj he).symm, h.2.1, h.2.2.1, h.2.2.2⟩⟩
  · have hne' : ((ps.length : Int) != (ts.length : Int)) = true := by simp; omega
    have HX := Lib.hid (matL_ne (e := insAll env N) hne)
    have HB := Lib.hid hS.be
    clear hl hm ih hnt hNew hS hlen hne
    go_enter Try.func66, Try.ntmps66
    go_wp2_with fail
    go_ret
    exact ⟨by rw [HX.out]; rfl, HB.out, fun e' he => by rw [HX.out] at he; cases he⟩

theorem match_all_at (w0 : World) (env : List Bd) (M : Nat) (zk : Kb) (ps ts : List Tm) (A B : Option Addr) (c d : Nat) (hl : Lst w0 A ps c) (hm : Lst w0 B ts d) (hnt : ∀ t ∈ ts, t.nodes ≤ 1000000) (ih : ∀ p ∈ ps, Step8 w0 env M zk p)
    (N : List Bd) (hNew : New env N) (hlen : N.length + nodesL ps ≤ 1000000) (W : World) (hS : Mst w0 M zk N W) :
    Calls Try.prog 49 #[.pointer (some ⟨M, 0, none⟩), .slice A ps.length c, .slice B ts.length d] W (MatR w0 env M zk (matL (insAll env N) ps ts) (N.length + nodesL ps)) := by
  have Q := Lib.hid (equal_m_at w0 env M zk ps ts A B c d hl hm hnt ih N hNew hlen W hS)
  clear hl hm ih hnt hNew hS hlen
  go_enter Try.func49, Try.ntmps49
  go_wp2_with fail
  refine (Q.out).mono ?_
  rintro e w2 ⟨rfl, h⟩
  have H := Lib.hid h
  clear h
  go_wp2_with fail
  go_ret
  exact ⟨rfl, H.out⟩
end Go.Proofs.Ytceekaodhmncgaa
namespace Go.Proofs.Ytceekaodhmncgaa
open Go.RowKit Go.Maps

theorem MatR.mono {w0 : World} {env : List Bd} {M : Nat} {zk : Kb} {r : Option (List Bd)} {k k' : Nat} {e : Ending} {W : World} (h : MatR w0 env M zk r k e W) (hk : k ≤ k') : MatR w0 env M zk r k' e W :=
  ⟨h.1, h.2.1, fun e' he => by obtain ⟨N', h1, h2, h3, h4⟩ := h.2.2 e' he; exact ⟨N', h1, h2, Nat.le_trans h3 hk, h4⟩⟩
theorem byte_ne {s s' : ByteArray} (h : s ≠ s') : (s.toList == s'.toList) = false := by
  rw [ByteArray.toList_eq, ByteArray.toList_eq, beq_eq_false_iff_ne]
  intro e
  apply h
  obtain ⟨d⟩ := s
  obtain ⟨d'⟩ := s'
  have : d = d' := Array.toList_inj.1 e
  rw [this]
theorem nodes_pos8 (p : Tm) : 1 ≤ p.nodes := by
  obtain ⟨k, n, s, A, c, a⟩ := p
  simp only [Tm.nodes]; omega

set_option maxHeartbeats 4000000 in
theorem match_at (w0 : World) (env kn : List Bd) (D : Option Addr) (q M : Nat) (zw : World) (hk : ∀ W : World, Below w0.heap.size w0 W → (∀ b, b < zw.heap.size → b ≠ M → W.heap[b]? = zw.heap[b]?) → BLst W D kn q) (hkt : ∀ x ∈ kn, x.tm.At w0) (hG : Good kn) (hlk : ∀ v, look kn v = look env v) (p : Tm) : p.At w0 → Step8 w0 env M ⟨.slice D kn.length q, zw⟩ p := by
  induction p using Tm.induct with
  | h k n s A c a ih =>
    intro hat N t W hNew hlen ht hnt hS
    have hF := ((At_iff _ _).1 hat).1
    simp only [Tm.kind, Tm.num, Tm.name] at hF
    have HB2 := Lib.hid (fun o o' => (below2 W o o' : Below W.heap.size W ((W.alloc o).alloc o')))
    have HS := Lib.hid hS
    by_cases k1 : k = 1
    · subst k1
      have Q := Lib.hid (fun W' (h : Below W.heap.size W W') => match_var_at w0 env kn D q M zw hk hkt hG hlk N n hF.2.1 t ht hnt hNew (by have := nodes_pos8 (.mk 1 n s A c a); omega) W' (hS.below h))
      have HV := Lib.hid (show matT (insAll env N) (.mk 1 n s A c a) t = varR (insAll env N) n t from by rw [mat_var]; rfl)
      have HK := Lib.hid (show N.length + 1 ≤ N.length + (Tm.mk 1 n s A c a).nodes from Nat.add_le_add_left (nodes_pos8 _) _)
      rw [HV.out]
      clear ih hat hlen ht hnt hNew hS hk hkt hG hlk
      generalize (Tm.mk 1 n s A c a).nodes = kk at *
      generalize varR (insAll env N) n t = r at *
      obtain ⟨k', n', s', A', c', a'⟩ := t
      show Calls Try.prog 67 #[.pointer (some ⟨M, 0, none⟩), .agg #[.int .i64 1, .int .i64 n, .string s, .slice A a.length c], .agg #[.int .i64 k', .int .i64 n', .string s', .slice A' a'.length c']] W _
      obtain ⟨H0, H1⟩ := two_boxes W (.int .i64 1) (.int .i64 n) (.string s) (.slice A a.length c) (.int .i64 k') (.int .i64 n') (.string s') (.slice A' a'.length c') 25
      obtain ⟨_, x0, x1, x2, x3, _⟩ := H0
      obtain ⟨_, y0, y1, y2, y3, _⟩ := H1
      go_enter Try.func67, Try.ntmps67
      go_wp2_with fail
      refine (Q.out _ (HB2.out _ _)).mono ?_
      rintro e w2 ⟨rfl, h⟩
      have H := Lib.hid h
      clear h
      go_wp2_with fail
      go_ret
      exact MatR.mono ⟨rfl, H.out⟩ HK.out
    · have k1' : (k == 1) = false := by simpa using k1
      by_cases k2 : k = 2
      · subst k2
        have hl : Lst w0 A a c := hat.lst
        have hna : N.length + nodesL a ≤ 1000000 := by simp only [Tm.nodes] at hlen; omega
        obtain ⟨k', n', s', A', c', a'⟩ := t
        by_cases g : k' = 2
        · subst g
          by_cases hs : s' = s
          · subst hs
            have hm : Lst w0 A' a' c' := ht.lst
            have Q := Lib.hid (fun W' (h : Below W.heap.size W W') => match_all_at w0 env M ⟨.slice D kn.length q, zw⟩ a a' A A' c c' hl hm (fun x hx => by have := nodes_mem hx; simp only [Tm.nodes] at hnt; omega) (fun x hx => ih x hx (hl.mem hx)) N hNew hna W' (hS.below h))
            have HV := Lib.hid (show matT (insAll env N) (.mk 2 n s' A c a) (.mk 2 n' s' A' c' a') = matL (insAll env N) a a' from by rw [mat_fun, if_pos rfl])
            have HK := Lib.hid (show N.length + nodesL a ≤ N.length + (Tm.mk 2 n s' A c a).nodes from by simp only [Tm.nodes]; omega)
            rw [HV.out]
            clear ih hat hlen ht hnt hNew hS hk hkt hG hlk hl hm hna
            generalize (Tm.mk 2 n s' A c a).nodes = kk at *
            generalize nodesL a = kl at *
            generalize matL (insAll env N) a a' = r at *
            show Calls Try.prog 67 #[.pointer (some ⟨M, 0, none⟩), .agg #[.int .i64 2, .int .i64 n, .string s', .slice A a.length c], .agg #[.int .i64 2, .int .i64 n', .string s', .slice A' a'.length c']] W _
            obtain ⟨H0, H1⟩ := two_boxes W (.int .i64 2) (.int .i64 n) (.string s') (.slice A a.length c) (.int .i64 2) (.int .i64 n') (.string s') (.slice A' a'.length c') 25
            obtain ⟨_, x0, x1, x2, x3, _⟩ := H0
            obtain ⟨_, y0, y1, y2, y3, _⟩ := H1
            go_enter Try.func67, Try.ntmps67
            go_wp2_with fail
            refine (Q.out _ (HB2.out _ _)).mono ?_
            rintro e w2 ⟨rfl, h⟩
            have H := Lib.hid h
            clear h
            go_wp2_with fail
            go_ret
            exact MatR.mono ⟨rfl, H.out⟩ HK.out
          · have g3 : (s'.toList == s.toList) = false := byte_ne hs
            have HV := Lib.hid (show matT (insAll env N) (.mk 2 n s A c a) (.mk 2 n' s' A' c' a') = none from by rw [mat_fun, if_neg (fun e => hs e.symm)])
            rw [HV.out]
            clear ih hat hlen ht hnt hNew hS hk hkt hG hlk hl hna
            generalize (Tm.mk 2 n s A c a).nodes = kk at *
            show Calls Try.prog 67 #[.pointer (some ⟨M, 0, none⟩), .agg #[.int .i64 2, .int .i64 n, .string s, .slice A a.length c], .agg #[.int .i64 2, .int .i64 n', .string s', .slice A' a'.length c']] W _
            obtain ⟨H0, H1⟩ := two_boxes W (.int .i64 2) (.int .i64 n) (.string s) (.slice A a.length c) (.int .i64 2) (.int .i64 n') (.string s') (.slice A' a'.length c') 25
            obtain ⟨_, x0, x1, x2, x3, _⟩ := H0
            obtain ⟨_, y0, y1, y2, y3, _⟩ := H1
            go_enter Try.func67, Try.ntmps67
            go_wp2_with fail
            go_ret
            exact ⟨rfl, (HS.out.below (HB2.out _ _)).be, fun e' he => by cases he⟩
        · have g2 : (k' == 2) = false := by simpa using g
          have HV := Lib.hid (show matT (insAll env N) (.mk 2 n s A c a) (.mk k' n' s' A' c' a') = none from by simp [matT, Tm.kind, g])
          rw [HV.out]
          clear ih hat hlen ht hnt hNew hS hk hkt hG hlk hl hna g
          generalize (Tm.mk 2 n s A c a).nodes = kk at *
          show Calls Try.prog 67 #[.pointer (some ⟨M, 0, none⟩), .agg #[.int .i64 2, .int .i64 n, .string s, .slice A a.length c], .agg #[.int .i64 k', .int .i64 n', .string s', .slice A' a'.length c']] W _
          obtain ⟨H0, H1⟩ := two_boxes W (.int .i64 2) (.int .i64 n) (.string s) (.slice A a.length c) (.int .i64 k') (.int .i64 n') (.string s') (.slice A' a'.length c') 25
          obtain ⟨_, x0, x1, x2, x3, _⟩ := H0
          obtain ⟨_, y0, y1, y2, y3, _⟩ := H1
          go_enter Try.func67, Try.ntmps67
          go_wp2_with fail
          go_ret
          exact ⟨rfl, (HS.out.below (HB2.out _ _)).be, fun e' he => by cases he⟩
      · have k2' : (k == 2) = false := by simpa using k2
        have Q := Lib.hid (fun W' (h : Below W.heap.size W W') => same_at (.mk k n s A c a) t W' (hat.below ((hS.below h).be)) (ht.below ((hS.below h).be)) rfl)
        have HV := Lib.hid (show matT (insAll env N) (.mk k n s A c a) t = if cmpT (.mk k n s A c a) t == 0 then some (insAll env N) else none from by rw [mat_else _ _ _ _ _ _ _ k2 k1]; simp)
        have HN := Lib.hid hNew
        clear ih hat hlen ht hnt hNew hS hk hkt hG hlk k1 k2
        generalize matT (insAll env N) (.mk k n s A c a) t = X at *
        have HL := Lib.hid (show N.length ≤ N.length + (Tm.mk k n s A c a).nodes from Nat.le_add_right _ _)
        generalize (Tm.mk k n s A c a).nodes = kk at *
        generalize (cmpT (.mk k n s A c a) t == 0) = r at *
        obtain ⟨k', n', s', A', c', a'⟩ := t
        show Calls Try.prog 67 #[.pointer (some ⟨M, 0, none⟩), .agg #[.int .i64 k, .int .i64 n, .string s, .slice A a.length c], .agg #[.int .i64 k', .int .i64 n', .string s', .slice A' a'.length c']] W _
        obtain ⟨H0, H1⟩ := two_boxes W (.int .i64 k) (.int .i64 n) (.string s) (.slice A a.length c) (.int .i64 k') (.int .i64 n') (.string s') (.slice A' a'.length c') 25
        obtain ⟨_, x0, x1, x2, x3, _⟩ := H0
        obtain ⟨_, y0, y1, y2, y3, _⟩ := H1
        go_enter Try.func67, Try.ntmps67
        go_wp2_with fail
        refine (Q.out _ (HB2.out _ _)).mono ?_
        rintro e w2 ⟨rfl, hb⟩
        have HB := Lib.hid hb
        clear hb
        go_wp2_with fail
        go_ret
        exact mat_same_state HS.out HN.out HL.out ((HB2.out _ _).trans (HB.out.mono (HB2.out _ _).size)) HV.out
end Go.Proofs.Ytceekaodhmncgaa
namespace Go.Proofs.Ytceekaodhmncgaa
open Go.RowKit Go.Maps

/-- A binding like x, in blocks of the call's own. -/
def MadeB (x : Bd) (w : World) (e : Ending) (w' : World) : Prop := ∃ y : Bd, e = .returned y.val ∧ y.strip = x.strip ∧ Lie Any w.heap.size No w' y.tm ∧ Below w.heap.size w w'

set_option maxHeartbeats 2000000 in
theorem binding_at {w0 W : World} {M : Nat} {zk : Kb} {N : List Bd} (hS : Mst w0 M zk N W) {v : Int} {u : Tm} (hu : look N v = some u) :
    Calls Try.prog 70 #[.pointer (some ⟨M, 0, none⟩), .int .i64 v] W (MadeB ⟨v, u⟩ W) := by
  obtain ⟨x, hx, hxv, rfl⟩ := look_some hu
  have hxt := hS.tm x hx
  have hfv : Fits v := by rw [← hxv]; exact hxt.1
  have hlt := hS.lt
  obtain ⟨mb, D, m1, hown, hvm⟩ : ∃ mb D, W.cell? ⟨M, 1, none⟩ = some (.map (some mb)) ∧ W.ownsMap Try.prog 3 heldR mb N.length D ∧ VMap8 D N := by
    rcases hS.mp with ⟨h1, _⟩ | ⟨mb, D, h1, _, _, h4, h5⟩
    · rw [h1] at hx; cases hx
    · exact ⟨mb, D, h1, h4, h5⟩
  have QX := Lib.hid (fun W' (h : Below W.heap.size W W') => copy_at x.tm W' ((hxt.2.1.below hS.be).below h) hxt.2.2)
  have QL := Lib.hid (fun W' (h : Below W.heap.size W W') => (look8 (ownsMap_below hown h) hvm hfv).2.2 x.tm hu)
  have m1' := keepv (below1 W (.cells #[.int .i64 0, .int .i64 0, .int .i64 0, .string ⟨#[]⟩, .slice none 0 0] 55)) m1
  have hr : ∀ j z, (#[.int .i64 0, .int .i64 0, .int .i64 0, .string ⟨#[]⟩, .slice none 0 0] : Array Value)[j]? = some z → (W.alloc (.cells #[.int .i64 0, .int .i64 0, .int .i64 0, .string ⟨#[]⟩, .slice none 0 0] 55)).cell? ⟨W.heap.size, j, none⟩ = some z := fun j z hz => by
    rw [World.cell?_alloc_at _ _ _ _ rfl]; exact hz
  have HR := Lib.hid hr
  clear hS hu hx hxv hxt hown hvm hr m1
  obtain ⟨xv, t⟩ := x
  simp only at QX QL
  obtain ⟨k, n, s, A, c, a⟩ := t
  have QL1 := QL.out _ (below1 W (.cells #[.int .i64 0, .int .i64 0, .int .i64 0, .string ⟨#[]⟩, .slice none 0 0] 55))
  go_enter Try.func70, Try.ntmps70
  go_wp2_with fail
  refine (QX.out _ (below1 _ _)).mono ?_
  rintro e w1 ⟨y, rfl, hy, hlie, hb⟩
  have HB := Lib.hid ((below1 W _).trans (hb.mono (by simp)))
  have e0 := keepv hb (HR.out 0 _ rfl)
  have e1 := keepv hb (HR.out 1 _ rfl)
  have e2 := keepv hb (HR.out 2 _ rfl)
  have e3 := keepv hb (HR.out 3 _ rfl)
  have e4 := keepv hb (HR.out 4 _ rfl)
  have hz1 : W.heap.size < w1.heap.size := by have := hb.size; simp at this; omega
  have hf : ∀ j, w1.frozen? ⟨W.heap.size, j, none⟩ = false := fun j => (hb.frozen (p := ⟨W.heap.size, j, none⟩) (by simp)).trans (World.frozen?_alloc_at _ _ _ _ rfl)
  have f0 := hf 0
  have f1 := hf 1
  have f2 := hf 2
  have f3 := hf 3
  have f4 := hf 4
  have HY := Lib.hid hy
  have HI := Lib.hid (hlie.low (lo' := W.heap.size + 1) (by simp))
  clear hf hb hy hlie QX QL QL1 m1'
  obtain ⟨k2, n2, s2, A2, p2, a2⟩ := y
  go_wp2_with fail
  refine bodyPost_ret (v := .agg #[.int .i64 v, .int .i64 k2, .int .i64 n2, .string s2, .slice A2 a2.length p2]) (by simp [results, Try.results70, go_sem, e0, e1, e2, e3, e4, Tm.kind, Tm.num, Tm.name, Tm.at_, Tm.args, Tm.cap]) rfl ?_
  refine ⟨⟨v, .mk k2 n2 s2 A2 p2 a2⟩, rfl, by simp only [Bd.strip]; rw [HY.out], ?_, ?_⟩
  · exact Lie.low (((((HI.out.set (p := ⟨W.heap.size, 0, none⟩) (.inl (by show W.heap.size < _; omega)) _).set (p := ⟨W.heap.size, 1, none⟩) (.inl (by show W.heap.size < _; omega)) _).set (p := ⟨W.heap.size, 2, none⟩) (.inl (by show W.heap.size < _; omega)) _).set (p := ⟨W.heap.size, 3, none⟩) (.inl (by show W.heap.size < _; omega)) _).set (p := ⟨W.heap.size, 4, none⟩) (.inl (by show W.heap.size < _; omega)) _) (by omega)
  · exact ((((HB.out.setCell (p := ⟨W.heap.size, 0, none⟩) (Nat.le_refl _) _).setCell (p := ⟨W.heap.size, 1, none⟩) (Nat.le_refl _) _).setCell (p := ⟨W.heap.size, 2, none⟩) (Nat.le_refl _) _).setCell (p := ⟨W.heap.size, 3, none⟩) (Nat.le_refl _) _).setCell (p := ⟨W.heap.size, 4, none⟩) (Nat.le_refl _) _
end Go.Proofs.Ytceekaodhmncgaa
namespace Go.Proofs.Ytceekaodhmncgaa
open Go.RowKit Go.Maps

def varsOf (e : List Bd) : List Int := e.map Bd.var
theorem varsOf_len (e : List Bd) : (varsOf e).length = e.length := by simp [varsOf]
theorem mrg_len : ∀ (l S : List Bd), (mrg l S).length = l.length + S.length
  | [], S => by simp [mrg]
  | x :: l, [] => by simp [mrg]
  | x :: l, s :: S => by
    simp only [mrg]
    split
    · simp only [List.length_cons]; have := mrg_len (x :: l) S; simp only [List.length_cons] at this; omega
    · simp only [List.length_cons]; have := mrg_len l (s :: S); simp only [List.length_cons] at this; omega
  termination_by l S => l.length + S.length
theorem mrg_new {x s : Bd} {l S : List Bd} (h : s.var < x.var) : mrg (x :: l) (s :: S) = s :: mrg (x :: l) S := by simp only [mrg]; rw [if_pos h]
theorem mrg_old {x : Bd} {l R : List Bd} (h : R = [] ∨ ∃ s S, R = s :: S ∧ ¬ s.var < x.var) : mrg (x :: l) R = x :: mrg l R := by
  rcases h with rfl | ⟨s, S, rfl, h⟩
  · rw [mrg_nil, mrg_nil]
  · simp only [mrg]; rw [if_neg h]

/-- What is still to come: the rest of the sorted numbers, at a slice. -/
def Rest (w : World) (N : List Bd) (A : Option Addr) (c : Nat) (R : List Bd) : Prop := R.length ≤ c ∧ c ≤ maxLen ∧ Ints w A (varsOf R) ∧ ∀ s ∈ R, look N s.var = some s.tm ∧ Fits s.var
theorem Rest.head {w : World} {N : List Bd} {A : Option Addr} {c : Nat} {s : Bd} {R : List Bd} (h : Rest w N A c (s :: R)) : ∃ b o, A = some ⟨b, o, none⟩ ∧ w.cell? ⟨b, o, none⟩ = some (.int .i64 s.var) ∧ look N s.var = some s.tm ∧ Fits s.var := by
  obtain ⟨b, o, e, hc⟩ := h.2.2.1.get (i := 0) (by simp [varsOf])
  exact ⟨b, o, e, by simpa [varsOf] using hc, h.2.2.2 s (by simp)⟩
theorem Rest.below {w w' : World} {N : List Bd} {A : Option Addr} {c : Nat} {R : List Bd} (h : Rest w N A c R) (hb : Below w.heap.size w w') : Rest w' N A c R := ⟨h.1, h.2.1, h.2.2.1.below hb, h.2.2.2⟩
theorem Rest.tail {w : World} {N : List Bd} {b o c : Nat} {s : Bd} {R : List Bd} (h : Rest w N (some ⟨b, o, none⟩) c (s :: R)) : Rest w N (some ⟨b, o + 1, none⟩) (c - 1) R := by
  have hl := h.1
  simp only [List.length_cons] at hl
  refine ⟨by omega, by have := h.2.1; omega, fun hn => ?_, fun x hx => h.2.2.2 x (by simp [hx])⟩
  refine ⟨b, o + 1, rfl, fun i hi => ?_⟩
  obtain ⟨b', o', e, hc⟩ := h.2.2.1.get (i := i + 1) (by simpa [varsOf] using hi)
  injection e with e
  injection e with e1 e2
  subst e1 e2
  rw [show o + 1 + i = o + (i + 1) by omega, hc]
  simp [varsOf]
theorem Rest.last {w : World} {N : List Bd} {A A' : Option Addr} {s : Bd} {R : List Bd} (h : Rest w N A 1 (s :: R)) : R = [] ∧ Rest w N A' 0 R := by
  have hl := h.1
  simp only [List.length_cons] at hl
  obtain rfl : R = [] := List.length_eq_zero_iff.1 (by omega)
  exact ⟨rfl, Nat.le_refl _, by unfold maxLen; omega, fun hn => absurd hn (by simp [varsOf]), fun x hx => by cases hx⟩

/-- What was put together so far: G is what is wanted, l and R are what is still to come. -/
structure Exting (w : World) (G l R : List Bd) (z : Value) (wr : World) (acc : List Bd) : Prop where
  row : RowB Any w.heap.size wr z acc
  same : ∃ P, stripB acc = stripB P ∧ G = P ++ mrg l R
  below : Below w.heap.size w wr
section
variable {w wr w' : World} {G l R acc : List Bd} {z : Value}
theorem Exting.len (h : Exting w G l R z wr acc) : acc.length + l.length + R.length = G.length := by
  obtain ⟨P, h1, h2⟩ := h.same
  have := congrArg List.length h2
  have h3 := congrArg List.length h1
  rw [List.length_append, mrg_len] at this
  rw [stripB_len, stripB_len] at h3
  omega
theorem Exting.keep (h : Exting w G l R z wr acc) (hb : Below wr.heap.size wr w') : Exting w G l R z w' acc := ⟨h.row.below hb, h.same, h.below.trans (hb.mono h.below.size)⟩
/-- A binding more, that was new. -/
theorem Exting.new {x s y : Bd} (h : ∃ P, stripB acc = stripB P ∧ G = P ++ mrg (x :: l) (s :: R)) (hy : y.strip = s.strip) (hlt : s.var < x.var) : ∃ P, stripB (acc ++ [y]) = stripB P ∧ G = P ++ mrg (x :: l) R := by
  obtain ⟨P, h1, h2⟩ := h
  refine ⟨P ++ [s], ?_, by rw [h2, mrg_new hlt]; simp⟩
  rw [stripB_append, stripB_append, h1]
  simp [stripB, hy]
/-- A binding more, of the environment. -/
theorem Exting.old {x y : Bd} (h : ∃ P, stripB acc = stripB P ∧ G = P ++ mrg (x :: l) R) (hy : y.strip = x.strip) (hr : R = [] ∨ ∃ s S, R = s :: S ∧ ¬ s.var < x.var) : ∃ P, stripB (acc ++ [y]) = stripB P ∧ G = P ++ mrg l R := by
  obtain ⟨P, h1, h2⟩ := h
  refine ⟨P ++ [x], ?_, by rw [h2, mrg_old hr]; simp⟩
  rw [stripB_append, stripB_append, h1]
  simp [stripB, hy]
/-- A binding more, when the environment is through. -/
theorem Exting.more {s y : Bd} (h : ∃ P, stripB acc = stripB P ∧ G = P ++ mrg [] (s :: R)) (hy : y.strip = s.strip) : ∃ P, stripB (acc ++ [y]) = stripB P ∧ G = P ++ mrg [] R := by
  obtain ⟨P, h1, h2⟩ := h
  refine ⟨P ++ [s], ?_, by rw [h2]; simp [mrg]⟩
  rw [stripB_append, stripB_append, h1]
  simp [stripB, hy]
end
/-- A box of a binding that stays while the row grows. -/
structure Stays5 (w : World) (B : Nat) (x : Bd) (z : Value) (W : World) : Prop where
  lo : w.heap.size ≤ B
  lt : B < W.heap.size
  ne : z.ownBlock ≠ some B
  c : ∀ j u, x.cells[j]? = some u → W.cell? ⟨B, j, none⟩ = some u
theorem Stays5.below {w W W' : World} {B : Nat} {x : Bd} {z : Value} (h : Stays5 w B x z W) (hb : Below W.heap.size W W') : Stays5 w B x z W' :=
  ⟨h.lo, Nat.lt_of_lt_of_le h.lt hb.size, h.ne, fun j u hu => keepv hb (h.c j u hu)⟩
theorem Stays5.grown {w W W' : World} {B g cap n : Nat} {x : Bd} {z : Value} (h : Stays5 w B x z W) (hg : W.grownBy W' z.ownBlock) (hat : z.ownBlock = some g ∨ g = W.heap.size) : Stays5 w B x (.slice (some ⟨g, 0, none⟩) n cap) W' := by
  have hb := hg.block B h.lt (Ne.symm h.ne)
  refine ⟨h.lo, Nat.lt_of_lt_of_le h.lt hg.size, fun e => ?_, fun j u hu => (World.cell?_of_block (a := ⟨B, j, none⟩) hb).trans (h.c j u hu)⟩
  have e' : g = B := by simpa [Value.ownBlock] using e
  rcases hat with h1 | h1
  · exact h.ne (by rw [h1, e'])
  · have := h.lt; omega
end Go.Proofs.Ytceekaodhmncgaa
