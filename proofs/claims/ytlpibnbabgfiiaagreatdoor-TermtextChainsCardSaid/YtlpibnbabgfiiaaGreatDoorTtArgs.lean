/-
  The contract of the reader's arguments, given that of expr for shorter texts.
-/
import Derived.Test.YtlpibnbabgfiiaaGreatDoorTtLab
import Derived.Deep.AppendLies
namespace Go.Proofs.YtlpibnbabgfiiaaGreatDoor
open Go.RowKit

/-- expr reads as exprP n where what is left is shorter than n. -/
def ExprAt (s : ByteArray) (n : Nat) : Prop := ∀ (R p : Nat) (w : World), Rd w R s p → (skip (rest s p)).length < n →
  Calls Tryz.prog 43 #[.pointer (some ⟨R, 0, none⟩)] w (Parsed R s w (exprP n (skip (rest s p))))

/-- Terms that were read, in a row of the call's own. -/
def Row (lo : Nat) (w : World) (z : Value) (acc : List Tm) : Prop :=
  w.ownsRow lo 24 4 z acc.length (tcells acc) ∧ ∀ x ∈ acc, Live lo (fun k => z.ownBlock = some k) w x
theorem own_lt {w : World} {base : Nat} {e : TypeId} {size : Nat} {v : Value} {n : Nat} {xs : List Value} (h : w.ownsRow base e size v n xs) : ∀ k, v.ownBlock = some k → base ≤ k ∧ k < w.heap.size := by
  intro k hk
  rcases h.2 with ⟨rfl, _⟩ | ⟨g, cap, cur, rfl, hb, hg, _⟩
  · simp [Value.ownBlock] at hk
  · simp only [Value.ownBlock, Option.some.injEq] at hk
    subst hk
    refine ⟨hb, ?_⟩
    rcases Nat.lt_or_ge g w.heap.size with h | h
    · exact h
    · rw [Array.getElem?_eq_none h] at hg; cases hg
theorem Row.keeps {lo R : Nat} {w w' : World} {z : Value} {acc : List Tm} (h : Row lo w z acc) (k : Keeps R w w') (hR : R < lo) : Row lo w' z acc := by
  refine ⟨World.ownsRow.kept (row := some R) h.1 ⟨k.os, k.tape, k.output, k.size, fun j hj hne => k.block j hj (fun e => hne (by rw [e]))⟩ (.inr fun e => by have := (own_lt h.1 R e).1; omega), fun x hx => (h.2 x hx).keeps k hR⟩
theorem tcells_append (l m : List Tm) : tcells (l ++ m) = tcells l ++ tcells m := by simp [tcells]
/-- One term more: behind the call (w2), the blocks of the new element (w3), the append (w4). -/
theorem Row.next {lo g cap : Nat} {w2 w3 w4 : World} {z : Value} {acc : List Tm} {u : Tm} (h : Row lo w2 z acc) (hu : Live lo (fun k => z.ownBlock = some k) w2 u) (hb : Below w2.heap.size w2 w3)
    (hown : w4.ownsRow lo 24 4 (.slice (some ⟨g, 0, none⟩) (acc.length + 1) cap) (acc.length + 1) (tcells acc ++ u.cells)) (hg : w3.grownBy w4 z.ownBlock) (hat : z.ownBlock = some g ∨ g = w3.heap.size) :
    Row lo w4 (.slice (some ⟨g, 0, none⟩) (acc.length + 1) cap) (acc ++ [u]) := by
  refine ⟨by rw [List.length_append, tcells_append]; simpa [tcells] using hown, fun x hx => ?_⟩
  have hx2 : Live lo (fun k => z.ownBlock = some k) w2 x := by
    rcases List.mem_append.1 hx with hx | hx
    · exact h.2 x hx
    · rw [List.mem_singleton.1 hx]; exact hu
  refine (hx2.below hb).less hg.size fun b h1 h2 h3 => ⟨h1, fun e => ?_, hg.block b h2 (fun e => h3 e.symm)⟩
  have e' : g = b := by simpa [Value.ownBlock] using e
  rcases hat with h | h
  · exact h3 (by rw [h, e'])
  · omega
theorem Row.lst {lo : Nat} {w : World} {z : Value} {acc : List Tm} (h : Row lo w z acc) (h0 : 0 < acc.length) : ∃ g c, z = .slice (some ⟨g, 0, none⟩) acc.length c ∧ LiveL lo No w (some ⟨g, 0, none⟩) acc c := by
  have hl := tcells_length acc
  rcases h.1.2 with ⟨_, h1⟩ | ⟨g, cap, cur, rfl, hb, hg, hle, hcap, hcs, hcur⟩
  · omega
  · have hlt := own_lt h.1 g rfl
    refine ⟨g, cap, rfl, fun W hW => ⟨hle, hcap, fun _ => ⟨g, 0, rfl, RowAt.of fun i hi => ⟨fun j u hu => ?_, ?_⟩⟩⟩⟩
    · have hj : j < 4 := by
        have := (List.getElem?_eq_some_iff.1 hu).1
        simpa [Tm.cells] using this
      rw [hW.cell (p := ⟨g, 0 + 4 * i + j, none⟩) hlt.1 hlt.2 (fun h => h)]
      have hc := World.ownsRow.cellAt h.1 (4 * i + j) (by omega)
      rw [Nat.zero_add, hc]
      exact (tcells_get acc hi hj).trans hu
    · exact h.2 _ (getD_mem hi) W fun b h1 h2 h3 => hW b h1 h2 (fun h => h)

theorem Row.lst' {lo g n cap : Nat} {w : World} {acc : List Tm} (h : Row lo w (.slice (some ⟨g, 0, none⟩) n cap) acc) (h0 : 0 < acc.length) : LiveL lo No w (some ⟨g, 0, none⟩) acc cap := by
  obtain ⟨g', c, e, hl⟩ := h.lst h0
  injection e with e1 e2 e3
  injection e1 with e1
  injection e1 with e1 _ _
  subst e1 e3
  exact hl

/-- How the reading of arguments ends. -/
def ArgsRead (R : Nat) (s : ByteArray) (w : World) (res : PR (List Tm)) (e : Ending) (w' : World) : Prop :=
  ∃ p', Keeps R w w' ∧ Rd w' R s p' ∧ ((∃ l A c, res = .ok (stripL l) (skip (rest s p')) ∧ 0 < l.length ∧ l.length ≤ 16384 ∧ LiveL w.heap.size No w' (some ⟨A, 0, none⟩) l c ∧ e = .returned (.tuple #[.slice (some ⟨A, 0, none⟩) l.length c, .int .i64 0])) ∨
    (∃ c : Int, c ≠ 0 ∧ res = .err c ∧ e = .returned (.tuple #[.slice none 0 0, .int .i64 c])))

/-- What holds at the head of the loop. -/
def ArgsLoop (R n : Nat) (s : ByteArray) (w : World) (res : PR (List Tm)) (gk : Nat) (z : Value) (wr : World) (q : Nat) (acc : List Tm) : Prop :=
  Keeps R w wr ∧ Rd wr R s q ∧ (skip (rest s q)).length < n ∧ (skip (rest s q)).length ≤ gk ∧ acc.length + (rest s q).length ≤ 16384 ∧ Row w.heap.size wr z acc ∧ res = argsP (exprP n) (stripL acc) (skip (rest s q)) ∧ (acc = [] → z = .slice none 0 0)

theorem cells_one (u : Tm) : ∀ v ∈ u.cells, v.oneCell' = true := by
  intro v hv
  simp only [Tm.cells, List.mem_cons, List.not_mem_nil, or_false] at hv
  rcases hv with rfl | rfl | rfl | rfl <;> rfl
theorem news2 (w : World) (o : Obj) (u : Tm) (T : TypeId) : ∀ j v, u.cells[j]? = some v → ((w.alloc o).alloc (.cells #[.int .i64 u.kind, .int .i64 u.num, .string u.name, .slice u.at_ u.args.length u.cap] T)).cell? ((⟨w.heap.size + 1, 0, none⟩ : Addr).add j) = some v := by
  intro j v hv
  rw [add_plain, Nat.zero_add, World.cell?_alloc_at _ _ _ _ (by simp), ← hv, show (#[Value.int .i64 u.kind, .int .i64 u.num, .string u.name, .slice u.at_ u.args.length u.cap] : Array Value) = u.cells.toArray from rfl, List.getElem?_toArray]
/-- The loop goes on. -/
theorem ArgsLoop.next {R n gk q q' q2 : Nat} {s : ByteArray} {w wr w4 w5 : World} {res : PR (List Tm)} {z z' : Value} {acc : List Tm} {u t : Tm} (hI : ArgsLoop R n s w res gk z wr q acc) (hR : R < w.heap.size)
    (ho : exprP n (skip (rest s q)) = .ok t (skip (rest s q'))) (ht : u.strip = t) (h44 : (skip (rest s q')).headD 0 = 44) (hq2 : rest s q2 = (skip (rest s q')).tail)
    (h4 : Keeps R w w4) (hrow : Row w.heap.size w4 z' (acc ++ [u])) (h5 : Keeps R w4 w5) (hr5 : Rd w5 R s q2) : ArgsLoop R n s w res (gk - 1) z' w5 q2 (acc ++ [u]) ∧ gk - 1 < gk := by
  obtain ⟨k1, k2, k3, k4, k5, k6, k7, k8⟩ := hI
  have hx := expr_shrinks n _ _ _ ho
  have hl : (rest s q2).length + 1 = (skip (rest s q')).length := by
    obtain ⟨y, hy⟩ := head_cons h44 (by decide)
    rw [hq2, hy]; rfl
  have hs2 := skip_len (rest s q2)
  have hs1 := skip_len (rest s q)
  refine ⟨⟨h4.trans h5, hr5, by omega, by omega, ?_, hrow.keeps h5 hR, ?_, fun e => absurd e (by simp)⟩, by omega⟩
  · simp only [List.length_append, List.length_cons, List.length_nil]; omega
  · rw [k7, args_comma (expr_shrinks n) ho h44, stripL_append, hq2]
    simp [stripL, ht]

set_option maxHeartbeats 2000000 in
set_option maxRecDepth 10000 in
theorem tt_args_at (s : ByteArray) (n : Nat) (hE : ExprAt s n) (R p : Nat) (w : World) (hs : s.size ≤ 16384) (h : Rd w R s p) (hn : (skip (rest s p)).length < n) :
    Calls Tryz.prog 85 #[.pointer (some ⟨R, 0, none⟩)] w (ArgsRead R s w (argsP (exprP n) [] (skip (rest s p)))) := by
  obtain ⟨i0, hi, hz0, hz1, hz2⟩ := info_parts term_info
  obtain ⟨res, hres⟩ : ∃ res, res = argsP (exprP n) [] (skip (rest s p)) := ⟨_, rfl⟩
  rw [← hres]
  have hR := h.lt
  have hsm : s.size ≤ maxLen := by unfold maxLen; omega
  have Q := Lib.hid hE
  have HS := Lib.hid (expr_shrinks n)
  have H0 := Lib.hid (show ArgsLoop R n s w res n (.slice none 0 0) w p [] from ⟨Keeps.refl _ _, h, hn, by omega, by rw [rest_len]; simp; omega, ⟨⟨rfl, .inl ⟨rfl, rfl⟩⟩, fun x hx => by cases hx⟩, hres, fun _ => rfl⟩)
  clear hE h hn hres
  go_enter Tryz.func85, Tryz.ntmps85
  go_wp2_with fail
  go_loopg [4] n (fun gk z wr => ∃ (q : Nat) (acc : List Tm) (x : Value), z = x ∧ Hid (ArgsLoop R n s w res gk x wr q acc))
  case atStart => exact ⟨p, [], _, rfl, H0⟩
  case round =>
    obtain ⟨q, acc, x, rfl, hI⟩ := hrel
    obtain ⟨k1, k2, k3, k4, k5, k6, k7, k8⟩ := hI.out
    have Q1 := Lib.hid (Q.out R q _ k2 k3)
    have HI := Lib.hid (And.intro k1 (And.intro k2 (And.intro k3 (And.intro k4 (And.intro k5 (And.intro k6 (And.intro k7 k8)))))))
    clear k1 k2 k3 k4 k5 k6 k7 k8 hI
    go_wp2_with fail
    refine Q1.out.mono ?_
    rintro e w2 ⟨u, q', hu, hk, hr, ho⟩
    have HU := Lib.hid hu
    have HK := Lib.hid hk
    have HR := Lib.hid hr
    clear hu hk hr
    rcases ho with ⟨t, ho, hst, rfl⟩ | ⟨c, hc0, ho, rfl⟩
    · have HO := Lib.hid ho
      have HT := Lib.hid hst
      clear ho hst
      have hlow := HK.out.size
      have hlow1 := HI.out.1.size
      have hlow2 : w.heap.size ≤ w2.heap.size := by omega
      have HRow := Lib.hid (HI.out.2.2.2.2.2.1.keeps HK.out hR)
      have HO1 := Lib.hid (own_lt HI.out.2.2.2.2.2.1.1)
      have HL := Lib.hid (HU.out.less (lo := w.heap.size) (w' := w2) (Nat.le_refl _) (fun b h1 _ _ => ⟨by omega, fun e => by have := (HO1.out b e).2; omega, rfl⟩))
      have hlen : acc.length ≤ 16384 := by have := HI.out.2.2.2.2.1; omega
      have HOwn := Lib.hid (own_lt HRow.out.1)
      clear hlow hlow1 HU
      go_wp2_with (at_builtin; refine wpList_append_lies _ rfl _ _ 22 rfl w.heap.size 24 i0 _ 4 56 Tryz.underlying22 hi hz0 hz1 hz2 rfl (by decide) _ acc.length (tcells acc) rfl ((HRow.out.1.alloc _).alloc _) ⟨w2.heap.size + 1, 0, none⟩ 1 1 u.cells rfl rfl (news2 w2 _ u _) (cells_one u) (by decide) (by unfold maxLen; omega) (by omega) (by simp; omega) _ rfl ?_; intro g cap w4 hown hg hat hglt)
      have HG := Lib.hid hg
      have HRow4 := Lib.hid (HRow.out.next HL.out (((Below.refl _ _).alloc (Nat.le_refl _) _).alloc (by simp) _) hown hg hat)
      have HR4 := Lib.hid (((HR.out.alloc _).alloc _).grown hg (fun k hk => by have := (HOwn.out k hk).1; omega))
      have HK4 := Lib.hid ((((HI.out.1.trans HK.out).alloc _).alloc _).grown hg (fun k hk => (HOwn.out k hk).1))
      clear hg hown hat hglt
      go_wp2_with fail
      by_cases h41 : (skip (rest s q')).headD 0 = 41
      · refine (accept_yes s R q' 41 _ hsm HR4.out h41 (by decide)).mono ?_
        rintro e w5 ⟨q2, hq2, rfl, hk5, hr5⟩
        have HE := Lib.hid (show ArgsRead R s w res (.returned (.tuple #[.slice (some ⟨g, 0, none⟩) (acc.length + 1) cap, .int .i64 0])) w5 from
          ⟨q2, HK4.out.trans hk5, hr5, .inl ⟨acc ++ [u], g, cap, by rw [HI.out.2.2.2.2.2.2.1, args_close HO.out h41, hq2, stripL_append, ← HT.out]; rfl, by simp, by simp only [List.length_append, List.length_cons, List.length_nil]; have := HI.out.2.2.2.2.1; have := expr_shrinks n _ _ _ HO.out; have := skip_len (rest s q); omega, (HRow4.out.keeps hk5 hR).lst' (by simp), by simp⟩⟩)
        clear hq2 hk5 hr5 h41
        go_wp2_with fail
        go_ret2
        exact HE.out
      · refine (accept_no s R q' 41 _ hsm HR4.out h41).mono ?_
        rintro e w5 ⟨q3, hq3, rfl, hk5, hr5⟩
        have HQ3 := Lib.hid (show skip (rest s q3) = skip (rest s q') by rw [hq3, skip_skip])
        have HK5 := Lib.hid (HK4.out.trans hk5)
        have HR5 := Lib.hid hr5
        have HRow5 := Lib.hid (HRow4.out.keeps hk5 hR)
        have H41 := Lib.hid h41
        clear hq3 hk5 hr5 h41
        go_wp2_with fail
        by_cases h44 : (skip (rest s q')).headD 0 = 44
        · refine (accept_yes s R q3 44 _ hsm HR5.out (by rw [HQ3.out]; exact h44) (by decide)).mono ?_
          rintro e w6 ⟨q4, hq4, rfl, hk6, hr6⟩
          have HN := Lib.hid (ArgsLoop.next HI.out hR HO.out HT.out h44 (by rw [← HQ3.out]; exact hq4) HK5.out HRow5.out hk6 hr6)
          clear hq4 hk6 hr6 h44
          go_wp2_with fail
          go_roundg (gk - 1)
          case measure => exact HN.out.2
          case rel => exact ⟨q4, acc ++ [u], _, rfl, HN.out.1⟩
        · refine (accept_no s R q3 44 _ hsm HR5.out (by rw [HQ3.out]; exact h44)).mono ?_
          rintro e w6 ⟨q4, hq4, rfl, hk6, hr6⟩
          have HE := Lib.hid (show ArgsRead R s w res (.returned (.tuple #[.slice none 0 0, .int .i64 16])) w6 from
            ⟨q4, HK5.out.trans hk6, hr6, .inr ⟨16, by omega, by rw [HI.out.2.2.2.2.2.2.1, args_other HO.out H41.out h44], rfl⟩⟩)
          clear hq4 hk6 hr6 h44
          go_wp2_with fail
          go_ret2
          exact HE.out
    · have hc : (c != 0) = true := by simpa using hc0
      have HO := Lib.hid ho
      have HC := Lib.hid hc0
      clear ho hc0
      go_wp2_with fail
      go_ret2
      refine ⟨q', (HI.out.1.trans HK.out).alloc _, HR.out.alloc _, .inr ⟨c, HC.out, ?_, rfl⟩⟩
      rw [HI.out.2.2.2.2.2.2.1]
      exact args_err HO.out
end Go.Proofs.YtlpibnbabgfiiaaGreatDoor
