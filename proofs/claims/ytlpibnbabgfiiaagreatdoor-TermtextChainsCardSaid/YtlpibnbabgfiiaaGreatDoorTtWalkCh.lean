/-
  The walk of TermtextChains, given the contracts of what it calls.
-/
import Derived.Test.YtlpibnbabgfiiaaGreatDoorTtOpenCh
import Derived.Test.YtlpibnbabgfiiaaGreatDoorTtChainL
import Derived.Test.YtlpibnbabgfiiaaGreatDoorTtChain
import Derived.Deep.RegionHeld3
import Derived.Deep.CutRange
import Derived.Deep.CutBlock
import Derived.BigRegion
namespace Go.Proofs.YtlpibnbabgfiiaaGreatDoor.termtextChains
open Go.ChangeShapes Go.WideShapes Go.ChangeAt Go.RowKit Go.Sort
set_option linter.unusedVariables false

/-- What a chain is not made of. -/
def badC (o1 o2 : Int) (g rx ry rz : Bool) : Bool := decide (o1 < 0) || decide (4 < o1) || decide (o2 < 0) || decide (4 < o2) || g || !rx || !ry || !rz
theorem nxc {w W X : World} (h : Below w.heap.size w W) (hb : Below W.heap.size W X) : Below w.heap.size w X := h.trans (hb.mono h.size)
theorem alc {w W : World} (h : Below w.heap.size w W) (o : Obj) : Below w.heap.size w (W.alloc o) := h.alloc h.size o
theorem boxCS {w W : World} {cs ds : Array Value} {T U : TypeId} (hb : Below ((w.alloc (.cells cs T)).alloc (.cells ds U)).heap.size ((w.alloc (.cells cs T)).alloc (.cells ds U)) W) :
    (∀ j v, cs[j]? = some v → W.cell? ⟨w.heap.size, j, none⟩ = some v) ∧ (∀ j v, ds[j]? = some v → W.cell? ⟨w.heap.size + 1, j, none⟩ = some v) ∧ Below w.heap.size w W := by
  refine ⟨fun j v h => ?_, fun j v h => ?_, ((below1 w _).trans ((below1 _ _).mono (by simp))).trans (hb.mono (by simp; omega))⟩
  · rw [hb.cell (p := ⟨w.heap.size, j, none⟩) (by simp; omega), (below1 (w.alloc (.cells cs T)) _).cell (p := ⟨w.heap.size, j, none⟩) (by simp), World.cell?_alloc_at _ _ _ _ rfl, h]
  · rw [hb.cell (p := ⟨w.heap.size + 1, j, none⟩) (by simp), World.cell?_alloc_at _ _ _ _ (by simp), h]

/-- The signs. -/
def sgB (n : Nat) : UInt8 := if n = 0 then 43 else if n = 1 then 45 else if n = 2 then 42 else if n = 3 then 47 else 37
theorem sg_at {n : Nat} (h4 : n ≤ 4) : (#[.string ⟨#[43]⟩, .string ⟨#[45]⟩, .string ⟨#[42]⟩, .string ⟨#[47]⟩, .string ⟨#[37]⟩] : Array Value)[n]? = some (.string ⟨#[sgB n]⟩) := by
  have : n = 0 ∨ n = 1 ∨ n = 2 ∨ n = 3 ∨ n = 4 := by omega
  rcases this with rfl | rfl | rfl | rfl | rfl <;> rfl

/-- The term that is asked for. -/
def wantT (o1 o2 : Int) (x y z : Tm) : Tm := if decide (o1 < 2) && decide (2 ≤ o2) then funS ⟨#[sgB o1.toNat]⟩ x (funS ⟨#[sgB o2.toNat]⟩ y z) else funS ⟨#[sgB o2.toNat]⟩ (funS ⟨#[sgB o1.toNat]⟩ x y) z
/-- The text that is read. -/
abbrev bigS (sx sy sz so sp : ByteArray) : ByteArray := ⟨#[40]⟩ ++ sx ++ ⟨#[41]⟩ ++ so ++ ⟨#[40]⟩ ++ sy ++ ⟨#[41, 32]⟩ ++ sp ++ ⟨#[40]⟩ ++ sz ++ ⟨#[41]⟩
/-- What is read. -/
def PO (rv : Bool) (v t : Tm) (c : Int) : Prop := (rv = true ∧ c = 0 ∧ t.strip = v.strip) ∨ (rv = false ∧ c = 6)

/-- The variable that holds a term which was built. -/
def Want (X : World) (v : Tm) (p : Value) (W : World) : Prop :=
  ∃ (T : Nat) (u : Tm), p = .pointer (some ⟨T, 0, none⟩) ∧ X.heap.size ≤ T ∧ Below X.heap.size X W ∧ u.At W ∧ u.strip = v.strip ∧ Box W T u
theorem boxZ (V : World) : Box (V.alloc ZB) V.heap.size z0 := Box.new V z0 24
theorem want_set {X W : World} {T : Nat} {u v u' : Tm} {p : Value} (hp : p = .pointer (some ⟨T, 0, none⟩)) (hT : X.heap.size ≤ T) (hb : Below X.heap.size X W) (hu : Live 0 (Is T) W u) (hs : u.strip = v.strip) (hB : Box W T u') :
    Want X v p (put4 W T (.int .i64 u.kind) (.int .i64 u.num) (.string u.name) (.slice u.at_ u.args.length u.cap)) :=
  ⟨T, u, hp, hT, (((hb.setCell (p := ⟨T, 0, none⟩) hT _).setCell (p := ⟨T, 1, none⟩) hT _).setCell (p := ⟨T, 2, none⟩) hT _).setCell (p := ⟨T, 3, none⟩) hT _, (hu.put4 (.inr rfl)).at, hs, hB.over u⟩
/-- What was read, and what is wanted. -/
def Got (X : World) (v : Tm) (rv : Bool) (T : Nat) (p c : Value) (W : World) : Prop :=
  ∃ (T2 : Nat) (t u : Tm) (c0 : Int), p = .pointer (some ⟨T2, 0, none⟩) ∧ c = .int .i64 c0 ∧ Below X.heap.size X W ∧ t.At W ∧ Box W T2 t ∧ PO rv v t c0 ∧ u.At W ∧ Box W T u ∧ u.strip = v.strip
theorem got_set {X Y W : World} {v t u u' : Tm} {rv : Bool} {T T2 : Nat} {c0 : Int} (hX : Below X.heap.size X Y) (hW : Below Y.heap.size Y W) (hu : u.At Y) (hB : Box Y T u) (hs : u.strip = v.strip) (hT2 : Y.heap.size ≤ T2)
    (hN : Box W T2 u') (ht : Live 0 (Is T2) W t) (hpo : PO rv v t c0) : Got X v rv T (.pointer (some ⟨T2, 0, none⟩)) (.int .i64 c0) (put4 W T2 (.int .i64 t.kind) (.int .i64 t.num) (.string t.name) (.slice t.at_ t.args.length t.cap)) := by
  have hXW := nxc hX hW
  have hT2' : X.heap.size ≤ T2 := Nat.le_trans hX.size hT2
  have hl := hB.lt
  exact ⟨T2, t, u, c0, rfl, rfl, set4b hXW hT2', (ht.put4 (.inr rfl)).at, hN.over t, hpo, ((live_old hu hT2 hW).put4 (.inr rfl)).at, (hB.below hW).put4 (by omega), hs⟩

set_option maxHeartbeats 4000000 in
set_option maxRecDepth 10000 in
theorem walkC (o1 o2 : Int) (x y z : Tm) (w : World) (g rx ry rz rv : Bool) (sx sy sz : ByteArray) (QE : ∀ W, Below w.heap.size w W → Calls Tryz.prog 10 #[] W fun e w' => e = .returned (.bool true) ∧ Below W.heap.size W w') (QG : ∀ W b, b = W.heap.size → Below w.heap.size w W → Calls Tryz.prog 9 #[.slice (some ⟨b, 0, none⟩) 3 3, .int .i64 150] (W.alloc (.cells #[.int .i64 x.kind, .int .i64 x.num, .string x.name, .slice x.at_ x.args.length x.cap, .int .i64 y.kind, .int .i64 y.num, .string y.name, .slice y.at_ y.args.length y.cap, .int .i64 z.kind, .int .i64 z.num, .string z.name, .slice z.at_ z.args.length z.cap] 24)) fun e w' => e = .returned (.bool g) ∧ Below W.heap.size W w') (QX : g = false → ∀ W, Below w.heap.size w W → Calls Tryz.prog 24 #[x.val] W fun e w' => e = .returned (.bool rx) ∧ Below W.heap.size W w') (QY : g = false → ∀ W, Below w.heap.size w W → Calls Tryz.prog 24 #[y.val] W fun e w' => e = .returned (.bool ry) ∧ Below W.heap.size W w') (QZ : g = false → ∀ W, Below w.heap.size w W → Calls Tryz.prog 24 #[z.val] W fun e w' => e = .returned (.bool rz) ∧ Below W.heap.size W w') (QF : ∀ (t u : Tm) (s : ByteArray) (W : World) (b : Nat), RowAt W [t, u] b 0 → s.size ≤ maxLen → Calls Tryz.prog 28 #[.string s, .slice (some ⟨b, 0, none⟩) 2 2] W fun e w' => ∃ g c : Nat, e = .returned (.agg #[.int .i64 2, .int .i64 0, .string s, .slice (some ⟨g, 0, none⟩) 2 c]) ∧ W.heap.size ≤ g ∧ (Tm.mk 2 0 s (some ⟨g, 0, none⟩) c [t, u]).At w' ∧ Below W.heap.size W w') (QTX : ∀ W, Below w.heap.size w W → Calls Tryz.prog 11 #[x.val] W fun e w' => e = .returned (.string sx) ∧ Below W.heap.size W w') (QTY : ∀ W, Below w.heap.size w W → Calls Tryz.prog 11 #[y.val] W fun e w' => e = .returned (.string sy) ∧ Below W.heap.size W w') (QTZ : ∀ W, Below w.heap.size w W → Calls Tryz.prog 11 #[z.val] W fun e w' => e = .returned (.string sz) ∧ Below W.heap.size W w') (QP : badC o1 o2 g rx ry rz = false → ∀ W, Below w.heap.size w W → Calls Tryz.prog 18 #[.string (bigS sx sy sz ⟨#[sgB o1.toNat]⟩ ⟨#[sgB o2.toNat]⟩)] W fun e w' => ∃ (t : Tm) (c : Int), e = .returned (.tuple #[t.val, .int .i64 c]) ∧ Live W.heap.size No w' t ∧ Below W.heap.size W w' ∧ PO rv (wantT o1 o2 x y z) t c) (QR : badC o1 o2 g rx ry rz = false → ∀ (u : Tm) W, u.At W → u.strip = (wantT o1 o2 x y z).strip → Calls Tryz.prog 24 #[u.val] W fun e w' => e = .returned (.bool rv) ∧ Below W.heap.size W w') (QS : ∀ (t u : Tm) W, t.At W → u.At W → t.strip = u.strip → Calls Tryz.prog 22 #[t.val, u.val] W fun e w' => e = .returned (.bool true) ∧ Below W.heap.size W w') (f1 : Fits o1) (f2 : Fits o2) (lx : sx.size ≤ 1000000) (ly : sy.size ≤ 1000000) (lz : sz.size ≤ 1000000) (TX : ∀ W, Below w.heap.size w W → x.At W) (TY : ∀ W, Below w.heap.size w W → y.At W) (TZ : ∀ W, Below w.heap.size w W → z.At W) :
    Calls Tryz.prog 8 #[(.agg #[.int .i64 o1, .int .i64 o2, .int .i64 x.kind, .int .i64 x.num, .string x.name, .slice x.at_ x.args.length x.cap, .int .i64 y.kind, .int .i64 y.num, .string y.name, .slice y.at_ y.args.length y.cap, .int .i64 z.kind, .int .i64 z.num, .string z.name, .slice z.at_ z.args.length z.cap])] w fun e w' => e = .returned (.bool true) ∧ Below w.heap.size w w' := by
  have HE := Lib.hid QE
  have HG := Lib.hid QG
  have HX := Lib.hid QX
  have HY := Lib.hid QY
  have HZ := Lib.hid QZ
  have HF := Lib.hid QF
  have HTX := Lib.hid TX
  have HTY := Lib.hid TY
  have HTZ := Lib.hid TZ
  have HTx := Lib.hid QTX
  have HTy := Lib.hid QTY
  have HTz := Lib.hid QTZ
  have HPa := Lib.hid QP
  have HRi := Lib.hid QR
  have HSa := Lib.hid QS
  clear QE QG QX QY QZ QF TX TY TZ QTX QTY QTZ QP QR QS
  have QF := HF; have TX := HTX; have TY := HTY; have TZ := HTZ
  clear HF HTX HTY HTZ
  obtain ⟨d, hd⟩ : ∃ d, badC o1 o2 g rx ry rz = d := ⟨_, rfl⟩
  have HD0 := Lib.hid hd
  clear hd
  go_enter Tryz.func8, Tryz.ntmps8
  go_upto_region 2 with (fail)
  go_cut [55] from 10 to 55 (fun b W => Hid (b = .bool d ∧ Below ((w.alloc (.cells #[.int .i64 o1, .int .i64 o2, .int .i64 x.kind, .int .i64 x.num, .string x.name, .slice x.at_ x.args.length x.cap, .int .i64 y.kind, .int .i64 y.num, .string y.name, .slice y.at_ y.args.length y.cap, .int .i64 z.kind, .int .i64 z.num, .string z.name, .slice z.at_ z.args.length z.cap] 51)).alloc (.cells #[.string ⟨#[43]⟩, .string ⟨#[45]⟩, .string ⟨#[42]⟩, .string ⟨#[47]⟩, .string ⟨#[37]⟩] 9)).heap.size ((w.alloc (.cells #[.int .i64 o1, .int .i64 o2, .int .i64 x.kind, .int .i64 x.num, .string x.name, .slice x.at_ x.args.length x.cap, .int .i64 y.kind, .int .i64 y.num, .string y.name, .slice y.at_ y.args.length y.cap, .int .i64 z.kind, .int .i64 z.num, .string z.name, .slice z.at_ z.args.length z.cap] 51)).alloc (.cells #[.string ⟨#[43]⟩, .string ⟨#[45]⟩, .string ⟨#[42]⟩, .string ⟨#[47]⟩, .string ⟨#[37]⟩] 9)) W))
  case first =>
    by_cases h1 : o1 < 0
    · have h1' : decide (o1 < 0) = true := decide_eq_true h1
      go_wp2_with fail
      go_meet
      exact ⟨congrArg Value.bool (HD0.out.symm.trans (by simp [badC, h1])).symm, Below.refl _ _⟩
    · have h1' : decide (o1 < 0) = false := decide_eq_false h1
      by_cases h2 : 4 < o1
      · have h2' : decide (4 < o1) = true := decide_eq_true h2
        go_wp2_with fail
        go_meet
        exact ⟨congrArg Value.bool (HD0.out.symm.trans (by simp [badC, h2])).symm, Below.refl _ _⟩
      · have h2' : decide (4 < o1) = false := decide_eq_false h2
        by_cases h3 : o2 < 0
        · have h3' : decide (o2 < 0) = true := decide_eq_true h3
          go_wp2_with fail
          go_meet
          exact ⟨congrArg Value.bool (HD0.out.symm.trans (by simp [badC, h3])).symm, Below.refl _ _⟩
        · have h3' : decide (o2 < 0) = false := decide_eq_false h3
          by_cases h4 : 4 < o2
          · have h4' : decide (4 < o2) = true := decide_eq_true h4
            go_wp2_with fail
            go_meet
            exact ⟨congrArg Value.bool (HD0.out.symm.trans (by simp [badC, h4])).symm, Below.refl _ _⟩
          · have h4' : decide (4 < o2) = false := decide_eq_false h4
            go_wp2_with fail
            refine (HG.out _ _ (by simp) (show Below w.heap.size w ((w.alloc (.cells #[.int .i64 o1, .int .i64 o2, .int .i64 x.kind, .int .i64 x.num, .string x.name, .slice x.at_ x.args.length x.cap, .int .i64 y.kind, .int .i64 y.num, .string y.name, .slice y.at_ y.args.length y.cap, .int .i64 z.kind, .int .i64 z.num, .string z.name, .slice z.at_ z.args.length z.cap] 51)).alloc (.cells #[.string ⟨#[43]⟩, .string ⟨#[45]⟩, .string ⟨#[42]⟩, .string ⟨#[47]⟩, .string ⟨#[37]⟩] 9)) from (below1 w _).trans ((below1 _ _).mono (by simp)))).mono ?_
            rintro e w1 ⟨rfl, hb⟩
            have HC := Lib.hid hb
            have HD := Lib.hid (boxCS hb)
            have HB := Lib.hid (boxCS hb).2.2
            clear hb
            have k0 := HD.out.1 0 _ rfl
            have k1 := HD.out.1 1 _ rfl
            have k2 := HD.out.1 2 _ rfl
            have k3 := HD.out.1 3 _ rfl
            have k4 := HD.out.1 4 _ rfl
            have k5 := HD.out.1 5 _ rfl
            have k6 := HD.out.1 6 _ rfl
            have k7 := HD.out.1 7 _ rfl
            have k8 := HD.out.1 8 _ rfl
            have k9 := HD.out.1 9 _ rfl
            have k10 := HD.out.1 10 _ rfl
            have k11 := HD.out.1 11 _ rfl
            have k12 := HD.out.1 12 _ rfl
            have k13 := HD.out.1 13 _ rfl
            cases g
            · go_wp2_with fail
              refine (HX.out (by simp) _ HB.out).mono ?_
              rintro e v0 ⟨rfl, hb⟩
              have HC' := Lib.hid (nxc HC.out hb)
              have HD' := Lib.hid (boxCS HC'.out)
              have HB' := Lib.hid (boxCS HC'.out).2.2
              clear hb HC HD HB; clear k0 k1 k2 k3 k4 k5 k6 k7 k8 k9 k10 k11 k12 k13
              have HC := HC'; have HD := HD'; have HB := HB'; clear HC' HD' HB'
              have k0 := HD.out.1 0 _ rfl
              have k1 := HD.out.1 1 _ rfl
              have k2 := HD.out.1 2 _ rfl
              have k3 := HD.out.1 3 _ rfl
              have k4 := HD.out.1 4 _ rfl
              have k5 := HD.out.1 5 _ rfl
              have k6 := HD.out.1 6 _ rfl
              have k7 := HD.out.1 7 _ rfl
              have k8 := HD.out.1 8 _ rfl
              have k9 := HD.out.1 9 _ rfl
              have k10 := HD.out.1 10 _ rfl
              have k11 := HD.out.1 11 _ rfl
              have k12 := HD.out.1 12 _ rfl
              have k13 := HD.out.1 13 _ rfl
              cases rx
              rotate_left
              · go_wp2_with fail
                refine (HY.out (by simp) _ HB.out).mono ?_
                rintro e v1 ⟨rfl, hb⟩
                have HC' := Lib.hid (nxc HC.out hb)
                have HD' := Lib.hid (boxCS HC'.out)
                have HB' := Lib.hid (boxCS HC'.out).2.2
                clear hb HC HD HB; clear k0 k1 k2 k3 k4 k5 k6 k7 k8 k9 k10 k11 k12 k13
                have HC := HC'; have HD := HD'; have HB := HB'; clear HC' HD' HB'
                have k0 := HD.out.1 0 _ rfl
                have k1 := HD.out.1 1 _ rfl
                have k2 := HD.out.1 2 _ rfl
                have k3 := HD.out.1 3 _ rfl
                have k4 := HD.out.1 4 _ rfl
                have k5 := HD.out.1 5 _ rfl
                have k6 := HD.out.1 6 _ rfl
                have k7 := HD.out.1 7 _ rfl
                have k8 := HD.out.1 8 _ rfl
                have k9 := HD.out.1 9 _ rfl
                have k10 := HD.out.1 10 _ rfl
                have k11 := HD.out.1 11 _ rfl
                have k12 := HD.out.1 12 _ rfl
                have k13 := HD.out.1 13 _ rfl
                cases ry
                rotate_left
                · go_wp2_with fail
                  refine (HZ.out (by simp) _ HB.out).mono ?_
                  rintro e v2 ⟨rfl, hb⟩
                  have HC' := Lib.hid (nxc HC.out hb)
                  have HD' := Lib.hid (boxCS HC'.out)
                  have HB' := Lib.hid (boxCS HC'.out).2.2
                  clear hb HC HD HB; clear k0 k1 k2 k3 k4 k5 k6 k7 k8 k9 k10 k11 k12 k13
                  have HC := HC'; have HD := HD'; have HB := HB'; clear HC' HD' HB'
                  have k0 := HD.out.1 0 _ rfl
                  have k1 := HD.out.1 1 _ rfl
                  have k2 := HD.out.1 2 _ rfl
                  have k3 := HD.out.1 3 _ rfl
                  have k4 := HD.out.1 4 _ rfl
                  have k5 := HD.out.1 5 _ rfl
                  have k6 := HD.out.1 6 _ rfl
                  have k7 := HD.out.1 7 _ rfl
                  have k8 := HD.out.1 8 _ rfl
                  have k9 := HD.out.1 9 _ rfl
                  have k10 := HD.out.1 10 _ rfl
                  have k11 := HD.out.1 11 _ rfl
                  have k12 := HD.out.1 12 _ rfl
                  have k13 := HD.out.1 13 _ rfl
                  cases rz
                  · go_wp2_with fail
                    go_meet
                    exact ⟨congrArg Value.bool (HD0.out.symm.trans (by simp [badC])).symm, HC.out⟩
                  · go_wp2_with fail
                    go_meet
                    exact ⟨congrArg Value.bool (HD0.out.symm.trans (by simp [badC, h1, h2, h3, h4])).symm, HC.out⟩
                · go_wp2_with fail
                  go_meet
                  exact ⟨congrArg Value.bool (HD0.out.symm.trans (by simp [badC])).symm, HC.out⟩
              · go_wp2_with fail
                go_meet
                exact ⟨congrArg Value.bool (HD0.out.symm.trans (by simp [badC])).symm, HC.out⟩
            · go_wp2_with fail
              go_meet
              exact ⟨congrArg Value.bool (HD0.out.symm.trans (by simp [badC])).symm, HC.out⟩
  case rest =>
    obtain ⟨rfl, hbc⟩ := hcut.out
    have HC := Lib.hid hbc
    have HD := Lib.hid (boxCS hbc)
    have HB := Lib.hid (boxCS hbc).2.2
    clear hbc
    cases d
    rotate_left
    · go_wp2_with fail
      refine (HE.out _ HB.out).mono ?_
      rintro e v9 ⟨rfl, hb⟩
      go_wp2_with fail
      go_ret
      exact ⟨rfl, nxc HB.out hb⟩
    have hok : 0 ≤ o1 ∧ o1 ≤ 4 ∧ 0 ≤ o2 ∧ o2 ≤ 4 ∧ rx = true ∧ ry = true ∧ rz = true ∧ g = false := by
      have := HD0.out
      simp only [badC, Bool.or_eq_false_iff, decide_eq_false_iff_not, Bool.not_eq_false'] at this
      refine ⟨?_, ?_, ?_, ?_, ?_, ?_, ?_, ?_⟩ <;> first | omega | simp_all
    have HOK := Lib.hid hok
    obtain ⟨b1, b2, b3, b4, rfl, rfl, rfl, rfl⟩ := hok
    obtain ⟨m1, rfl⟩ := Int.eq_ofNat_of_zero_le b1
    obtain ⟨m2, rfl⟩ := Int.eq_ofNat_of_zero_le b3
    have b2' : (m1 : Int) < 5 := by omega
    have b4' : (m2 : Int) < 5 := by omega
    have hs1 := HD.out.2.1 m1 _ (sg_at (by omega))
    have hs2 := HD.out.2.1 m2 _ (sg_at (by omega))
    go_upto_region 4 with (fail)
    have k0 := HD.out.1 0 _ rfl
    have k1 := HD.out.1 1 _ rfl
    go_quiet (fail)
    clear k0 k1 hs1 hs2
    have HCX := Lib.hid (below_drewN HC.out nq)
    generalize wc.drewN nq = X at *
    have HBX := Lib.hid (boxCS HCX.out).2.2
    have k0 := (boxCS HCX.out).1 0 _ rfl
    have k1 := (boxCS HCX.out).1 1 _ rfl
    have k2 := (boxCS HCX.out).1 2 _ rfl
    have k3 := (boxCS HCX.out).1 3 _ rfl
    have k4 := (boxCS HCX.out).1 4 _ rfl
    have k5 := (boxCS HCX.out).1 5 _ rfl
    have k6 := (boxCS HCX.out).1 6 _ rfl
    have k7 := (boxCS HCX.out).1 7 _ rfl
    have k8 := (boxCS HCX.out).1 8 _ rfl
    have k9 := (boxCS HCX.out).1 9 _ rfl
    have k10 := (boxCS HCX.out).1 10 _ rfl
    have k11 := (boxCS HCX.out).1 11 _ rfl
    have k12 := (boxCS HCX.out).1 12 _ rfl
    have k13 := (boxCS HCX.out).1 13 _ rfl
    have HK := Lib.hid (fun W (h : Below X.heap.size X W) => (⟨h, keepc h k2, keepc h k3, keepc h k4, keepc h k5, keepc h k6, keepc h k7, keepc h k8, keepc h k9, keepc h k10, keepc h k11, keepc h k12, keepc h k13⟩ : (fun W => Below X.heap.size X W ∧ W.cell? ⟨w.heap.size, 2, none⟩ = some (.int .i64 x.kind) ∧ W.cell? ⟨w.heap.size, 3, none⟩ = some (.int .i64 x.num) ∧ W.cell? ⟨w.heap.size, 4, none⟩ = some (.string x.name) ∧ W.cell? ⟨w.heap.size, 5, none⟩ = some (.slice x.at_ x.args.length x.cap) ∧ W.cell? ⟨w.heap.size, 6, none⟩ = some (.int .i64 y.kind) ∧ W.cell? ⟨w.heap.size, 7, none⟩ = some (.int .i64 y.num) ∧ W.cell? ⟨w.heap.size, 8, none⟩ = some (.string y.name) ∧ W.cell? ⟨w.heap.size, 9, none⟩ = some (.slice y.at_ y.args.length y.cap) ∧ W.cell? ⟨w.heap.size, 10, none⟩ = some (.int .i64 z.kind) ∧ W.cell? ⟨w.heap.size, 11, none⟩ = some (.int .i64 z.num) ∧ W.cell? ⟨w.heap.size, 12, none⟩ = some (.string z.name) ∧ W.cell? ⟨w.heap.size, 13, none⟩ = some (.slice z.at_ z.args.length z.cap)) W))
    obtain ⟨so, hso⟩ : ∃ s : ByteArray, (⟨#[sgB m1]⟩ : ByteArray) = s := ⟨_, rfl⟩
    obtain ⟨sp, hsp⟩ : ∃ s : ByteArray, (⟨#[sgB m2]⟩ : ByteArray) = s := ⟨_, rfl⟩
    rw [hso, hsp]
    have HO := Lib.hid hso
    have HP := Lib.hid hsp
    have hso1 : so.size ≤ maxLen := by rw [← hso]; show 1 ≤ maxLen; unfold maxLen; omega
    have hsp1 : sp.size ≤ maxLen := by rw [← hsp]; show 1 ≤ maxLen; unfold maxLen; omega
    clear hso hsp
    go_upto_region 5 with (fail)
    go_cut [6] from 67 to 78 (fun p W => Hid (Want X (funS sp (funS so x y) z) p W))
    case first =>
      have TXX := Lib.hid (TX.out X HBX.out)
      have TYX := Lib.hid (TY.out X HBX.out)
      (go_region_held3 (fun W => Below X.heap.size X W ∧ W.cell? ⟨w.heap.size, 2, none⟩ = some (.int .i64 x.kind) ∧ W.cell? ⟨w.heap.size, 3, none⟩ = some (.int .i64 x.num) ∧ W.cell? ⟨w.heap.size, 4, none⟩ = some (.string x.name) ∧ W.cell? ⟨w.heap.size, 5, none⟩ = some (.slice x.at_ x.args.length x.cap) ∧ W.cell? ⟨w.heap.size, 6, none⟩ = some (.int .i64 y.kind) ∧ W.cell? ⟨w.heap.size, 7, none⟩ = some (.int .i64 y.num) ∧ W.cell? ⟨w.heap.size, 8, none⟩ = some (.string y.name) ∧ W.cell? ⟨w.heap.size, 9, none⟩ = some (.slice y.at_ y.args.length y.cap) ∧ W.cell? ⟨w.heap.size, 10, none⟩ = some (.int .i64 z.kind) ∧ W.cell? ⟨w.heap.size, 11, none⟩ = some (.int .i64 z.num) ∧ W.cell? ⟨w.heap.size, 12, none⟩ = some (.string z.name) ∧ W.cell? ⟨w.heap.size, 13, none⟩ = some (.slice z.at_ z.args.length z.cap)) (first | (with_reducible exact HK.out _ (drewB X)) | (with_reducible exact HK.out _ (alc (Below.refl _ _) _).drew) | (with_reducible exact HK.out _ (alc (alc (Below.refl _ _) _) _).drew) | (with_reducible exact HK.out _ hI2) | (with_reducible exact HK.out _ hI) | (with_reducible exact HK.out _ (alc hI _)) | (with_reducible exact HK.out _ (alc (alc hI _) _)) | (with_reducible exact HK.out _ (alc hI2 _)) | (exact HK.out _ (set4b hI2 (by first | exact Nat.le_refl _ | exact Nat.le_succ _ | exact hI.size | exact Nat.le_succ_of_le hI.size)))) (first
        | (go_at_call 28; (with_reducible refine (QF.out x y so _ _ (rowAd X x y TXX.out TYX.out) hso1).mono ?_); rintro e w1 ⟨g1, c1, rfl, hg1, hu1, hb1⟩; have hI := nxc (alc (Below.refl _ _) _).drew hb1; skip)
        | (go_at_call 28; (with_reducible refine (QF.out x y so _ _ (rowBd X x y TXX.out TYX.out ZB) hso1).mono ?_); rintro e w1 ⟨g1, c1, rfl, hg1, hu1, hb1⟩; have hI := nxc (alc (alc (Below.refl _ _) _) _).drew hb1; have HT : Box w1 (X.heap.size + 1) z0 := (by simpa using ((Box.new (X.alloc (ROW x y)) z0 24).below (drewB _)).below hb1); skip)
        | (go_at_call 28; (with_reducible refine (QF.out x y so _ _ (rowCd X x y TXX.out TYX.out ZB) hso1).mono ?_); rintro e w1 ⟨g1, c1, rfl, hg1, hu1, hb1⟩; have hI := nxc (alc (alc (Below.refl _ _) _) _).drew hb1; have HT : Box w1 X.heap.size z0 := (by simpa using (((Box.new X z0 24).alloc _).below (drewB _)).below hb1); skip)
        | (go_at_call 28; (with_reducible refine (QF.out (.mk 2 0 so (some ⟨g1, 0, none⟩) c1 [x, y]) z sp _ _ (row2A w1 x y z so g1 c1 hu1 (TZ.out _ (nxc HBX.out hI))) hsp1).mono ?_); rintro e w2 ⟨g2, c2, rfl, hg2, hu2, hb2⟩; have hw2 := nxc (alc (Below.refl _ w1) _) hb2; have hI2 := nxc hI hw2; (try have HT2 := (HT.alloc _).below hb2); (try have t0 := HT2.c0); (try have t1 := HT2.c1); (try have t2 := HT2.c2); (try have t3 := HT2.c3); (try have f0 := HT2.free 0); (try have f1 := HT2.free 1); (try have f2 := HT2.free 2); (try have f3 := HT2.free 3); skip)
        | (go_at_call 28; (with_reducible refine (QF.out (.mk 2 0 so (some ⟨g1, 0, none⟩) c1 [x, y]) z sp _ _ (row2B w1 x y z so g1 c1 hu1 (TZ.out _ (nxc HBX.out hI)) ZB) hsp1).mono ?_); rintro e w2 ⟨g2, c2, rfl, hg2, hu2, hb2⟩; have hw2 := nxc (alc (alc (Below.refl _ w1) _) _) hb2; have hI2 := nxc hI hw2; have HT2 : Box w2 (w1.heap.size + 1) z0 := (by simpa using (Box.new (w1.alloc (ROW2 so g1 c1 z)) z0 24).below hb2); (try have t0 := HT2.c0); (try have t1 := HT2.c1); (try have t2 := HT2.c2); (try have t3 := HT2.c3); (try have f0 := HT2.free 0); (try have f1 := HT2.free 1); (try have f2 := HT2.free 2); (try have f3 := HT2.free 3); skip)
        | (go_at_call 28; (with_reducible refine (QF.out (.mk 2 0 so (some ⟨g1, 0, none⟩) c1 [x, y]) z sp _ _ (row2C w1 x y z so g1 c1 hu1 (TZ.out _ (nxc HBX.out hI)) ZB) hsp1).mono ?_); rintro e w2 ⟨g2, c2, rfl, hg2, hu2, hb2⟩; have hw2 := nxc (alc (alc (Below.refl _ w1) _) _) hb2; have hI2 := nxc hI hw2; have HT2 : Box w2 w1.heap.size z0 := (by simpa using ((Box.new w1 z0 24).alloc _).below hb2); (try have t0 := HT2.c0); (try have t1 := HT2.c1); (try have t2 := HT2.c2); (try have t3 := HT2.c3); (try have f0 := HT2.free 0); (try have f1 := HT2.free 1); (try have f2 := HT2.free 2); (try have f3 := HT2.free 3); skip)))
      all_goals go_wp2_with fail
      all_goals go_meet
      · exact ⟨w2.heap.size, (.mk 2 0 sp (some ⟨g2, 0, none⟩) c2 [.mk 2 0 so (some ⟨g1, 0, none⟩) c1 [x, y], z]), rfl, hI2.size, alc hI2 _, hu2.alloc _, rfl, Box.new w2 (.mk 2 0 sp (some ⟨g2, 0, none⟩) c2 [.mk 2 0 so (some ⟨g1, 0, none⟩) c1 [x, y], z]) _⟩
      · refine want_set (T := w1.heap.size + 1) (u := (.mk 2 0 sp (some ⟨g2, 0, none⟩) c2 [.mk 2 0 so (some ⟨g1, 0, none⟩) c1 [x, y], z])) (u' := z0) rfl (Nat.le_succ_of_le hI.size) hI2 (live_two (live_old hu1 (Nat.le_succ _) hw2) (live_old (TZ.out _ (nxc HBX.out hI)) (Nat.le_succ _) hw2) hu2 ?_) rfl HT2
        simp only [World.size_alloc] at hg2; omega
      · refine want_set (T := w1.heap.size) (u := (.mk 2 0 sp (some ⟨g2, 0, none⟩) c2 [.mk 2 0 so (some ⟨g1, 0, none⟩) c1 [x, y], z])) (u' := z0) rfl hI.size hI2 (live_two (live_old hu1 (Nat.le_refl _) hw2) (live_old (TZ.out _ (nxc HBX.out hI)) (Nat.le_refl _) hw2) hu2 ?_) rfl HT2
        simp only [World.size_alloc] at hg2; omega
      · have hl := HT.lt
        refine want_set (T := X.heap.size + 1) (u := (.mk 2 0 sp (some ⟨g2, 0, none⟩) c2 [.mk 2 0 so (some ⟨g1, 0, none⟩) c1 [x, y], z])) (u' := z0) rfl (Nat.le_succ _) hI2 (live_two ((live_two (live_old TXX.out (Nat.le_succ _) hI) (live_old TYX.out (Nat.le_succ _) hI) hu1 ?_).below hw2) (live_old (TZ.out _ HBX.out) (Nat.le_succ _) hI2) hu2 ?_) rfl HT2
        · have hg : ((X.alloc (ROW x y)).alloc ZB).heap.size ≤ g1 := hg1
          simp only [World.size_alloc] at hg; omega
        · simp only [World.size_alloc] at hg2; omega
      · have hl := HT.lt
        refine want_set (T := X.heap.size) (u := (.mk 2 0 sp (some ⟨g2, 0, none⟩) c2 [.mk 2 0 so (some ⟨g1, 0, none⟩) c1 [x, y], z])) (u' := z0) rfl (Nat.le_refl _) hI2 (live_two ((live_two (live_old TXX.out (Nat.le_refl _) hI) (live_old TYX.out (Nat.le_refl _) hI) hu1 ?_).below hw2) (live_old (TZ.out _ HBX.out) (Nat.le_refl _) hI2) hu2 ?_) rfl HT2
        · have hg : ((X.alloc ZB).alloc (ROW x y)).heap.size ≤ g1 := hg1
          simp only [World.size_alloc] at hg; omega
        · simp only [World.size_alloc] at hg2; omega
    case rest =>
      obtain ⟨T, u, rfl, hT, hb, hu, hs, hB⟩ := hcut.out
      have HT0 := Lib.hid hT
      have HYB := Lib.hid hb
      have HU := Lib.hid hu
      have HS := Lib.hid hs
      have HBox := Lib.hid hB
      clear hT hb hu hs hB hcut
      generalize wc = Y at *
      obtain ⟨cn, hcn⟩ : ∃ cn, (decide ((m1 : Int) < 2) && decide (2 ≤ (m2 : Int))) = cn := ⟨_, rfl⟩
      have HCN := Lib.hid hcn
      clear hcn
      have HV := Lib.hid (show wantT m1 m2 x y z = if cn then funS so x (funS sp y z) else funS sp (funS so x y) z by
        unfold wantT; rw [HCN.out, Int.toNat_natCast, Int.toNat_natCast, HO.out, HP.out])
      go_upto_region 6 with (fail)
      go_cut [86] from 79 to 86 (fun b W => Hid (b = .bool cn ∧ W = Y))
      case first =>
        have k0' := keepc HYB.out k0
        have k1' := keepc HYB.out k1
        by_cases c1 : (m1 : Int) < 2
        · by_cases c2 : (2 : Int) ≤ (m2 : Int)
          · go_wp2_with fail
            go_meet
            exact ⟨congrArg Value.bool (HCN.out.symm.trans (by simp [c1, c2])).symm, rfl⟩
          · go_wp2_with fail
            go_meet
            exact ⟨congrArg Value.bool (HCN.out.symm.trans (by simp [c2])).symm, rfl⟩
        · go_wp2_with fail
          go_meet
          exact ⟨congrArg Value.bool (HCN.out.symm.trans (by simp; omega)).symm, rfl⟩
      case rest =>
        obtain ⟨rfl, rfl⟩ := hcut.out
        go_upto_if 86 with (fail)
        go_cut [] from 87 to 98 (fun W => Hid (Want X (wantT m1 m2 x y z) (.pointer (some ⟨T, 0, none⟩)) W))
        case first =>
          cases cn
          · go_wp2_with fail
            go_meet
            exact ⟨T, u, rfl, HT0.out, HYB.out, HU.out, by rw [HS.out, HV.out]; rfl, HBox.out⟩
          · have TYX := Lib.hid (TY.out _ (nxc HBX.out HYB.out))
            have TZX := Lib.hid (TZ.out _ (nxc HBX.out HYB.out))
            go_wp2_with fail
            (go_region_held3 (fun W => Below X.heap.size X W ∧ W.cell? ⟨w.heap.size, 2, none⟩ = some (.int .i64 x.kind) ∧ W.cell? ⟨w.heap.size, 3, none⟩ = some (.int .i64 x.num) ∧ W.cell? ⟨w.heap.size, 4, none⟩ = some (.string x.name) ∧ W.cell? ⟨w.heap.size, 5, none⟩ = some (.slice x.at_ x.args.length x.cap) ∧ W.cell? ⟨w.heap.size, 6, none⟩ = some (.int .i64 y.kind) ∧ W.cell? ⟨w.heap.size, 7, none⟩ = some (.int .i64 y.num) ∧ W.cell? ⟨w.heap.size, 8, none⟩ = some (.string y.name) ∧ W.cell? ⟨w.heap.size, 9, none⟩ = some (.slice y.at_ y.args.length y.cap) ∧ W.cell? ⟨w.heap.size, 10, none⟩ = some (.int .i64 z.kind) ∧ W.cell? ⟨w.heap.size, 11, none⟩ = some (.int .i64 z.num) ∧ W.cell? ⟨w.heap.size, 12, none⟩ = some (.string z.name) ∧ W.cell? ⟨w.heap.size, 13, none⟩ = some (.slice z.at_ z.args.length z.cap)) (first | (with_reducible exact HK.out _ HYB.out.drew) | (with_reducible exact HK.out _ (alc HYB.out _).drew) | (with_reducible exact HK.out _ hI2) | (with_reducible exact HK.out _ hI) | (with_reducible exact HK.out _ (alc hI _)) | (exact HK.out _ (set4b hI2 HT0.out))) (first
              | (go_at_call 28; (with_reducible refine (QF.out y z sp _ _ (rowAd wc y z TYX.out TZX.out) hsp1).mono ?_); rintro e w1 ⟨g1, c1, rfl, hg1, hu1, hb1⟩; have hw1 := nxc (alc (Below.refl _ wc) _).drew hb1; have hI := nxc HYB.out hw1; have HT1 := ((HBox.out.alloc _).below (drewB _)).below hb1)
              | (go_at_call 28; (with_reducible refine (QF.out x (.mk 2 0 sp (some ⟨g1, 0, none⟩) c1 [y, z]) so _ _ (row3A w1 y z x sp g1 c1 hu1 (TX.out _ (nxc HBX.out hI))) hso1).mono ?_); rintro e w2 ⟨g2, c2, rfl, hg2, hu2, hb2⟩; have hw2 := nxc (alc (Below.refl _ w1) _) hb2; have hI2 := nxc hI hw2; have HT2 := (HT1.alloc _).below hb2; have t0 := HT2.c0; have t1 := HT2.c1; have t2 := HT2.c2; have t3 := HT2.c3; have f0 := HT2.free 0; have f1 := HT2.free 1; have f2 := HT2.free 2; have f3 := HT2.free 3)))
            all_goals go_wp2_with fail
            all_goals go_meet
            have hl := HBox.out.lt
            have hl1 := HT1.lt
            refine want_set (T := T) (u := .mk 2 0 so (some ⟨g2, 0, none⟩) c2 [x, .mk 2 0 sp (some ⟨g1, 0, none⟩) c1 [y, z]]) (u' := u) rfl HT0.out hI2 (live_two (live_old (TX.out _ HBX.out) HT0.out hI2) ((live_two (live_old (TY.out _ HBX.out) HT0.out hI) (live_old (TZ.out _ HBX.out) HT0.out hI) hu1 ?_).below hw2) hu2 ?_) (by rw [HV.out]; rfl) HT2
            · have hg : (wc.alloc (ROW y z)).heap.size ≤ g1 := hg1
              simp only [World.size_alloc] at hg; omega
            · simp only [World.size_alloc] at hg2; omega
        case rest =>
          obtain ⟨T', u', hp, hT, hb, hu, hs, hB⟩ := hcut.out
          obtain rfl : T = T' := by simpa using hp
          clear HT0 HYB HU HS HBox hp hcut
          have HYY := Lib.hid hb
          have HT0 := Lib.hid hT
          have HU := Lib.hid hu
          have HS := Lib.hid hs
          have HBox := Lib.hid hB
          clear hT hb hu hs hB
          have HPb := Lib.hid (show ∀ W, Below w.heap.size w W → Calls Tryz.prog 18 #[.string (bigS sx sy sz so sp)] W fun e w' => ∃ (t : Tm) (c : Int), e = .returned (.tuple #[t.val, .int .i64 c]) ∧ Live W.heap.size No w' t ∧ Below W.heap.size W w' ∧ PO rv (wantT m1 m2 x y z) t c by
            have := HPa.out HD0.out
            rw [Int.toNat_natCast, Int.toNat_natCast, HO.out, HP.out] at this
            exact this)
          clear HPa
          have hs1 : so.size = 1 := by rw [← HO.out]; rfl
          have hs2 : sp.size = 1 := by rw [← HP.out]; rfl
          have z0 : ¬ 9223372036854775807 < 1 + sx.size := by omega
          have z1 : ¬ 9223372036854775807 < 1 + sx.size + 1 := by omega
          have z2 : ¬ 9223372036854775807 < 1 + sx.size + 1 + so.size := by omega
          have z3 : ¬ 9223372036854775807 < 1 + sx.size + 1 + so.size + 1 := by omega
          have z4 : ¬ 9223372036854775807 < 1 + sx.size + 1 + so.size + 1 + sy.size := by omega
          have z5 : ¬ 9223372036854775807 < 1 + sx.size + 1 + so.size + 1 + sy.size + 2 := by omega
          have z6 : ¬ 9223372036854775807 < 1 + sx.size + 1 + so.size + 1 + sy.size + 2 + sp.size := by omega
          have z7 : ¬ 9223372036854775807 < 1 + sx.size + 1 + so.size + 1 + sy.size + 2 + sp.size + 1 := by omega
          have z8 : ¬ 9223372036854775807 < 1 + sx.size + 1 + so.size + 1 + sy.size + 2 + sp.size + 1 + sz.size := by omega
          have z9 : ¬ 9223372036854775807 < 1 + sx.size + 1 + so.size + 1 + sy.size + 2 + sp.size + 1 + sz.size + 1 := by omega
          clear hs1 hs2
          go_upto_region 8 with (fail)
          go_cut [7, 8] from 99 to 123 (fun p c W => Hid (Got X (wantT m1 m2 x y z) rv T p c W))
          case first =>
            go_wp2_with fail
            (go_region_held3 (fun W => Below X.heap.size X W ∧ W.cell? ⟨w.heap.size, 2, none⟩ = some (.int .i64 x.kind) ∧ W.cell? ⟨w.heap.size, 3, none⟩ = some (.int .i64 x.num) ∧ W.cell? ⟨w.heap.size, 4, none⟩ = some (.string x.name) ∧ W.cell? ⟨w.heap.size, 5, none⟩ = some (.slice x.at_ x.args.length x.cap) ∧ W.cell? ⟨w.heap.size, 6, none⟩ = some (.int .i64 y.kind) ∧ W.cell? ⟨w.heap.size, 7, none⟩ = some (.int .i64 y.num) ∧ W.cell? ⟨w.heap.size, 8, none⟩ = some (.string y.name) ∧ W.cell? ⟨w.heap.size, 9, none⟩ = some (.slice y.at_ y.args.length y.cap) ∧ W.cell? ⟨w.heap.size, 10, none⟩ = some (.int .i64 z.kind) ∧ W.cell? ⟨w.heap.size, 11, none⟩ = some (.int .i64 z.num) ∧ W.cell? ⟨w.heap.size, 12, none⟩ = some (.string z.name) ∧ W.cell? ⟨w.heap.size, 13, none⟩ = some (.slice z.at_ z.args.length z.cap)) (first | (with_reducible exact HK.out _ (nxc HYY.out (drewB wc))) | (with_reducible exact HK.out _ (nxc HYY.out (alc (Below.refl _ wc) _).drew)) | (with_reducible exact HK.out _ (nxc HYY.out hW4)) | (with_reducible exact HK.out _ (nxc HYY.out hW3)) | (with_reducible exact HK.out _ (nxc HYY.out hW2)) | (with_reducible exact HK.out _ (nxc HYY.out hW1)) | (with_reducible exact HK.out _ (nxc HYY.out (alc hW4 _))) | (with_reducible exact HK.out _ (nxc HYY.out (alc hW3 _))) | (with_reducible exact HK.out _ (nxc HYY.out (alc hW2 _))) | (with_reducible exact HK.out _ (nxc HYY.out (alc hW1 _))) | (exact HK.out _ (set4b (nxc HYY.out hW4) (by first | exact HYY.out.size | exact Nat.le_trans HYY.out.size hW1.size | exact Nat.le_trans HYY.out.size hW2.size | exact Nat.le_trans HYY.out.size hW3.size)))) (first
              | (go_at_call 11; (with_reducible refine (HTx.out _ (nxc (nxc HBX.out HYY.out) (Below.refl _ wc).drew)).mono ?_); rintro e v1 ⟨rfl, hb1⟩; have hW1 := nxc (Below.refl _ wc).drew hb1; skip)
              | (go_at_call 11; (with_reducible refine (HTx.out _ (nxc (nxc HBX.out HYY.out) (alc (Below.refl _ wc) ZB).drew)).mono ?_); rintro e v1 ⟨rfl, hb1⟩; have hW1 := nxc (alc (Below.refl _ wc) ZB).drew hb1; have HN := ((boxZ wc).below (drewB _)).below hb1; skip)
              | (go_at_call 11; (with_reducible refine (HTy.out _ (nxc (nxc HBX.out HYY.out) hW1)).mono ?_); rintro e v2 ⟨rfl, hb2⟩; have hW2 := nxc hW1 hb2; (try replace HN := HN.below hb2); skip)
              | (go_at_call 11; (with_reducible refine (HTy.out _ (nxc (nxc HBX.out HYY.out) (alc hW1 ZB))).mono ?_); rintro e v2 ⟨rfl, hb2⟩; have hW2 := nxc (alc hW1 ZB) hb2; have HN := (boxZ v1).below hb2; skip)
              | (go_at_call 11; (with_reducible refine (HTz.out _ (nxc (nxc HBX.out HYY.out) hW2)).mono ?_); rintro e v3 ⟨rfl, hb3⟩; have hW3 := nxc hW2 hb3; (try replace HN := HN.below hb3); skip)
              | (go_at_call 11; (with_reducible refine (HTz.out _ (nxc (nxc HBX.out HYY.out) (alc hW2 ZB))).mono ?_); rintro e v3 ⟨rfl, hb3⟩; have hW3 := nxc (alc hW2 ZB) hb3; have HN := (boxZ v2).below hb3; skip)
              | (go_at_call 18; (with_reducible refine (HPb.out _ (nxc (nxc HBX.out HYY.out) hW3)).mono ?_); rintro e v4 ⟨t, c0, rfl, hl, hb4, hpo⟩; have hW4 := nxc hW3 hb4; (try replace HN := HN.below hb4); (try have t0 := HN.c0); (try have f0 := HN.free 0); (try have t1 := HN.c1); (try have f1 := HN.free 1); (try have t2 := HN.c2); (try have f2 := HN.free 2); (try have t3 := HN.c3); (try have f3 := HN.free 3); skip)
              | (go_at_call 18; (with_reducible refine (HPb.out _ (nxc (nxc HBX.out HYY.out) (alc hW3 ZB))).mono ?_); rintro e v4 ⟨t, c0, rfl, hl, hb4, hpo⟩; have hW4 := nxc (alc hW3 ZB) hb4; have HN := (boxZ v3).below hb4; (try have t0 := HN.c0); (try have f0 := HN.free 0); (try have t1 := HN.c1); (try have f1 := HN.free 1); (try have t2 := HN.c2); (try have f2 := HN.free 2); (try have t3 := HN.c3); (try have f3 := HN.free 3); skip)))
            all_goals go_wp2_with fail
            all_goals go_meet
            · exact ⟨v4.heap.size, t, _, c0, rfl, rfl, nxc HYY.out (alc hW4 _), hl.at.alloc _, Box.new v4 t _, hpo, (HU.out.below hW4).alloc _, (HBox.out.below hW4).alloc _, HS.out⟩
            · exact got_set HYY.out hW4 HU.out HBox.out HS.out hW3.size HN (live_new hl (by simp)) hpo
            · have h1 := HN.lt
              exact got_set HYY.out hW4 HU.out HBox.out HS.out hW2.size HN (live_new hl (by have := hb3.size; simp at this; omega)) hpo
            · exact got_set HYY.out hW4 HU.out HBox.out HS.out hW1.size HN (live_new hl (by have := hb3.size; have := hb2.size; simp at *; omega)) hpo
            · exact got_set HYY.out hW4 HU.out HBox.out HS.out (Nat.le_refl _) HN (live_new hl (by have := hb3.size; have := hb2.size; have := hb1.size; simp at *; omega)) hpo
          case rest =>
            clear HYY HU HS HBox HPb HTx HTy HTz HK HX HY HZ HG QF
            obtain ⟨T2, t, u, c0, rfl, rfl, hb, ht, hB2, hpo, hu, hB, hs⟩ := hcut.out
            have HW := Lib.hid (nxc HBX.out hb)
            have HBt := Lib.hid hB2
            have HBu := Lib.hid hB
            have HAt := Lib.hid ht
            have HAu := Lib.hid hu
            have HSu := Lib.hid hs
            have HPo := Lib.hid hpo
            clear hb ht hB2 hpo hu hB hs hcut
            have r0 := HBu.out.c0
            have r1 := HBu.out.c1
            have r2 := HBu.out.c2
            have r3 := HBu.out.c3
            go_wp2_with fail
            refine (HRi.out HD0.out u _ HAu.out HSu.out).mono ?_
            rintro e v5 ⟨rfl, hb5⟩
            have HB5 := Lib.hid hb5
            clear r0 r1 r2 r3 hb5
            cases rv
            · obtain rfl : c0 = 6 := by
                rcases HPo.out with ⟨h, _⟩ | ⟨_, h⟩
                · cases h
                · exact h
              go_wp2_with fail
              refine (HE.out _ (nxc HW.out HB5.out)).mono ?_
              rintro e v6 ⟨rfl, hb6⟩
              have HB6 := Lib.hid (nxc (nxc HW.out HB5.out) hb6)
              clear hb6
              go_wp2_with fail
              go_ret
              exact ⟨rfl, HB6.out⟩
            · obtain ⟨hc, hst⟩ : c0 = 0 ∧ t.strip = (wantT m1 m2 x y z).strip := by
                rcases HPo.out with ⟨_, h⟩ | ⟨h, _⟩
                · exact h
                · cases h
              subst hc
              have HSt := Lib.hid hst
              clear hst
              have HBt5 := Lib.hid (HBt.out.below HB5.out)
              have HBu5 := Lib.hid (HBu.out.below HB5.out)
              have r0 := HBu5.out.c0
              have r1 := HBu5.out.c1
              have r2 := HBu5.out.c2
              have r3 := HBu5.out.c3
              have q0 := HBt5.out.c0
              have q1 := HBt5.out.c1
              have q2 := HBt5.out.c2
              have q3 := HBt5.out.c3
              go_wp2_with fail
              refine (HSa.out t u _ (HAt.out.below HB5.out) (HAu.out.below HB5.out) (by rw [HSt.out, HSu.out])).mono ?_
              rintro e v6 ⟨rfl, hb6⟩
              have HB6 := Lib.hid (nxc (nxc HW.out HB5.out) hb6)
              clear hb6 r0 r1 r2 r3 q0 q1 q2 q3
              go_wp2_with fail
              refine (HE.out _ HB6.out).mono ?_
              rintro e v7 ⟨rfl, hb7⟩
              have HB7 := Lib.hid (nxc HB6.out hb7)
              clear hb7
              go_wp2_with fail
              go_ret
              exact ⟨rfl, HB7.out⟩
end Go.Proofs.YtlpibnbabgfiiaaGreatDoor.termtextChains
