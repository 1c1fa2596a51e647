/-
  Contract of join of the program: two classes, and those of their arguments, become one each.
-/
import Derived.Test.YtelkmnjoboekmaaGreatMb11
import Derived.Deep.RegionHeld3
import Derived.Deep.LoopGhost
import Derived.Deep.AppendLies
namespace Go.Proofs.YtelkmnjoboekmaaGreat
open Go.RowKit

theorem Alike.len {G H : List Nd} (h : Alike G H) : H.length = G.length := h.1
def ocells (l : List (Nat × Nat)) : List Value := l.flatMap fun p => [.int .i64 (p.1 : Nat), .int .i64 (p.2 : Nat)]
theorem ocells_len (l : List (Nat × Nat)) : (ocells l).length = l.length * 2 := by
  induction l with
  | nil => rfl
  | cons t r ih => simp only [ocells, List.flatMap_cons, List.length_append, List.length_cons, List.length_nil] at *; omega
theorem ocells_append (l m : List (Nat × Nat)) : ocells (l ++ m) = ocells l ++ ocells m := by simp [ocells]
theorem pair_info : (Tryz.prog.info? 109).map (fun i => (i.zero, i.size, i.bytes)) = some (some (.agg #[.int .i64 0, .int .i64 0]), 2, 16) := by kernel_rfl

theorem orow_last {w : World} {base o c m : Nat} {op1 : List (Nat × Nat)} {x y : Nat} (hm : m = op1.length) (h : w.ownsRow base 109 2 (.slice (some ⟨o, 0, none⟩) (m + 1) c) (m + 1) (ocells (op1 ++ [(x, y)]))) :
    w.cell? ⟨o, m * 2, none⟩ = some (.int .i64 (x : Nat)) ∧ w.cell? ⟨o, m * 2 + 1, none⟩ = some (.int .i64 (y : Nat)) ∧ w.ownsRow base 109 2 (.slice (some ⟨o, 0, none⟩) m c) m (ocells op1) ∧ base ≤ o ∧ o < w.heap.size ∧ m + 1 ≤ c ∧ c ≤ maxLen := by
  have hl := ocells_len op1
  have e : ∀ j, (ocells (op1 ++ [(x, y)]))[op1.length * 2 + j]? = ([.int .i64 (x : Nat), .int .i64 (y : Nat)] : List Value)[j]? := fun j => by
    rw [ocells_append, List.getElem?_append_right (by omega), hl, show op1.length * 2 + j - op1.length * 2 = j by omega]
    rfl
  have h0 := World.ownsRow.cellAt h (m * 2) (by omega)
  have h1 := World.ownsRow.cellAt h (m * 2 + 1) (by omega)
  rw [hm] at h0 h1
  rw [e 1] at h1
  rw [show op1.length * 2 = op1.length * 2 + 0 by omega, e 0] at h0
  refine ⟨by rw [hm]; exact h0, by rw [hm]; exact h1, ?_⟩
  rcases h.2 with ⟨h', _⟩ | ⟨g', cap', cur, h', hb, hg, hle, hcm, hcs, htake⟩
  · simp at h'
  · simp only [Value.slice.injEq, Option.some.injEq, Addr.mk.injEq, and_true, true_and] at h'
    obtain ⟨rfl, rfl⟩ := h'
    refine ⟨⟨by rw [hl, hm], .inr ⟨o, c, cur, rfl, hb, hg, by omega, hcm, hcs, ?_⟩⟩, hb, (own_lt h o rfl).2, hle, hcm⟩
    have := congrArg (List.take (m * 2)) htake
    rw [List.take_take, Nat.min_eq_left (by omega), ocells_append] at this
    rw [this, List.take_append_of_le_length (by omega)]
    exact List.take_of_length_le (by omega)
/-- Behind writes to rows that are new: what the lists of arguments need is that the blocks of the entry stand. -/
theorem Gph.renew {lo p : Nat} {X : Nat → Prop} {z : Value} {G H : List Nd} {w0 w w' : World} {row : Option Nat} (h0 : Gph lo X w0 p z G) (hal : Alike G H) (h : Gph lo X w p z H) (k0 : w0.grownBy w' z.ownBlock) (k : w.grownBy w' row) (hz : z.ownBlock = none ∨ z.ownBlock ≠ row) : Gph lo X w' p z H := by
  refine ⟨(fr_cell k0 h0.lt (fun e => h0.np e.symm)).trans h0.hdr, World.ownsRow.kept h.row k hz, fun i hi => ?_, h.np, h.fine, h.small⟩
  rw [hal.len] at hi
  have h1 := (h0.kids i hi).fr k0 fun b hb _ => .inl hb
  obtain ⟨x, hx⟩ := hal.2 i hi
  rw [hx]
  exact h1.next x
theorem fr_grow {a w w' : World} {row row2 : Option Nat} (h : a.grownBy w row) (k : w.grownBy w' row2) (hr : ∀ b, row2 = some b → a.heap.size ≤ b) : a.grownBy w' row :=
  ⟨k.os.trans h.os, k.tape.trans h.tape, k.output.trans h.output, Nat.le_trans h.size k.size, fun i hi hne => (k.block i (Nat.lt_of_lt_of_le hi h.size) (fun e => by have := hr i e.symm; omega)).trans (h.block i hi hne)⟩
/-- In the inner loop: j pairs have been added. -/
def Pushing (lo : Nat) (X : Nat → Prop) (p : Nat) (z : Value) (H : List Nd) (op1 zs : List (Nat × Nat)) (w : World) (v : Value) (n j : Nat) (wr : World) : Prop :=
  Gph lo X wr p z H ∧ w.grownBy wr z.ownBlock ∧ wr.ownsRow w.heap.size 109 2 v n (ocells (op1 ++ zs.take j))
theorem pnews (w : World) (x y : Value) (T : TypeId) : ∀ j v, ([x, y] : List Value)[j]? = some v → (w.alloc (.cells #[x, y] T)).cell? ((⟨w.heap.size, 0, none⟩ : Addr).add j) = some v := by
  intro j v hv
  rw [add_plain, Nat.zero_add, World.cell?_alloc_at _ _ _ _ rfl, ← hv, show (#[x, y] : Array Value) = [x, y].toArray from rfl, List.getElem?_toArray]
theorem pairs_one (x y : Nat) : ∀ v ∈ ([.int .i64 (x : Nat), .int .i64 (y : Nat)] : List Value), v.oneCell' = true := by
  intro v hv
  simp only [List.mem_cons, List.not_mem_nil, or_false] at hv
  rcases hv with rfl | rfl <;> rfl
theorem zip_next {l m : List Nat} {j : Nat} (h1 : j < l.length) (h2 : j < m.length) : (l.zip m).take (j + 1) = (l.zip m).take j ++ [(l.getD j 0, m.getD j 0)] := by
  rw [List.take_succ_eq_append_getElem (by rw [List.length_zip]; omega)]
  simp [List.getD, h1, h2]
theorem pushing_next {lo p : Nat} {X : Nat → Prop} {z : Value} {G H : List Nd} {op1 : List (Nat × Nat)} {l m : List Nat} {w wr w8 : World} {A : Option Addr} {c n j g cp : Nat} {T : TypeId} (h0 : Gph lo X w p z G) (hal : Alike G H)
    (hzn : ∀ k, z.ownBlock = some k → k < w.heap.size) (h : Pushing lo X p z H op1 (l.zip m) w (.slice A n c) n j wr) (h1 : j < l.length) (h2 : j < m.length)
    (hown : w8.ownsRow w.heap.size 109 2 (.slice (some ⟨g, 0, none⟩) (n + 1) cp) (n + 1) (ocells (op1 ++ (l.zip m).take j) ++ [.int .i64 (l.getD j 0 : Nat), .int .i64 (m.getD j 0 : Nat)]))
    (hg : (wr.alloc (.cells #[.int .i64 (l.getD j 0 : Nat), .int .i64 (m.getD j 0 : Nat)] T)).grownBy w8 (Value.slice A n c).ownBlock) : Pushing lo X p z H op1 (l.zip m) w (.slice (some ⟨g, 0, none⟩) (n + 1) cp) (n + 1) (j + 1) w8 := by
  have hlt := own_lt h.2.2
  have hg1 := fr_alloc h.2.1 (.cells #[.int .i64 (l.getD j 0 : Nat), .int .i64 (m.getD j 0 : Nat)] T)
  have hg2 : w.grownBy w8 z.ownBlock := fr_grow hg1 hg fun k hk => (hlt k hk).1
  refine ⟨Gph.renew h0 hal (h.1.alloc _) hg2 hg ?_, hg2, ?_⟩
  · cases hz : z.ownBlock with
    | none => exact .inl rfl
    | some k =>
      refine .inr fun e => ?_
      have := (hlt k e.symm).1
      have := hzn k hz
      omega
  · rw [zip_next h1 h2, ← List.append_assoc, ocells_append]
    exact hown
/-- In the loop: op are the open pairs. -/
def Joining (lo : Nat) (X : Nat → Prop) (p q cap : Nat) (G : List Nd) (E : List (Nat × Nat)) (w : World) (gk : Nat) (v : Value) (op : List (Nat × Nat)) (wr : World) : Prop :=
  ∃ H root r, Alike G H ∧ UF H root r ∧ Gph lo X wr p (.slice (some ⟨q, 0, none⟩) G.length cap) H ∧ w.grownBy wr (some q) ∧ wr.ownsRow w.heap.size 109 2 v op.length (ocells op) ∧ Mid G root op E ∧ Tops G root ∧ gk = op.length + wtOf G root G.length ∧ gk ≤ 6250007500000
def Joined (lo : Nat) (X : Nat → Prop) (p : Nat) (z : Value) (G : List Nd) (E : List (Nat × Nat)) (w : World) (e : Ending) (w' : World) : Prop :=
  ∃ H, Alike G H ∧ Gph lo X w' p z H ∧ w.grownBy w' z.ownBlock ∧ ((e = .returned (.bool true) ∧ ∃ root r, UF H root r ∧ Mid G root [] E ∧ Tops G root) ∨ (e = .returned (.bool false) ∧ ∀ f, ¬ ∀ p ∈ E, ndv f G p.1 = ndv f G p.2))
theorem wt_le {G : List Nd} {root : Nat → Nat} {K : Nat} (h : ∀ i, i < G.length → (nd G i).kids.length ≤ K) : ∀ n, n ≤ G.length → wtOf G root n ≤ n * (K + 1) := by
  intro n
  induction n with
  | zero => intro _; simp [wtOf]
  | succ n ih =>
    intro hn
    have h1 := ih (by omega)
    have h2 := h n (by omega)
    have e : (n + 1) * (K + 1) = n * (K + 1) + (K + 1) := Nat.succ_mul n (K + 1)
    rw [e]
    simp only [wtOf]
    by_cases hr : root n = n
    · rw [if_pos hr]; omega
    · rw [if_neg hr]; omega

theorem undrew_fr {w w' : World} {row : Option Nat} (h : w.drew.grownBy w' row) : w.grownBy w' row := ⟨h.os, h.tape, h.output, h.size, h.block⟩
theorem find_to {lo : Nat} {X : Nat → Prop} {p : Nat} {z : Value} {G : List Nd} {root r : Nat → Nat} {i j : Nat} {w : World} (h : Gph lo X w p z G) (hu : UF G root r) (hi : i < G.length) (hj : root i = j) :
    Calls Tryz.prog 72 #[.pointer (some ⟨p, 0, none⟩), .int .i64 (i : Nat)] w fun e w' => ∃ H, e = .returned (.int .i64 (j : Nat)) ∧ Alike G H ∧ UF H root r ∧ Gph lo X w' p z H ∧ w.grownBy w' z.ownBlock ∧ w'.heap.size = w.heap.size := by
  subst hj
  exact ufind_at h hu hi

set_option maxHeartbeats 4000000 in
set_option maxRecDepth 100000 in
theorem join_at {lo : Nat} {X : Nat → Prop} {p : Nat} {z : Value} {G : List Nd} {root r : Nat → Nat} {E : List (Nat × Nat)} {a b : Nat} {w : World} (h : Gph lo X w p z G) (hu : UF G root r) (hm : Mid G root [] E) (ht : Tops G root) (hok : Ok G) (ha : a < G.length) (hb : b < G.length) :
    Calls Tryz.prog 65 #[.pointer (some ⟨p, 0, none⟩), .int .i64 (a : Nat), .int .i64 (b : Nat)] w (Joined lo X p z G (E ++ [(a, b)]) w) := by
  obtain ⟨q, cap, rfl, hq, hqs, _⟩ := h.form (by omega)
  obtain ⟨i0, hi0, hz0, hz1, hz2⟩ := info_parts pair_info
  have hsm := h.small
  have hwt : wtOf G root G.length ≤ 6250002500000 := by have := wt_le (root := root) (fun i hi => (h.fine i hi).kids) G.length (Nat.le_refl _); omega
  have H0 := Lib.hid (show Joining lo X p q cap G (E ++ [(a, b)]) w (1 + wtOf G root G.length) (.slice (some ⟨w.heap.size, 0, none⟩) 1 1) [(a, b)] (w.alloc (.cells #[.int .i64 (a : Nat), .int .i64 (b : Nat)] 109)) from
    ⟨G, root, r, Alike.refl _, hu, h.alloc _, fr_alloc (fr_refl _ _) _, World.ownsRow_lit w _ 1 (Nat.le_refl _) (by decide) rfl, hm.push ha hb, ht, rfl, by omega⟩)
  have HOK := Lib.hid hok
  have HW0 := Lib.hid h
  have hpw := h.lt
  clear h hu hm ht hok ha hb
  generalize E ++ [(a, b)] = E2 at *
  generalize 1 + wtOf G root G.length = g0 at *
  clear hwt
  go_enter Tryz.func65, Tryz.ntmps65
  go_wp2_with fail
  go_loopg [7] g0 (fun gk s7 wr => ∃ (A : Option Addr) (c : Nat) (op : List (Nat × Nat)), s7 = .slice A op.length c ∧ Hid (Joining lo X p q cap G E2 w gk (.slice A op.length c) op wr))
  case atStart => exact ⟨_, 1, [(a, b)], rfl, H0⟩
  case round =>
    clear H0
    obtain ⟨A, c, op, rfl, HF⟩ := hrel
    rcases List.eq_nil_or_concat op with rfl | ⟨op1, ⟨x, y⟩, rfl⟩
    · obtain ⟨H, root, r, e1, e2, e3, e4, e5, e6, e7, e8, e9⟩ := HF.out
      have HE := Lib.hid (show Joined lo X p (.slice (some ⟨q, 0, none⟩) G.length cap) G E2 w (.returned (.bool true)) wr from ⟨H, e1, e3, e4, .inl ⟨rfl, root, r, e2, e6, e7⟩⟩)
      clear e1 e2 e3 e4 e5 e6 e7 e8 e9 HF
      go_wp2_with fail
      go_ret
      exact HE.out
    · rw [List.concat_eq_append] at HF ⊢
      obtain ⟨m, hmm⟩ : ∃ m, m = op1.length := ⟨_, rfl⟩
      have hlen : (op1 ++ [(x, y)]).length = m + 1 := by rw [hmm]; simp
      rw [hlen] at HF ⊢
      obtain ⟨H, root, r, e1, e2, e3, e4, e5, e6, e7, e8, e9⟩ := HF.out
      rw [hlen] at e5 e8
      obtain ⟨o, c1, hv, ho, hos⟩ : ∃ o c1, (Value.slice A (m + 1) c) = .slice (some ⟨o, 0, none⟩) (m + 1) c1 ∧ w.heap.size ≤ o ∧ o < wr.heap.size := by
        rcases e5.2 with ⟨_, h'⟩ | ⟨g', cap', cur, h', hb, hg, _⟩
        · omega
        · exact ⟨g', cap', h', hb, (own_lt (h' ▸ e5) g' rfl).2⟩
      injection hv with hv1 _ hv2
      subst hv1 hv2
      obtain ⟨o0, o1, HP, _, _, hc1, hc2⟩ := orow_last hmm e5
      have hmb : m ≤ 6250007500000 := by omega
      have hxy := e6.bd (x, y) (by simp)
      have hxH : x < H.length := by rw [e1.1]; exact hxy.1
      have hyH : y < H.length := by rw [e1.1]; exact hxy.2
      obtain ⟨rx, hrx⟩ : ∃ rx, root x = rx := ⟨_, rfl⟩
      obtain ⟨ry, hry⟩ : ∃ ry, root y = ry := ⟨_, rfl⟩
      have QX := Lib.hid (fun W (hW : Gph lo X W p (.slice (some ⟨q, 0, none⟩) G.length cap) H) => find_to hW e2 hxH hrx)
      have QY := Lib.hid (fun W H' (hW : Gph lo X W p (.slice (some ⟨q, 0, none⟩) G.length cap) H') (hu' : UF H' root r) (hl : H'.length = H.length) => find_to hW hu' (show y < H'.length by rw [hl]; exact hyH) hry)
      have HRX := Lib.hid hrx
      have HRY := Lib.hid hry
      have HMM := Lib.hid hmm
      have HR0 := Lib.hid e4
      have HM0 := Lib.hid e6
      have HT0 := Lib.hid e7
      have HK0 := Lib.hid (show gk = m + 1 + wtOf G root G.length ∧ gk ≤ 6250007500000 from ⟨e8, e9⟩)
      have hrxn : rx < G.length := by rw [← hrx, ← e1.1]; exact (e2.root_lt x hxH).1
      have hryn : ry < G.length := by rw [← hry, ← e1.1]; exact (e2.root_lt y hyH).1
      clear hrx hry
      have HG := Lib.hid e3
      have HL := Lib.hid e1
      have HO := Lib.hid HP
      have hoq : o ≠ q := by omega
      have hm1 : (0 : Int) ≤ (m : Int) := by omega
      have hm2 : (m : Int) < (m : Int) + 1 := by omega
      have hm3 : (m : Int) ≤ (m : Int) + 1 := by omega
      have hmax : c ≤ 9223372036854775807 := by unfold maxLen at hc2; exact hc2
      clear e1 e2 e3 e4 e5 e6 e7 e8 e9 hmm hlen HP hxy hxH hyH hc2
      go_wp2_with fail
      go_region_held3 (fun W => W.cell? ⟨o, m * 2, none⟩ = some (.int .i64 (x : Nat)) ∧ W.cell? ⟨o, m * 2 + 1, none⟩ = some (.int .i64 (y : Nat))) (first | exact ⟨o0, o1⟩ | exact ⟨p0, p1⟩ | exact ⟨s0, s1⟩) (first
        | (go_at_call 72; (with_reducible refine (QX.out _ HG.out.drew).mono ?_); rintro e w2 ⟨H1, rfl, hal1, huf1, hg1, hfr1, hsz1⟩; have p0 := (fr_cell hfr1 (p := ⟨o, m * 2, none⟩) hos (by simp [Value.ownBlock]; omega)).trans o0; have p1 := (fr_cell hfr1 (p := ⟨o, m * 2 + 1, none⟩) hos (by simp [Value.ownBlock]; omega)).trans o1; have HG1 := Lib.hid hg1; have HA1 := Lib.hid hal1; have HU1 := Lib.hid huf1; have HF1 := Lib.hid (show wr.grownBy w2 (some q) from undrew_fr hfr1); have HS1 := Lib.hid (show w2.heap.size = wr.heap.size from hsz1); clear hg1 hal1 huf1 hfr1 hsz1)
        | (go_at_call 72; (with_reducible refine (QY.out _ _ HG1.out HU1.out HA1.out.len).mono ?_); rintro e w3 ⟨H2, rfl, hal2, huf2, hg2, hfr2, hsz2⟩; have s0 := (fr_cell hfr2 (p := ⟨o, m * 2, none⟩) (by have := HS1.out; show o < w2.heap.size; rw [this]; exact hos) (by simp [Value.ownBlock]; omega)).trans p0; have s1 := (fr_cell hfr2 (p := ⟨o, m * 2 + 1, none⟩) (by have := HS1.out; show o < w2.heap.size; rw [this]; exact hos) (by simp [Value.ownBlock]; omega)).trans p1; have HG2 := Lib.hid hg2; have HA2 := Lib.hid hal2; have HU2 := Lib.hid huf2; have HF2 := Lib.hid (show w2.grownBy w3 (some q) from hfr2); have HS2 := Lib.hid hsz2; clear hg2 hal2 huf2 hfr2 hsz2))
      have HA := Lib.hid ((HL.out.trans HA1.out).trans HA2.out)
      have HR3 := Lib.hid (fr_trans (fr_trans HR0.out HF1.out) HF2.out)
      have HO3 := Lib.hid (World.ownsRow.kept (World.ownsRow.kept HO.out HF1.out (.inr (by simp [Value.ownBlock]; omega))) HF2.out (.inr (by simp [Value.ownBlock]; omega)))
      have hos3 : o < w3.heap.size := by have h1 := HS1.out; have h2 := HS2.out; omega
      clear HG HL HO HG1 HA1 HU1 HF1 HA2 HF2 HS1 HS2 o0 o1 p0 p1 s0 s1 QX QY HR0 HF
      by_cases hxy : rx = ry
      · subst hxy
        have HE := Lib.hid (show Joining lo X p q cap G E2 w (gk - 1) (.slice (some ⟨o, 0, none⟩) op1.length c) op1 w3 from by
          have hb := HM0.out.bd (x, y) (by simp)
          rw [← HMM.out]
          exact ⟨H2, root, r, HA.out, HU2.out, HG2.out, HR3.out, HMM.out ▸ HO3.out, HM0.out.pop (a := x) (b := y) (fun p hp => by
            rcases List.mem_append.1 hp with hp | hp
            · exact .inr hp
            · exact .inl (List.mem_singleton.1 hp)) (fun p hp => List.mem_append.2 (.inl hp)) hb.1 hb.2 (by rw [HRX.out, HRY.out]), HT0.out, by have := HK0.out.1; rw [← HMM.out]; omega, by have := HK0.out.2; omega⟩)
        have hgk : gk - 1 < gk := by have := HK0.out.1; omega
        have hee : ((rx : Int) == (rx : Int)) = true := by simp
        go_wp2_with fail
        go_roundg (gk - 1)
        case rel => exact ⟨some ⟨o, 0, none⟩, c, op1, by rw [← HMM.out], HE⟩
        case measure => exact hgk
      · have hee : ((rx : Int) == (ry : Int)) = false := by simp; omega
        have hL2 : H2.length = G.length := HA.out.len
        have QR := Lib.hid (fun W (hW : Gph lo X W p (.slice (some ⟨q, 0, none⟩) G.length cap) H2) => remains_at hW (show ry < H2.length by omega) (show rx < H2.length by omega))
        obtain ⟨i, k, hik⟩ : ∃ i k, (remB (nd H2 ry).tm (nd H2 rx).tm = true ∧ i = ry ∧ k = rx) ∨ (remB (nd H2 ry).tm (nd H2 rx).tm = false ∧ i = rx ∧ k = ry) := by
          cases h : remB (nd H2 ry).tm (nd H2 rx).tm
          · exact ⟨rx, ry, .inr ⟨rfl, rfl, rfl⟩⟩
          · exact ⟨ry, rx, .inl ⟨rfl, rfl, rfl⟩⟩
        have HIK := Lib.hid (show (i = root x ∧ k = root y) ∨ (i = root y ∧ k = root x) by
          rw [HRX.out, HRY.out]
          rcases hik with ⟨_, h1, h2⟩ | ⟨_, h1, h2⟩
          · exact .inr ⟨h1, h2⟩
          · exact .inl ⟨h1, h2⟩)
        have HREM := Lib.hid (show (nd G i).tm.kind = 1 → (nd G k).tm.kind = 1 ∧ (nd G i).tm.num ≤ (nd G k).tm.num by
          rw [(HA.out.tm hryn).1, (HA.out.tm hrxn).1] at hik
          intro h1
          unfold remB at hik
          rcases hik with ⟨h, rfl, rfl⟩ | ⟨h, rfl, rfl⟩
          · split at h
            · rename_i h2; exact ⟨h2.2, by simp at h; omega⟩
            · simp [h1] at h
          · split at h
            · rename_i h2; exact ⟨h2.1, by simp at h; omega⟩
            · rename_i h2
              simp at h
              exact absurd ⟨h, h1⟩ h2)
        have hin : i < G.length := by rcases hik with ⟨_, rfl, _⟩ | ⟨_, rfl, _⟩ <;> assumption
        have hkn : k < G.length := by rcases hik with ⟨_, _, rfl⟩ | ⟨_, _, rfl⟩ <;> assumption
        have hne : i ≠ k := by rcases hik with ⟨_, rfl, rfl⟩ | ⟨_, rfl, rfl⟩ <;> omega
        have HRI := Lib.hid (show root i = i ∧ root k = k by
          have h1 := (HU2.out.root_lt x (by have := (HM0.out.bd (x, y) (by simp)).1; omega)).2
          have h2 := (HU2.out.root_lt y (by have := (HM0.out.bd (x, y) (by simp)).2; omega)).2
          rw [HRX.out] at h1
          rw [HRY.out] at h2
          rcases hik with ⟨_, rfl, rfl⟩ | ⟨_, rfl, rfl⟩
          · exact ⟨h2, h1⟩
          · exact ⟨h1, h2⟩)
        have HRL := Lib.hid (show ∀ j, j < G.length → root j < G.length ∧ root (root j) = root j from fun j hj => by
          have := HU2.out.root_lt j (by omega)
          rw [hL2] at this
          exact this)
        have HWT := Lib.hid (wt_union (G := G) HRI.out.1 HRI.out.2 hne G.length)
        clear HRX HRY
        rcases hik with ⟨hrb, rfl, rfl⟩ | ⟨hrb, rfl, rfl⟩
        all_goals
          rw [hrb] at QR
          clear hrb
          go_wp2_with fail
          refine (QR.out _ HG2.out).mono ?_
          rintro e w4 ⟨rfl, hb4⟩
          have HG4 := Lib.hid (HG2.out.below hb4)
          have HR4 := Lib.hid (fr_trans HR3.out (fr_below hb4 (some q)))
          have HO4 := Lib.hid (own_below HO3.out hb4)
          have hos4 : o < w4.heap.size := Nat.lt_of_lt_of_le hos3 hb4.size
          have c0 := HG4.out.hdr
          have hkH : k < H2.length := by omega
          have c5 := (HG4.out.cells hkH).2.2.2.2.2
          have fz := HG4.out.free (k * 6 + 5)
          obtain ⟨nx, hnx⟩ : ∃ nx, nx = (nd H2 k).next := ⟨_, rfl⟩
          rw [← hnx] at c5
          obtain ⟨H5, hH5⟩ : ∃ H5, H5 = H2.set k { nd H2 k with next := i } := ⟨_, rfl⟩
          have hg5 := HG4.out.setNext (k := i) hkH
          rw [← hH5] at hg5
          have ha5 : Alike G H5 := by rw [hH5]; exact HA.out.trans (Alike.set hkH i)
          have hu5 := HU2.out.union (i := i) (k := k) (by omega) hkH HRI.out.1 HRI.out.2 hne
          rw [← hH5] at hu5
          have HG5 := Lib.hid hg5
          have HA5 := Lib.hid ha5
          have HU5 := Lib.hid hu5
          have HR5 := Lib.hid (fr_set (p := ⟨q, k * 6 + 5, none⟩) HR4.out rfl (.int .i64 (i : Nat)))
          have HO5 := Lib.hid (World.ownsRow.kept HO4.out (fr_set (p := ⟨q, k * 6 + 5, none⟩) (fr_refl w4 (some q)) rfl (.int .i64 (i : Nat))) (.inr (by simp [Value.ownBlock]; omega)))
          have hkH5 : k < H5.length := by rw [ha5.len]; exact hkn
          have hiH5 : i < H5.length := by rw [ha5.len]; exact hin
          have g0 := hg5.hdr
          obtain ⟨k0, k1, k2, k3, k4, _⟩ := hg5.cells hkH5
          obtain ⟨j0, j1, j2, j3, j4, _⟩ := hg5.cells hiH5
          rw [(ha5.tm hkn).1] at k0 k1 k2 k3
          rw [(ha5.tm hin).1] at j0 j1 j2 j3
          rw [(ha5.tm hkn).2.1, (ha5.tm hkn).2.2.1, (ha5.tm hkn).2.2.2] at k4
          rw [(ha5.tm hin).2.1, (ha5.tm hin).2.2.1, (ha5.tm hin).2.2.2] at j4
          clear hg5 ha5 hu5 HG4 HR4 HO4 HG2 HA HR3 HO3 HU2 hnx hH5 hb4 QR hos3 hkH hee hxy hL2 hkH5 hiH5
          by_cases hkk : (nd G k).tm.kind = 1
          · have hk1 : ((nd G k).tm.kind == 1) = true := by simpa using hkk
            have HW := Lib.hid HWT.out
            rw [if_pos hkn] at HW
            have HE := Lib.hid (show Joining lo X p q cap G E2 w (m + wtOf G (mergeR root i k) G.length) (.slice (some ⟨o, 0, none⟩) op1.length c) op1 (w4.setCell ⟨q, k * 6 + 5, none⟩ (.int .i64 (i : Nat))) from by
              have hu := HM0.out.union (a := x) (b := y) (i := i) (k := k) (op' := op1) HOK.out HT0.out (by simp) HRL.out HIK.out hne HREM.out (fun p hp => by
                rcases List.mem_append.1 hp with hp | hp
                · exact .inr hp
                · exact .inl (List.mem_singleton.1 hp)) (fun p hp => .inl (List.mem_append.2 (.inl hp))) (fun h => absurd hkk h)
              rw [← HMM.out]
              exact ⟨H5, _, _, HA5.out, HU5.out, HG5.out, HR5.out, HMM.out ▸ HO5.out, hu.1, hu.2, by rw [← HMM.out], by have := HK0.out; have := HW.out; omega⟩)
            have hgk : m + wtOf G (mergeR root i k) G.length < gk := by have := HK0.out.1; have := HW.out; omega
            clear HW HWT
            go_wp2_with fail
            go_roundg (m + wtOf G (mergeR root i k) G.length)
            case rel => exact ⟨some ⟨o, 0, none⟩, c, op1, by rw [← HMM.out], HE⟩
            case measure => exact hgk
          · have hk1 : ((nd G k).tm.kind == 1) = false := by simpa using hkk
            have hki : (nd G i).tm.kind ≠ 1 := fun h => hkk (HREM.out h).1
            have HSL := Lib.hid (show headB (nd G i).tm (nd G k).tm = true ↔ SameLab G i k by
              rw [headB_iff]
              unfold SameLab
              rw [(HOK.out i hin).len, (HOK.out k hkn).len]
              exact ⟨fun h => ⟨⟨h.1, h.2.1, h.2.2.1⟩, h.2.2.2⟩, fun h => ⟨h.1.1, h.1.2.1, h.1.2.2, h.2⟩⟩)
            have QS := Lib.hid (fun W => same_functor_at (nd G i).tm (nd G k).tm W)
            obtain ⟨w5, hw5⟩ : ∃ w5, w5 = w4.setCell ⟨q, k * 6 + 5, none⟩ (.int .i64 (i : Nat)) := ⟨_, rfl⟩
            cases hh : headB (nd G i).tm (nd G k).tm
            · rw [hh] at QS HSL
              have HE := Lib.hid (show ∀ W, w5.grownBy W (some q) → Gph lo X W p (.slice (some ⟨q, 0, none⟩) G.length cap) H5 → Joined lo X p (.slice (some ⟨q, 0, none⟩) G.length cap) G E2 w (.returned (.bool false)) W from fun W hW hG =>
                ⟨H5, HA5.out, hG, fr_trans HR5.out (hw5 ▸ hW), .inr ⟨rfl, HM0.out.clash (a := x) (b := y) HOK.out (by simp) HRL.out HIK.out hin hkn hki hkk (fun h => absurd (HSL.out.2 h) (by simp))⟩⟩)
              clear hh
              have HW5 := Lib.hid hw5
              clear hw5
              go_wp2_with fail
              go_region_held3 (fun W => W.cell? ⟨p, 0, none⟩ = some (.slice (some ⟨q, 0, none⟩) G.length cap) ∧ (W.cell? ⟨q, i * 6, none⟩ = some (.int .i64 (nd G i).tm.kind) ∧ W.cell? ⟨q, i * 6 + 1, none⟩ = some (.int .i64 (nd G i).tm.num) ∧ W.cell? ⟨q, i * 6 + 2, none⟩ = some (.string (nd G i).tm.name) ∧ W.cell? ⟨q, i * 6 + 3, none⟩ = some (.slice (nd G i).tm.at_ (nd G i).tm.args.length (nd G i).tm.cap)) ∧ W.cell? ⟨q, k * 6, none⟩ = some (.int .i64 (nd G k).tm.kind) ∧ W.cell? ⟨q, k * 6 + 1, none⟩ = some (.int .i64 (nd G k).tm.num) ∧ W.cell? ⟨q, k * 6 + 2, none⟩ = some (.string (nd G k).tm.name) ∧ W.cell? ⟨q, k * 6 + 3, none⟩ = some (.slice (nd G k).tm.at_ (nd G k).tm.args.length (nd G k).tm.cap)) (first | exact ⟨g0, ⟨j0, j1, j2, j3⟩, k0, k1, k2, k3⟩ | exact ⟨keepv hb6 g0, ⟨keepv hb6 j0, keepv hb6 j1, keepv hb6 j2, keepv hb6 j3⟩, keepv hb6 k0, keepv hb6 k1, keepv hb6 k2, keepv hb6 k3⟩) (first | (go_at_call 104; refine (QS.out _).mono ?_; rintro e w6 ⟨rfl, hb6⟩))
              all_goals
                have HE2 := Lib.hid (HE.out w6 (HW5.out ▸ undrew_fr (fr_below hb6 (some q))) (HG5.out.drew.below hb6))
                clear HE hb6
                go_wp2_with fail
                go_ret
                exact HE2.out
            · rw [hh] at QS HSL
              have HSM := Lib.hid (HSL.out.1 rfl)
              obtain ⟨li, hli⟩ : ∃ l, l = (nd G i).kids := ⟨_, rfl⟩
              obtain ⟨lk, hlk⟩ : ∃ l, l = (nd G k).kids := ⟨_, rfl⟩
              obtain ⟨Ai, hAi⟩ : ∃ A, A = (nd G i).A := ⟨_, rfl⟩
              obtain ⟨Ak, hAk⟩ : ∃ A, A = (nd G k).A := ⟨_, rfl⟩
              obtain ⟨ci, hci⟩ : ∃ c, c = (nd G i).cap := ⟨_, rfl⟩
              obtain ⟨ck, hck⟩ : ∃ c, c = (nd G k).cap := ⟨_, rfl⟩
              have hlen2 : li.length = lk.length := by rw [hli, hlk]; exact HSM.out.2
              have hls : li.length ≤ 2500000 := by rw [hli]; exact (HW0.out.fine i hin).kids
              have HKI := Lib.hid (show ∀ W, Gph lo X W p (.slice (some ⟨q, 0, none⟩) G.length cap) H5 → IRow W Ai li ci from fun W hW => by
                have := (hW.kids i (by rw [HA5.out.len]; exact hin)).at
                rw [(HA5.out.tm hin).2.1, (HA5.out.tm hin).2.2.1, (HA5.out.tm hin).2.2.2, ← hli, ← hAi, ← hci] at this
                exact this)
              have HKK := Lib.hid (show ∀ W, Gph lo X W p (.slice (some ⟨q, 0, none⟩) G.length cap) H5 → IRow W Ak lk ck ∧ W.cell? ⟨p, 0, none⟩ = some (.slice (some ⟨q, 0, none⟩) G.length cap) ∧ W.cell? ⟨q, k * 6 + 4, none⟩ = some (.slice Ak lk.length ck) from fun W hW => by
                have := (hW.kids k (by rw [HA5.out.len]; exact hkn)).at
                rw [(HA5.out.tm hkn).2.1, (HA5.out.tm hkn).2.2.1, (HA5.out.tm hkn).2.2.2, ← hlk, ← hAk, ← hck] at this
                have h2 := (hW.cells (i := k) (by rw [HA5.out.len]; exact hkn)).2.2.2.2.1
                rw [(HA5.out.tm hkn).2.1, (HA5.out.tm hkn).2.2.1, (HA5.out.tm hkn).2.2.2, ← hlk, ← hAk, ← hck] at h2
                exact ⟨this, hW.hdr, h2⟩)
              have HKJ := Lib.hid (show ∀ W, Gph lo X W p (.slice (some ⟨q, 0, none⟩) G.length cap) H5 → W.cell? ⟨q, i * 6 + 4, none⟩ = some (.slice Ai li.length ci) from fun W hW => by
                have h2 := (hW.cells (i := i) (by rw [HA5.out.len]; exact hin)).2.2.2.2.1
                rw [(HA5.out.tm hin).2.1, (HA5.out.tm hin).2.2.1, (HA5.out.tm hin).2.2.2, ← hli, ← hAi, ← hci] at h2
                exact h2)
              have HZ := Lib.hid (show (li.zip lk).length = li.length by rw [List.length_zip]; omega)
              have HW := Lib.hid HWT.out
              rw [if_pos hkn, ← hlk, ← hlen2] at HW
              have HUN := Lib.hid (HM0.out.union (a := x) (b := y) (i := i) (k := k) (op' := op1 ++ li.zip lk) HOK.out HT0.out (by simp) HRL.out HIK.out hne HREM.out (fun p hp => by
                rcases List.mem_append.1 hp with hp | hp
                · exact .inr (List.mem_append.2 (.inl hp))
                · exact .inl (List.mem_singleton.1 hp)) (fun p hp => by
                rcases List.mem_append.1 hp with hp | hp
                · exact .inl (List.mem_append.2 (.inl hp))
                · exact .inr ⟨hkk, hli ▸ hlk ▸ hp⟩) (fun _ => ⟨HSM.out, fun p hp => List.mem_append.2 (.inr (hli ▸ hlk ▸ hp))⟩))
              have HLI := Lib.hid hli
              rw [← hAi, ← hli, ← hci] at j4
              clear hw5 hh HSL HSM hli hlk hAi hAk hci hck HRL HRI HIK HREM HWT k4
              go_wp2_with fail
              go_region_held3 (fun W => W.cell? ⟨p, 0, none⟩ = some (.slice (some ⟨q, 0, none⟩) G.length cap) ∧ (W.cell? ⟨q, i * 6, none⟩ = some (.int .i64 (nd G i).tm.kind) ∧ W.cell? ⟨q, i * 6 + 1, none⟩ = some (.int .i64 (nd G i).tm.num) ∧ W.cell? ⟨q, i * 6 + 2, none⟩ = some (.string (nd G i).tm.name) ∧ W.cell? ⟨q, i * 6 + 3, none⟩ = some (.slice (nd G i).tm.at_ (nd G i).tm.args.length (nd G i).tm.cap)) ∧ W.cell? ⟨q, k * 6, none⟩ = some (.int .i64 (nd G k).tm.kind) ∧ W.cell? ⟨q, k * 6 + 1, none⟩ = some (.int .i64 (nd G k).tm.num) ∧ W.cell? ⟨q, k * 6 + 2, none⟩ = some (.string (nd G k).tm.name) ∧ W.cell? ⟨q, k * 6 + 3, none⟩ = some (.slice (nd G k).tm.at_ (nd G k).tm.args.length (nd G k).tm.cap)) (first | exact ⟨g0, ⟨j0, j1, j2, j3⟩, k0, k1, k2, k3⟩ | exact ⟨keepv hb6 g0, ⟨keepv hb6 j0, keepv hb6 j1, keepv hb6 j2, keepv hb6 j3⟩, keepv hb6 k0, keepv hb6 k1, keepv hb6 k2, keepv hb6 k3⟩) (first | (go_at_call 104; refine (QS.out _).mono ?_; rintro e w6 ⟨rfl, hb6⟩))
              all_goals
                have HP6 := Lib.hid (show Pushing lo X p (.slice (some ⟨q, 0, none⟩) G.length cap) H5 op1 (li.zip lk) w (.slice (some ⟨o, 0, none⟩) m c) (m + 0) 0 w6 from
                  ⟨HG5.out.drew.below hb6, fr_trans HR5.out (undrew_fr (fr_below hb6 (some q))), by
                    have := own_below (World.ownsRow.drew HO5.out) hb6
                    simpa using this⟩)
                have g1 := HP6.out.1.hdr
                have g2 := HKJ.out w6 HP6.out.1
                clear hb6 j0 j1 j2 j3 j4 k0 k1 k2 k3 g0 fz c0 c5 hos4 HG5 HR5 HO5
                go_wp2_with fail
                go_loopw [7, 94] (fun s7 s94 wr => ∃ (A : Option Addr) (c' j : Nat), j ≤ li.length ∧ s94 = .int .i64 (j : Nat) ∧ s7 = .slice A (m + j) c' ∧ Hid (Pushing lo X p (.slice (some ⟨q, 0, none⟩) G.length cap) H5 op1 (li.zip lk) w (.slice A (m + j) c') (m + j) j wr)) (fun _ s94 _ => li.length - (intOf s94).toNat)
                case atStart => exact ⟨some ⟨o, 0, none⟩, c, 0, Nat.zero_le _, rfl, rfl, HP6⟩
                case round =>
                  obtain ⟨A, c', j, hj, rfl, rfl, HP⟩ := hrel
                  by_cases hlt : j < li.length
                  · have hltk : j < lk.length := by omega
                    obtain ⟨bi, rfl, hbi⟩ := (HKI.out wr HP.out.1).2.2 (by omega)
                    obtain ⟨⟨_, hck, hKK⟩, d0, d4⟩ := HKK.out wr HP.out.1
                    obtain ⟨bk, rfl, hbk⟩ := hKK (by omega)
                    have b1 := hbi j hlt
                    have b2 := hbk j hltk
                    clear hbi hbk hKK
                    have HNX := Lib.hid (fun w8 g cp T => pushing_next (w8 := w8) (g := g) (cp := cp) (T := T) HW0.out HA5.out (fun k hk => by
                      have : q = k := by simpa [Value.ownBlock] using hk
                      omega) HP.out hlt hltk)
                    obtain ⟨ni, hni⟩ : ∃ n, n = li.getD j 0 := ⟨_, rfl⟩
                    obtain ⟨nk, hnk⟩ : ∃ n, n = lk.getD j 0 := ⟨_, rfl⟩
                    rw [← hni] at b1
                    rw [← hnk] at b2
                    rw [← hni, ← hnk] at HNX
                    clear hni hnk
                    have hsz : w.heap.size ≤ wr.heap.size := HP.out.2.1.size
                    go_wp2_with (at_builtin; refine wpList_append_lies _ rfl _ _ 110 rfl w.heap.size 109 i0 _ 2 16 Tryz.underlying110 hi0 hz0 hz1 hz2 rfl (by decide) _ (m + j) (ocells (op1 ++ (li.zip lk).take j)) rfl (HP.out.2.2.alloc _) ⟨wr.heap.size, 0, none⟩ 1 1 [.int .i64 (ni : Nat), .int .i64 (nk : Nat)] rfl rfl (pnews wr _ _ _) (pairs_one ni nk) (by decide) (by unfold maxLen; omega) (by omega) (by simp; omega) _ rfl ?_; intro g cp w8 hown hg hat hglt; have HP2 := Lib.hid (HNX.out w8 g cp _ hown hg); clear hown hg hat hglt)
                    go_roundw
                    case rel => exact ⟨some ⟨g, 0, none⟩, cp, j + 1, by omega, by go_num, rfl, HP2⟩
                    case measure => simp [intOf]; omega
                  · obtain rfl : j = li.length := by omega
                    have hl : (op1 ++ li.zip lk).length = m + li.length := by rw [List.length_append, HZ.out, HMM.out]
                    have HE := Lib.hid (show Joining lo X p q cap G E2 w (m + li.length + wtOf G (mergeR root i k) G.length) (.slice A (op1 ++ li.zip lk).length c') (op1 ++ li.zip lk) wr from by
                      have hp := HP.out
                      have ht : (li.zip lk).take li.length = li.zip lk := List.take_of_length_le (by rw [HZ.out]; exact Nat.le_refl _)
                      unfold Pushing at hp
                      rw [ht] at hp
                      exact ⟨H5, _, _, HA5.out, HU5.out, hp.1, hp.2.1, by rw [hl]; exact hp.2.2, HUN.out.1, HUN.out.2, by rw [hl], by have := HK0.out; have := HW.out; omega⟩)
                    have hgk : m + li.length + wtOf G (mergeR root i k) G.length < gk := by have := HK0.out.1; have := HW.out; omega
                    have HLN := Lib.hid hl
                    clear hl HP
                    go_wp2_with fail
                    go_roundg (m + li.length + wtOf G (mergeR root i k) G.length)
                    case rel => exact ⟨A, c', op1 ++ li.zip lk, by rw [HLN.out], HE⟩
                    case measure => exact hgk
end Go.Proofs.YtelkmnjoboekmaaGreat
