/-
  Contracts of the reader's chain (of products, of operands), product and expr.
-/
import Derived.Test.YtlpibnbabgfiiaaGreatDoorTtOpnd
namespace Go.Proofs.YtlpibnbabgfiiaaGreatDoor
open Go.RowKit

/-- A term in a block of four cells. -/
structure Box (w : World) (T : Nat) (u : Tm) : Prop where
  lt : T < w.heap.size
  c0 : w.cell? ⟨T, 0, none⟩ = some (.int .i64 u.kind)
  c1 : w.cell? ⟨T, 1, none⟩ = some (.int .i64 u.num)
  c2 : w.cell? ⟨T, 2, none⟩ = some (.string u.name)
  c3 : w.cell? ⟨T, 3, none⟩ = some (.slice u.at_ u.args.length u.cap)
  free : ∀ j, w.frozen? ⟨T, j, none⟩ = false
theorem Box.of {w w' : World} {T : Nat} {u : Tm} (h : Box w T u) (hs : w.heap.size ≤ w'.heap.size) (hb : w'.heap[T]? = w.heap[T]?) : Box w' T u :=
  ⟨Nat.lt_of_lt_of_le h.lt hs, by rw [World.cell?_of_block (a := ⟨T, 0, none⟩) hb]; exact h.c0, by rw [World.cell?_of_block (a := ⟨T, 1, none⟩) hb]; exact h.c1, by rw [World.cell?_of_block (a := ⟨T, 2, none⟩) hb]; exact h.c2,
    by rw [World.cell?_of_block (a := ⟨T, 3, none⟩) hb]; exact h.c3, fun j => by rw [World.frozen?_of_block (a := ⟨T, j, none⟩) hb]; exact h.free j⟩
theorem Box.keeps {R : Nat} {w w' : World} {T : Nat} {u : Tm} (h : Box w T u) (k : Keeps R w w') (hR : T ≠ R) : Box w' T u := h.of k.size (k.block T h.lt hR)
theorem Box.below {w w' : World} {T : Nat} {u : Tm} (h : Box w T u) (k : Below w.heap.size w w') : Box w' T u := h.of k.size (k.block T h.lt)
theorem Box.alloc {w : World} {T : Nat} {u : Tm} (h : Box w T u) (o : Obj) : Box (w.alloc o) T u := h.below ((Below.refl _ _).alloc (Nat.le_refl _) o)
theorem Box.set {w : World} {T : Nat} {u : Tm} (h : Box w T u) {a : Addr} (ha : a.block ≠ T) (v : Value) : Box (w.setCell a v) T u := h.of (by simp [World.setCell]) (Below.heap_setCell _ _ _ _ (fun e => ha e.symm))
theorem Box.put4 {w : World} {T b : Nat} {u : Tm} {v0 v1 v2 v3 : Value} (h : Box w T u) (hb : b ≠ T) : Box (put4 w b v0 v1 v2 v3) T u :=
  (((h.set (a := ⟨b, 0, none⟩) hb _).set (a := ⟨b, 1, none⟩) hb _).set (a := ⟨b, 2, none⟩) hb _).set (a := ⟨b, 3, none⟩) hb _
theorem Box.new (w : World) (u : Tm) (t : TypeId) : Box (w.alloc (.cells #[.int .i64 u.kind, .int .i64 u.num, .string u.name, .slice u.at_ u.args.length u.cap] t)) w.heap.size u :=
  ⟨by simp, World.cell?_alloc_at _ _ _ _ rfl, World.cell?_alloc_at _ _ _ _ rfl, World.cell?_alloc_at _ _ _ _ rfl, World.cell?_alloc_at _ _ _ _ rfl, fun j => World.frozen?_alloc_at _ _ _ _ rfl⟩
theorem set4 (w : World) (g q : Nat) (v0 v1 v2 v3 : Value) (h0 : ∀ j, j < 4 → (w.cell? ⟨g, q + j, none⟩).isSome = true) :
    ∀ p : Addr, ((((w.setCell ⟨g, q, none⟩ v0).setCell ⟨g, q + 1, none⟩ v1).setCell ⟨g, q + 2, none⟩ v2).setCell ⟨g, q + 3, none⟩ v3).cell? p =
      if p = ⟨g, q, none⟩ then some v0 else if p = ⟨g, q + 1, none⟩ then some v1 else if p = ⟨g, q + 2, none⟩ then some v2 else if p = ⟨g, q + 3, none⟩ then some v3 else w.cell? p := by
  intro p
  have ne : ∀ i j : Nat, i ≠ j → (⟨g, q + i, none⟩ : Addr) ≠ ⟨g, q + j, none⟩ := fun i j h e => by injection e with _ e _; omega
  have n01 : (⟨g, q, none⟩ : Addr) ≠ ⟨g, q + 1, none⟩ := ne 0 1 (by omega)
  have n02 : (⟨g, q, none⟩ : Addr) ≠ ⟨g, q + 2, none⟩ := ne 0 2 (by omega)
  have n03 : (⟨g, q, none⟩ : Addr) ≠ ⟨g, q + 3, none⟩ := ne 0 3 (by omega)
  have n12 := ne 1 2 (by omega)
  have n13 := ne 1 3 (by omega)
  have n23 := ne 2 3 (by omega)
  have s0 := h0 0 (by omega)
  have s1 := h0 1 (by omega)
  have s2 := h0 2 (by omega)
  have s3 := h0 3 (by omega)
  simp only [Nat.add_zero] at s0
  by_cases e0 : p = ⟨g, q, none⟩
  · subst e0
    rw [if_pos rfl, World.cell?_setCell_other _ _ _ _ n03.symm, World.cell?_setCell_other _ _ _ _ n02.symm, World.cell?_setCell_other _ _ _ _ n01.symm, World.cell?_setCell_same' _ _ _ s0]
  rw [if_neg e0]
  by_cases e1 : p = ⟨g, q + 1, none⟩
  · subst e1
    rw [if_pos rfl, World.cell?_setCell_other _ _ _ _ n13.symm, World.cell?_setCell_other _ _ _ _ n12.symm, World.cell?_setCell_same' _ _ _ (by rw [World.cell?_setCell_other _ _ _ _ n01]; exact s1)]
  rw [if_neg e1]
  by_cases e2 : p = ⟨g, q + 2, none⟩
  · subst e2
    rw [if_pos rfl, World.cell?_setCell_other _ _ _ _ n23.symm, World.cell?_setCell_same' _ _ _ (by rw [World.cell?_setCell_other _ _ _ _ n12, World.cell?_setCell_other _ _ _ _ n02]; exact s2)]
  rw [if_neg e2]
  by_cases e3 : p = ⟨g, q + 3, none⟩
  · subst e3
    rw [if_pos rfl, World.cell?_setCell_same' _ _ _ (by rw [World.cell?_setCell_other _ _ _ _ n23, World.cell?_setCell_other _ _ _ _ n13, World.cell?_setCell_other _ _ _ _ n03]; exact s3)]
  rw [if_neg e3, World.cell?_setCell_other _ _ _ _ (Ne.symm e3), World.cell?_setCell_other _ _ _ _ (Ne.symm e2), World.cell?_setCell_other _ _ _ _ (Ne.symm e1), World.cell?_setCell_other _ _ _ _ (Ne.symm e0)]

theorem Box.over {w : World} {T : Nat} {u : Tm} (h : Box w T u) (u' : Tm) : Box (Go.Proofs.YtlpibnbabgfiiaaGreatDoor.put4 w T (.int .i64 u'.kind) (.int .i64 u'.num) (.string u'.name) (.slice u'.at_ u'.args.length u'.cap)) T u' := by
  have hz : (Go.Proofs.YtlpibnbabgfiiaaGreatDoor.put4 w T (.int .i64 u'.kind) (.int .i64 u'.num) (.string u'.name) (.slice u'.at_ u'.args.length u'.cap)).heap.size = w.heap.size := by simp [Go.Proofs.YtlpibnbabgfiiaaGreatDoor.put4, World.setCell]
  obtain ⟨h0, h1, h2, h3, h4, h5⟩ := h
  have hs := set4 w T 0 (.int .i64 u'.kind) (.int .i64 u'.num) (.string u'.name) (.slice u'.at_ u'.args.length u'.cap) (fun j hj => by
    match j, hj with
    | 0, _ => rw [h1]; rfl
    | 1, _ => rw [h2]; rfl
    | 2, _ => rw [h3]; rfl
    | 3, _ => rw [h4]; rfl)
  refine ⟨by rw [hz]; exact h0, (hs _).trans ?_, (hs _).trans ?_, (hs _).trans ?_, (hs _).trans ?_, fun j => ?_⟩
  · simp
  · simp
  · simp
  · simp
  · simp [Go.Proofs.YtlpibnbabgfiiaaGreatDoor.put4, World.frozen?_setCell, h5]

theorem enc_fin : ∀ i : Fin 256, (Utf8.encode ((UInt8.ofNat i.val).toNat : Int)).data.toList = [UInt8.ofNat i.val] ∨ (ostr (Utf8.encode ((UInt8.ofNat i.val).toNat : Int)).data.toList = 2 ∧ ostr [UInt8.ofNat i.val] = 2) := by decide +kernel
theorem enc_byte (x : UInt8) : ostr (Utf8.encode (x.toNat : Int)).data.toList = ostr [x] ∧ (ostr [x] ≠ 2 → Utf8.encode (x.toNat : Int) = ⟨#[x]⟩) := by
  have h := enc_fin ⟨x.toNat, x.toNat_lt⟩
  simp only [UInt8.ofNat_toNat] at h
  rcases h with h | ⟨h1, h2⟩
  · exact ⟨by rw [h], fun _ => WideShapes.bytes_inj h⟩
  · exact ⟨by rw [h1, h2], fun h => absurd h2 h⟩
theorem row2 {w : World} {u v : Tm} {T : TypeId} (hu : ∀ o, u.At (w.alloc o)) (hv : ∀ o, v.At (w.alloc o)) :
    RowAt (w.alloc (.cells #[.int .i64 u.kind, .int .i64 u.num, .string u.name, .slice u.at_ u.args.length u.cap, .int .i64 v.kind, .int .i64 v.num, .string v.name, .slice v.at_ v.args.length v.cap] T)) [u, v] w.heap.size 0 := by
  refine ⟨⟨?_, ?_, ?_, ?_⟩, hu _, ⟨?_, ?_, ?_, ?_⟩, hv _, trivial⟩ <;> rw [World.cell?_alloc_at _ _ _ _ rfl] <;> rfl

/-- What holds at the head of the loop. -/
def ChainLoop (R n own : Nat) (s : ByteArray) (w : World) (O : List UInt8 → PR Tm) (res : PR Tm) (T gk : Nat) (z : Value) (wr : World) (q : Nat) (u : Tm) : Prop :=
  Keeps R (w.alloc (.cells #[.int .i64 0, .int .i64 0, .string ⟨#[]⟩, .slice none 0 0] 24)) wr ∧ Rd wr R s q ∧ w.heap.size < T ∧ Box wr T u ∧ Live (w.heap.size + 1) (Is T) wr u ∧
    ((z = .int .i64 0 ∧ res = chain own O u.strip (skip (rest s q)) ∧ (skip (rest s q)).length ≤ gk ∧ (skip (rest s q)).length ≤ n) ∨ (∃ c : Int, c ≠ 0 ∧ z = .int .i64 c ∧ res = .err c))

set_option maxHeartbeats 4000000 in
set_option maxRecDepth 10000 in
theorem chain1_at (s : ByteArray) (n : Nat) (O : List UInt8 → PR Tm) (hsh : Shrinks O) (R : Nat)
    (hO : ∀ (p : Nat) (w : World), Rd w R s p → (skip (rest s p)).length ≤ n → Calls Tryz.prog 108 #[.pointer (some ⟨R, 0, none⟩)] w (Parsed R s w (O (skip (rest s p)))))
    (p : Nat) (w : World) (hs : s.size ≤ 16384) (h : Rd w R s p) (hn : (skip (rest s p)).length ≤ n) :
    Calls Tryz.prog 76 #[.pointer (some ⟨R, 0, none⟩), .int .i64 1, .func (.func 108) #[.pointer (some ⟨R, 0, none⟩)] #[]] w (Parsed R s w (level 1 O (skip (rest s p)))) := by
  have hsm : s.size ≤ maxLen := by unfold maxLen; omega
  have hR := h.lt
  have H := Lib.hid h
  have HN := Lib.hid hn
  have Q := Lib.hid hO
  have HS := Lib.hid hsh
  obtain ⟨res, hres⟩ : ∃ res, res = level 1 O (skip (rest s p)) := ⟨_, rfl⟩
  rw [← hres]
  have HRes := Lib.hid hres
  clear h hn hO hsh hres
  go_enter Tryz.func76, Tryz.ntmps76
  go_wp2_with fail
  refine (Q.out p _ (H.out.alloc _) HN.out).mono ?_
  rintro e w1 ⟨u, q, hu, hk, hr, ho⟩
  have hlo : w.heap.size + 1 ≤ w1.heap.size := by have := hk.size; simpa using this
  have HB := Lib.hid (Box.new w1 u 24)
  have HK := Lib.hid (hk.alloc (.cells #[.int .i64 u.kind, .int .i64 u.num, .string u.name, .slice u.at_ u.args.length u.cap] 24))
  have HR := Lib.hid (hr.alloc (.cells #[.int .i64 u.kind, .int .i64 u.num, .string u.name, .slice u.at_ u.args.length u.cap] 24))
  have HU := Lib.hid (((hu.new (.cells #[.int .i64 u.kind, .int .i64 u.num, .string u.name, .slice u.at_ u.args.length u.cap] 24)).low (lo' := w.heap.size + 1) (by simp)).out (X := Is w1.heap.size) (fun b _ _ h => .inr h))
  clear hk hr hu
  have HL : ∃ c : Int, e = .returned (.tuple #[u.val, .int .i64 c]) ∧ Hid (ChainLoop R n 1 s w O res w1.heap.size (skip (rest s q)).length (.int .i64 c) (w1.alloc (.cells #[.int .i64 u.kind, .int .i64 u.num, .string u.name, .slice u.at_ u.args.length u.cap] 24)) q u) := by
    rcases ho with ⟨t, ho, hst, rfl⟩ | ⟨c, hc0, ho, rfl⟩
    · have hs := HS.out _ _ _ ho
      have hn := HN.out
      exact ⟨0, rfl, HK.out, HR.out, hlo, HB.out, HU.out, .inl ⟨rfl, by rw [HRes.out, level, ho, hst], Nat.le_refl _, by omega⟩⟩
    · exact ⟨c, rfl, HK.out, HR.out, hlo, HB.out, HU.out, .inr ⟨c, hc0, rfl, by rw [HRes.out, level, ho]⟩⟩
  obtain ⟨c, rfl, HL⟩ := HL
  obtain ⟨T, hT⟩ : ∃ T, T = w1.heap.size := ⟨_, rfl⟩
  have HT := Lib.hid hT
  clear ho HB HK HR HU hT
  go_wp2_with fail
  rw [← HT.out]
  go_loopg [9] (skip (rest s q)).length (fun gk z wr => ∃ (q2 : Nat) (u2 : Tm) (x : Value), z = x ∧ Hid (ChainLoop R n 1 s w O res T gk x wr q2 u2))
  case atStart => exact ⟨q, u, _, rfl, by rw [HT.out]; exact HL⟩
  case round =>
    clear HL
    obtain ⟨q2, u2, x, rfl, hI⟩ := hrel
    obtain ⟨k1, k2, k3, k4, k5, k6⟩ := hI.out
    have HI := Lib.hid (And.intro k1 (And.intro k2 (And.intro k3 (And.intro k4 k5))))
    obtain ⟨c0, c1, c2, c3, f0, f1, f2, f3, hz⟩ := boxK4 hR k1
    have t0 := k4.c0
    have t1 := k4.c1
    have t2 := k4.c2
    have t3 := k4.c3
    clear k1 k2 k3 k4 k5 hI
    rcases k6 with ⟨rfl, hres, hgk, hgn⟩ | ⟨c, hc0, rfl, hres⟩
    · have HV := Lib.hid hres
      clear hres
      have HGK := Lib.hid hgk
      have HGN := Lib.hid hgn
      clear hgk hgn
      clear c0 c1 c2 c3 f0 f1 f2 f3 t0 t1 t2 t3
      go_wp2_with fail
      refine (next_at s R q2 _ hsm HI.out.2.1).mono ?_
      rintro e w2 ⟨q3, x, hq3, hx, rfl, hk2, hr2⟩
      have HX := Lib.hid hx
      have HQ3 := Lib.hid hq3
      have HK2 := Lib.hid hk2
      have HR2 := Lib.hid hr2
      clear hq3 hx hk2 hr2
      go_wp2_with fail
      obtain ⟨m, hm⟩ : ∃ m, ostr [x] = m := ⟨_, rfl⟩
      obtain ⟨e1, e2⟩ := enc_byte x
      obtain ⟨S, hS⟩ : ∃ S, Utf8.encode (x.toNat : Int) = S := ⟨_, rfl⟩
      rw [hS] at e1 e2 ⊢
      refine (ostr_at S _ (n := m) (e1.trans hm)).mono ?_
      rintro e w' ⟨rfl, rfl⟩
      have HM := Lib.hid hm
      have HE := Lib.hid e2
      clear hm e1 e2 hS
      have hTR : ¬ T = R := fun e => by have := HI.out.2.2.1; omega
      have hRT : ¬ R = T := fun e => by have := HI.out.2.2.1; omega
      have HB2 := Lib.hid (HI.out.2.2.2.1.keeps HK2.out hTR)
      have t0 := HB2.out.c0
      have t1 := HB2.out.c1
      have t2 := HB2.out.c2
      have t3 := HB2.out.c3
      have HL2 := Lib.hid (HI.out.2.2.2.2.keeps HK2.out (by omega))
      by_cases hmi : m = 1
      · subst hmi
        have hq3 : q3 < s.size := by
          rcases Nat.lt_or_ge q3 s.size with h | h
          · exact h
          · have := HX.out
            rw [rest_end h] at this
            have h2 := HM.out
            rw [← this] at h2
            exact absurd h2 (by decide)
        have htail := rest_tail hq3
        have hcons := rest_cons hq3
        have hlen : (skip (rest s (q3 + 1))).length < (skip (rest s q2)).length := by
          have h1 := skip_len (rest s (q3 + 1))
          rw [← HQ3.out, hcons, List.length_cons]
          omega
        have HTl := Lib.hid htail
        have HLen := Lib.hid hlen
        clear htail hcons hlen
        have ht := HR2.out.txt
        have hp := HR2.out.pos
        have hf := HR2.out.free
        have hq3' : (q3 : Int) < (s.size : Int) := by omega
        have hs' : s.size ≤ 9223372036854775807 := by omega
        go_wp2_with fail
        refine (Q.out (q3 + 1) _ ((HR2.out.set (q := q3 + 1) (by omega)).alloc _) (by have := HLen.out; have := HGN.out; omega)).mono ?_
        rintro e w4 ⟨u3, q4, hu3, hk4, hr4, ho⟩
        have hsz2 : (w2.setCell ⟨R, 1, none⟩ (.int .i64 ((q3 + 1 : Nat) : Int))).heap.size = w2.heap.size := by simp [World.setCell]
        have hT2 : T < w2.heap.size := HB2.out.lt
        have hTf : ¬ T = w2.heap.size := by omega
        have hfT : ¬ w2.heap.size = T := by omega
        have hfR : ¬ w2.heap.size = R := by have := HR2.out.lt; omega
        have HB4 := Lib.hid (((HB2.out.set (a := ⟨R, 1, none⟩) hRT _).alloc _).keeps hk4 hTR)
        have HF4 := Lib.hid (show Box w4 w2.heap.size u2 by have := (Box.new (w2.setCell ⟨R, 1, none⟩ (.int .i64 ((q3 + 1 : Nat) : Int))) u2 24).keeps hk4 (by rw [hsz2]; exact hfR); rwa [hsz2] at this)
        have HL4 := Lib.hid (((HL2.out.set (p := ⟨R, 1, none⟩) (.inl (by show R < _; omega)) _).alloc _).keeps hk4 (by omega))
        have hz2 : w.heap.size < w2.heap.size := by have := HK2.out.size; omega
        have HL4' := Lib.hid (hu3.less (lo := w.heap.size + 1) (X := Is T) (w' := w4) (Nat.le_refl _) (fun b h1 _ _ => ⟨by simp at h1; omega, by show ¬ b = T; simp at h1; omega, rfl⟩))
        have HK4 := Lib.hid ((((HI.out.1.trans HK2.out).set 1 none _).alloc _).trans hk4)
        have HR4 := Lib.hid hr4
        clear hsz2 hu3 hk4 hr4
        have HG : ∃ k : Int, e = .returned (.tuple #[u3.val, .int .i64 k]) ∧ Hid ((k = 0 ∧ O (skip (skip (rest s q2)).tail) = .ok u3.strip (skip (rest s q4))) ∨ (k ≠ 0 ∧ O (skip (skip (rest s q2)).tail) = .err k)) := by
          rw [← HTl.out, HQ3.out] at ho
          rcases ho with ⟨t, ho, hst, rfl⟩ | ⟨k, hk0, ho, rfl⟩
          · exact ⟨0, rfl, .inl ⟨rfl, by rw [ho, hst]⟩⟩
          · exact ⟨k, rfl, .inr ⟨hk0, ho⟩⟩
        obtain ⟨k, rfl, HG⟩ := HG
        clear ho t0 t1 t2 t3 ht hp hf
        have t0 := HB4.out.c0
        have t1 := HB4.out.c1
        have t2 := HB4.out.c2
        have t3 := HB4.out.c3
        have g0 := HB4.out.free 0
        have g1 := HB4.out.free 1
        have g2 := HB4.out.free 2
        have g3 := HB4.out.free 3
        have d0 := HF4.out.c0
        have d1 := HF4.out.c1
        have d2 := HF4.out.c2
        have d3 := HF4.out.c3
        go_wp2_with fail
        clear t0 t1 t2 t3 g0 g1 g2 g3 d0 d1 d2 d3
        have hTw := HI.out.2.2.1
        obtain ⟨w5, hw5⟩ : ∃ w5, w5 = (((w4.setCell ⟨T, 0, none⟩ (.int .i64 u3.kind)).setCell ⟨T, 1, none⟩ (.int .i64 u3.num)).setCell ⟨T, 2, none⟩ (.string u3.name)).setCell ⟨T, 3, none⟩ (.slice u3.at_ u3.args.length u3.cap) := ⟨_, rfl⟩
        rw [← hw5]
        have hz5 : w5.heap.size = w4.heap.size := by rw [hw5]; simp [World.setCell]
        have HB5 := Lib.hid (show Box w5 T u3 by rw [hw5]; exact HB4.out.over u3)
        have HL5 := Lib.hid (show Live (w.heap.size + 1) (Is T) w5 u2 by rw [hw5]; exact HL4.out.put4 (.inr rfl))
        have HL5' := Lib.hid (show Live (w.heap.size + 1) (Is T) w5 u3 by rw [hw5]; exact HL4'.out.put4 (.inr rfl))
        have HK5 := Lib.hid (show Keeps R (w.alloc (.cells #[.int .i64 0, .int .i64 0, .string ⟨#[]⟩, .slice none 0 0] 24)) w5 by rw [hw5]; exact HK4.out.put4 (by simp; omega))
        have HR5 := Lib.hid (show Rd w5 R s q4 by rw [hw5]; exact HR4.out.put4 (by omega))
        obtain rfl : S = ⟨#[x]⟩ := HE.out (by rw [HM.out]; decide)
        have hrow := row2 (T := 24) (fun o => (HL5.out.alloc o).at) (fun o => (HL5'.out.alloc o).at)
        rw [hz5] at hrow
        have HRow := Lib.hid hrow
        have HZ5 := Lib.hid hz5
        clear hw5 hrow hz5
        refine (fun_at ⟨#[x]⟩ [u2, u3] w4.heap.size 0 2 _ (by simp) HRow.out (by simp) (by show 1 ≤ maxLen; unfold maxLen; omega)).mono ?_
        rintro e w7 ⟨A, cc, rfl, hb, hb7⟩
        have HB7 := Lib.hid ((HB5.out.alloc _).below hb7)
        have HK7 := Lib.hid ((HK5.out.alloc _).trans (Below.keeps hb7 R))
        have HR7 := Lib.hid ((HR5.out.alloc _).below hb7)
        have hT5 := HB5.out.lt
        have hlo5 : w.heap.size + 1 ≤ w5.heap.size := by have := HK5.out.size; simpa using this
        have HL7 := Lib.hid (show Live (w.heap.size + 1) (Is T) w7 (.mk 2 0 ⟨#[x]⟩ A cc [u2, u3]) from fun W hW => hb W (fun b h1 h2 _ => hW b (by simp at h1; omega) h2 (by show ¬ b = T; simp at h1; omega)) (fun y hy => by
          simp only [List.mem_cons, List.not_mem_nil, or_false] at hy
          rcases hy with rfl | rfl
          · exact (HL5.out.alloc _).below hb7 W hW
          · exact (HL5'.out.alloc _).below hb7 W hW))
        clear hb hb7
        have t0 := HB7.out.c0
        have t1 := HB7.out.c1
        have t2 := HB7.out.c2
        have t3 := HB7.out.c3
        have g0 := HB7.out.free 0
        have g1 := HB7.out.free 1
        have g2 := HB7.out.free 2
        have g3 := HB7.out.free 3
        have hr0 : ostr [(skip (rest s q2)).headD 0] = 1 := by rw [← HQ3.out, HX.out]; exact HM.out
        have HN2 := Lib.hid (show (k = 0 ∧ res = chain 1 O (Tm.mk 2 0 ⟨#[x]⟩ A cc [u2, u3]).strip (skip (rest s q4)) ∧ (skip (rest s q4)).length ≤ gk - 1 ∧ (skip (rest s q4)).length ≤ n) ∨ (k ≠ 0 ∧ res = .err k) by
          rcases HG.out with ⟨hk0, hg⟩ | ⟨hk0, hg⟩
          · refine .inl ⟨hk0, ?_, ?_, ?_⟩
            · rw [HV.out, chain_step HS.out hr0 hg, ← HQ3.out, HX.out]
              simp [Tm.strip, stripL, binT]
            · have h1 := HS.out _ _ _ hg
              have h2 := HLen.out
              have h3 := HGK.out
              rw [← HTl.out, HQ3.out] at h2
              omega
            · have h1 := HS.out _ _ _ hg
              have h2 := HLen.out
              have h3 := HGN.out
              rw [← HTl.out, HQ3.out] at h2
              omega
          · exact .inr ⟨hk0, by rw [HV.out, chain_err hr0 hg]⟩)
        have HGk := Lib.hid (show gk - 1 < gk by have := HLen.out; have := HGK.out; omega)
        clear hr0
        go_wp2_with fail
        go_roundg (gk - 1)
        case measure => exact HGk.out
        case rel =>
          refine ⟨q4, .mk 2 0 ⟨#[x]⟩ A cc [u2, u3], _, rfl, HK7.out.put4 (by simp; omega), HR7.out.put4 (by omega), hTw, HB7.out.over (.mk 2 0 ⟨#[x]⟩ A cc [u2, u3]), HL7.out.put4 (.inr rfl), ?_⟩
          rcases HN2.out with ⟨rfl, h2, h3, h4⟩ | ⟨h1, h2⟩
          · exact .inl ⟨rfl, h2, h3, h4⟩
          · exact .inr ⟨k, h1, rfl, h2⟩
      · have hne : ((m : Int) != 1) = true := by simp; omega
        have HV2 := Lib.hid (show res = .ok u2.strip (skip (rest s q3)) by
          rw [HV.out, chain, if_neg (by rw [← HQ3.out, HX.out, HM.out]; exact hmi), HQ3.out, skip_skip])
        obtain ⟨c0, c1, c2, c3, f0, f1, f2, f3, hz⟩ := boxK4 hR (HI.out.1.trans HK2.out)
        clear hmi
        go_wp2_with fail
        refine bodyPost_ret (v := .tuple #[u2.val, .int .i64 0]) (by simp [results, Tryz.results76, go_sem, c0, c1, c2, c3]) rfl ?_
        exact parsed_put hR (HI.out.1.trans HK2.out) HR2.out (HL2.out.out (fun _ _ _ h => h.elim)) (.inl ⟨_, HV2.out, rfl, rfl⟩) rfl
    · have hc : (c == 0) = false := by simpa using hc0
      have HV := Lib.hid hres
      have HC := Lib.hid hc0
      clear hres hc0
      go_wp2_with fail
      refine bodyPost_ret (v := .tuple #[u2.val, .int .i64 c]) (by simp [results, Tryz.results76, go_sem, c0, c1, c2, c3]) rfl ?_
      exact parsed_put hR HI.out.1 HI.out.2.1 (HI.out.2.2.2.2.out (fun _ _ _ h => h.elim)) (.inr ⟨c, HC.out, HV.out, rfl⟩) rfl
set_option maxHeartbeats 4000000 in
set_option maxRecDepth 10000 in
theorem chain0_at (s : ByteArray) (n : Nat) (O : List UInt8 → PR Tm) (hsh : Shrinks O) (R : Nat)
    (hO : ∀ (p : Nat) (w : World), Rd w R s p → (skip (rest s p)).length ≤ n → Calls Tryz.prog 77 #[.pointer (some ⟨R, 0, none⟩)] w (Parsed R s w (O (skip (rest s p)))))
    (p : Nat) (w : World) (hs : s.size ≤ 16384) (h : Rd w R s p) (hn : (skip (rest s p)).length ≤ n) :
    Calls Tryz.prog 76 #[.pointer (some ⟨R, 0, none⟩), .int .i64 0, .func (.func 77) #[.pointer (some ⟨R, 0, none⟩)] #[]] w (Parsed R s w (level 0 O (skip (rest s p)))) := by
  have hsm : s.size ≤ maxLen := by unfold maxLen; omega
  have hR := h.lt
  have H := Lib.hid h
  have HN := Lib.hid hn
  have Q := Lib.hid hO
  have HS := Lib.hid hsh
  obtain ⟨res, hres⟩ : ∃ res, res = level 0 O (skip (rest s p)) := ⟨_, rfl⟩
  rw [← hres]
  have HRes := Lib.hid hres
  clear h hn hO hsh hres
  go_enter Tryz.func76, Tryz.ntmps76
  go_wp2_with fail
  refine (Q.out p _ (H.out.alloc _) HN.out).mono ?_
  rintro e w1 ⟨u, q, hu, hk, hr, ho⟩
  have hlo : w.heap.size + 1 ≤ w1.heap.size := by have := hk.size; simpa using this
  have HB := Lib.hid (Box.new w1 u 24)
  have HK := Lib.hid (hk.alloc (.cells #[.int .i64 u.kind, .int .i64 u.num, .string u.name, .slice u.at_ u.args.length u.cap] 24))
  have HR := Lib.hid (hr.alloc (.cells #[.int .i64 u.kind, .int .i64 u.num, .string u.name, .slice u.at_ u.args.length u.cap] 24))
  have HU := Lib.hid (((hu.new (.cells #[.int .i64 u.kind, .int .i64 u.num, .string u.name, .slice u.at_ u.args.length u.cap] 24)).low (lo' := w.heap.size + 1) (by simp)).out (X := Is w1.heap.size) (fun b _ _ h => .inr h))
  clear hk hr hu
  have HL : ∃ c : Int, e = .returned (.tuple #[u.val, .int .i64 c]) ∧ Hid (ChainLoop R n 0 s w O res w1.heap.size (skip (rest s q)).length (.int .i64 c) (w1.alloc (.cells #[.int .i64 u.kind, .int .i64 u.num, .string u.name, .slice u.at_ u.args.length u.cap] 24)) q u) := by
    rcases ho with ⟨t, ho, hst, rfl⟩ | ⟨c, hc0, ho, rfl⟩
    · have hs := HS.out _ _ _ ho
      have hn := HN.out
      exact ⟨0, rfl, HK.out, HR.out, hlo, HB.out, HU.out, .inl ⟨rfl, by rw [HRes.out, level, ho, hst], Nat.le_refl _, by omega⟩⟩
    · exact ⟨c, rfl, HK.out, HR.out, hlo, HB.out, HU.out, .inr ⟨c, hc0, rfl, by rw [HRes.out, level, ho]⟩⟩
  obtain ⟨c, rfl, HL⟩ := HL
  obtain ⟨T, hT⟩ : ∃ T, T = w1.heap.size := ⟨_, rfl⟩
  have HT := Lib.hid hT
  clear ho HB HK HR HU hT
  go_wp2_with fail
  rw [← HT.out]
  go_loopg [9] (skip (rest s q)).length (fun gk z wr => ∃ (q2 : Nat) (u2 : Tm) (x : Value), z = x ∧ Hid (ChainLoop R n 0 s w O res T gk x wr q2 u2))
  case atStart => exact ⟨q, u, _, rfl, by rw [HT.out]; exact HL⟩
  case round =>
    clear HL
    obtain ⟨q2, u2, x, rfl, hI⟩ := hrel
    obtain ⟨k1, k2, k3, k4, k5, k6⟩ := hI.out
    have HI := Lib.hid (And.intro k1 (And.intro k2 (And.intro k3 (And.intro k4 k5))))
    obtain ⟨c0, c1, c2, c3, f0, f1, f2, f3, hz⟩ := boxK4 hR k1
    have t0 := k4.c0
    have t1 := k4.c1
    have t2 := k4.c2
    have t3 := k4.c3
    clear k1 k2 k3 k4 k5 hI
    rcases k6 with ⟨rfl, hres, hgk, hgn⟩ | ⟨c, hc0, rfl, hres⟩
    · have HV := Lib.hid hres
      clear hres
      have HGK := Lib.hid hgk
      have HGN := Lib.hid hgn
      clear hgk hgn
      clear c0 c1 c2 c3 f0 f1 f2 f3 t0 t1 t2 t3
      go_wp2_with fail
      refine (next_at s R q2 _ hsm HI.out.2.1).mono ?_
      rintro e w2 ⟨q3, x, hq3, hx, rfl, hk2, hr2⟩
      have HX := Lib.hid hx
      have HQ3 := Lib.hid hq3
      have HK2 := Lib.hid hk2
      have HR2 := Lib.hid hr2
      clear hq3 hx hk2 hr2
      go_wp2_with fail
      obtain ⟨m, hm⟩ : ∃ m, ostr [x] = m := ⟨_, rfl⟩
      obtain ⟨e1, e2⟩ := enc_byte x
      obtain ⟨S, hS⟩ : ∃ S, Utf8.encode (x.toNat : Int) = S := ⟨_, rfl⟩
      rw [hS] at e1 e2 ⊢
      refine (ostr_at S _ (n := m) (e1.trans hm)).mono ?_
      rintro e w' ⟨rfl, rfl⟩
      have HM := Lib.hid hm
      have HE := Lib.hid e2
      clear hm e1 e2 hS
      have hTR : ¬ T = R := fun e => by have := HI.out.2.2.1; omega
      have hRT : ¬ R = T := fun e => by have := HI.out.2.2.1; omega
      have HB2 := Lib.hid (HI.out.2.2.2.1.keeps HK2.out hTR)
      have t0 := HB2.out.c0
      have t1 := HB2.out.c1
      have t2 := HB2.out.c2
      have t3 := HB2.out.c3
      have HL2 := Lib.hid (HI.out.2.2.2.2.keeps HK2.out (by omega))
      by_cases hmi : m = 0
      · subst hmi
        have hq3 : q3 < s.size := by
          rcases Nat.lt_or_ge q3 s.size with h | h
          · exact h
          · have := HX.out
            rw [rest_end h] at this
            have h2 := HM.out
            rw [← this] at h2
            exact absurd h2 (by decide)
        have htail := rest_tail hq3
        have hcons := rest_cons hq3
        have hlen : (skip (rest s (q3 + 1))).length < (skip (rest s q2)).length := by
          have h1 := skip_len (rest s (q3 + 1))
          rw [← HQ3.out, hcons, List.length_cons]
          omega
        have HTl := Lib.hid htail
        have HLen := Lib.hid hlen
        clear htail hcons hlen
        have ht := HR2.out.txt
        have hp := HR2.out.pos
        have hf := HR2.out.free
        have hq3' : (q3 : Int) < (s.size : Int) := by omega
        have hs' : s.size ≤ 9223372036854775807 := by omega
        go_wp2_with fail
        refine (Q.out (q3 + 1) _ ((HR2.out.set (q := q3 + 1) (by omega)).alloc _) (by have := HLen.out; have := HGN.out; omega)).mono ?_
        rintro e w4 ⟨u3, q4, hu3, hk4, hr4, ho⟩
        have hsz2 : (w2.setCell ⟨R, 1, none⟩ (.int .i64 ((q3 + 1 : Nat) : Int))).heap.size = w2.heap.size := by simp [World.setCell]
        have hT2 : T < w2.heap.size := HB2.out.lt
        have hTf : ¬ T = w2.heap.size := by omega
        have hfT : ¬ w2.heap.size = T := by omega
        have hfR : ¬ w2.heap.size = R := by have := HR2.out.lt; omega
        have HB4 := Lib.hid (((HB2.out.set (a := ⟨R, 1, none⟩) hRT _).alloc _).keeps hk4 hTR)
        have HF4 := Lib.hid (show Box w4 w2.heap.size u2 by have := (Box.new (w2.setCell ⟨R, 1, none⟩ (.int .i64 ((q3 + 1 : Nat) : Int))) u2 24).keeps hk4 (by rw [hsz2]; exact hfR); rwa [hsz2] at this)
        have HL4 := Lib.hid (((HL2.out.set (p := ⟨R, 1, none⟩) (.inl (by show R < _; omega)) _).alloc _).keeps hk4 (by omega))
        have hz2 : w.heap.size < w2.heap.size := by have := HK2.out.size; omega
        have HL4' := Lib.hid (hu3.less (lo := w.heap.size + 1) (X := Is T) (w' := w4) (Nat.le_refl _) (fun b h1 _ _ => ⟨by simp at h1; omega, by show ¬ b = T; simp at h1; omega, rfl⟩))
        have HK4 := Lib.hid ((((HI.out.1.trans HK2.out).set 1 none _).alloc _).trans hk4)
        have HR4 := Lib.hid hr4
        clear hsz2 hu3 hk4 hr4
        have HG : ∃ k : Int, e = .returned (.tuple #[u3.val, .int .i64 k]) ∧ Hid ((k = 0 ∧ O (skip (skip (rest s q2)).tail) = .ok u3.strip (skip (rest s q4))) ∨ (k ≠ 0 ∧ O (skip (skip (rest s q2)).tail) = .err k)) := by
          rw [← HTl.out, HQ3.out] at ho
          rcases ho with ⟨t, ho, hst, rfl⟩ | ⟨k, hk0, ho, rfl⟩
          · exact ⟨0, rfl, .inl ⟨rfl, by rw [ho, hst]⟩⟩
          · exact ⟨k, rfl, .inr ⟨hk0, ho⟩⟩
        obtain ⟨k, rfl, HG⟩ := HG
        clear ho t0 t1 t2 t3 ht hp hf
        have t0 := HB4.out.c0
        have t1 := HB4.out.c1
        have t2 := HB4.out.c2
        have t3 := HB4.out.c3
        have g0 := HB4.out.free 0
        have g1 := HB4.out.free 1
        have g2 := HB4.out.free 2
        have g3 := HB4.out.free 3
        have d0 := HF4.out.c0
        have d1 := HF4.out.c1
        have d2 := HF4.out.c2
        have d3 := HF4.out.c3
        go_wp2_with fail
        clear t0 t1 t2 t3 g0 g1 g2 g3 d0 d1 d2 d3
        have hTw := HI.out.2.2.1
        obtain ⟨w5, hw5⟩ : ∃ w5, w5 = (((w4.setCell ⟨T, 0, none⟩ (.int .i64 u3.kind)).setCell ⟨T, 1, none⟩ (.int .i64 u3.num)).setCell ⟨T, 2, none⟩ (.string u3.name)).setCell ⟨T, 3, none⟩ (.slice u3.at_ u3.args.length u3.cap) := ⟨_, rfl⟩
        rw [← hw5]
        have hz5 : w5.heap.size = w4.heap.size := by rw [hw5]; simp [World.setCell]
        have HB5 := Lib.hid (show Box w5 T u3 by rw [hw5]; exact HB4.out.over u3)
        have HL5 := Lib.hid (show Live (w.heap.size + 1) (Is T) w5 u2 by rw [hw5]; exact HL4.out.put4 (.inr rfl))
        have HL5' := Lib.hid (show Live (w.heap.size + 1) (Is T) w5 u3 by rw [hw5]; exact HL4'.out.put4 (.inr rfl))
        have HK5 := Lib.hid (show Keeps R (w.alloc (.cells #[.int .i64 0, .int .i64 0, .string ⟨#[]⟩, .slice none 0 0] 24)) w5 by rw [hw5]; exact HK4.out.put4 (by simp; omega))
        have HR5 := Lib.hid (show Rd w5 R s q4 by rw [hw5]; exact HR4.out.put4 (by omega))
        obtain rfl : S = ⟨#[x]⟩ := HE.out (by rw [HM.out]; decide)
        have hrow := row2 (T := 24) (fun o => (HL5.out.alloc o).at) (fun o => (HL5'.out.alloc o).at)
        rw [hz5] at hrow
        have HRow := Lib.hid hrow
        have HZ5 := Lib.hid hz5
        clear hw5 hrow hz5
        refine (fun_at ⟨#[x]⟩ [u2, u3] w4.heap.size 0 2 _ (by simp) HRow.out (by simp) (by show 1 ≤ maxLen; unfold maxLen; omega)).mono ?_
        rintro e w7 ⟨A, cc, rfl, hb, hb7⟩
        have HB7 := Lib.hid ((HB5.out.alloc _).below hb7)
        have HK7 := Lib.hid ((HK5.out.alloc _).trans (Below.keeps hb7 R))
        have HR7 := Lib.hid ((HR5.out.alloc _).below hb7)
        have hT5 := HB5.out.lt
        have hlo5 : w.heap.size + 1 ≤ w5.heap.size := by have := HK5.out.size; simpa using this
        have HL7 := Lib.hid (show Live (w.heap.size + 1) (Is T) w7 (.mk 2 0 ⟨#[x]⟩ A cc [u2, u3]) from fun W hW => hb W (fun b h1 h2 _ => hW b (by simp at h1; omega) h2 (by show ¬ b = T; simp at h1; omega)) (fun y hy => by
          simp only [List.mem_cons, List.not_mem_nil, or_false] at hy
          rcases hy with rfl | rfl
          · exact (HL5.out.alloc _).below hb7 W hW
          · exact (HL5'.out.alloc _).below hb7 W hW))
        clear hb hb7
        have t0 := HB7.out.c0
        have t1 := HB7.out.c1
        have t2 := HB7.out.c2
        have t3 := HB7.out.c3
        have g0 := HB7.out.free 0
        have g1 := HB7.out.free 1
        have g2 := HB7.out.free 2
        have g3 := HB7.out.free 3
        have hr0 : ostr [(skip (rest s q2)).headD 0] = 0 := by rw [← HQ3.out, HX.out]; exact HM.out
        have HN2 := Lib.hid (show (k = 0 ∧ res = chain 0 O (Tm.mk 2 0 ⟨#[x]⟩ A cc [u2, u3]).strip (skip (rest s q4)) ∧ (skip (rest s q4)).length ≤ gk - 1 ∧ (skip (rest s q4)).length ≤ n) ∨ (k ≠ 0 ∧ res = .err k) by
          rcases HG.out with ⟨hk0, hg⟩ | ⟨hk0, hg⟩
          · refine .inl ⟨hk0, ?_, ?_, ?_⟩
            · rw [HV.out, chain_step HS.out hr0 hg, ← HQ3.out, HX.out]
              simp [Tm.strip, stripL, binT]
            · have h1 := HS.out _ _ _ hg
              have h2 := HLen.out
              have h3 := HGK.out
              rw [← HTl.out, HQ3.out] at h2
              omega
            · have h1 := HS.out _ _ _ hg
              have h2 := HLen.out
              have h3 := HGN.out
              rw [← HTl.out, HQ3.out] at h2
              omega
          · exact .inr ⟨hk0, by rw [HV.out, chain_err hr0 hg]⟩)
        have HGk := Lib.hid (show gk - 1 < gk by have := HLen.out; have := HGK.out; omega)
        clear hr0
        go_wp2_with fail
        go_roundg (gk - 1)
        case measure => exact HGk.out
        case rel =>
          refine ⟨q4, .mk 2 0 ⟨#[x]⟩ A cc [u2, u3], _, rfl, HK7.out.put4 (by simp; omega), HR7.out.put4 (by omega), hTw, HB7.out.over (.mk 2 0 ⟨#[x]⟩ A cc [u2, u3]), HL7.out.put4 (.inr rfl), ?_⟩
          rcases HN2.out with ⟨rfl, h2, h3, h4⟩ | ⟨h1, h2⟩
          · exact .inl ⟨rfl, h2, h3, h4⟩
          · exact .inr ⟨k, h1, rfl, h2⟩
      · have hne : ((m : Int) != 0) = true := by simp; omega
        have HV2 := Lib.hid (show res = .ok u2.strip (skip (rest s q3)) by
          rw [HV.out, chain, if_neg (by rw [← HQ3.out, HX.out, HM.out]; exact hmi), HQ3.out, skip_skip])
        obtain ⟨c0, c1, c2, c3, f0, f1, f2, f3, hz⟩ := boxK4 hR (HI.out.1.trans HK2.out)
        clear hmi
        go_wp2_with fail
        refine bodyPost_ret (v := .tuple #[u2.val, .int .i64 0]) (by simp [results, Tryz.results76, go_sem, c0, c1, c2, c3]) rfl ?_
        exact parsed_put hR (HI.out.1.trans HK2.out) HR2.out (HL2.out.out (fun _ _ _ h => h.elim)) (.inl ⟨_, HV2.out, rfl, rfl⟩) rfl
    · have hc : (c == 0) = false := by simpa using hc0
      have HV := Lib.hid hres
      have HC := Lib.hid hc0
      clear hres hc0
      go_wp2_with fail
      refine bodyPost_ret (v := .tuple #[u2.val, .int .i64 c]) (by simp [results, Tryz.results76, go_sem, c0, c1, c2, c3]) rfl ?_
      exact parsed_put hR HI.out.1 HI.out.2.1 (HI.out.2.2.2.2.out (fun _ _ _ h => h.elim)) (.inr ⟨c, HC.out, HV.out, rfl⟩) rfl

set_option maxHeartbeats 1000000 in
theorem product_at' (s : ByteArray) (n : Nat) (hE : ExprAt s n) (R p : Nat) (w : World) (hs : s.size ≤ 16384) (h : Rd w R s p) (hn : (skip (rest s p)).length ≤ n) :
    Calls Tryz.prog 77 #[.pointer (some ⟨R, 0, none⟩)] w (Parsed R s w (level 1 (opnd (exprP n)) (skip (rest s p)))) := by
  have hR := h.lt
  have H := Lib.hid h
  have HN := Lib.hid hn
  have Q := Lib.hid (fun (p : Nat) (w : World) (h : Rd w R s p) (hn : (skip (rest s p)).length ≤ n) => chain1_at s n (opnd (exprP n)) (opnd_shrinks (expr_shrinks n)) R (fun p w h hn => opnd_at s n hE R p w hs h hn) p w hs h hn)
  clear h hn hE
  go_enter Tryz.func77, Tryz.ntmps77
  go_wp2_with fail
  refine (Q.out _ _ (H.out.alloc _) HN.out).mono ?_
  rintro e w2 ⟨u, p2, hu, hk2, hr2, ho⟩
  obtain ⟨c0, c1, c2, c3, f0, f1, f2, f3, hz⟩ := boxK4 hR hk2
  have HK2 := Lib.hid hk2
  have HR2 := Lib.hid hr2
  have HU := Lib.hid hu
  clear hk2 hr2 hu
  rcases ho with ⟨t, ho, hst, rfl⟩ | ⟨c, hc0, ho, rfl⟩
  · have HO := Lib.hid ho
    have HS := Lib.hid hst
    clear ho hst
    go_wp2_with fail
    refine bodyPost_ret (v := .tuple #[u.val, .int .i64 0]) (by simp [results, Tryz.results77, go_sem, c0, c1, c2, c3]) rfl ?_
    exact parsed_on hR (Keeps.refl _ _) HK2.out HR2.out HU.out (.inl ⟨t, HO.out, HS.out, rfl⟩)
  · have HO := Lib.hid ho
    have HC := Lib.hid hc0
    clear ho hc0
    go_wp2_with fail
    refine bodyPost_ret (v := .tuple #[u.val, .int .i64 c]) (by simp [results, Tryz.results77, go_sem, c0, c1, c2, c3]) rfl ?_
    exact parsed_on hR (Keeps.refl _ _) HK2.out HR2.out HU.out (.inr ⟨c, HC.out, HO.out, rfl⟩)

set_option maxHeartbeats 1000000 in
theorem expr_at' (s : ByteArray) (n : Nat) (hE : ExprAt s n) (R p : Nat) (w : World) (hs : s.size ≤ 16384) (h : Rd w R s p) (hn : (skip (rest s p)).length ≤ n) :
    Calls Tryz.prog 43 #[.pointer (some ⟨R, 0, none⟩)] w (Parsed R s w (level 0 (level 1 (opnd (exprP n))) (skip (rest s p)))) := by
  have hR := h.lt
  have H := Lib.hid h
  have HN := Lib.hid hn
  have Q := Lib.hid (fun (p : Nat) (w : World) (h : Rd w R s p) (hn : (skip (rest s p)).length ≤ n) => chain0_at s n (level 1 (opnd (exprP n))) (level_shrinks (opnd_shrinks (expr_shrinks n))) R (fun p w h hn => product_at' s n hE R p w hs h hn) p w hs h hn)
  clear h hn hE
  go_enter Tryz.func43, Tryz.ntmps43
  go_wp2_with fail
  refine (Q.out _ _ (H.out.alloc _) HN.out).mono ?_
  rintro e w2 ⟨u, p2, hu, hk2, hr2, ho⟩
  obtain ⟨c0, c1, c2, c3, f0, f1, f2, f3, hz⟩ := boxK4 hR hk2
  have HK2 := Lib.hid hk2
  have HR2 := Lib.hid hr2
  have HU := Lib.hid hu
  clear hk2 hr2 hu
  rcases ho with ⟨t, ho, hst, rfl⟩ | ⟨c, hc0, ho, rfl⟩
  · have HO := Lib.hid ho
    have HS := Lib.hid hst
    clear ho hst
    go_wp2_with fail
    refine bodyPost_ret (v := .tuple #[u.val, .int .i64 0]) (by simp [results, Tryz.results43, go_sem, c0, c1, c2, c3]) rfl ?_
    exact parsed_on hR (Keeps.refl _ _) HK2.out HR2.out HU.out (.inl ⟨t, HO.out, HS.out, rfl⟩)
  · have HO := Lib.hid ho
    have HC := Lib.hid hc0
    clear ho hc0
    go_wp2_with fail
    refine bodyPost_ret (v := .tuple #[u.val, .int .i64 c]) (by simp [results, Tryz.results43, go_sem, c0, c1, c2, c3]) rfl ?_
    exact parsed_on hR (Keeps.refl _ _) HK2.out HR2.out HU.out (.inr ⟨c, HC.out, HO.out, rfl⟩)

theorem expr_all (s : ByteArray) (hs : s.size ≤ 16384) : ∀ n, ExprAt s n
  | 0 => fun _ _ _ _ h => absurd h (Nat.not_lt_zero _)
  | n + 1 => fun R p w h hn => expr_at' s n (expr_all s hs n) R p w hs h (by omega)
end Go.Proofs.YtlpibnbabgfiiaaGreatDoor
