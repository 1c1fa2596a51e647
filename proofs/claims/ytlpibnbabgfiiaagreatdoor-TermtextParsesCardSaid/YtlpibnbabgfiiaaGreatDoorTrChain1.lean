/-
  The contract of the reference's product, given that of what it chains.
-/
import Derived.Test.YtlpibnbabgfiiaaGreatDoorTrChain
namespace Go.Proofs.YtlpibnbabgfiiaaGreatDoor
open Go.RowKit

set_option maxHeartbeats 40000000 in
set_option maxRecDepth 10000 in
theorem rchain1_at (s : ByteArray) (n : Nat) (O : List UInt8 → PR Tm) (hsh : Shrinks O) (R : Nat)
    (hO : ∀ (p : Nat) (w : World), Rr w R s p 0 → (skip (rest s p)).length ≤ n → Calls Tryz.prog 109 #[.pointer (some ⟨R, 0, none⟩)] w (ParsedR R s w (O (skip (rest s p)))))
    (p : Nat) (w : World) (hs : s.size ≤ 16384) (h : Rr w R s p 0) (hn : (skip (rest s p)).length ≤ n) :
    Calls Tryz.prog 78 #[.pointer (some ⟨R, 0, none⟩)] w (ParsedR R s w (level 1 O (skip (rest s p)))) := by
  have hsm : s.size ≤ maxLen := by unfold maxLen; omega
  have hs' : s.size ≤ 9223372036854775807 := by omega
  have hR := h.lt
  have H := Lib.hid h
  have HN := Lib.hid hn
  have Q := Lib.hid hO
  have HS := Lib.hid hsh
  obtain ⟨res, hres⟩ : ∃ res, res = level 1 O (skip (rest s p)) := ⟨_, rfl⟩
  rw [← hres]
  have HRes := Lib.hid hres
  clear h hn hO hsh hres
  go_enter Tryz.func78, Tryz.ntmps78
  go_wp2_with fail
  refine (Q.out p _ (H.out.alloc _) HN.out).mono ?_
  rintro e w1 ⟨u, q, rfl, hu, hk, ho⟩
  have hlo : w.heap.size + 1 ≤ w1.heap.size := by have := hk.size; simpa using this
  have hR1 : R < w1.heap.size := by omega
  have HB := Lib.hid (Box.new w1 u 24)
  have HK := Lib.hid (hk.alloc (.cells #[.int .i64 u.kind, .int .i64 u.num, .string u.name, .slice u.at_ u.args.length u.cap] 24))
  have HU := Lib.hid (((hu.new (.cells #[.int .i64 u.kind, .int .i64 u.num, .string u.name, .slice u.at_ u.args.length u.cap] 24)).low (lo' := w.heap.size + 1) (by simp)).out (X := Is w1.heap.size) (fun b _ _ h => .inr h))
  have HG : ∃ er : Int, Hid (Rr w1 R s q er ∧ ((er = 0 ∧ res = chain 1 O u.strip (skip (rest s q)) ∧ (skip (rest s q)).length ≤ n) ∨ (er ≠ 0 ∧ res = .err er))) := by
    rcases ho with ⟨t, ho, hst, hr⟩ | ⟨c, hc0, ho, hr⟩
    · have hs := HS.out _ _ _ ho
      have hn := HN.out
      exact ⟨0, hr, .inl ⟨rfl, by rw [HRes.out, level, ho, hst], by omega⟩⟩
    · exact ⟨c, hr, .inr ⟨hc0, by rw [HRes.out, level, ho]⟩⟩
  obtain ⟨er, HG⟩ := HG
  clear hk hu ho
  go_wp2_with fail
  refine (nextr_at s R q er _ hsm (HG.out.1.alloc _)).mono ?_
  rintro e w2 ⟨q2, x, hq2, hx, rfl, hk2, hr2⟩
  have hTR : w1.heap.size ≠ R := by omega
  have HL := Lib.hid (show ChainLoopR R n 1 s w O res w1.heap.size (rest s q2).length x w2 q2 u from
    ⟨HK.out.trans hk2, by omega, HB.out.keeps hk2 hTR, HU.out.keeps hk2 (by omega), by
      rcases HG.out.2 with ⟨rfl, h1, h2⟩ | ⟨h1, h2⟩
      · refine .inl ⟨hx.elim (fun h => h.2) (fun h => absurd rfl h.1), by rw [hq2, skip_skip], hr2, by rw [hq2]; exact h1, Nat.le_refl _, by rw [hq2]; exact h2⟩
      · exact .inr ⟨er, h1, hx.elim (fun h => absurd h.1 h1) (fun h => h.2), hr2, h2⟩⟩)
  obtain ⟨T, hT⟩ : ∃ T, T = w1.heap.size := ⟨_, rfl⟩
  have HT := Lib.hid hT
  clear HB HK HU HG hq2 hx hk2 hr2 hT hTR
  go_wp2_with fail
  rw [← HT.out]
  go_loopg [4] (rest s q2).length (fun gk z wr => ∃ (x2 : UInt8) (q3 : Nat) (u2 : Tm), z = .int .u8 (x2.toNat : Int) ∧ Hid (ChainLoopR R n 1 s w O res T gk x2 wr q3 u2))
  case atStart => exact ⟨x, q2, u, rfl, by rw [HT.out]; exact HL⟩
  case round =>
    clear HL
    obtain ⟨x2, q3, u2, rfl, hI⟩ := hrel
    obtain ⟨k1, k3, k4, k5, k6⟩ := hI.out
    have HI := Lib.hid (And.intro k1 (And.intro k3 (And.intro k4 k5)))
    obtain ⟨c0, c1, c2, c3, f0, f1, f2, f3, hz⟩ := boxK4 hR k1
    have t0 := k4.c0
    have t1 := k4.c1
    have t2 := k4.c2
    have t3 := k4.c3
    clear k1 k3 k4 k5 hI
    by_cases hop : ostr [x2] = 1
    · rcases k6 with ⟨hx, hsk, hr, hV, hgk, hgn⟩ | ⟨c, hc0, rfl, hr, hV⟩
      · clear c0 c1 c2 c3 f0 f1 f2 f3 t0 t1 t2 t3
        have hq3 : q3 < s.size := by
          rcases Nat.lt_or_ge q3 s.size with h | h
          · exact h
          · rw [rest_end h] at hx; rw [← hx] at hop; exact absurd hop (by decide)
        have hTw := HI.out.2.1
        have hTR : ¬ T = R := by omega
        have hRT : ¬ R = T := by omega
        have HX := Lib.hid hx
        have HV := Lib.hid hV
        have HGK := Lib.hid hgk
        have HGN := Lib.hid hgn
        have HT3 := Lib.hid (rest_tail hq3)
        have HLen := Lib.hid (show (skip (rest s (q3 + 1))).length + 1 ≤ (rest s q3).length by have h1 := skip_len (rest s (q3 + 1)); rw [rest_cons hq3, List.length_cons]; omega)
        obtain ⟨V, hV0⟩ : ∃ V, V = wr.setCell ⟨R, 1, none⟩ (.int .i64 ((q3 : Int) + 1)) := ⟨_, rfl⟩
        have HR0 := Lib.hid (show Rr V R s (q3 + 1) 0 by rw [hV0]; exact hr.set (q := q3 + 1) (by omega))
        have HB0 := Lib.hid (show Box V T u2 by rw [hV0]; exact HI.out.2.2.1.set (a := ⟨R, 1, none⟩) hRT _)
        have HL0 := Lib.hid (show Live (w.heap.size + 1) (Is T) V u2 by rw [hV0]; exact HI.out.2.2.2.set (p := ⟨R, 1, none⟩) (.inl (by show R < _; omega)) _)
        have HK0 := Lib.hid (show Keeps R (w.alloc (.cells #[.int .i64 0, .int .i64 0, .string ⟨#[]⟩, .slice none 0 0] 24)) V by rw [hV0]; exact HI.out.1.set 1 none _)
        have hpp := hr.pos
        have htt := hr.txt
        have hff := hr.free
        have hql : (q3 : Int) < (s.size : Int) := by omega
        have t0 := HB0.out.c0
        have t1 := HB0.out.c1
        have t2 := HB0.out.c2
        have t3 := HB0.out.c3
        have hTV : T < V.heap.size := HB0.out.lt
        have hVT : ¬ V.heap.size = T := by omega
        have HBy := Lib.hid (fun (x : UInt8) W (hk : Keeps R (V.alloc (.cells #[.int .u8 (x.toNat : Int)] 5)) W) => show W.cell? ⟨V.heap.size, 0, none⟩ = some (.int .u8 (x.toNat : Int)) by
          rw [hk.cell (p := ⟨V.heap.size, 0, none⟩) (by simp) (by have := HR0.out.lt; simp only; omega), World.cell?_alloc_at _ _ _ _ rfl]; rfl)
        have HV0 := Lib.hid hV0
        clear hV0
        have HOp := Lib.hid hop
        have HS' := HS
        clear hx hV hgk hgn hsk hr hop t0 t1 t2 t3
        go_upto_region 3 with (fail)
        go_cut [18] from 9 to 35 (fun b W => Hid (b = .bool true ∧ W = wr))
        case first =>
          rcases ops_of1 HOp.out with rfl | rfl | rfl
          all_goals
            go_wp2_with fail
            go_meet
            exact ⟨rfl, rfl⟩
        case rest =>
          obtain ⟨rfl, rfl⟩ := hcut.out
          go_upto_block 1 with (fail)
          go_cut [] from 9 to 35 (fun W => Hid (ChainMid R n 1 s w O res T gk W))
          case first =>
            go_wp2_with fail
            rw [← HV0.out]
            have t0 := HB0.out.c0
            have t1 := HB0.out.c1
            have t2 := HB0.out.c2
            have t3 := HB0.out.c3
            have hcv := fun (W : World) (b : Nat) (h : W.cell? ⟨b, 0, none⟩ = some (.int .u8 (x2.toNat : Int))) => str_byte W b x2 h
            go_region_with (go_at_call 109; refine (Q.out (q3 + 1) _ (by first | exact HR0.out | exact HR0.out.alloc _ | exact HR0.out.drew | exact (HR0.out.alloc _).drew) (by have := HLen.out; have := HGN.out; omega)).mono ?_; rintro e w4 ⟨u3, q4, rfl, hu3, hk0, ho⟩; (first | have hk4 : Keeps R (V.alloc (.cells #[.int .u8 (x2.toNat : Int)] 5)) w4 := undrewK hk0 | have hk4 : Keeps R V w4 := undrewK hk0); have HB4 := Lib.hid (show Box w4 T u2 by first | exact HB0.out.keeps hk4 hTR | exact (HB0.out.alloc _).keeps hk4 hTR); have t0 := HB4.out.c0; have t1 := HB4.out.c1; have t2 := HB4.out.c2; have t3 := HB4.out.c3; have g0 := HB4.out.free 0; have g1 := HB4.out.free 1; have g2 := HB4.out.free 2; have g3 := HB4.out.free 3; have ta0 := fun o => (HB4.out.alloc o).c0; have tb0 := fun o o2 => ((HB4.out.alloc o).alloc o2).c0; have ga0 := fun o => (HB4.out.alloc o).free 0; have gb0 := fun o o2 => ((HB4.out.alloc o).alloc o2).free 0; have ta1 := fun o => (HB4.out.alloc o).c1; have tb1 := fun o o2 => ((HB4.out.alloc o).alloc o2).c1; have ga1 := fun o => (HB4.out.alloc o).free 1; have gb1 := fun o o2 => ((HB4.out.alloc o).alloc o2).free 1; have ta2 := fun o => (HB4.out.alloc o).c2; have tb2 := fun o o2 => ((HB4.out.alloc o).alloc o2).c2; have ga2 := fun o => (HB4.out.alloc o).free 2; have gb2 := fun o o2 => ((HB4.out.alloc o).alloc o2).free 2; have ta3 := fun o => (HB4.out.alloc o).c3; have tb3 := fun o o2 => ((HB4.out.alloc o).alloc o2).c3; have ga3 := fun o => (HB4.out.alloc o).free 3; have gb3 := fun o o2 => ((HB4.out.alloc o).alloc o2).free 3; (try (have hby := HBy.out x2 _ hk4; have hbya := fun o => HBy.out x2 _ (hk4.alloc o))); have HM := Lib.hid (show ∀ (W : World) (g : Nat), Below w4.heap.size w4 W → w4.heap.size ≤ g → g < W.heap.size → (∀ j v, (tcells [u2, u3])[j]? = some v → W.cell? ⟨g, j, none⟩ = some v) → Hid (ChainMid R n 1 s w O res T gk ((((W.setCell ⟨T, 0, none⟩ (.int .i64 2)).setCell ⟨T, 1, none⟩ (.int .i64 0)).setCell ⟨T, 2, none⟩ (.string ⟨#[x2]⟩)).setCell ⟨T, 3, none⟩ (.slice (some ⟨g, 0, none⟩) 2 2))) from fun W g hW hg1 hg2 hrow => mid_of (gk := gk) HS.out HI.out.2.1 hTR HB4.out (by first | exact HL0.out.keeps hk4 (by omega) | exact (HL0.out.alloc _).keeps hk4 (by omega)) (hu3.less (lo := w.heap.size + 1) (X := Is T) (w' := w4) (Nat.le_refl _) (fun b h1 _ _ => ⟨by simp at h1; omega, by show ¬ b = T; simp at h1; omega, rfl⟩)) (by first | exact HK0.out.trans hk4 | exact (HK0.out.alloc _).trans hk4) HV.out HX.out HOp.out HT3.out HLen.out HGK.out HGN.out ho W hW (g := g) hg1 hg2 hrow); clear hu3 hk0 hk4 ho)
            all_goals
              go_wp2_with fail
              go_meet
              first
                | (with_reducible exact HM.out (w4.alloc (.cells #[.int .i64 u2.kind, .int .i64 u2.num, .string u2.name, .slice u2.at_ u2.args.length u2.cap, .int .i64 u3.kind, .int .i64 u3.num, .string u3.name, .slice u3.at_ u3.args.length u3.cap] 24)) w4.heap.size (by exact (Below.refl _ _).alloc (Nat.le_refl _) _) (by exact Nat.le_refl _) (by simp) (by exact row_cells w4 u2 u3 _))
                | (with_reducible exact HM.out ((w4.alloc (.cells #[.int .i64 u2.kind, .int .i64 u2.num, .string u2.name, .slice u2.at_ u2.args.length u2.cap, .int .i64 u3.kind, .int .i64 u3.num, .string u3.name, .slice u3.at_ u3.args.length u3.cap] 24)).alloc (.cells #[.int .u8 (x2.toNat : Int)] 5)) w4.heap.size (by exact ((Below.refl _ _).alloc (Nat.le_refl _) _).alloc (by simp) _) (by exact Nat.le_refl _) (by simp; omega) (by intro j v h; rw [(below1 (w4.alloc _) _).cell (p := ⟨w4.heap.size, j, none⟩) (by simp)]; exact row_cells w4 u2 u3 _ j v h))
                | (with_reducible exact HM.out ((w4.alloc (.cells #[.int .u8 (x2.toNat : Int)] 5)).alloc (.cells #[.int .i64 u2.kind, .int .i64 u2.num, .string u2.name, .slice u2.at_ u2.args.length u2.cap, .int .i64 u3.kind, .int .i64 u3.num, .string u3.name, .slice u3.at_ u3.args.length u3.cap] 24)) (w4.heap.size + 1) (by exact ((Below.refl _ _).alloc (Nat.le_refl _) _).alloc (by simp) _) (by omega) (by simp) (by intro j v h; have := row_cells (w4.alloc (.cells #[.int .u8 (x2.toNat : Int)] 5)) u2 u3 24 j v h; simpa using this))
          case rest =>
            obtain ⟨u3, q4, er, m1, m2, m3, m4, m5⟩ := hcut.out
            have M1 := Lib.hid m1
            have M2 := Lib.hid m2
            have M3 := Lib.hid m3
            have M4 := Lib.hid m4
            have M5 := Lib.hid m5
            clear m1 m2 m3 m4 m5 hcut
            go_wp2_with fail
            refine (nextr_at s R q4 er _ hsm M4.out).mono ?_
            rintro e w9 ⟨q5, x5, hq5, hx5, rfl, hk9, hr9⟩
            have hl1 : 1 ≤ gk := by have := HGK.out; have h2 := rest_cons hq3; rw [h2, List.length_cons] at this; omega
            have HN9 := Lib.hid (show ChainLoopR R n 1 s w O res T (gk - 1) x5 w9 q5 u3 from
              ⟨M1.out.trans hk9, hTw, M2.out.keeps hk9 hTR, M3.out.keeps hk9 (by omega), by
                rcases M5.out with ⟨rfl, h1, h2, h3⟩ | ⟨h1, h2⟩
                · exact .inl ⟨hx5.elim (fun h => h.2) (fun h => absurd rfl h.1), by rw [hq5, skip_skip], hr9, by rw [hq5]; exact h1, by rw [hq5]; omega, by rw [hq5]; exact h3⟩
                · exact .inr ⟨er, h1, hx5.elim (fun h => absurd h.1 h1) (fun h => h.2), hr9, h2⟩⟩)
            have HG9 := Lib.hid (show gk - 1 < gk by omega)
            clear hq5 hx5 hk9 hr9 hl1
            go_wp2_with fail
            go_roundg (gk - 1)
            case measure => exact HG9.out
            case rel => exact ⟨x5, q5, u3, rfl, HN9.out⟩
      · exact absurd hop (by decide)
    · have hne := ne_ops1 hop
      obtain ⟨n0, n1, n2⟩ := hne
      have HE := Lib.hid (show ((∃ t, res = .ok t (skip (rest s q3)) ∧ u2.strip = t ∧ Rr wr R s q3 0) ∨ (∃ c : Int, c ≠ 0 ∧ res = .err c ∧ Rr wr R s q3 c)) by
        rcases k6 with ⟨hx, hsk, hr, hV, hgk, hgn⟩ | ⟨c, hc0, rfl, hr, hV⟩
        · exact .inl ⟨_, by rw [hV, chain, if_neg (by rw [hx]; exact hop), hsk], rfl, hr⟩
        · exact .inr ⟨c, hc0, hV, hr⟩)
      clear k6 hop
      go_wp2_with fail
      refine bodyPost_ret (v := u2.val) (by simp [results, Tryz.results78, go_sem, c0, c1, c2, c3]) rfl ?_
      exact parsedr_put hR HI.out.1 (HI.out.2.2.2.out (fun _ _ _ h => h.elim)) HE.out rfl
end Go.Proofs.YtlpibnbabgfiiaaGreatDoor
