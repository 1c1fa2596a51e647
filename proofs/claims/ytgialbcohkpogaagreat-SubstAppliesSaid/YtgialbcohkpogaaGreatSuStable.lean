/-
  Contract of slices.stableCmpFunc at bindings: blocks of 20 by insertion, then merges of blocks that are twice as long each time.
-/
import Derived.Test.YtgialbcohkpogaaGreatSuMerge
namespace Go.Proofs.YtgialbcohkpogaaGreat
open Go.RowKit

/-- A list of sorted blocks of k elements; the last one may be shorter. -/
inductive Blks (k : Nat) : List Bd → Prop
  | last {X : List Bd} : X.length ≤ k → SrtL X → Blks k X
  | cons {X l : List Bd} : X.length = k → SrtL X → Blks k l → Blks k (X ++ l)
theorem Blks.split {k : Nat} {l : List Bd} (h : Blks k l) (hk : k ≤ l.length) : ∃ X l', l = X ++ l' ∧ X.length = k ∧ SrtL X ∧ Blks k l' := by
  cases h with
  | last h1 h2 => exact ⟨l, [], by simp, by omega, h2, .last (Nat.zero_le _) List.Pairwise.nil⟩
  | cons h1 h2 h3 => exact ⟨_, _, rfl, h1, h2, h3⟩
theorem Blks.short {k : Nat} {l : List Bd} (h : Blks k l) (hk : l.length ≤ k) : SrtL l := by
  cases h with
  | last h1 h2 => exact h2
  | @cons X l h1 h2 h3 =>
    have : l.length = 0 := by simp at hk; omega
    rw [List.length_eq_zero_iff] at this
    subst this
    simpa using h2
/-- Full blocks. -/
def FullB (k : Nat) (P : List Bd) : Prop := ∀ l, Blks k l → Blks k (P ++ l)
theorem FullB.nil (k : Nat) : FullB k [] := fun _ h => h
theorem FullB.snoc {k : Nat} {P M : List Bd} (h : FullB k P) (hM : M.length = k) (sM : SrtL M) : FullB k (P ++ M) := fun l hl => by
  rw [List.append_assoc]; exact h _ (.cons hM sM hl)

set_option maxHeartbeats 8000000 in
set_option maxRecDepth 100000 in
theorem stable_at (l : List Bd) (g c N : Nat) (w : World) (hN : N = l.length) (hN6 : N ≤ 1000000) (h : Row5 w g l) :
    Calls Tryz.prog 86 #[.slice (some ⟨g, 0, none⟩) N c, .int .i64 N, CMPV] w (Steps (fun l' => Stab l l' ∧ SrtL l') g w) := by
  have HN := Lib.hid hN
  have H0 := Lib.hid (show ∃ P R : List Bd, P.length = 0 ∧ Stab l (P ++ R) ∧ FullB 20 P ∧ Row5 w g (P ++ R) from ⟨[], l, rfl, Stab.refl _, FullB.nil _, h⟩)
  clear hN h
  go_enter Tryz.func86, Tryz.ntmps86
  go_wp2_with fail
  go_loopw [7, 8] (fun s1 s2 wr => ∃ a b : Nat, s1 = .int .i64 a ∧ s2 = .int .i64 b ∧ a ≤ N ∧ b ≤ N + 20 ∧ Hid (b = a + 20) ∧ Hid (∃ P R : List Bd, P.length = a ∧ Stab l (P ++ R) ∧ FullB 20 P ∧ Row5 wr g (P ++ R)) ∧ Hid (Keeps g w wr)) (fun s1 _ _ => N - (intOf s1).toNat)
  case atStart => exact ⟨0, 20, rfl, rfl, Nat.zero_le _, by omega, Lib.hid rfl, H0, Lib.hid (Keeps.refl _ _)⟩
  case round =>
    clear H0
    obtain ⟨a, b, rfl, rfl, haN, hb2, HAB, HI, HK⟩ := hrel
    obtain ⟨P, R, hP, hSt, hF, hR⟩ := HI.out
    have hRl : P.length + R.length = N := by rw [HN.out, hSt.len, List.length_append]
    have hab := HAB.out
    by_cases hbn : b ≤ N
    · have Q := Lib.hid (insertion_at P (R.take 20) (R.drop 20) g c N wr (by simp; omega) hN6 (by rw [List.append_assoc, List.take_append_drop]; exact hR) a b hP.symm (by simp; omega))
      have HNx := Lib.hid (show ∀ W X', Row5 W g (P ++ X' ++ R.drop 20) → Stab (R.take 20) X' → SrtL X' → ∃ P R : List Bd, P.length = b ∧ Stab l (P ++ R) ∧ FullB 20 P ∧ Row5 W g (P ++ R) from fun W X' h1 h2 h3 => by
        have h4 : X'.length = 20 := by rw [← h2.len]; simp; omega
        refine ⟨P ++ X', R.drop 20, by simp; omega, hSt.trans ?_, hF.snoc h4 h3, h1⟩
        have := (Stab.refl P).append (h2.append (Stab.refl (R.drop 20)))
        rw [List.take_append_drop] at this
        simpa using this)
      have hlt : a < b := by omega
      clear hP hSt hF hR hRl hab HI
      go_wp2_with fail
      refine (Q.out).mono ?_
      rintro e w2 ⟨rfl, l2, ⟨X', rfl, h2, h3⟩, hR2, hK2⟩
      have HE := Lib.hid (HNx.out _ _ hR2 h2 h3)
      have HK2 := Lib.hid (HK.out.trans hK2)
      clear hR2 hK2 h2 h3
      go_wp2_with fail
      go_roundw
      case rel => exact ⟨b, b + 20, rfl, by go_num, hbn, by omega, Lib.hid rfl, HE, HK2⟩
      case measure => simp [intOf]; omega
    · have Q := Lib.hid (insertion_at P R [] g c N wr (by simp; omega) hN6 (by simpa using hR) a N hP.symm (by omega))
      have HNx := Lib.hid (show ∀ W X', Row5 W g (P ++ X' ++ []) → Stab R X' → SrtL X' → ∃ L : List Bd, Stab l L ∧ Blks 20 L ∧ Row5 W g L from fun W X' h1 h2 h3 => by
        have h4 := h2.len
        exact ⟨P ++ X', hSt.trans ((Stab.refl P).append h2), hF _ (.last (by omega) h3), by simpa using h1⟩)
      clear hP hSt hF hR hRl hab HI HAB
      go_wp2_with fail
      refine (Q.out).mono ?_
      rintro e w2 ⟨rfl, l2, ⟨X', rfl, h2, h3⟩, hR2, hK2⟩
      have HE := Lib.hid (HNx.out _ _ hR2 h2 h3)
      have HK2 := Lib.hid (HK.out.trans hK2)
      clear hR2 hK2 h2 h3 HNx Q HK
      rename World => w1
      have h20 : (20 : Nat) ≤ 2000000 := by omega
      go_wp2_with fail
      go_loopw [6] (fun s6 wr => ∃ k : Nat, s6 = .int .i64 k ∧ 0 < k ∧ k ≤ 2000000 ∧ Hid (∃ L : List Bd, Stab l L ∧ Blks k L ∧ Row5 wr g L) ∧ Hid (Keeps g w wr)) (fun s6 _ => N - (intOf s6).toNat)
      case atStart => exact ⟨20, rfl, by omega, h20, HE, HK2⟩
      case round =>
        clear HE HK2
        obtain ⟨k, rfl, hk0, hk2, HI, HK⟩ := hrel
        by_cases hkN : k < N
        · rename World => wb
          obtain ⟨k2, hkk⟩ : ∃ k2, k2 = 2 * k := ⟨_, rfl⟩
          have hd1 : 2 * (k : Int) = (k2 : Int) := by omega
          have hd2 : (k : Int) * 2 = (k2 : Int) := by omega
          have hk22 : k2 ≤ 2000000 := by omega
          have hk23 : 0 < k2 := by omega
          have hk24 : k < k2 := by omega
          have HKK := Lib.hid hkk
          have H0 := Lib.hid (show ∃ P R : List Bd, P.length = 0 ∧ Stab l (P ++ R) ∧ FullB k2 P ∧ Blks k R ∧ Row5 wb g (P ++ R) from by
            obtain ⟨L, h1, h2, h3⟩ := HI.out
            exact ⟨[], L, rfl, h1, FullB.nil _, h2, h3⟩)
          clear hkk HI
          go_wp2_with fail
          go_loopw [7, 8] (fun s1 s2 wr => ∃ a b : Nat, s1 = .int .i64 a ∧ s2 = .int .i64 b ∧ a ≤ N ∧ b ≤ N + k2 ∧ Hid (b = a + k2) ∧ Hid (∃ P R : List Bd, P.length = a ∧ Stab l (P ++ R) ∧ FullB k2 P ∧ Blks k R ∧ Row5 wr g (P ++ R)) ∧ Hid (Keeps g w wr)) (fun s1 _ _ => N - (intOf s1).toNat)
          case atStart => exact ⟨0, k2, rfl, rfl, Nat.zero_le _, by omega, Lib.hid (by omega), H0, HK⟩
          case round =>
            clear H0 HK
            obtain ⟨a, b, rfl, rfl, haN, hb2, HAB, HI, HK⟩ := hrel
            obtain ⟨P, R, hP, hSt, hF, hB, hR⟩ := HI.out
            have hRl : P.length + R.length = N := by rw [HN.out, hSt.len, List.length_append]
            have hab := HAB.out
            have hkk := HKK.out
            obtain ⟨m, hm⟩ : ∃ m, m = a + k := ⟨_, rfl⟩
            have hm1 : (a : Int) + (k : Int) = (m : Int) := by omega
            by_cases hbn : b ≤ N
            · obtain ⟨X, R1, rfl, hX, sX, hB1⟩ := hB.split (by omega)
              have hl1 : (X ++ R1).length = k + R1.length := by simp; omega
              obtain ⟨Y, R2, rfl, hY, sY, hB2⟩ := hB1.split (by omega)
              have hl2 : (Y ++ R2).length = k + R2.length := by simp; omega
              have Q := Lib.hid (sym_all g c N hN6 (k2 + 1) P X Y R2 wr a m b (by omega) (by omega) (by omega) sX sY (by omega) (by simpa using hR) hP.symm (by omega) (by omega))
              have HNx := Lib.hid (show ∀ W M, Row5 W g (P ++ M ++ R2) → Stab (X ++ Y) M → SrtL M → ∃ P R : List Bd, P.length = b ∧ Stab l (P ++ R) ∧ FullB k2 P ∧ Blks k R ∧ Row5 W g (P ++ R) from fun W M h1 h2 h3 => by
                have h4 : M.length = k2 := by rw [← h2.len]; simp; omega
                refine ⟨P ++ M, R2, by simp; omega, hSt.trans ?_, hF.snoc h4 h3, hB2, h1⟩
                have := (Stab.refl P).append (h2.append (Stab.refl R2))
                simpa using this)
              have hlt : a < b := by omega
              have hmb : m ≤ 4000000 := by omega
              clear hP hSt hF hR hRl hab HI hkk hm hX sX hB1 hl1 hY sY hB2 hl2 hB
              go_wp2_with fail
              refine (Q.out).mono ?_
              rintro e w2 ⟨rfl, l2, ⟨M, rfl, h2, h3⟩, hR2, hK2⟩
              have HE := Lib.hid (HNx.out _ _ hR2 h2 h3)
              have HK2 := Lib.hid (HK.out.trans hK2)
              clear hR2 hK2 h2 h3
              go_wp2_with fail
              go_roundw
              case rel => exact ⟨b, b + k2, rfl, by go_num, hbn, by omega, Lib.hid rfl, HE, HK2⟩
              case measure => simp [intOf]; omega
            · have hmb : m ≤ 4000000 := by omega
              by_cases hmn : m < N
              · obtain ⟨X, R1, rfl, hX, sX, hB1⟩ := hB.split (by omega)
                have hl1 : (X ++ R1).length = k + R1.length := by simp; omega
                have sY := hB1.short (by omega)
                have Q := Lib.hid (sym_all g c N hN6 (k2 + 1) P X R1 [] wr a m N (by omega) (by omega) (by omega) sX sY (by simp; omega) (by simpa using hR) hP.symm (by omega) (by omega))
                have HNx := Lib.hid (show ∀ W M, Row5 W g (P ++ M ++ []) → Stab (X ++ R1) M → SrtL M → ∃ L : List Bd, Stab l L ∧ Blks k2 L ∧ Row5 W g L from fun W M h1 h2 h3 => by
                  have h4 : M.length = k + R1.length := by rw [← h2.len]; simp; omega
                  exact ⟨P ++ M, hSt.trans ((Stab.refl P).append h2), hF _ (.last (by omega) h3), by simpa using h1⟩)
                clear hP hSt hF hR hRl hab HI hkk hm hX sX hB1 hl1 sY hB HAB
                go_wp2_with fail
                refine (Q.out).mono ?_
                rintro e w2 ⟨rfl, l2, ⟨M, rfl, h2, h3⟩, hR2, hK2⟩
                have HE := Lib.hid (HNx.out _ _ hR2 h2 h3)
                have HK2 := Lib.hid (HK.out.trans hK2)
                clear hR2 hK2 h2 h3
                go_wp2_with fail
                go_roundw
                case rel => exact ⟨k2, rfl, hk23, hk22, HE, HK2⟩
                case measure => simp [intOf]; omega
              · have HE := Lib.hid (show ∃ L : List Bd, Stab l L ∧ Blks k2 L ∧ Row5 wr g L from ⟨P ++ R, hSt, hF _ (.last (by omega) (hB.short (by omega))), hR⟩)
                clear hP hSt hF hR hRl hab HI hkk hm hB HAB
                go_wp2_with fail
                go_roundw
                case rel => exact ⟨k2, rfl, hk23, hk22, HE, HK⟩
                case measure => simp [intOf]; omega
        · have HE := Lib.hid (show ∃ L, (Stab l L ∧ SrtL L) ∧ Row5 wr g L ∧ Keeps g w wr from by
            obtain ⟨L, h1, h2, h3⟩ := HI.out
            exact ⟨L, ⟨h1, h2.short (by rw [← h1.len, ← HN.out]; omega)⟩, h3, HK.out⟩)
          clear HI HK
          go_wp2_with fail
          go_end0
          exact ⟨rfl, HE.out⟩
end Go.Proofs.YtgialbcohkpogaaGreat
