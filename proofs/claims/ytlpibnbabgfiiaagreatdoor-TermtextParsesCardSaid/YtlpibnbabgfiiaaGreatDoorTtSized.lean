/-
  What is read is no larger than its text, plainly.
-/
import Derived.Test.YtlpibnbabgfiiaaGreatDoorTtPlain
namespace Go.Proofs.YtlpibnbabgfiiaaGreatDoor
open Go

def Sized (o : List UInt8 → PR Tm) : Prop := ∀ r t r', o r = .ok t r' → t.size + r'.length ≤ r.length
theorem chain_sized {own : Nat} {o : List UInt8 → PR Tm} (ho : Sized o) (t : Tm) (r : List UInt8) {u : Tm} {r' : List UInt8} (h : chain own o t r = .ok u r') : u.size + r'.length ≤ t.size + r.length := by
  induction hn : r.length using Nat.strongRecOn generalizing t r with
  | _ n ih =>
    rw [chain] at h
    split at h
    · rename_i hop
      split at h
      · rename_i u2 r2 h2
        split at h
        · rename_i hlt
          have h3 := ih _ (by omega) _ _ h rfl
          have h4 := ho _ _ _ h2
          have h5 := skip_len r.tail
          have h6 : r.tail.length + 1 = r.length := by
            rcases r with _ | ⟨c, q⟩
            · simp at hlt
            · simp
          have h7 : (binT (r.headD 0) t u2).size = 1 + (t.size + u2.size) := by simp [binT, Tm.size, sizeL]
          rw [h7] at h3
          omega
        · cases h
      · cases h
    · injection h with h1 h2; subst h1 h2; omega
theorem level_sized {own : Nat} {o : List UInt8 → PR Tm} (ho : Sized o) : Sized (level own o) := by
  intro r t r' h
  unfold level at h
  split at h
  · rename_i t1 r1 h1
    have := ho _ _ _ h1
    have := chain_sized ho _ _ h
    omega
  · cases h
theorem args_sized {ex : List UInt8 → PR Tm} (hex : Sized ex) (acc : List Tm) (r : List UInt8) {l : List Tm} {r' : List UInt8} (h : argsP ex acc r = .ok l r') : sizeL l + r'.length ≤ sizeL acc + r.length := by
  induction hn : r.length using Nat.strongRecOn generalizing acc r with
  | _ n ih =>
    rw [argsP] at h
    split at h
    · cases h
    · cases h
    · rename_i t c r2 hx
      have h1 := hex _ _ _ hx
      simp only [List.length_cons] at h1
      have h2 := skip_len r2
      have h3 : sizeL (acc ++ [t]) = sizeL acc + t.size := by rw [sizeL_append]; simp [sizeL]
      split at h
      · injection h with h4 h5; subst h4 h5; omega
      · split at h
        · split at h
          · have := ih _ (by omega) _ _ h rfl
            omega
          · cases h
        · cases h
theorem atom_sized {ex : List UInt8 → PR Tm} (hex : Sized ex) (r : List UInt8) {w : List UInt8} {l : List Tm} {r' : List UInt8} (h : atomP ex r = .ok (w, l) r') : 1 + sizeL l + r'.length ≤ r.length := by
  unfold atomP at h
  have h0 := take_drop_while inB r
  split at h
  · split at h
    · rename_i hr
      have h1 := word_pos hr
      have h2 := skip_len (r.dropWhile inB)
      split at h
      · rename_i hs
        injection h with h3 h4
        injection h3 with _ h3
        subst h3 h4
        simp only [sizeL, List.length_nil]; omega
      · rename_i c r2 hs
        rw [hs] at h2
        simp only [List.length_cons] at h2
        have h3 := skip_len r2
        split at h
        · split at h
          · rename_i l2 r3 ha
            injection h with h4 h5
            injection h4 with _ h4
            subst h4 h5
            have := args_sized hex _ _ ha
            simp only [sizeL] at this
            omega
          · cases h
        · injection h with h4 h5
          injection h4 with _ h4
          subst h4 h5
          simp only [sizeL, List.length_cons]; omega
    · cases h
  · cases h
theorem opnd_sized {ex : List UInt8 → PR Tm} (hex : Sized ex) : Sized (opnd ex) := by
  intro r t r' h
  unfold opnd at h
  split at h
  · rename_i h40
    obtain ⟨q, rfl⟩ := head_cons h40 (by decide)
    unfold groupP at h
    split at h
    · cases h
    · cases h
    · rename_i t' c r2 hx
      have h1 := hex _ _ _ hx
      have h2 := skip_len q
      have h4 := skip_len r2
      simp only [List.length_cons, List.tail_cons] at h1 h2 ⊢
      split at h
      · injection h with h5 h6; subst h5 h6; omega
      · cases h
  · split at h
    · have h1 := int_shrinks _ _ _ h
      unfold intP at h
      generalize (if r.headD 0 = 45 then r.tail else r) = q at h
      generalize (if r.headD 0 = 45 then -(spell (q.takeWhile digB) : Int) else (spell (q.takeWhile digB) : Int)) = v at h
      split at h
      · cases h
      · split at h
        · cases h
        · injection h with h5 h6; subst h5 h6
          simp only [intT, Tm.size]
          split <;> omega
    · split at h
      · have h1 := lab_shrinks _ _ _ h
        unfold labP at h
        split at h
        · injection h with h5 h6; subst h5 h6
          simp only [varT, Tm.size]
          split <;> omega
        · cases h
      · rcases ha : atomP ex r with ⟨w, l⟩ | e
        · rw [ha] at h
          injection h with h5 h6; subst h5 h6
          have := atom_sized hex _ ha
          simp only [funT, Tm.size, if_true]
          omega
        · rw [ha] at h; cases h
theorem expr_sized (n : Nat) : Sized (exprP n) := by
  induction n with
  | zero => intro r t r' h; cases h
  | succ n ih => exact level_sized (level_sized (opnd_sized ih))
end Go.Proofs.YtlpibnbabgfiiaaGreatDoor
