/-
  How a chain of three operands in parentheses is read, plainly.
-/
import Derived.Test.YtlpibnbabgfiiaaGreatDoorTtBack
namespace Go.Proofs.YtlpibnbabgfiiaaGreatDoor
open Go

def chainT (o p : UInt8) (X Y Z : List UInt8) : List UInt8 := 40 :: (X ++ (41 :: (o :: (40 :: (Y ++ (41 :: (32 :: (p :: (40 :: (Z ++ [41]))))))))))
def chainV (o p : UInt8) (x y z : Tm) : Tm := if ostr [o] = 0 ∧ ostr [p] = 1 then binT o x (binT p y z) else binT p (binT o x y) z
theorem chain_text (o p : UInt8) (x y z : Tm) (hx : x.right = true) (hy : y.right = true) (hz : z.right = true) (ho : ostr [o] < 2) (hp : ostr [p] < 2) (hl : (chainT o p (x.txt plain) (y.txt plain) (z.txt plain)).length ≤ 16384) :
    parseP (chainT o p (x.txt plain) (y.txt plain) (z.txt plain)) = if (chainV o p x.strip y.strip z.strip).right then .ok (chainV o p x.strip y.strip z.strip) [] else .err 6 := by
  have no : o ≠ 32 := by rintro rfl; revert ho; decide
  have np : p ≠ 32 := by rintro rfl; revert hp; decide
  obtain ⟨n, hn⟩ : ∃ n, (chainT o p (x.txt plain) (y.txt plain) (z.txt plain)).length = n := ⟨_, rfl⟩
  have hsh : Shrinks (opnd (exprP n)) := opnd_shrinks (expr_shrinks n)
  have hsl : Shrinks (level 1 (opnd (exprP n))) := level_shrinks hsh
  have G : ∀ t : Tm, t.right = true → ∀ k, (t.txt plain).length + k.length + 2 ≤ n → opnd (exprP n) (40 :: (t.txt plain ++ (41 :: k))) = .ok t.strip (skip k) := fun t ht k hk => by
    have hf := ht
    simp only [Tm.right, Bool.and_eq_true] at hf
    have := group_read (trip (σ := plain) t hf.1).2.2.2 n k (by show (40 :: (t.txt plain ++ (41 :: k)) : List UInt8).length ≤ n; simp only [List.length_cons, List.length_append]; omega)
    exact this
  have hn' := hn
  simp only [chainT, List.length_cons, List.length_append, List.length_nil] at hn'
  have g1 := G x hx (o :: (40 :: (y.txt plain ++ (41 :: (32 :: (p :: (40 :: (z.txt plain ++ [41])))))))) (by simp only [List.length_cons, List.length_append, List.length_nil]; omega)
  have g2 := G y hy (32 :: (p :: (40 :: (z.txt plain ++ [41])))) (by simp only [List.length_cons, List.length_append, List.length_nil]; omega)
  have g3 := G z hz [] (by simp only [List.length_nil]; omega)
  rw [skip_cons _ no] at g1
  rw [skip_space, skip_cons _ np] at g2
  rw [show skip [] = [] from rfl] at g3
  have s40 : ∀ r : List UInt8, skip (40 :: r) = 40 :: r := fun r => skip_cons r (by decide)
  have key : exprP (n + 1) (skip (chainT o p (x.txt plain) (y.txt plain) (z.txt plain))) = .ok (chainV o p x.strip y.strip z.strip) [] := by
    rw [chainT, s40, exprP]
    have stop1 : ∀ t, chain 1 (opnd (exprP n)) t [] = .ok t [] := fun t => chain_stop (by decide)
    have stop0 : ∀ t, chain 0 (level 1 (opnd (exprP n))) t [] = .ok t [] := fun t => chain_stop (by decide)
    have l3 : level 1 (opnd (exprP n)) (40 :: (z.txt plain ++ [41])) = .ok z.strip [] := by rw [level, g3]; exact stop1 _
    have hp1 : ostr [(p :: (40 :: (z.txt plain ++ [41])) : List UInt8).headD 0] = ostr [p] := rfl
    have ho1 : ostr [(o :: (40 :: (y.txt plain ++ (41 :: (32 :: (p :: (40 :: (z.txt plain ++ [41]))))))) : List UInt8).headD 0] = ostr [o] := rfl
    by_cases h1 : ostr [o] = 1
    · have a1 : level 1 (opnd (exprP n)) (40 :: (x.txt plain ++ (41 :: (o :: (40 :: (y.txt plain ++ (41 :: (32 :: (p :: (40 :: (z.txt plain ++ [41]))))))))))) = chain 1 (opnd (exprP n)) (binT o x.strip y.strip) (p :: (40 :: (z.txt plain ++ [41]))) := by
        rw [level, g1]
        exact chain_step hsh (ho1.trans h1) (by rw [List.tail_cons, s40]; exact g2)
      have hV : chainV o p x.strip y.strip z.strip = binT p (binT o x.strip y.strip) z.strip := by unfold chainV; rw [if_neg (by omega)]
      rw [hV]
      by_cases h2 : ostr [p] = 1
      · rw [chain_step hsh (hp1.trans h2) (by rw [List.tail_cons, s40]; exact g3), stop1] at a1
        rw [level, a1]
        exact stop0 _
      · rw [chain_stop (by rw [hp1]; exact h2)] at a1
        rw [level, a1]
        show chain 0 (level 1 (opnd (exprP n))) _ _ = _
        rw [chain_step hsl (hp1.trans (by omega)) (by rw [List.tail_cons, s40]; exact l3)]
        exact stop0 _
    · have h0 : ostr [o] = 0 := by omega
      have a1 : level 1 (opnd (exprP n)) (40 :: (x.txt plain ++ (41 :: (o :: (40 :: (y.txt plain ++ (41 :: (32 :: (p :: (40 :: (z.txt plain ++ [41]))))))))))) = .ok x.strip (o :: (40 :: (y.txt plain ++ (41 :: (32 :: (p :: (40 :: (z.txt plain ++ [41])))))))) := by
        rw [level, g1]
        exact chain_stop (by rw [ho1]; exact h1)
      by_cases h2 : ostr [p] = 1
      · have hV : chainV o p x.strip y.strip z.strip = binT o x.strip (binT p y.strip z.strip) := by unfold chainV; rw [if_pos ⟨h0, h2⟩]
        have a2 : level 1 (opnd (exprP n)) (40 :: (y.txt plain ++ (41 :: (32 :: (p :: (40 :: (z.txt plain ++ [41]))))))) = .ok (binT p y.strip z.strip) [] := by
          rw [level, g2]
          show chain 1 (opnd (exprP n)) _ _ = _
          rw [chain_step hsh (hp1.trans h2) (by rw [List.tail_cons, s40]; exact g3)]
          exact stop1 _
        rw [hV, level, a1]
        show chain 0 (level 1 (opnd (exprP n))) _ _ = _
        rw [chain_step hsl (ho1.trans h0) (by rw [List.tail_cons, s40]; exact a2)]
        exact stop0 _
      · have hV : chainV o p x.strip y.strip z.strip = binT p (binT o x.strip y.strip) z.strip := by unfold chainV; rw [if_neg (by omega)]
        have a2 : level 1 (opnd (exprP n)) (40 :: (y.txt plain ++ (41 :: (32 :: (p :: (40 :: (z.txt plain ++ [41]))))))) = .ok y.strip (p :: (40 :: (z.txt plain ++ [41]))) := by
          rw [level, g2]
          exact chain_stop (by rw [hp1]; exact h2)
        rw [hV, level, a1]
        show chain 0 (level 1 (opnd (exprP n))) _ _ = _
        rw [chain_step hsl (ho1.trans h0) (by rw [List.tail_cons, s40]; exact a2)]
        rw [chain_step hsl (hp1.trans (by omega)) (by rw [List.tail_cons, s40]; exact l3)]
        exact stop0 _
  exact parse_end (by omega) (by rw [hn]; exact key)
end Go.Proofs.YtlpibnbabgfiiaaGreatDoor
