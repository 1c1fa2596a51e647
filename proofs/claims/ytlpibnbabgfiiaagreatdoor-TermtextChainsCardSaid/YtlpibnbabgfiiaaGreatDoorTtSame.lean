/-
  Terms with the same fields compare as equal.
-/
import Derived.Test.YtlpibnbabgfiiaaGreatDoorTtPlain
import Derived.Test.YtlpibnbabgfiiaaGreatDoorTmCon
namespace Go.Proofs.YtlpibnbabgfiiaaGreatDoor
open Go

theorem cmp_strip : (∀ t u : Tm, cmpT t.strip u.strip = cmpT t u) ∧ (∀ l m, cmpL (stripL l) (stripL m) = cmpL l m) := by
  suffices H : (∀ t : Tm, ∀ u : Tm, cmpT t.strip u.strip = cmpT t u) ∧ (∀ l, ∀ m, cmpL (stripL l) (stripL m) = cmpL l m) from ⟨H.1, H.2⟩
  refine Tm.induct2 (fun k n s A c a ih u => ?_) (fun m => ?_) (fun t r h1 h2 m => ?_)
  · obtain ⟨k', n', s', A', c', a'⟩ := u
    simp only [Tm.strip, cmpT, Tm.kind, Tm.num, Tm.name, Tm.args, ih, stripL_len]
  · cases m <;> simp [stripL, cmpL]
  · cases m with
    | nil => simp [stripL, cmpL]
    | cons u q => simp only [stripL, cmpL, h1, h2]
theorem same_strip {t u : Tm} (h : t.strip = u.strip) : (cmpT t u == 0) = true := by
  rw [← cmp_strip.1, h, cmp_self.1]; rfl
theorem same_atom_strip {s : ByteArray} {A B : Option Addr} {c d : Nat} {l m : List Tm} (h : stripL l = stripL m) : (cmpA ⟨s, A, c, l⟩ ⟨s, B, d, m⟩ == 0) = true := by
  have hl : l.length = m.length := by rw [← stripL_len l, h, stripL_len]
  unfold cmpA
  simp only
  rw [hl, ← cmp_strip.2, h, cmp_self.2]
  simp [lex, texts_self, ints_self]
end Go.Proofs.YtlpibnbabgfiiaaGreatDoor
