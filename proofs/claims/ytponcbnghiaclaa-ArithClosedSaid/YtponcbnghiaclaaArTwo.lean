/-
  Contract of two of the statements, and arguments opened.
-/
import Derived.Test.YtponcbnghiaclaaArSame
import Derived.Test.YtponcbnghiaclaaArIdx
import Derived.Test.YtponcbnghiaclaaTmMem
import Derived.ProofKit
import Derived.OpenShut
namespace Go.Proofs.Ytponcbnghiaclaa
open Go.ChangeShapes Go.WideShapes Go.ChangeAt Go.RowKit

theorem types : Types Try.prog 3 9 28 30 :=
  ⟨Try.underlying3, Try.underlying9, Try.underlying28, ⟨_, _, _, _, Try.underlying30, ⟨rfl, rfl⟩, ⟨rfl, rfl⟩, ⟨rfl, rfl⟩, ⟨rfl, rfl⟩⟩, by kernel_rfl, by kernel_rfl, by kernel_rfl, by kernel_rfl⟩

theorem row_two {w : World} (t u : Tm) (ht : t.At w) (hu : u.At w) : RowAt (w.alloc (.cells #[.int .i64 t.kind, .int .i64 t.num, .string t.name, .slice t.at_ t.args.length t.cap, .int .i64 u.kind, .int .i64 u.num, .string u.name, .slice u.at_ u.args.length u.cap] 30)) [t, u] w.heap.size 0 := by
  have hc : ∀ j v, (#[.int .i64 t.kind, .int .i64 t.num, .string t.name, .slice t.at_ t.args.length t.cap, .int .i64 u.kind, .int .i64 u.num, .string u.name, .slice u.at_ u.args.length u.cap] : Array Value)[j]? = some v →
      (w.alloc (.cells #[.int .i64 t.kind, .int .i64 t.num, .string t.name, .slice t.at_ t.args.length t.cap, .int .i64 u.kind, .int .i64 u.num, .string u.name, .slice u.at_ u.args.length u.cap] 30)).cell? ⟨w.heap.size, j, none⟩ = some v := fun j v hv => by
    rw [World.cell?_alloc_at _ _ _ _ rfl, hv]
  simp only [RowAt]
  exact ⟨⟨hc 0 _ rfl, hc 1 _ rfl, hc 2 _ rfl, hc 3 _ rfl⟩, ht.alloc _, ⟨hc 4 _ rfl, hc 5 _ rfl, hc 6 _ rfl, hc 7 _ rfl⟩, hu.alloc _, trivial⟩

/-- An operator term that was made. -/
def Made (s : ByteArray) (x y : Tm) (w : World) (e : Ending) (w' : World) : Prop :=
  ∃ b : Nat, e = .returned (.agg #[.int .i64 2, .int .i64 0, .string s, .slice (some ⟨b, 0, none⟩) 2 2]) ∧ (Tm.mk 2 0 s (some ⟨b, 0, none⟩) 2 [x, y]).At w' ∧ Below w.heap.size w w'

set_option maxHeartbeats 1000000 in
theorem two_at (s : ByteArray) (x y : Tm) (w : World) (hs : s.size ≤ maxLen) (hx : x.At w) (hy : y.At w) :
    Calls Try.prog 21 #[.string s, x.val, y.val] w (Made s x y w) := by
  have HR := Lib.hid (fun (W : World) (h : Below w.heap.size w W) => row_two (w := W) x y (hx.below h) (hy.below h))
  have HX := Lib.hid (fun (W : World) (h : Below w.heap.size w W) => (⟨hx.below h, hy.below h⟩ : x.At W ∧ y.At W))
  have HS := Lib.hid hs
  clear hx hy hs
  obtain ⟨k, n, t, A, c, a⟩ := x
  obtain ⟨k', n', t', A', c', a'⟩ := y
  simp only [Tm.kind, Tm.num, Tm.name, Tm.at_, Tm.args, Tm.cap] at HR
  show Calls Try.prog 21 #[.string s, .agg #[.int .i64 k, .int .i64 n, .string t, .slice A a.length c], .agg #[.int .i64 k', .int .i64 n', .string t', .slice A' a'.length c']] w _
  go_enter Try.func21, Try.ntmps21
  go_wp2_with fail
  refine bodyPost_ret (v := .agg #[.int .i64 2, .int .i64 0, .string s, .slice (some ⟨w.heap.size + 1 + 1 + 1, 0, none⟩) 2 2]) (by simp [results, Try.results21, go_sem]) rfl ⟨_, rfl, ?_, ?_⟩
  · have hb := (below2 w (.cells #[.int .i64 k, .int .i64 n, .string t, .slice A a.length c] 30) (.cells #[.int .i64 k', .int .i64 n', .string t', .slice A' a'.length c'] 30)).alloc (by simp; omega) (.cells #[.int .i64 2, .int .i64 0, .string s, .slice (some ⟨w.heap.size + 1 + 1 + 1, 0, none⟩) 2 2] 30)
    have hr := HR.out _ hb
    refine (At_iff _ _).2 ⟨⟨by unfold Fits; simp [Tm.kind], by unfold Fits; simp [Tm.num], HS.out⟩, by simp [Tm.args, Tm.cap], by simp [Tm.cap, maxLen], fun _ => ⟨w.heap.size + 1 + 1 + 1, 0, rfl, ?_⟩⟩
    have e : (((w.alloc (.cells #[.int .i64 k, .int .i64 n, .string t, .slice A a.length c] 30)).alloc (.cells #[.int .i64 k', .int .i64 n', .string t', .slice A' a'.length c'] 30)).alloc (.cells #[.int .i64 2, .int .i64 0, .string s, .slice (some ⟨w.heap.size + 1 + 1 + 1, 0, none⟩) 2 2] 30)).heap.size = w.heap.size + 1 + 1 + 1 := by simp
    rw [e] at hr
    exact hr
  · exact ((below2 _ _ _).alloc (by simp; omega) _).alloc (by simp; omega) _
end Go.Proofs.Ytponcbnghiaclaa
