/-
  An argument that is a byte slice, opened: it lies in memory as a list of bytes.
-/
import Derived.Test.YtogbanblmhpecaaWords
import Derived.ProofKit
import Derived.OpenShut
import Derived.Deep.Fields
namespace Go.Proofs.Ytogbanblmhpecaa
open Go.ChangeShapes Go.WideShapes Go.ChangeAt Go.RowKit

theorem byte_wf {x : Int} (h : (Lit.int .u8 x).wf = true) : 0 ≤ x ∧ x < 256 := by
  have h1 : IntKind.u8.min = 0 := rfl
  have h2 : IntKind.u8.max = 255 := rfl
  simp only [Lit.wf, Bool.and_eq_true, decide_eq_true_eq] at h
  omega

section
variable {H : Type} {enc : TypeId × Value → H} {P : Program} {W : World} {base : Nat} {spare : Nat → Bool} {held : Bool}

/-- One cell that reads as a byte slice. -/
theorem trod_lies {t e : TypeId} (ht : P.underlying t = some (.slice e)) (he : P.underlying e = some (.int .u8)) (hc : P.cellsOf e = 1) {fuel : Nat} {v : Value} {x : DataW H × List MemPlace}
    (hf : DataW.trod enc P W base spare held fuel t [v] = some x) : ∃ (A : Option Addr) (l : List UInt8) (c : Nat), v = .slice A l.length c ∧ Lies W A l ∧ l.length ≤ c := by
  rcases open_ints ht he hc hf with ⟨hcs, _⟩ | ⟨x, len, cap, zs, hcs, _, hl, hm, hz, _, hcell, hwz⟩
  · obtain rfl : v = .slice none 0 0 := by simpa using hcs
    exact ⟨none, [], 0, rfl, Lies.nil _ _, Nat.le_refl _⟩
  · obtain rfl : v = .slice (some x) len cap := by simpa using hcs
    have hzl : len ≤ zs.length := by rw [hz]; split <;> omega
    refine ⟨some x, (zs.take len).map fun n => UInt8.ofNat n.toNat, cap, by simp; omega, fun hn => ?_, by simp; omega⟩
    rw [List.length_map, List.length_take] at hn
    obtain ⟨b, o, sp⟩ := x
    have h00 := hcell 0 (by omega)
    obtain rfl : sp = none := by simpa [Addr.add] using World.cell?_spot h00
    refine ⟨b, o, rfl, fun i hi => ?_⟩
    rw [List.length_map, List.length_take] at hi
    have h := hcell i (by omega)
    rw [add_plain] at h
    rw [h]
    have hiz : i < zs.length := by omega
    have hb := byte_wf (hwz (zs[i]) (List.getElem_mem hiz))
    have e1 : zs.getD i 0 = zs[i] := by simp [List.getD, hiz]
    have e2 : ((zs.take len).map fun n => UInt8.ofNat n.toNat).getD i 0 = UInt8.ofNat (zs[i]).toNat := by
      simp [List.getD, hiz, show i < len by omega]
    rw [e1, e2, byte_toNat (by omega)]
    congr 2
    omega

theorem open_lies {t e : TypeId} (ht : P.underlying t = some (.slice e)) (he : P.underlying e = some (.int .u8)) (hc : P.cellsOf e = 1) {a0 : Option Addr} {len cap : Nat} {d0 : DataW H} {p : List MemPlace}
    (h0 : DataW.Trod enc P W base spare held t (.slice a0 len cap) d0 p) : ∃ l : List UInt8, l.length = len ∧ Lies W a0 l ∧ len ≤ cap := by
  obtain ⟨fuel, hf⟩ := h0
  obtain ⟨A, l, c, hv, hl, hlc⟩ := trod_lies ht he hc (v := .slice a0 len cap) (by simpa [Value.cells] using hf)
  injection hv with h1 h2 h3
  subst h1 h2 h3
  exact ⟨l, rfl, hl, hlc⟩

/-- A struct by value whose fields are a cell each: its value, and each field's reading. -/
theorem open_fields {r : Reach} {b0 : Nat} {t : TypeId} {fs : Array Field} {v : Value} {d : DataW H} {p : List MemPlace} (hs : P.underlying t = some (.struct fs)) (hone : Go.Deep.oneCellFields P fs = true) (hC : P.cellsOf t = fs.size)
    (hv : Value.okWide P W r b0 t v) (h : DataW.Trod enc P W base spare held t v d p) :
    ∃ (cs : Array Value) (n : Nat), v = .agg cs ∧ cs.size = fs.size ∧ ∀ (i : Nat) (f : Field) (u : Value), fs[i]? = some f → cs[i]? = some u → ∃ y, DataW.trod enc P W base spare held n f.type [u] = some y := by
  obtain ⟨cs, rfl, hsz⟩ := okWide_struct hs hv
  obtain ⟨fuel, hf⟩ := h
  obtain ⟨xs, n, _, _, _, hlen, hg⟩ := DataW.trod_struct hs hf
  refine ⟨cs, n, rfl, by rw [hsz, hC], fun i f u hi hu => ?_⟩
  obtain ⟨ho, hk⟩ := Go.Deep.hone_of hone i f hi
  have hil : i < fs.size := (Array.getElem?_eq_some_iff.1 hi).1
  have h1 := hg i f hi
  rw [ho, hk] at h1
  have hcu : ((Value.agg cs).cells.toList.drop i).take 1 = [u] := by
    have hic : i < cs.toList.length := by rw [Array.length_toList]; omega
    have hu' : cs.toList[i] = u := by
      have := (Array.getElem?_eq_some_iff.1 hu).2
      simpa using this
    show (cs.toList.drop i).take 1 = [u]
    rw [List.drop_eq_getElem_cons hic, hu']
    rfl
  rw [hcu] at h1
  exact ⟨xs[i]'(by omega), by rw [h1]; exact List.getElem?_eq_getElem (by omega)⟩
end
end Go.Proofs.Ytogbanblmhpecaa
