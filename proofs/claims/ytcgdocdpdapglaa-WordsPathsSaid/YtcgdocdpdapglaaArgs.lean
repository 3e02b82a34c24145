/- A slice of texts that came in, as the walks want it. -/
import Derived.Test.YtcgdocdpdapglaaW10
import Derived.ProofKit
import Derived.OpenShut
import Derived.SliceStrings
import Derived.WideKeyArgs
namespace Go.Proofs.Ytcgdocdpdapglaa
open Go.ChangeShapes Go.WideShapes Go.ChangeAt Go.RowKit Go.Lib
theorem laidOut : laidOutB Try.prog = true := by kernel_rfl
theorem cells9 : Try.prog.cellsOf 9 = 1 := by kernel_rfl
theorem bytes9 : Try.prog.bytesOf 9 = 16 := by kernel_rfl
theorem cell_below {w : World} {a : Addr} {v : Value} (h : w.cell? a = some v) : a.block < w.heap.size := World.block_lt_of_cell? w a h
theorem open_texts {H : Type} {enc : TypeId × Value → H} {W : World} {A : Option Addr} {len cap fuel : Nat} {x : DataW H × List MemPlace}
    (hf : DataW.trod enc Try.prog W 0 (fun _ => true) true fuel 24 [.slice A len cap] = some x) :
    ∃ ss : List (List UInt8), ss.length = len ∧ SL W W.heap.size (.slice A len cap) ss ∧ (len = 0 ∨ ∃ spare, x.1 = .slice (ss.map fun b => .lit (.string b)) spare) := by
  rcases open_strings Try.underlying24 Try.underlying9 cells9 hf with ⟨hcs, hx⟩ | ⟨a, len', cap', ss, hcs, _, hl, hm, hz, hx, hcell, _⟩
  · simp at hcs
    obtain ⟨rfl, rfl, rfl⟩ := hcs
    exact ⟨[], rfl, ⟨none, 0, rfl, fun _ => ⟨rfl, rfl⟩, fun h => absurd rfl h⟩, Or.inl rfl⟩
  · simp at hcs
    obtain ⟨rfl, rfl, rfl⟩ := hcs
    subst hx
    simp only [if_true] at hz
    obtain ⟨b, off, spot⟩ := a
    have hlen : ((ss.take len).map (·.data.toList)).length = len := by simp; omega
    refine ⟨(ss.take len).map (·.data.toList), hlen, ⟨_, cap, by rw [hlen], (fun h => by cases h), fun hne => ?_⟩, Or.inr ⟨_, by simp [strs, Function.comp_def]; rfl⟩⟩
    have h0 : 0 < len := by rw [← hlen]; exact List.length_pos_iff.2 hne
    have hspot : spot = none := by simpa [Addr.add] using World.cell?_spot (hcell 0 (by omega))
    subst hspot
    refine ⟨b, off, rfl, cell_below (by simpa [Addr.add] using hcell 0 (by omega)), fun k hk => ?_⟩
    rw [hlen] at hk
    have := hcell k (by omega)
    rw [add_plain] at this
    rw [this]
    have hk2 : k < ss.length := by omega
    simp [hk, hk2, S]
end Go.Proofs.Ytcgdocdpdapglaa
