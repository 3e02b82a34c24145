/- Rows of bytes in this program: what the call owns, as a string. -/
import Derived.Test.YthlkpdfdbdfbjaaProg
import Derived.Test.YthlkpdfdbdfbjaaKit
namespace Go.Proofs.Ythlkpdfdbdfbjaa
open Go.RowKit Go.Lib
theorem info5 : (Try.prog.info? 5).map (fun i => (i.zero, i.size, i.bytes)) = some (some (.int .u8 0), 1, 1) := by kernel_rfl
theorem conv_own {w : World} {B : Nat} {A : Option Addr} {n cap : Nat} {l : List UInt8} (h : w.ownsRow B 5 1 (.slice A n cap) n (byteCells l)) : (convert 31 9 (.slice A n cap)).run Try.prog w = .ok (.string (S l)) w := by
  have hl : l.length = n := by have := h.1; rw [byteCells_length] at this; omega
  rcases h.2 with ⟨hv, h0⟩ | ⟨g, cap', cur, hv, _⟩
  · obtain ⟨rfl, rfl, rfl⟩ : A = none ∧ n = 0 ∧ cap = 0 := by injection hv with e1 e2 e3; exact ⟨e1, e2, e3⟩
    have : l = [] := List.eq_nil_of_length_eq_zero hl
    subst this
    rw [run_convert_bytes_string w 31 9 5 none _ _ Try.underlying31 Try.underlying5 Try.underlying9]
    rfl
  · obtain ⟨rfl, rfl⟩ : A = some ⟨g, 0, none⟩ ∧ cap = cap' := by injection hv with e1 e2 e3; exact ⟨e1, e3⟩
    subst hl
    refine run_convert_bytes_back w 31 9 5 _ _ l Try.underlying31 Try.underlying5 Try.underlying9 (fun j hj => ?_)
    refine h.cells (g := g) rfl j _ ?_
    simp [byteCells, hj]
end Go.Proofs.Ythlkpdfdbdfbjaa
