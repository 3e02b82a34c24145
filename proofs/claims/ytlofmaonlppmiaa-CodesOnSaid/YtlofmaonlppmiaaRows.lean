/-
  No cell of these rows narrows 'for every input' (looked for: loops, veiled, ifaces, maps, wideKeys, modest, calm, conditions, laid).
  DERIVED. THE GIVEN ROWS OF THIS SEAT. 7 by the template 'for every input the law returns true; each argument reads behind the call as it read before'; 0 by the template 'total and deterministic' (their statements: YtlofmaonlppmiaaTotals.lean).
  GIVEN WITH THE SEED: the statements are not yours to turn. If you find one false, say at which input.
  Laid BY PROGRAM, IN A SANDBOX (cutbox-rows.mjs): the forced cells as the released guide's own fill.sh prints them over the translation a280a43f2a2f20f5… (all of the seat's roots in one cut). By AI agents, Wed Nov 11 2026. No macro, syntax, notation, axiom, sorry.
-/
import Derived.Test.YtlofmaonlppmiaaChecked
import GoSem.Claim
import GoSem.ClaimJoined
import GoSem.ClaimMapViews
import Derived.JoinedTies
import Derived.KernelRfl
namespace Go.Proofs.Ytlofmaonlppmiaa
/- THE CELL 'sum', in the pinned program and in every row, IS THE sha256 OF THE DUMP (.gsa) THAT YtlofmaonlppmiaaProg.lean LOADS. Nothing in Lean hashes anything: it is a label: what it is worth is what the hold of that sum in a sandbox is worth. -/
noncomputable def Try.pinned : Pinned := { name := "ytlofmaonlppmiaa", sum := "a280a43f2a2f20f59c54a0e81535123b0f47369bbe477f6241205e808b3b5b8d", checked := Try.checked }
namespace Rows
def none {H : Type} : Left H := { results := [], args := [] }

/-- 'farrierlaw02.CodesNumbers': WHATEVER THE INPUT: true; the input reads as it did. -/
def codesNumbersSpec : ChangeSpec := { name := "codesNumbers", fn := fun _ => fun
  | [d1, d2, d3] => { results := [.lit (.bool true)], args := [d1, d2, d3] }
  | _ => none }
def codesNumbersRow : OpenClaim := { program := "ytlofmaonlppmiaa", sum := "a280a43f2a2f20f59c54a0e81535123b0f47369bbe477f6241205e808b3b5b8d", func := "farrier/farrierlaw02.CodesNumbers", spec := "codesNumbers", apart := false }
def CodesNumbersSaid : Prop := codesNumbersRow.holds Try.pinned (OpenSpec.ofChange codesNumbersSpec)

/-- ITS FALSE NEIGHBOUR: 'it returns false'. Refute it at one input. -/
def codesNumbersWrong : ChangeSpec := { name := "codesNumbers", fn := fun _ => fun
  | [d1, d2, d3] => { results := [.lit (.bool false)], args := [d1, d2, d3] }
  | _ => none }
def CodesNumbersWrongFalsely : Prop := codesNumbersRow.holds Try.pinned (OpenSpec.ofChange codesNumbersWrong)

/-- 'farrierlaw02.CodesSums': WHATEVER THE INPUT: true; the input reads as it did. -/
def codesSumsSpec : ChangeSpec := { name := "codesSums", fn := fun _ => fun
  | [d1, d2] => { results := [.lit (.bool true)], args := [d1, d2] }
  | _ => none }
def codesSumsRow : OpenClaim := { program := "ytlofmaonlppmiaa", sum := "a280a43f2a2f20f59c54a0e81535123b0f47369bbe477f6241205e808b3b5b8d", func := "farrier/farrierlaw02.CodesSums", spec := "codesSums", apart := false }
def CodesSumsSaid : Prop := codesSumsRow.holds Try.pinned (OpenSpec.ofChange codesSumsSpec)

/-- ITS FALSE NEIGHBOUR: 'it returns false'. Refute it at one input. -/
def codesSumsWrong : ChangeSpec := { name := "codesSums", fn := fun _ => fun
  | [d1, d2] => { results := [.lit (.bool false)], args := [d1, d2] }
  | _ => none }
def CodesSumsWrongFalsely : Prop := codesSumsRow.holds Try.pinned (OpenSpec.ofChange codesSumsWrong)

/-- 'farrierlaw02.CodesBack': WHATEVER THE INPUT: true; the input reads as it did. -/
def codesBackSpec : ChangeSpec := { name := "codesBack", fn := fun _ => fun
  | [d1, d2, d3] => { results := [.lit (.bool true)], args := [d1, d2, d3] }
  | _ => none }
def codesBackRow : OpenClaim := { program := "ytlofmaonlppmiaa", sum := "a280a43f2a2f20f59c54a0e81535123b0f47369bbe477f6241205e808b3b5b8d", func := "farrier/farrierlaw02.CodesBack", spec := "codesBack", apart := false }
def CodesBackSaid : Prop := codesBackRow.holds Try.pinned (OpenSpec.ofChange codesBackSpec)

/-- ITS FALSE NEIGHBOUR: 'it returns false'. Refute it at one input. -/
def codesBackWrong : ChangeSpec := { name := "codesBack", fn := fun _ => fun
  | [d1, d2, d3] => { results := [.lit (.bool false)], args := [d1, d2, d3] }
  | _ => none }
def CodesBackWrongFalsely : Prop := codesBackRow.holds Try.pinned (OpenSpec.ofChange codesBackWrong)

/-- 'farrierlaw02.CodesOn': WHATEVER THE INPUT: true; the input reads as it did. -/
def codesOnSpec : ChangeSpec := { name := "codesOn", fn := fun _ => fun
  | [d1, d2, d3] => { results := [.lit (.bool true)], args := [d1, d2, d3] }
  | _ => none }
def codesOnRow : OpenClaim := { program := "ytlofmaonlppmiaa", sum := "a280a43f2a2f20f59c54a0e81535123b0f47369bbe477f6241205e808b3b5b8d", func := "farrier/farrierlaw02.CodesOn", spec := "codesOn", apart := false }
def CodesOnSaid : Prop := codesOnRow.holds Try.pinned (OpenSpec.ofChange codesOnSpec)

/-- ITS FALSE NEIGHBOUR: 'it returns false'. Refute it at one input. -/
def codesOnWrong : ChangeSpec := { name := "codesOn", fn := fun _ => fun
  | [d1, d2, d3] => { results := [.lit (.bool false)], args := [d1, d2, d3] }
  | _ => none }
def CodesOnWrongFalsely : Prop := codesOnRow.holds Try.pinned (OpenSpec.ofChange codesOnWrong)

/-- 'farrierlaw02.CodesTurns': WHATEVER THE INPUT: true; the input reads as it did. -/
def codesTurnsSpec : ChangeSpec := { name := "codesTurns", fn := fun _ => fun
  | [d1, d2, d3] => { results := [.lit (.bool true)], args := [d1, d2, d3] }
  | _ => none }
def codesTurnsRow : OpenClaim := { program := "ytlofmaonlppmiaa", sum := "a280a43f2a2f20f59c54a0e81535123b0f47369bbe477f6241205e808b3b5b8d", func := "farrier/farrierlaw02.CodesTurns", spec := "codesTurns", apart := false }
def CodesTurnsSaid : Prop := codesTurnsRow.holds Try.pinned (OpenSpec.ofChange codesTurnsSpec)

/-- ITS FALSE NEIGHBOUR: 'it returns false'. Refute it at one input. -/
def codesTurnsWrong : ChangeSpec := { name := "codesTurns", fn := fun _ => fun
  | [d1, d2, d3] => { results := [.lit (.bool false)], args := [d1, d2, d3] }
  | _ => none }
def CodesTurnsWrongFalsely : Prop := codesTurnsRow.holds Try.pinned (OpenSpec.ofChange codesTurnsWrong)

/-- 'farrierlaw02.CodesEnds': WHATEVER THE INPUT: true; the input reads as it did. -/
def codesEndsSpec : ChangeSpec := { name := "codesEnds", fn := fun _ => fun
  | [d1, d2] => { results := [.lit (.bool true)], args := [d1, d2] }
  | _ => none }
def codesEndsRow : OpenClaim := { program := "ytlofmaonlppmiaa", sum := "a280a43f2a2f20f59c54a0e81535123b0f47369bbe477f6241205e808b3b5b8d", func := "farrier/farrierlaw02.CodesEnds", spec := "codesEnds", apart := false }
def CodesEndsSaid : Prop := codesEndsRow.holds Try.pinned (OpenSpec.ofChange codesEndsSpec)

/-- ITS FALSE NEIGHBOUR: 'it returns false'. Refute it at one input. -/
def codesEndsWrong : ChangeSpec := { name := "codesEnds", fn := fun _ => fun
  | [d1, d2] => { results := [.lit (.bool false)], args := [d1, d2] }
  | _ => none }
def CodesEndsWrongFalsely : Prop := codesEndsRow.holds Try.pinned (OpenSpec.ofChange codesEndsWrong)

/-- 'farrierlaw02.CodesJoins': WHATEVER THE INPUT: true; the input reads as it did. -/
def codesJoinsSpec : ChangeSpec := { name := "codesJoins", fn := fun _ => fun
  | [d1, d2] => { results := [.lit (.bool true)], args := [d1, d2] }
  | _ => none }
def codesJoinsRow : OpenClaim := { program := "ytlofmaonlppmiaa", sum := "a280a43f2a2f20f59c54a0e81535123b0f47369bbe477f6241205e808b3b5b8d", func := "farrier/farrierlaw02.CodesJoins", spec := "codesJoins", apart := false }
def CodesJoinsSaid : Prop := codesJoinsRow.holds Try.pinned (OpenSpec.ofChange codesJoinsSpec)

/-- ITS FALSE NEIGHBOUR: 'it returns false'. Refute it at one input. -/
def codesJoinsWrong : ChangeSpec := { name := "codesJoins", fn := fun _ => fun
  | [d1, d2] => { results := [.lit (.bool false)], args := [d1, d2] }
  | _ => none }
def CodesJoinsWrongFalsely : Prop := codesJoinsRow.holds Try.pinned (OpenSpec.ofChange codesJoinsWrong)

/- THE SECOND FORM. 'bulk': how many values and letters a reading holds, each counted each time it is reached (what is shared counts as often as it is met; a slice's spare places count too). A statement '..UptoSaid' is the law's where the arguments, and the package variables that the reading takes, are together of bulk at most 1048576: NARROWER than '..Said'. Prove '..Said' where nothing that the law and all that it calls make is longer than what came in: it says more and counts as full. Else prove '..UptoSaid'. A law counts once. -/
mutual
def uptoBulk {H : Type} : DataW H → Nat
  | .lit (.string bytes) => bytes.length + 1
  | .lit _ => 1
  | .nil => 1
  | .ptr d => uptoBulk d + 1
  | .slice elems spare => uptoBulkAll elems + uptoBulkAll spare + 1
  | .agg parts => uptoBulkAll parts + 1
  | .iface _ d => uptoBulk d + 1
  | .map entries => uptoBulkEntries entries + 1
  | .held _ => 1
def uptoBulkAll {H : Type} : List (DataW H) → Nat
  | [] => 0
  | d :: r => uptoBulk d + uptoBulkAll r
def uptoBulkEntries {H : Type} : List (Lit × DataW H) → Nat
  | [] => 0
  | x :: r => uptoBulkEntry x + uptoBulkEntries r
def uptoBulkEntry {H : Type} : Lit × DataW H → Nat
  | (.string bytes, d) => bytes.length + uptoBulk d + 1
  | (_, d) => uptoBulk d + 1
 end
def uptoSmall : (H : Type) → List (DataW H) → Bool := fun _ ds => decide (uptoBulkAll ds ≤ 1048576)
def OpenSpec.upto (s : _root_.Go.ChangeSpec) : _root_.Go.OpenSpec := { _root_.Go.OpenSpec.ofChange s with cond := some uptoSmall }

/-- 'farrierlaw02.CodesNumbers', WHERE WHAT IT READS IS OF BULK AT MOST 1048576: true; the input reads as it did. -/
def codesNumbersUptoRow : OpenClaim := { program := "ytlofmaonlppmiaa", sum := "a280a43f2a2f20f59c54a0e81535123b0f47369bbe477f6241205e808b3b5b8d", func := "farrier/farrierlaw02.CodesNumbers", spec := "codesNumbers", apart := false, narrowed := true }
def CodesNumbersUptoSaid : Prop := codesNumbersUptoRow.holds Try.pinned (OpenSpec.upto codesNumbersSpec)

/-- 'farrierlaw02.CodesSums', WHERE WHAT IT READS IS OF BULK AT MOST 1048576: true; the input reads as it did. -/
def codesSumsUptoRow : OpenClaim := { program := "ytlofmaonlppmiaa", sum := "a280a43f2a2f20f59c54a0e81535123b0f47369bbe477f6241205e808b3b5b8d", func := "farrier/farrierlaw02.CodesSums", spec := "codesSums", apart := false, narrowed := true }
def CodesSumsUptoSaid : Prop := codesSumsUptoRow.holds Try.pinned (OpenSpec.upto codesSumsSpec)

/-- 'farrierlaw02.CodesBack', WHERE WHAT IT READS IS OF BULK AT MOST 1048576: true; the input reads as it did. -/
def codesBackUptoRow : OpenClaim := { program := "ytlofmaonlppmiaa", sum := "a280a43f2a2f20f59c54a0e81535123b0f47369bbe477f6241205e808b3b5b8d", func := "farrier/farrierlaw02.CodesBack", spec := "codesBack", apart := false, narrowed := true }
def CodesBackUptoSaid : Prop := codesBackUptoRow.holds Try.pinned (OpenSpec.upto codesBackSpec)

/-- 'farrierlaw02.CodesOn', WHERE WHAT IT READS IS OF BULK AT MOST 1048576: true; the input reads as it did. -/
def codesOnUptoRow : OpenClaim := { program := "ytlofmaonlppmiaa", sum := "a280a43f2a2f20f59c54a0e81535123b0f47369bbe477f6241205e808b3b5b8d", func := "farrier/farrierlaw02.CodesOn", spec := "codesOn", apart := false, narrowed := true }
def CodesOnUptoSaid : Prop := codesOnUptoRow.holds Try.pinned (OpenSpec.upto codesOnSpec)

/-- 'farrierlaw02.CodesTurns', WHERE WHAT IT READS IS OF BULK AT MOST 1048576: true; the input reads as it did. -/
def codesTurnsUptoRow : OpenClaim := { program := "ytlofmaonlppmiaa", sum := "a280a43f2a2f20f59c54a0e81535123b0f47369bbe477f6241205e808b3b5b8d", func := "farrier/farrierlaw02.CodesTurns", spec := "codesTurns", apart := false, narrowed := true }
def CodesTurnsUptoSaid : Prop := codesTurnsUptoRow.holds Try.pinned (OpenSpec.upto codesTurnsSpec)

/-- 'farrierlaw02.CodesEnds', WHERE WHAT IT READS IS OF BULK AT MOST 1048576: true; the input reads as it did. -/
def codesEndsUptoRow : OpenClaim := { program := "ytlofmaonlppmiaa", sum := "a280a43f2a2f20f59c54a0e81535123b0f47369bbe477f6241205e808b3b5b8d", func := "farrier/farrierlaw02.CodesEnds", spec := "codesEnds", apart := false, narrowed := true }
def CodesEndsUptoSaid : Prop := codesEndsUptoRow.holds Try.pinned (OpenSpec.upto codesEndsSpec)

/-- 'farrierlaw02.CodesJoins', WHERE WHAT IT READS IS OF BULK AT MOST 1048576: true; the input reads as it did. -/
def codesJoinsUptoRow : OpenClaim := { program := "ytlofmaonlppmiaa", sum := "a280a43f2a2f20f59c54a0e81535123b0f47369bbe477f6241205e808b3b5b8d", func := "farrier/farrierlaw02.CodesJoins", spec := "codesJoins", apart := false, narrowed := true }
def CodesJoinsUptoSaid : Prop := codesJoinsUptoRow.holds Try.pinned (OpenSpec.upto codesJoinsSpec)

end Rows
end Go.Proofs.Ytlofmaonlppmiaa
