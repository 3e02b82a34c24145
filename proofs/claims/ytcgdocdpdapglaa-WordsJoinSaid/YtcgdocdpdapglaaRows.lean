/-
  No cell of these rows narrows 'for every input' (looked for: loops, veiled, ifaces, maps, wideKeys, modest, calm, conditions, laid).
  DERIVED. THE GIVEN ROWS OF THIS SEAT. 7 by the template 'for every input the law returns true; each argument reads behind the call as it read before'; 0 by the template 'total and deterministic' (their statements: YtcgdocdpdapglaaTotals.lean).
  GIVEN WITH THE SEED: the statements are not yours to turn. If you find one false, say at which input.
  Laid BY PROGRAM, IN A SANDBOX (cutbox-rows.mjs): the forced cells as the released guide's own fill.sh prints them over the translation c223079809c05367… (all of the seat's roots in one cut). By AI agents, Wed Nov 11 2026. No macro, syntax, notation, axiom, sorry.
-/
import Derived.Test.YtcgdocdpdapglaaChecked
import GoSem.Claim
import GoSem.ClaimJoined
import GoSem.ClaimMapViews
import Derived.JoinedTies
import Derived.KernelRfl
namespace Go.Proofs.Ytcgdocdpdapglaa
/- THE CELL 'sum', in the pinned program and in every row, IS THE sha256 OF THE DUMP (.gsa) THAT YtcgdocdpdapglaaProg.lean LOADS. Nothing in Lean hashes anything: it is a label: what it is worth is what the hold of that sum in a sandbox is worth. -/
noncomputable def Try.pinned : Pinned := { name := "ytcgdocdpdapglaa", sum := "c223079809c053671560d1a069ef7605f7192d3acdf16dbaca5ba4b9665e76d2", checked := Try.checked }
namespace Rows
def none {H : Type} : Left H := { results := [], args := [] }

/-- 'farrierlaw01.WordsTexts': WHATEVER THE INPUT: true; the input reads as it did. -/
def wordsTextsSpec : ChangeSpec := { name := "wordsTexts", fn := fun _ => fun
  | [d] => { results := [.lit (.bool true)], args := [d] }
  | _ => none }
def wordsTextsRow : OpenClaim := { program := "ytcgdocdpdapglaa", sum := "c223079809c053671560d1a069ef7605f7192d3acdf16dbaca5ba4b9665e76d2", func := "farrier/farrierlaw01.WordsTexts", spec := "wordsTexts", apart := false }
def WordsTextsSaid : Prop := wordsTextsRow.holds Try.pinned (OpenSpec.ofChange wordsTextsSpec)

/-- ITS FALSE NEIGHBOUR: 'it returns false'. Refute it at one input. -/
def wordsTextsWrong : ChangeSpec := { name := "wordsTexts", fn := fun _ => fun
  | [d] => { results := [.lit (.bool false)], args := [d] }
  | _ => none }
def WordsTextsWrongFalsely : Prop := wordsTextsRow.holds Try.pinned (OpenSpec.ofChange wordsTextsWrong)

/-- 'farrierlaw01.WordsPaths': WHATEVER THE INPUT: true; the input reads as it did. -/
def wordsPathsSpec : ChangeSpec := { name := "wordsPaths", fn := fun _ => fun
  | [d1, d2] => { results := [.lit (.bool true)], args := [d1, d2] }
  | _ => none }
def wordsPathsRow : OpenClaim := { program := "ytcgdocdpdapglaa", sum := "c223079809c053671560d1a069ef7605f7192d3acdf16dbaca5ba4b9665e76d2", func := "farrier/farrierlaw01.WordsPaths", spec := "wordsPaths", apart := false }
def WordsPathsSaid : Prop := wordsPathsRow.holds Try.pinned (OpenSpec.ofChange wordsPathsSpec)

/-- ITS FALSE NEIGHBOUR: 'it returns false'. Refute it at one input. -/
def wordsPathsWrong : ChangeSpec := { name := "wordsPaths", fn := fun _ => fun
  | [d1, d2] => { results := [.lit (.bool false)], args := [d1, d2] }
  | _ => none }
def WordsPathsWrongFalsely : Prop := wordsPathsRow.holds Try.pinned (OpenSpec.ofChange wordsPathsWrong)

/-- 'farrierlaw01.WordsEscapes': WHATEVER THE INPUT: true; the input reads as it did. -/
def wordsEscapesSpec : ChangeSpec := { name := "wordsEscapes", fn := fun _ => fun
  | [d] => { results := [.lit (.bool true)], args := [d] }
  | _ => none }
def wordsEscapesRow : OpenClaim := { program := "ytcgdocdpdapglaa", sum := "c223079809c053671560d1a069ef7605f7192d3acdf16dbaca5ba4b9665e76d2", func := "farrier/farrierlaw01.WordsEscapes", spec := "wordsEscapes", apart := false }
def WordsEscapesSaid : Prop := wordsEscapesRow.holds Try.pinned (OpenSpec.ofChange wordsEscapesSpec)

/-- ITS FALSE NEIGHBOUR: 'it returns false'. Refute it at one input. -/
def wordsEscapesWrong : ChangeSpec := { name := "wordsEscapes", fn := fun _ => fun
  | [d] => { results := [.lit (.bool false)], args := [d] }
  | _ => none }
def WordsEscapesWrongFalsely : Prop := wordsEscapesRow.holds Try.pinned (OpenSpec.ofChange wordsEscapesWrong)

/-- 'farrierlaw01.WordsBack': WHATEVER THE INPUT: true; the input reads as it did. -/
def wordsBackSpec : ChangeSpec := { name := "wordsBack", fn := fun _ => fun
  | [d1, d2] => { results := [.lit (.bool true)], args := [d1, d2] }
  | _ => none }
def wordsBackRow : OpenClaim := { program := "ytcgdocdpdapglaa", sum := "c223079809c053671560d1a069ef7605f7192d3acdf16dbaca5ba4b9665e76d2", func := "farrier/farrierlaw01.WordsBack", spec := "wordsBack", apart := false }
def WordsBackSaid : Prop := wordsBackRow.holds Try.pinned (OpenSpec.ofChange wordsBackSpec)

/-- ITS FALSE NEIGHBOUR: 'it returns false'. Refute it at one input. -/
def wordsBackWrong : ChangeSpec := { name := "wordsBack", fn := fun _ => fun
  | [d1, d2] => { results := [.lit (.bool false)], args := [d1, d2] }
  | _ => none }
def WordsBackWrongFalsely : Prop := wordsBackRow.holds Try.pinned (OpenSpec.ofChange wordsBackWrong)

/-- 'farrierlaw01.WordsJoin': WHATEVER THE INPUT: true; the input reads as it did. -/
def wordsJoinSpec : ChangeSpec := { name := "wordsJoin", fn := fun _ => fun
  | [d1, d2] => { results := [.lit (.bool true)], args := [d1, d2] }
  | _ => none }
def wordsJoinRow : OpenClaim := { program := "ytcgdocdpdapglaa", sum := "c223079809c053671560d1a069ef7605f7192d3acdf16dbaca5ba4b9665e76d2", func := "farrier/farrierlaw01.WordsJoin", spec := "wordsJoin", apart := false }
def WordsJoinSaid : Prop := wordsJoinRow.holds Try.pinned (OpenSpec.ofChange wordsJoinSpec)

/-- ITS FALSE NEIGHBOUR: 'it returns false'. Refute it at one input. -/
def wordsJoinWrong : ChangeSpec := { name := "wordsJoin", fn := fun _ => fun
  | [d1, d2] => { results := [.lit (.bool false)], args := [d1, d2] }
  | _ => none }
def WordsJoinWrongFalsely : Prop := wordsJoinRow.holds Try.pinned (OpenSpec.ofChange wordsJoinWrong)

/-- 'farrierlaw01.WordsPieces': WHATEVER THE INPUT: true; the input reads as it did. -/
def wordsPiecesSpec : ChangeSpec := { name := "wordsPieces", fn := fun _ => fun
  | [d1, d2] => { results := [.lit (.bool true)], args := [d1, d2] }
  | _ => none }
def wordsPiecesRow : OpenClaim := { program := "ytcgdocdpdapglaa", sum := "c223079809c053671560d1a069ef7605f7192d3acdf16dbaca5ba4b9665e76d2", func := "farrier/farrierlaw01.WordsPieces", spec := "wordsPieces", apart := false }
def WordsPiecesSaid : Prop := wordsPiecesRow.holds Try.pinned (OpenSpec.ofChange wordsPiecesSpec)

/-- ITS FALSE NEIGHBOUR: 'it returns false'. Refute it at one input. -/
def wordsPiecesWrong : ChangeSpec := { name := "wordsPieces", fn := fun _ => fun
  | [d1, d2] => { results := [.lit (.bool false)], args := [d1, d2] }
  | _ => none }
def WordsPiecesWrongFalsely : Prop := wordsPiecesRow.holds Try.pinned (OpenSpec.ofChange wordsPiecesWrong)

/-- 'farrierlaw01.WordsOnce': WHATEVER THE INPUT: true; the input reads as it did. -/
def wordsOnceSpec : ChangeSpec := { name := "wordsOnce", fn := fun _ => fun
  | [d1, d2] => { results := [.lit (.bool true)], args := [d1, d2] }
  | _ => none }
def wordsOnceRow : OpenClaim := { program := "ytcgdocdpdapglaa", sum := "c223079809c053671560d1a069ef7605f7192d3acdf16dbaca5ba4b9665e76d2", func := "farrier/farrierlaw01.WordsOnce", spec := "wordsOnce", apart := false }
def WordsOnceSaid : Prop := wordsOnceRow.holds Try.pinned (OpenSpec.ofChange wordsOnceSpec)

/-- ITS FALSE NEIGHBOUR: 'it returns false'. Refute it at one input. -/
def wordsOnceWrong : ChangeSpec := { name := "wordsOnce", fn := fun _ => fun
  | [d1, d2] => { results := [.lit (.bool false)], args := [d1, d2] }
  | _ => none }
def WordsOnceWrongFalsely : Prop := wordsOnceRow.holds Try.pinned (OpenSpec.ofChange wordsOnceWrong)

/- THE SECOND FORM. 'bulk': how many values and letters a reading holds, each counted each time it is reached (what is shared counts as often as it is met; a slice's spare places count too). A statement '..UptoSaid' is the law's where the arguments, and the package variables that the reading takes, are together of bulk at most 1048576: NARROWER than '..Said'. Prove '..Said' where nothing that the law and all that it calls make is longer than what came in: it says more and counts as full. Else prove '..UptoSaid'. A law counts once. -/
mutual
def uptoBulk {H : Type} : DataW H → Nat
  | .lit (.string bytes) => bytes.length + 1
  | .lit _ => 1
  | .nil => 1
  | .ptr d => uptoBulk d + 1
  | .slice elems spare => uptoBulkAll elems + uptoBulkAll spare + 1
  | .agg parts => uptoBulkAll parts + 1
  | .iface _ d => uptoBulk d + 1
  | .map entries => uptoBulkEntries entries + 1
  | .held _ => 1
def uptoBulkAll {H : Type} : List (DataW H) → Nat
  | [] => 0
  | d :: r => uptoBulk d + uptoBulkAll r
def uptoBulkEntries {H : Type} : List (Lit × DataW H) → Nat
  | [] => 0
  | x :: r => uptoBulkEntry x + uptoBulkEntries r
def uptoBulkEntry {H : Type} : Lit × DataW H → Nat
  | (.string bytes, d) => bytes.length + uptoBulk d + 1
  | (_, d) => uptoBulk d + 1
 end
def uptoSmall : (H : Type) → List (DataW H) → Bool := fun _ ds => decide (uptoBulkAll ds ≤ 1048576)
def OpenSpec.upto (s : _root_.Go.ChangeSpec) : _root_.Go.OpenSpec := { _root_.Go.OpenSpec.ofChange s with cond := some uptoSmall }

/-- 'farrierlaw01.WordsTexts', WHERE WHAT IT READS IS OF BULK AT MOST 1048576: true; the input reads as it did. -/
def wordsTextsUptoRow : OpenClaim := { program := "ytcgdocdpdapglaa", sum := "c223079809c053671560d1a069ef7605f7192d3acdf16dbaca5ba4b9665e76d2", func := "farrier/farrierlaw01.WordsTexts", spec := "wordsTexts", apart := false, narrowed := true }
def WordsTextsUptoSaid : Prop := wordsTextsUptoRow.holds Try.pinned (OpenSpec.upto wordsTextsSpec)

/-- 'farrierlaw01.WordsPaths', WHERE WHAT IT READS IS OF BULK AT MOST 1048576: true; the input reads as it did. -/
def wordsPathsUptoRow : OpenClaim := { program := "ytcgdocdpdapglaa", sum := "c223079809c053671560d1a069ef7605f7192d3acdf16dbaca5ba4b9665e76d2", func := "farrier/farrierlaw01.WordsPaths", spec := "wordsPaths", apart := false, narrowed := true }
def WordsPathsUptoSaid : Prop := wordsPathsUptoRow.holds Try.pinned (OpenSpec.upto wordsPathsSpec)

/-- 'farrierlaw01.WordsEscapes', WHERE WHAT IT READS IS OF BULK AT MOST 1048576: true; the input reads as it did. -/
def wordsEscapesUptoRow : OpenClaim := { program := "ytcgdocdpdapglaa", sum := "c223079809c053671560d1a069ef7605f7192d3acdf16dbaca5ba4b9665e76d2", func := "farrier/farrierlaw01.WordsEscapes", spec := "wordsEscapes", apart := false, narrowed := true }
def WordsEscapesUptoSaid : Prop := wordsEscapesUptoRow.holds Try.pinned (OpenSpec.upto wordsEscapesSpec)

/-- 'farrierlaw01.WordsBack', WHERE WHAT IT READS IS OF BULK AT MOST 1048576: true; the input reads as it did. -/
def wordsBackUptoRow : OpenClaim := { program := "ytcgdocdpdapglaa", sum := "c223079809c053671560d1a069ef7605f7192d3acdf16dbaca5ba4b9665e76d2", func := "farrier/farrierlaw01.WordsBack", spec := "wordsBack", apart := false, narrowed := true }
def WordsBackUptoSaid : Prop := wordsBackUptoRow.holds Try.pinned (OpenSpec.upto wordsBackSpec)

/-- 'farrierlaw01.WordsJoin', WHERE WHAT IT READS IS OF BULK AT MOST 1048576: true; the input reads as it did. -/
def wordsJoinUptoRow : OpenClaim := { program := "ytcgdocdpdapglaa", sum := "c223079809c053671560d1a069ef7605f7192d3acdf16dbaca5ba4b9665e76d2", func := "farrier/farrierlaw01.WordsJoin", spec := "wordsJoin", apart := false, narrowed := true }
def WordsJoinUptoSaid : Prop := wordsJoinUptoRow.holds Try.pinned (OpenSpec.upto wordsJoinSpec)

/-- 'farrierlaw01.WordsPieces', WHERE WHAT IT READS IS OF BULK AT MOST 1048576: true; the input reads as it did. -/
def wordsPiecesUptoRow : OpenClaim := { program := "ytcgdocdpdapglaa", sum := "c223079809c053671560d1a069ef7605f7192d3acdf16dbaca5ba4b9665e76d2", func := "farrier/farrierlaw01.WordsPieces", spec := "wordsPieces", apart := false, narrowed := true }
def WordsPiecesUptoSaid : Prop := wordsPiecesUptoRow.holds Try.pinned (OpenSpec.upto wordsPiecesSpec)

/-- 'farrierlaw01.WordsOnce', WHERE WHAT IT READS IS OF BULK AT MOST 1048576: true; the input reads as it did. -/
def wordsOnceUptoRow : OpenClaim := { program := "ytcgdocdpdapglaa", sum := "c223079809c053671560d1a069ef7605f7192d3acdf16dbaca5ba4b9665e76d2", func := "farrier/farrierlaw01.WordsOnce", spec := "wordsOnce", apart := false, narrowed := true }
def WordsOnceUptoSaid : Prop := wordsOnceUptoRow.holds Try.pinned (OpenSpec.upto wordsOnceSpec)

end Rows
end Go.Proofs.Ytcgdocdpdapglaa
