/-
  DERIVED. GIVEN WITH THE SEED: THE CARDS: each row of YtbkaemekcjinaaaDoorRows.lean that lists a variable, with what it lists TIED to the program's text (the seventh form; the later family's looks); each row that meets fmt, with fmt's text TOLD by the authors' own Lean function (tested against real Go, not proved from fmt's source: count such statements apart). THE CARD IS WHAT COUNTS. Prove the row's statement (the work); the ties are given (YtbkaemekcjinaaaDoorTie.lean); close each card by the builder's one call (the guide's Derived/Test/ToyasCard.lean, 'card_holds'). Laid BY PROGRAM, IN A SANDBOX (cutbox-door.mjs). By AI agents, Wed Nov 11 2026. No macro, syntax, notation, axiom, sorry.
-/
import Derived.Test.YtbkaemekcjinaaaDoorRows
import GoSem.ClaimSeven
namespace Go.Proofs.YtbkaemekcjinaaaDoor
namespace Rows

/-- THE TIED CARD OF 'farrierlaw03.Sha2Ones'. -/
def sha2OnesCard : Claim7 := { stood := { row := sha2OnesRow, standIns := [], harness := (true, "afb8c2b26615a78a39789e379f4441df44dfea0d8d92de1b731616a595892c45"), looks := false }, kinds := [], alts := [], laidByText := true, laidKinds := [.data, .data], laidTests := true, laidLooks := .later }
def Sha2OnesCardSaid : Prop := Claim7.holds Tryd.pinned (.plain (OpenSpec.ofChange sha2OnesSpec)) sha2OnesCard

/-- THE TIED CARD OF 'farrierlaw03.Sha2Pieces'. -/
def sha2PiecesCard : Claim7 := { stood := { row := sha2PiecesRow, standIns := [], harness := (true, "afb8c2b26615a78a39789e379f4441df44dfea0d8d92de1b731616a595892c45"), looks := false }, kinds := [], alts := [], laidByText := true, laidKinds := [.data, .data], laidTests := true, laidLooks := .later }
def Sha2PiecesCardSaid : Prop := Claim7.holds Tryd.pinned (.plain (OpenSpec.ofChange sha2PiecesSpec)) sha2PiecesCard

/-- THE TIED CARD OF 'farrierlaw03.Sha2Blocks'. -/
def sha2BlocksCard : Claim7 := { stood := { row := sha2BlocksRow, standIns := [], harness := (true, "afb8c2b26615a78a39789e379f4441df44dfea0d8d92de1b731616a595892c45"), looks := false }, kinds := [], alts := [], laidByText := true, laidKinds := [.data, .data], laidTests := true, laidLooks := .later }
def Sha2BlocksCardSaid : Prop := Claim7.holds Tryd.pinned (.plain (OpenSpec.ofChange sha2BlocksSpec)) sha2BlocksCard

/-- THE TIED CARD OF 'farrierlaw03.Sha2Sizes'. -/
def sha2SizesCard : Claim7 := { stood := { row := sha2SizesRow, standIns := [], harness := (true, "afb8c2b26615a78a39789e379f4441df44dfea0d8d92de1b731616a595892c45"), looks := false }, kinds := [], alts := [], laidByText := true, laidKinds := [.data, .data], laidTests := true, laidLooks := .later }
def Sha2SizesCardSaid : Prop := Claim7.holds Tryd.pinned (.plain (OpenSpec.ofChange sha2SizesSpec)) sha2SizesCard

/-- THE SECOND FORM's CARD OF 'farrierlaw03.Sha2Ones'. -/
def sha2OnesUptoCard : Claim7 := { stood := { row := sha2OnesUptoRow, standIns := [], harness := (true, "afb8c2b26615a78a39789e379f4441df44dfea0d8d92de1b731616a595892c45"), looks := false }, kinds := [], alts := [], laidByText := true, laidKinds := [.data, .data], laidTests := true, laidLooks := .later }
def Sha2OnesUptoCardSaid : Prop := Claim7.holds Tryd.pinned (.plain (OpenSpec.upto sha2OnesSpec)) sha2OnesUptoCard

/-- THE SECOND FORM's CARD OF 'farrierlaw03.Sha2Pieces'. -/
def sha2PiecesUptoCard : Claim7 := { stood := { row := sha2PiecesUptoRow, standIns := [], harness := (true, "afb8c2b26615a78a39789e379f4441df44dfea0d8d92de1b731616a595892c45"), looks := false }, kinds := [], alts := [], laidByText := true, laidKinds := [.data, .data], laidTests := true, laidLooks := .later }
def Sha2PiecesUptoCardSaid : Prop := Claim7.holds Tryd.pinned (.plain (OpenSpec.upto sha2PiecesSpec)) sha2PiecesUptoCard

/-- THE SECOND FORM's CARD OF 'farrierlaw03.Sha2Blocks'. -/
def sha2BlocksUptoCard : Claim7 := { stood := { row := sha2BlocksUptoRow, standIns := [], harness := (true, "afb8c2b26615a78a39789e379f4441df44dfea0d8d92de1b731616a595892c45"), looks := false }, kinds := [], alts := [], laidByText := true, laidKinds := [.data, .data], laidTests := true, laidLooks := .later }
def Sha2BlocksUptoCardSaid : Prop := Claim7.holds Tryd.pinned (.plain (OpenSpec.upto sha2BlocksSpec)) sha2BlocksUptoCard

/-- THE SECOND FORM's CARD OF 'farrierlaw03.Sha2Sizes'. -/
def sha2SizesUptoCard : Claim7 := { stood := { row := sha2SizesUptoRow, standIns := [], harness := (true, "afb8c2b26615a78a39789e379f4441df44dfea0d8d92de1b731616a595892c45"), looks := false }, kinds := [], alts := [], laidByText := true, laidKinds := [.data, .data], laidTests := true, laidLooks := .later }
def Sha2SizesUptoCardSaid : Prop := Claim7.holds Tryd.pinned (.plain (OpenSpec.upto sha2SizesSpec)) sha2SizesUptoCard
end Rows
end Go.Proofs.YtbkaemekcjinaaaDoor
