/-
  DERIVED. GIVEN WITH THE SEED: THE CARDS: each row of YtnpcofaonimpcaaDoorRows.lean that lists a variable, with what it lists TIED to the program's text (the seventh form; the later family's looks); each row that meets fmt, with fmt's text TOLD by the authors' own Lean function (tested against real Go, not proved from fmt's source: count such statements apart). THE CARD IS WHAT COUNTS. Prove the row's statement (the work); the ties are given (YtnpcofaonimpcaaDoorTie.lean); close each card by the builder's one call (the guide's Derived/Test/ToyasCard.lean, 'card_holds'). Laid BY PROGRAM, IN A SANDBOX (cutbox-door.mjs). By AI agents, Wed Nov 11 2026. No macro, syntax, notation, axiom, sorry.
-/
import Derived.Test.YtnpcofaonimpcaaDoorRows
import GoSem.ClaimSeven
namespace Go.Proofs.YtnpcofaonimpcaaDoor
namespace Rows

/-- THE TIED CARD OF 'whipcordkeep.RangeJust'. -/
def rangeJustCard : Claim7 := { stood := { row := rangeJustRow, standIns := [], harness := (true, "1274acac47581225a5d2711bfca6ffee88a6a6e4eb491df610dc9e3b5e9e2181"), looks := false }, kinds := [], alts := [], laidByText := true, laidKinds := [.data], laidTests := true, laidLooks := .later }
def RangeJustCardSaid : Prop := Claim7.holds Tryd.pinned (.plain (OpenSpec.ofChange rangeJustSpec)) rangeJustCard

/-- THE TIED CARD OF 'whipcordkeep.MergeSame'. -/
def mergeSameCard : Claim7 := { stood := { row := mergeSameRow, standIns := [], harness := (true, "1274acac47581225a5d2711bfca6ffee88a6a6e4eb491df610dc9e3b5e9e2181"), looks := false }, kinds := [], alts := [], laidByText := true, laidKinds := [.data], laidTests := true, laidLooks := .later }
def MergeSameCardSaid : Prop := Claim7.holds Tryd.pinned (.plain (OpenSpec.ofChange mergeSameSpec)) mergeSameCard

/-- THE TIED CARD OF 'whipcordkeep.SetAlgebra'. -/
def setAlgebraCard : Claim7 := { stood := { row := setAlgebraRow, standIns := [], harness := (true, "1274acac47581225a5d2711bfca6ffee88a6a6e4eb491df610dc9e3b5e9e2181"), looks := false }, kinds := [], alts := [], laidByText := true, laidKinds := [.data], laidTests := true, laidLooks := .later }
def SetAlgebraCardSaid : Prop := Claim7.holds Tryd.pinned (.plain (OpenSpec.ofChange setAlgebraSpec)) setAlgebraCard

/-- THE SECOND FORM's CARD OF 'whipcordkeep.RangeJust'. -/
def rangeJustUptoCard : Claim7 := { stood := { row := rangeJustUptoRow, standIns := [], harness := (true, "1274acac47581225a5d2711bfca6ffee88a6a6e4eb491df610dc9e3b5e9e2181"), looks := false }, kinds := [], alts := [], laidByText := true, laidKinds := [.data], laidTests := true, laidLooks := .later }
def RangeJustUptoCardSaid : Prop := Claim7.holds Tryd.pinned (.plain (OpenSpec.upto rangeJustSpec)) rangeJustUptoCard

/-- THE SECOND FORM's CARD OF 'whipcordkeep.MergeSame'. -/
def mergeSameUptoCard : Claim7 := { stood := { row := mergeSameUptoRow, standIns := [], harness := (true, "1274acac47581225a5d2711bfca6ffee88a6a6e4eb491df610dc9e3b5e9e2181"), looks := false }, kinds := [], alts := [], laidByText := true, laidKinds := [.data], laidTests := true, laidLooks := .later }
def MergeSameUptoCardSaid : Prop := Claim7.holds Tryd.pinned (.plain (OpenSpec.upto mergeSameSpec)) mergeSameUptoCard

/-- THE SECOND FORM's CARD OF 'whipcordkeep.SetAlgebra'. -/
def setAlgebraUptoCard : Claim7 := { stood := { row := setAlgebraUptoRow, standIns := [], harness := (true, "1274acac47581225a5d2711bfca6ffee88a6a6e4eb491df610dc9e3b5e9e2181"), looks := false }, kinds := [], alts := [], laidByText := true, laidKinds := [.data], laidTests := true, laidLooks := .later }
def SetAlgebraUptoCardSaid : Prop := Claim7.holds Tryd.pinned (.plain (OpenSpec.upto setAlgebraSpec)) setAlgebraUptoCard
end Rows
end Go.Proofs.YtnpcofaonimpcaaDoor
