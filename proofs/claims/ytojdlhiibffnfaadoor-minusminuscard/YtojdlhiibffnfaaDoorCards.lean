/-
  DERIVED. GIVEN WITH THE SEED: THE CARDS: each row of YtojdlhiibffnfaaDoorRows.lean that lists a variable, with what it lists TIED to the program's text (the seventh form; the later family's looks); each row that meets fmt, with fmt's text TOLD by the authors' own Lean function (tested against real Go, not proved from fmt's source: count such statements apart). THE CARD IS WHAT COUNTS. Prove the row's statement (the work); the ties are given (YtojdlhiibffnfaaDoorTie.lean); close each card by the builder's one call (the guide's Derived/Test/ToyasCard.lean, 'card_holds'). Laid BY PROGRAM, IN A SANDBOX (cutbox-door.mjs). By AI agents, Wed Nov 11 2026. No macro, syntax, notation, axiom, sorry.
-/
import Derived.Test.YtojdlhiibffnfaaDoorRows
import GoSem.ClaimSeven
namespace Go.Proofs.YtojdlhiibffnfaaDoor
namespace Rows

/-- THE TIED CARD OF 'whipcordlaw.CidrRanges'. -/
def cidrRangesCard : Claim7 := { stood := { row := cidrRangesRow, standIns := [], harness := (true, "581c8a3d66a294ae5f3005626e660b13af6881a9c9eb62eef8e80394f07cede2"), looks := false }, kinds := [], alts := [], laidByText := true, laidKinds := [.data], laidTests := true, laidLooks := .later }
def CidrRangesCardSaid : Prop := Claim7.holds Tryd.pinned (.plain (OpenSpec.ofChange cidrRangesSpec)) cidrRangesCard

/-- THE TIED CARD OF 'whipcordlaw.CidrMerges'. -/
def cidrMergesCard : Claim7 := { stood := { row := cidrMergesRow, standIns := [], harness := (true, "581c8a3d66a294ae5f3005626e660b13af6881a9c9eb62eef8e80394f07cede2"), looks := false }, kinds := [], alts := [], laidByText := true, laidKinds := [.data], laidTests := true, laidLooks := .later }
def CidrMergesCardSaid : Prop := Claim7.holds Tryd.pinned (.plain (OpenSpec.ofChange cidrMergesSpec)) cidrMergesCard

/-- THE TIED CARD OF 'whipcordlaw.CidrMinuses'. -/
def cidrMinusesCard : Claim7 := { stood := { row := cidrMinusesRow, standIns := [], harness := (true, "581c8a3d66a294ae5f3005626e660b13af6881a9c9eb62eef8e80394f07cede2"), looks := false }, kinds := [], alts := [], laidByText := true, laidKinds := [.data], laidTests := true, laidLooks := .later }
def CidrMinusesCardSaid : Prop := Claim7.holds Tryd.pinned (.plain (OpenSpec.ofChange cidrMinusesSpec)) cidrMinusesCard

/-- THE TIED CARD OF 'whipcordlaw.CidrBoths'. -/
def cidrBothsCard : Claim7 := { stood := { row := cidrBothsRow, standIns := [], harness := (true, "581c8a3d66a294ae5f3005626e660b13af6881a9c9eb62eef8e80394f07cede2"), looks := false }, kinds := [], alts := [], laidByText := true, laidKinds := [.data], laidTests := true, laidLooks := .later }
def CidrBothsCardSaid : Prop := Claim7.holds Tryd.pinned (.plain (OpenSpec.ofChange cidrBothsSpec)) cidrBothsCard

/-- THE TIED CARD OF 'whipcordkeep.RangeJust'. -/
def rangeJustCard : Claim7 := { stood := { row := rangeJustRow, standIns := [], harness := (true, "581c8a3d66a294ae5f3005626e660b13af6881a9c9eb62eef8e80394f07cede2"), looks := false }, kinds := [], alts := [], laidByText := true, laidKinds := [.data], laidTests := true, laidLooks := .later }
def RangeJustCardSaid : Prop := Claim7.holds Tryd.pinned (.plain (OpenSpec.ofChange rangeJustSpec)) rangeJustCard

/-- THE TIED CARD OF 'whipcordkeep.MergeSame'. -/
def mergeSameCard : Claim7 := { stood := { row := mergeSameRow, standIns := [], harness := (true, "581c8a3d66a294ae5f3005626e660b13af6881a9c9eb62eef8e80394f07cede2"), looks := false }, kinds := [], alts := [], laidByText := true, laidKinds := [.data], laidTests := true, laidLooks := .later }
def MergeSameCardSaid : Prop := Claim7.holds Tryd.pinned (.plain (OpenSpec.ofChange mergeSameSpec)) mergeSameCard

/-- THE TIED CARD OF 'whipcordkeep.SetAlgebra'. -/
def setAlgebraCard : Claim7 := { stood := { row := setAlgebraRow, standIns := [], harness := (true, "581c8a3d66a294ae5f3005626e660b13af6881a9c9eb62eef8e80394f07cede2"), looks := false }, kinds := [], alts := [], laidByText := true, laidKinds := [.data], laidTests := true, laidLooks := .later }
def SetAlgebraCardSaid : Prop := Claim7.holds Tryd.pinned (.plain (OpenSpec.ofChange setAlgebraSpec)) setAlgebraCard

/-- THE TIED CARD OF 'whipcordkeep.RangeCut'. -/
def rangeCutCard : Claim7 := { stood := { row := rangeCutRow, standIns := [], harness := (true, "581c8a3d66a294ae5f3005626e660b13af6881a9c9eb62eef8e80394f07cede2"), looks := false }, kinds := [], alts := [], laidByText := true, laidKinds := [.data], laidTests := true, laidLooks := .later }
def RangeCutCardSaid : Prop := Claim7.holds Tryd.pinned (.plain (OpenSpec.ofChange rangeCutSpec)) rangeCutCard

/-- THE TIED CARD OF 'whipcordkeep.MinusMinus'. -/
def minusMinusCard : Claim7 := { stood := { row := minusMinusRow, standIns := [], harness := (true, "581c8a3d66a294ae5f3005626e660b13af6881a9c9eb62eef8e80394f07cede2"), looks := false }, kinds := [], alts := [], laidByText := true, laidKinds := [.data], laidTests := true, laidLooks := .later }
def MinusMinusCardSaid : Prop := Claim7.holds Tryd.pinned (.plain (OpenSpec.ofChange minusMinusSpec)) minusMinusCard

/-- THE SECOND FORM's CARD OF 'whipcordlaw.CidrRanges'. -/
def cidrRangesUptoCard : Claim7 := { stood := { row := cidrRangesUptoRow, standIns := [], harness := (true, "581c8a3d66a294ae5f3005626e660b13af6881a9c9eb62eef8e80394f07cede2"), looks := false }, kinds := [], alts := [], laidByText := true, laidKinds := [.data], laidTests := true, laidLooks := .later }
def CidrRangesUptoCardSaid : Prop := Claim7.holds Tryd.pinned (.plain (OpenSpec.upto cidrRangesSpec)) cidrRangesUptoCard

/-- THE SECOND FORM's CARD OF 'whipcordlaw.CidrMerges'. -/
def cidrMergesUptoCard : Claim7 := { stood := { row := cidrMergesUptoRow, standIns := [], harness := (true, "581c8a3d66a294ae5f3005626e660b13af6881a9c9eb62eef8e80394f07cede2"), looks := false }, kinds := [], alts := [], laidByText := true, laidKinds := [.data], laidTests := true, laidLooks := .later }
def CidrMergesUptoCardSaid : Prop := Claim7.holds Tryd.pinned (.plain (OpenSpec.upto cidrMergesSpec)) cidrMergesUptoCard

/-- THE SECOND FORM's CARD OF 'whipcordlaw.CidrMinuses'. -/
def cidrMinusesUptoCard : Claim7 := { stood := { row := cidrMinusesUptoRow, standIns := [], harness := (true, "581c8a3d66a294ae5f3005626e660b13af6881a9c9eb62eef8e80394f07cede2"), looks := false }, kinds := [], alts := [], laidByText := true, laidKinds := [.data], laidTests := true, laidLooks := .later }
def CidrMinusesUptoCardSaid : Prop := Claim7.holds Tryd.pinned (.plain (OpenSpec.upto cidrMinusesSpec)) cidrMinusesUptoCard

/-- THE SECOND FORM's CARD OF 'whipcordlaw.CidrBoths'. -/
def cidrBothsUptoCard : Claim7 := { stood := { row := cidrBothsUptoRow, standIns := [], harness := (true, "581c8a3d66a294ae5f3005626e660b13af6881a9c9eb62eef8e80394f07cede2"), looks := false }, kinds := [], alts := [], laidByText := true, laidKinds := [.data], laidTests := true, laidLooks := .later }
def CidrBothsUptoCardSaid : Prop := Claim7.holds Tryd.pinned (.plain (OpenSpec.upto cidrBothsSpec)) cidrBothsUptoCard

/-- THE SECOND FORM's CARD OF 'whipcordkeep.RangeJust'. -/
def rangeJustUptoCard : Claim7 := { stood := { row := rangeJustUptoRow, standIns := [], harness := (true, "581c8a3d66a294ae5f3005626e660b13af6881a9c9eb62eef8e80394f07cede2"), looks := false }, kinds := [], alts := [], laidByText := true, laidKinds := [.data], laidTests := true, laidLooks := .later }
def RangeJustUptoCardSaid : Prop := Claim7.holds Tryd.pinned (.plain (OpenSpec.upto rangeJustSpec)) rangeJustUptoCard

/-- THE SECOND FORM's CARD OF 'whipcordkeep.MergeSame'. -/
def mergeSameUptoCard : Claim7 := { stood := { row := mergeSameUptoRow, standIns := [], harness := (true, "581c8a3d66a294ae5f3005626e660b13af6881a9c9eb62eef8e80394f07cede2"), looks := false }, kinds := [], alts := [], laidByText := true, laidKinds := [.data], laidTests := true, laidLooks := .later }
def MergeSameUptoCardSaid : Prop := Claim7.holds Tryd.pinned (.plain (OpenSpec.upto mergeSameSpec)) mergeSameUptoCard

/-- THE SECOND FORM's CARD OF 'whipcordkeep.SetAlgebra'. -/
def setAlgebraUptoCard : Claim7 := { stood := { row := setAlgebraUptoRow, standIns := [], harness := (true, "581c8a3d66a294ae5f3005626e660b13af6881a9c9eb62eef8e80394f07cede2"), looks := false }, kinds := [], alts := [], laidByText := true, laidKinds := [.data], laidTests := true, laidLooks := .later }
def SetAlgebraUptoCardSaid : Prop := Claim7.holds Tryd.pinned (.plain (OpenSpec.upto setAlgebraSpec)) setAlgebraUptoCard

/-- THE SECOND FORM's CARD OF 'whipcordkeep.RangeCut'. -/
def rangeCutUptoCard : Claim7 := { stood := { row := rangeCutUptoRow, standIns := [], harness := (true, "581c8a3d66a294ae5f3005626e660b13af6881a9c9eb62eef8e80394f07cede2"), looks := false }, kinds := [], alts := [], laidByText := true, laidKinds := [.data], laidTests := true, laidLooks := .later }
def RangeCutUptoCardSaid : Prop := Claim7.holds Tryd.pinned (.plain (OpenSpec.upto rangeCutSpec)) rangeCutUptoCard

/-- THE SECOND FORM's CARD OF 'whipcordkeep.MinusMinus'. -/
def minusMinusUptoCard : Claim7 := { stood := { row := minusMinusUptoRow, standIns := [], harness := (true, "581c8a3d66a294ae5f3005626e660b13af6881a9c9eb62eef8e80394f07cede2"), looks := false }, kinds := [], alts := [], laidByText := true, laidKinds := [.data], laidTests := true, laidLooks := .later }
def MinusMinusUptoCardSaid : Prop := Claim7.holds Tryd.pinned (.plain (OpenSpec.upto minusMinusSpec)) minusMinusUptoCard
end Rows
end Go.Proofs.YtojdlhiibffnfaaDoor
