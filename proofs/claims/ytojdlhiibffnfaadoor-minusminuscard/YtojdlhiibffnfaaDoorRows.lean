/-
  NARROWER THAN 'FOR EVERY INPUT', by the rows' own cells (each row's printed sentence says how): CidrRanges: laid · CidrMerges: laid · CidrMinuses: laid · CidrBoths: laid · RangeJust: laid · MergeSame: laid · SetAlgebra: laid · RangeCut: laid · MinusMinus: laid.
  DERIVED. THE GIVEN ROWS OF THIS SEAT. 9 by the template 'for every input the law returns true; each argument reads behind the call as it read before'; 0 by the template 'total and deterministic' (their statements: YtojdlhiibffnfaaDoorTotals.lean).
  GIVEN WITH THE SEED: the statements are not yours to turn. If you find one false, say at which input.
  Laid BY PROGRAM, IN A SANDBOX (cutbox-rows.mjs): the forced cells as the released guide's own fill.sh prints them over the translation f03173c365b11ae1… (all of the seat's roots in one cut). By AI agents, Wed Nov 11 2026. No macro, syntax, notation, axiom, sorry.
-/
import Derived.Test.YtojdlhiibffnfaaDoorChecked
import GoSem.Claim
import GoSem.ClaimJoined
import GoSem.ClaimMapViews
import Derived.JoinedTies
import Derived.KernelRfl
namespace Go.Proofs.YtojdlhiibffnfaaDoor
/- THE CELL 'sum', in the pinned program and in every row, IS THE sha256 OF THE DUMP (.gsa) THAT YtojdlhiibffnfaaDoorProg.lean LOADS. Nothing in Lean hashes anything: it is a label: what it is worth is what the hold of that sum in a sandbox is worth. -/
noncomputable def Tryd.pinned : Pinned := { name := "ytojdlhiibffnfaadoor", sum := "f03173c365b11ae11c9c606d75610d0c1db6b82cc2ac1428bbbbc6947e9369d8", checked := Tryd.checked }
namespace Rows
def none {H : Type} : Left H := { results := [], args := [] }

/- WHAT THE LISTED PACKAGE-LEVEL VARIABLES READ AS WHEN THE CALL BEGINS. Each datum BY PROGRAM (the guide's laid-datum.mjs) off the statement by which the dump's own 'gosem.cut.vars' lays the variable. In a bare row this is a premise. The card (YtojdlhiibffnfaaDoorCards.lean) ties it to the program's text. -/
def laid_whipcord_cidr_families {H : Type} : DataW H := .agg [.agg [.agg [.lit (.bool false), .lit (.int .u64 0), .lit (.int .u64 0)], .lit (.int .i64 0)], .agg [.agg [.lit (.bool true), .lit (.int .u64 0), .lit (.int .u64 0)], .lit (.int .i64 0)]]

/-- 'whipcordlaw.CidrRanges': WHATEVER THE INPUT: true; the input reads as it did. -/
def cidrRangesSpec : ChangeSpec := { name := "cidrRanges", fn := fun _ => fun
  | [d1, d2] => { results := [.lit (.bool true)], args := [d1, d2] }
  | _ => none }
def cidrRangesRow : OpenClaim := { program := "ytojdlhiibffnfaadoor", sum := "f03173c365b11ae11c9c606d75610d0c1db6b82cc2ac1428bbbbc6947e9369d8", func := "whipcord/whipcordlaw.CidrRanges", spec := "cidrRanges", unfollowed := true, recurses := true, named := ["whipcord/cidr.families"], apart := false, laid := [("whipcord/cidr.families", laid_whipcord_cidr_families)] }
def CidrRangesSaid : Prop := cidrRangesRow.holds Tryd.pinned (OpenSpec.ofChange cidrRangesSpec)

/-- ITS FALSE NEIGHBOUR: 'it returns false'. Refute it at one input. -/
def cidrRangesWrong : ChangeSpec := { name := "cidrRanges", fn := fun _ => fun
  | [d1, d2] => { results := [.lit (.bool false)], args := [d1, d2] }
  | _ => none }
def CidrRangesWrongFalsely : Prop := cidrRangesRow.holds Tryd.pinned (OpenSpec.ofChange cidrRangesWrong)

/-- 'whipcordlaw.CidrMerges': WHATEVER THE INPUT: true; the input reads as it did. -/
def cidrMergesSpec : ChangeSpec := { name := "cidrMerges", fn := fun _ => fun
  | [d] => { results := [.lit (.bool true)], args := [d] }
  | _ => none }
def cidrMergesRow : OpenClaim := { program := "ytojdlhiibffnfaadoor", sum := "f03173c365b11ae11c9c606d75610d0c1db6b82cc2ac1428bbbbc6947e9369d8", func := "whipcord/whipcordlaw.CidrMerges", spec := "cidrMerges", unfollowed := true, recurses := true, named := ["whipcord/cidr.families"], apart := false, laid := [("whipcord/cidr.families", laid_whipcord_cidr_families)] }
def CidrMergesSaid : Prop := cidrMergesRow.holds Tryd.pinned (OpenSpec.ofChange cidrMergesSpec)

/-- ITS FALSE NEIGHBOUR: 'it returns false'. Refute it at one input. -/
def cidrMergesWrong : ChangeSpec := { name := "cidrMerges", fn := fun _ => fun
  | [d] => { results := [.lit (.bool false)], args := [d] }
  | _ => none }
def CidrMergesWrongFalsely : Prop := cidrMergesRow.holds Tryd.pinned (OpenSpec.ofChange cidrMergesWrong)

/-- 'whipcordlaw.CidrMinuses': WHATEVER THE INPUT: true; the input reads as it did. -/
def cidrMinusesSpec : ChangeSpec := { name := "cidrMinuses", fn := fun _ => fun
  | [d1, d2] => { results := [.lit (.bool true)], args := [d1, d2] }
  | _ => none }
def cidrMinusesRow : OpenClaim := { program := "ytojdlhiibffnfaadoor", sum := "f03173c365b11ae11c9c606d75610d0c1db6b82cc2ac1428bbbbc6947e9369d8", func := "whipcord/whipcordlaw.CidrMinuses", spec := "cidrMinuses", unfollowed := true, recurses := true, named := ["whipcord/cidr.families"], apart := false, laid := [("whipcord/cidr.families", laid_whipcord_cidr_families)] }
def CidrMinusesSaid : Prop := cidrMinusesRow.holds Tryd.pinned (OpenSpec.ofChange cidrMinusesSpec)

/-- ITS FALSE NEIGHBOUR: 'it returns false'. Refute it at one input. -/
def cidrMinusesWrong : ChangeSpec := { name := "cidrMinuses", fn := fun _ => fun
  | [d1, d2] => { results := [.lit (.bool false)], args := [d1, d2] }
  | _ => none }
def CidrMinusesWrongFalsely : Prop := cidrMinusesRow.holds Tryd.pinned (OpenSpec.ofChange cidrMinusesWrong)

/-- 'whipcordlaw.CidrBoths': WHATEVER THE INPUT: true; the input reads as it did. -/
def cidrBothsSpec : ChangeSpec := { name := "cidrBoths", fn := fun _ => fun
  | [d1, d2] => { results := [.lit (.bool true)], args := [d1, d2] }
  | _ => none }
def cidrBothsRow : OpenClaim := { program := "ytojdlhiibffnfaadoor", sum := "f03173c365b11ae11c9c606d75610d0c1db6b82cc2ac1428bbbbc6947e9369d8", func := "whipcord/whipcordlaw.CidrBoths", spec := "cidrBoths", unfollowed := true, recurses := true, named := ["whipcord/cidr.families"], apart := false, laid := [("whipcord/cidr.families", laid_whipcord_cidr_families)] }
def CidrBothsSaid : Prop := cidrBothsRow.holds Tryd.pinned (OpenSpec.ofChange cidrBothsSpec)

/-- ITS FALSE NEIGHBOUR: 'it returns false'. Refute it at one input. -/
def cidrBothsWrong : ChangeSpec := { name := "cidrBoths", fn := fun _ => fun
  | [d1, d2] => { results := [.lit (.bool false)], args := [d1, d2] }
  | _ => none }
def CidrBothsWrongFalsely : Prop := cidrBothsRow.holds Tryd.pinned (OpenSpec.ofChange cidrBothsWrong)

/-- 'whipcordkeep.RangeJust': WHATEVER THE INPUT: true; the input reads as it did. -/
def rangeJustSpec : ChangeSpec := { name := "rangeJust", fn := fun _ => fun
  | [d1, d2] => { results := [.lit (.bool true)], args := [d1, d2] }
  | _ => none }
def rangeJustRow : OpenClaim := { program := "ytojdlhiibffnfaadoor", sum := "f03173c365b11ae11c9c606d75610d0c1db6b82cc2ac1428bbbbc6947e9369d8", func := "whipcord/whipcordkeep.RangeJust", spec := "rangeJust", inPlace := ["math/bits.Sub64", "math/bits.Add64"], recurses := true, named := ["whipcord/cidr.families"], apart := false, laid := [("whipcord/cidr.families", laid_whipcord_cidr_families)] }
def RangeJustSaid : Prop := rangeJustRow.holds Tryd.pinned (OpenSpec.ofChange rangeJustSpec)

/-- ITS FALSE NEIGHBOUR: 'it returns false'. Refute it at one input. -/
def rangeJustWrong : ChangeSpec := { name := "rangeJust", fn := fun _ => fun
  | [d1, d2] => { results := [.lit (.bool false)], args := [d1, d2] }
  | _ => none }
def RangeJustWrongFalsely : Prop := rangeJustRow.holds Tryd.pinned (OpenSpec.ofChange rangeJustWrong)

/-- 'whipcordkeep.MergeSame': WHATEVER THE INPUT: true; the input reads as it did. -/
def mergeSameSpec : ChangeSpec := { name := "mergeSame", fn := fun _ => fun
  | [d1, d2, d3] => { results := [.lit (.bool true)], args := [d1, d2, d3] }
  | _ => none }
def mergeSameRow : OpenClaim := { program := "ytojdlhiibffnfaadoor", sum := "f03173c365b11ae11c9c606d75610d0c1db6b82cc2ac1428bbbbc6947e9369d8", func := "whipcord/whipcordkeep.MergeSame", spec := "mergeSame", unfollowed := true, recurses := true, named := ["whipcord/cidr.families"], apart := false, laid := [("whipcord/cidr.families", laid_whipcord_cidr_families)] }
def MergeSameSaid : Prop := mergeSameRow.holds Tryd.pinned (OpenSpec.ofChange mergeSameSpec)

/-- ITS FALSE NEIGHBOUR: 'it returns false'. Refute it at one input. -/
def mergeSameWrong : ChangeSpec := { name := "mergeSame", fn := fun _ => fun
  | [d1, d2, d3] => { results := [.lit (.bool false)], args := [d1, d2, d3] }
  | _ => none }
def MergeSameWrongFalsely : Prop := mergeSameRow.holds Tryd.pinned (OpenSpec.ofChange mergeSameWrong)

/-- 'whipcordkeep.SetAlgebra': WHATEVER THE INPUT: true; the input reads as it did. -/
def setAlgebraSpec : ChangeSpec := { name := "setAlgebra", fn := fun _ => fun
  | [d1, d2, d3] => { results := [.lit (.bool true)], args := [d1, d2, d3] }
  | _ => none }
def setAlgebraRow : OpenClaim := { program := "ytojdlhiibffnfaadoor", sum := "f03173c365b11ae11c9c606d75610d0c1db6b82cc2ac1428bbbbc6947e9369d8", func := "whipcord/whipcordkeep.SetAlgebra", spec := "setAlgebra", unfollowed := true, recurses := true, named := ["whipcord/cidr.families"], apart := false, laid := [("whipcord/cidr.families", laid_whipcord_cidr_families)] }
def SetAlgebraSaid : Prop := setAlgebraRow.holds Tryd.pinned (OpenSpec.ofChange setAlgebraSpec)

/-- ITS FALSE NEIGHBOUR: 'it returns false'. Refute it at one input. -/
def setAlgebraWrong : ChangeSpec := { name := "setAlgebra", fn := fun _ => fun
  | [d1, d2, d3] => { results := [.lit (.bool false)], args := [d1, d2, d3] }
  | _ => none }
def SetAlgebraWrongFalsely : Prop := setAlgebraRow.holds Tryd.pinned (OpenSpec.ofChange setAlgebraWrong)

/-- 'whipcordkeep.RangeCut': WHATEVER THE INPUT: true; the input reads as it did. -/
def rangeCutSpec : ChangeSpec := { name := "rangeCut", fn := fun _ => fun
  | [d1, d2, d3] => { results := [.lit (.bool true)], args := [d1, d2, d3] }
  | _ => none }
def rangeCutRow : OpenClaim := { program := "ytojdlhiibffnfaadoor", sum := "f03173c365b11ae11c9c606d75610d0c1db6b82cc2ac1428bbbbc6947e9369d8", func := "whipcord/whipcordkeep.RangeCut", spec := "rangeCut", inPlace := ["math/bits.Sub64", "math/bits.Add64"], unfollowed := true, recurses := true, named := ["whipcord/cidr.families"], apart := false, laid := [("whipcord/cidr.families", laid_whipcord_cidr_families)] }
def RangeCutSaid : Prop := rangeCutRow.holds Tryd.pinned (OpenSpec.ofChange rangeCutSpec)

/-- ITS FALSE NEIGHBOUR: 'it returns false'. Refute it at one input. -/
def rangeCutWrong : ChangeSpec := { name := "rangeCut", fn := fun _ => fun
  | [d1, d2, d3] => { results := [.lit (.bool false)], args := [d1, d2, d3] }
  | _ => none }
def RangeCutWrongFalsely : Prop := rangeCutRow.holds Tryd.pinned (OpenSpec.ofChange rangeCutWrong)

/-- 'whipcordkeep.MinusMinus': WHATEVER THE INPUT: true; the input reads as it did. -/
def minusMinusSpec : ChangeSpec := { name := "minusMinus", fn := fun _ => fun
  | [d1, d2, d3] => { results := [.lit (.bool true)], args := [d1, d2, d3] }
  | _ => none }
def minusMinusRow : OpenClaim := { program := "ytojdlhiibffnfaadoor", sum := "f03173c365b11ae11c9c606d75610d0c1db6b82cc2ac1428bbbbc6947e9369d8", func := "whipcord/whipcordkeep.MinusMinus", spec := "minusMinus", unfollowed := true, recurses := true, named := ["whipcord/cidr.families"], apart := false, laid := [("whipcord/cidr.families", laid_whipcord_cidr_families)] }
def MinusMinusSaid : Prop := minusMinusRow.holds Tryd.pinned (OpenSpec.ofChange minusMinusSpec)

/-- ITS FALSE NEIGHBOUR: 'it returns false'. Refute it at one input. -/
def minusMinusWrong : ChangeSpec := { name := "minusMinus", fn := fun _ => fun
  | [d1, d2, d3] => { results := [.lit (.bool false)], args := [d1, d2, d3] }
  | _ => none }
def MinusMinusWrongFalsely : Prop := minusMinusRow.holds Tryd.pinned (OpenSpec.ofChange minusMinusWrong)

/- THE SECOND FORM. 'bulk': how many values and letters a reading holds, each counted each time it is reached (what is shared counts as often as it is met; a slice's spare places count too). A statement '..UptoSaid' is the law's where the arguments, and the package variables that the reading takes, are together of bulk at most 1048576: NARROWER than '..Said'. Prove '..Said' where nothing that the law and all that it calls make is longer than what came in: it says more and counts as full. Else prove '..UptoSaid'. A law counts once. -/
mutual
def uptoBulk {H : Type} : DataW H → Nat
  | .lit (.string bytes) => bytes.length + 1
  | .lit _ => 1
  | .nil => 1
  | .ptr d => uptoBulk d + 1
  | .slice elems spare => uptoBulkAll elems + uptoBulkAll spare + 1
  | .agg parts => uptoBulkAll parts + 1
  | .iface _ d => uptoBulk d + 1
  | .map entries => uptoBulkEntries entries + 1
  | .held _ => 1
def uptoBulkAll {H : Type} : List (DataW H) → Nat
  | [] => 0
  | d :: r => uptoBulk d + uptoBulkAll r
def uptoBulkEntries {H : Type} : List (Lit × DataW H) → Nat
  | [] => 0
  | x :: r => uptoBulkEntry x + uptoBulkEntries r
def uptoBulkEntry {H : Type} : Lit × DataW H → Nat
  | (.string bytes, d) => bytes.length + uptoBulk d + 1
  | (_, d) => uptoBulk d + 1
 end
def uptoSmall : (H : Type) → List (DataW H) → Bool := fun _ ds => decide (uptoBulkAll ds ≤ 1048576)
def OpenSpec.upto (s : _root_.Go.ChangeSpec) : _root_.Go.OpenSpec := { _root_.Go.OpenSpec.ofChange s with cond := some uptoSmall }

/-- 'whipcordlaw.CidrRanges', WHERE WHAT IT READS IS OF BULK AT MOST 1048576: true; the input reads as it did. -/
def cidrRangesUptoRow : OpenClaim := { program := "ytojdlhiibffnfaadoor", sum := "f03173c365b11ae11c9c606d75610d0c1db6b82cc2ac1428bbbbc6947e9369d8", func := "whipcord/whipcordlaw.CidrRanges", spec := "cidrRanges", unfollowed := true, recurses := true, named := ["whipcord/cidr.families"], apart := false, laid := [("whipcord/cidr.families", laid_whipcord_cidr_families)], narrowed := true }
def CidrRangesUptoSaid : Prop := cidrRangesUptoRow.holds Tryd.pinned (OpenSpec.upto cidrRangesSpec)

/-- 'whipcordlaw.CidrMerges', WHERE WHAT IT READS IS OF BULK AT MOST 1048576: true; the input reads as it did. -/
def cidrMergesUptoRow : OpenClaim := { program := "ytojdlhiibffnfaadoor", sum := "f03173c365b11ae11c9c606d75610d0c1db6b82cc2ac1428bbbbc6947e9369d8", func := "whipcord/whipcordlaw.CidrMerges", spec := "cidrMerges", unfollowed := true, recurses := true, named := ["whipcord/cidr.families"], apart := false, laid := [("whipcord/cidr.families", laid_whipcord_cidr_families)], narrowed := true }
def CidrMergesUptoSaid : Prop := cidrMergesUptoRow.holds Tryd.pinned (OpenSpec.upto cidrMergesSpec)

/-- 'whipcordlaw.CidrMinuses', WHERE WHAT IT READS IS OF BULK AT MOST 1048576: true; the input reads as it did. -/
def cidrMinusesUptoRow : OpenClaim := { program := "ytojdlhiibffnfaadoor", sum := "f03173c365b11ae11c9c606d75610d0c1db6b82cc2ac1428bbbbc6947e9369d8", func := "whipcord/whipcordlaw.CidrMinuses", spec := "cidrMinuses", unfollowed := true, recurses := true, named := ["whipcord/cidr.families"], apart := false, laid := [("whipcord/cidr.families", laid_whipcord_cidr_families)], narrowed := true }
def CidrMinusesUptoSaid : Prop := cidrMinusesUptoRow.holds Tryd.pinned (OpenSpec.upto cidrMinusesSpec)

/-- 'whipcordlaw.CidrBoths', WHERE WHAT IT READS IS OF BULK AT MOST 1048576: true; the input reads as it did. -/
def cidrBothsUptoRow : OpenClaim := { program := "ytojdlhiibffnfaadoor", sum := "f03173c365b11ae11c9c606d75610d0c1db6b82cc2ac1428bbbbc6947e9369d8", func := "whipcord/whipcordlaw.CidrBoths", spec := "cidrBoths", unfollowed := true, recurses := true, named := ["whipcord/cidr.families"], apart := false, laid := [("whipcord/cidr.families", laid_whipcord_cidr_families)], narrowed := true }
def CidrBothsUptoSaid : Prop := cidrBothsUptoRow.holds Tryd.pinned (OpenSpec.upto cidrBothsSpec)

/-- 'whipcordkeep.RangeJust', WHERE WHAT IT READS IS OF BULK AT MOST 1048576: true; the input reads as it did. -/
def rangeJustUptoRow : OpenClaim := { program := "ytojdlhiibffnfaadoor", sum := "f03173c365b11ae11c9c606d75610d0c1db6b82cc2ac1428bbbbc6947e9369d8", func := "whipcord/whipcordkeep.RangeJust", spec := "rangeJust", inPlace := ["math/bits.Sub64", "math/bits.Add64"], recurses := true, named := ["whipcord/cidr.families"], apart := false, laid := [("whipcord/cidr.families", laid_whipcord_cidr_families)], narrowed := true }
def RangeJustUptoSaid : Prop := rangeJustUptoRow.holds Tryd.pinned (OpenSpec.upto rangeJustSpec)

/-- 'whipcordkeep.MergeSame', WHERE WHAT IT READS IS OF BULK AT MOST 1048576: true; the input reads as it did. -/
def mergeSameUptoRow : OpenClaim := { program := "ytojdlhiibffnfaadoor", sum := "f03173c365b11ae11c9c606d75610d0c1db6b82cc2ac1428bbbbc6947e9369d8", func := "whipcord/whipcordkeep.MergeSame", spec := "mergeSame", unfollowed := true, recurses := true, named := ["whipcord/cidr.families"], apart := false, laid := [("whipcord/cidr.families", laid_whipcord_cidr_families)], narrowed := true }
def MergeSameUptoSaid : Prop := mergeSameUptoRow.holds Tryd.pinned (OpenSpec.upto mergeSameSpec)

/-- 'whipcordkeep.SetAlgebra', WHERE WHAT IT READS IS OF BULK AT MOST 1048576: true; the input reads as it did. -/
def setAlgebraUptoRow : OpenClaim := { program := "ytojdlhiibffnfaadoor", sum := "f03173c365b11ae11c9c606d75610d0c1db6b82cc2ac1428bbbbc6947e9369d8", func := "whipcord/whipcordkeep.SetAlgebra", spec := "setAlgebra", unfollowed := true, recurses := true, named := ["whipcord/cidr.families"], apart := false, laid := [("whipcord/cidr.families", laid_whipcord_cidr_families)], narrowed := true }
def SetAlgebraUptoSaid : Prop := setAlgebraUptoRow.holds Tryd.pinned (OpenSpec.upto setAlgebraSpec)

/-- 'whipcordkeep.RangeCut', WHERE WHAT IT READS IS OF BULK AT MOST 1048576: true; the input reads as it did. -/
def rangeCutUptoRow : OpenClaim := { program := "ytojdlhiibffnfaadoor", sum := "f03173c365b11ae11c9c606d75610d0c1db6b82cc2ac1428bbbbc6947e9369d8", func := "whipcord/whipcordkeep.RangeCut", spec := "rangeCut", inPlace := ["math/bits.Sub64", "math/bits.Add64"], unfollowed := true, recurses := true, named := ["whipcord/cidr.families"], apart := false, laid := [("whipcord/cidr.families", laid_whipcord_cidr_families)], narrowed := true }
def RangeCutUptoSaid : Prop := rangeCutUptoRow.holds Tryd.pinned (OpenSpec.upto rangeCutSpec)

/-- 'whipcordkeep.MinusMinus', WHERE WHAT IT READS IS OF BULK AT MOST 1048576: true; the input reads as it did. -/
def minusMinusUptoRow : OpenClaim := { program := "ytojdlhiibffnfaadoor", sum := "f03173c365b11ae11c9c606d75610d0c1db6b82cc2ac1428bbbbc6947e9369d8", func := "whipcord/whipcordkeep.MinusMinus", spec := "minusMinus", unfollowed := true, recurses := true, named := ["whipcord/cidr.families"], apart := false, laid := [("whipcord/cidr.families", laid_whipcord_cidr_families)], narrowed := true }
def MinusMinusUptoSaid : Prop := minusMinusUptoRow.holds Tryd.pinned (OpenSpec.upto minusMinusSpec)

end Rows
end Go.Proofs.YtojdlhiibffnfaaDoor
