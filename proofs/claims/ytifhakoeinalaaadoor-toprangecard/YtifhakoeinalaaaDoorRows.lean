/-
  NARROWER THAN 'FOR EVERY INPUT', by the rows' own cells (each row's printed sentence says how): TopHas: laid · TopRange: laid.
  DERIVED. THE GIVEN ROWS OF THIS SEAT. 2 by the template 'for every input the law returns true; each argument reads behind the call as it read before'; 0 by the template 'total and deterministic' (their statements: YtifhakoeinalaaaDoorTotals.lean).
  GIVEN WITH THE SEED: the statements are not yours to turn. If you find one false, say at which input.
  Laid BY PROGRAM, IN A SANDBOX (cutbox-rows.mjs): the forced cells as the released guide's own fill.sh prints them over the translation 1b6f22538b6e9fa1… (all of the seat's roots in one cut). By AI agents, Wed Nov 11 2026. No macro, syntax, notation, axiom, sorry.
-/
import Derived.Test.YtifhakoeinalaaaDoorChecked
import GoSem.Claim
import GoSem.ClaimJoined
import GoSem.ClaimMapViews
import Derived.JoinedTies
import Derived.KernelRfl
namespace Go.Proofs.YtifhakoeinalaaaDoor
/- THE CELL 'sum', in the pinned program and in every row, IS THE sha256 OF THE DUMP (.gsa) THAT YtifhakoeinalaaaDoorProg.lean LOADS. Nothing in Lean hashes anything: it is a label: what it is worth is what the hold of that sum in a sandbox is worth. -/
noncomputable def Tryd.pinned : Pinned := { name := "ytifhakoeinalaaadoor", sum := "1b6f22538b6e9fa1a409dd9ff075c97b0f18f40d44c30674504dfd957f5f7582", checked := Tryd.checked }
namespace Rows
def none {H : Type} : Left H := { results := [], args := [] }

/- WHAT THE LISTED PACKAGE-LEVEL VARIABLES READ AS WHEN THE CALL BEGINS. Each datum BY PROGRAM (the guide's laid-datum.mjs) off the statement by which the dump's own 'gosem.cut.vars' lays the variable. In a bare row this is a premise. The card (YtifhakoeinalaaaDoorCards.lean) ties it to the program's text. -/
def laid_whipcord_cidr_families {H : Type} : DataW H := .agg [.agg [.agg [.lit (.bool false), .lit (.int .u64 0), .lit (.int .u64 0)], .lit (.int .i64 0)], .agg [.agg [.lit (.bool true), .lit (.int .u64 0), .lit (.int .u64 0)], .lit (.int .i64 0)]]

/-- 'whipcordtop.TopHas': WHATEVER THE INPUT: true; the input reads as it did. -/
def topHasSpec : ChangeSpec := { name := "topHas", fn := fun _ => fun
  | [d1, d2] => { results := [.lit (.bool true)], args := [d1, d2] }
  | _ => none }
def topHasRow : OpenClaim := { program := "ytifhakoeinalaaadoor", sum := "1b6f22538b6e9fa1a409dd9ff075c97b0f18f40d44c30674504dfd957f5f7582", func := "whipcord/whipcordtop.TopHas", spec := "topHas", inPlace := ["slices.overlaps[whipcord/api.Route]"], unfollowed := true, recurses := true, named := ["whipcord/cidr.families"], apart := false, laid := [("whipcord/cidr.families", laid_whipcord_cidr_families)] }
def TopHasSaid : Prop := topHasRow.holds Tryd.pinned (OpenSpec.ofChange topHasSpec)

/-- ITS FALSE NEIGHBOUR: 'it returns false'. Refute it at one input. -/
def topHasWrong : ChangeSpec := { name := "topHas", fn := fun _ => fun
  | [d1, d2] => { results := [.lit (.bool false)], args := [d1, d2] }
  | _ => none }
def TopHasWrongFalsely : Prop := topHasRow.holds Tryd.pinned (OpenSpec.ofChange topHasWrong)

/-- 'whipcordtop.TopRange': WHATEVER THE INPUT: true; the input reads as it did. -/
def topRangeSpec : ChangeSpec := { name := "topRange", fn := fun _ => fun
  | [d1, d2, d3] => { results := [.lit (.bool true)], args := [d1, d2, d3] }
  | _ => none }
def topRangeRow : OpenClaim := { program := "ytifhakoeinalaaadoor", sum := "1b6f22538b6e9fa1a409dd9ff075c97b0f18f40d44c30674504dfd957f5f7582", func := "whipcord/whipcordtop.TopRange", spec := "topRange", inPlace := ["math/bits.Sub64", "math/bits.Add64", "slices.overlaps[whipcord/api.Route]"], unfollowed := true, recurses := true, named := ["whipcord/cidr.families"], apart := false, laid := [("whipcord/cidr.families", laid_whipcord_cidr_families)] }
def TopRangeSaid : Prop := topRangeRow.holds Tryd.pinned (OpenSpec.ofChange topRangeSpec)

/-- ITS FALSE NEIGHBOUR: 'it returns false'. Refute it at one input. -/
def topRangeWrong : ChangeSpec := { name := "topRange", fn := fun _ => fun
  | [d1, d2, d3] => { results := [.lit (.bool false)], args := [d1, d2, d3] }
  | _ => none }
def TopRangeWrongFalsely : Prop := topRangeRow.holds Tryd.pinned (OpenSpec.ofChange topRangeWrong)

/- THE SECOND FORM. 'bulk': how many values and letters a reading holds, each counted each time it is reached (what is shared counts as often as it is met; a slice's spare places count too). A statement '..UptoSaid' is the law's where the arguments, and the package variables that the reading takes, are together of bulk at most 1048576: NARROWER than '..Said'. Prove '..Said' where nothing that the law and all that it calls make is longer than what came in: it says more and counts as full. Else prove '..UptoSaid'. A law counts once. -/
mutual
def uptoBulk {H : Type} : DataW H → Nat
  | .lit (.string bytes) => bytes.length + 1
  | .lit _ => 1
  | .nil => 1
  | .ptr d => uptoBulk d + 1
  | .slice elems spare => uptoBulkAll elems + uptoBulkAll spare + 1
  | .agg parts => uptoBulkAll parts + 1
  | .iface _ d => uptoBulk d + 1
  | .map entries => uptoBulkEntries entries + 1
  | .held _ => 1
def uptoBulkAll {H : Type} : List (DataW H) → Nat
  | [] => 0
  | d :: r => uptoBulk d + uptoBulkAll r
def uptoBulkEntries {H : Type} : List (Lit × DataW H) → Nat
  | [] => 0
  | x :: r => uptoBulkEntry x + uptoBulkEntries r
def uptoBulkEntry {H : Type} : Lit × DataW H → Nat
  | (.string bytes, d) => bytes.length + uptoBulk d + 1
  | (_, d) => uptoBulk d + 1
 end
def uptoSmall : (H : Type) → List (DataW H) → Bool := fun _ ds => decide (uptoBulkAll ds ≤ 1048576)
def OpenSpec.upto (s : _root_.Go.ChangeSpec) : _root_.Go.OpenSpec := { _root_.Go.OpenSpec.ofChange s with cond := some uptoSmall }

/-- 'whipcordtop.TopHas', WHERE WHAT IT READS IS OF BULK AT MOST 1048576: true; the input reads as it did. -/
def topHasUptoRow : OpenClaim := { program := "ytifhakoeinalaaadoor", sum := "1b6f22538b6e9fa1a409dd9ff075c97b0f18f40d44c30674504dfd957f5f7582", func := "whipcord/whipcordtop.TopHas", spec := "topHas", inPlace := ["slices.overlaps[whipcord/api.Route]"], unfollowed := true, recurses := true, named := ["whipcord/cidr.families"], apart := false, laid := [("whipcord/cidr.families", laid_whipcord_cidr_families)], narrowed := true }
def TopHasUptoSaid : Prop := topHasUptoRow.holds Tryd.pinned (OpenSpec.upto topHasSpec)

/-- 'whipcordtop.TopRange', WHERE WHAT IT READS IS OF BULK AT MOST 1048576: true; the input reads as it did. -/
def topRangeUptoRow : OpenClaim := { program := "ytifhakoeinalaaadoor", sum := "1b6f22538b6e9fa1a409dd9ff075c97b0f18f40d44c30674504dfd957f5f7582", func := "whipcord/whipcordtop.TopRange", spec := "topRange", inPlace := ["math/bits.Sub64", "math/bits.Add64", "slices.overlaps[whipcord/api.Route]"], unfollowed := true, recurses := true, named := ["whipcord/cidr.families"], apart := false, laid := [("whipcord/cidr.families", laid_whipcord_cidr_families)], narrowed := true }
def TopRangeUptoSaid : Prop := topRangeUptoRow.holds Tryd.pinned (OpenSpec.upto topRangeSpec)

end Rows
end Go.Proofs.YtifhakoeinalaaaDoor
