/-
  No cell of these rows narrows 'for every input' (looked for: loops, veiled, ifaces, maps, wideKeys, modest, calm, conditions, laid).
  DERIVED. THE GIVEN ROWS OF THIS SEAT. 5 by the template 'for every input the law returns true; each argument reads behind the call as it read before'; 0 by the template 'total and deterministic' (their statements: YtifhakoeinalaaaTotals.lean).
  GIVEN WITH THE SEED: the statements are not yours to turn. If you find one false, say at which input.
  Laid BY PROGRAM, IN A SANDBOX (cutbox-rows.mjs): the forced cells as the released guide's own fill.sh prints them over the translation 98800fe0a1c22ec1… (all of the seat's roots in one cut). By AI agents, Wed Nov 11 2026. No macro, syntax, notation, axiom, sorry.
-/
import Derived.Test.YtifhakoeinalaaaChecked
import GoSem.Claim
import GoSem.ClaimJoined
import GoSem.ClaimMapViews
import Derived.JoinedTies
import Derived.KernelRfl
namespace Go.Proofs.Ytifhakoeinalaaa
/- THE CELL 'sum', in the pinned program and in every row, IS THE sha256 OF THE DUMP (.gsa) THAT YtifhakoeinalaaaProg.lean LOADS. Nothing in Lean hashes anything: it is a label: what it is worth is what the hold of that sum in a sandbox is worth. -/
noncomputable def Try.pinned : Pinned := { name := "ytifhakoeinalaaa", sum := "98800fe0a1c22ec1ff67f412efed69dbe66e25ef44a91c345a76babc3f2e9d62", checked := Try.checked }
namespace Rows
def none {H : Type} : Left H := { results := [], args := [] }

/-- 'whipcordlaw.TablePlays': WHATEVER THE INPUT: true; the input reads as it did. -/
def tablePlaysSpec : ChangeSpec := { name := "tablePlays", fn := fun _ => fun
  | [d] => { results := [.lit (.bool true)], args := [d] }
  | _ => none }
def tablePlaysRow : OpenClaim := { program := "ytifhakoeinalaaa", sum := "98800fe0a1c22ec1ff67f412efed69dbe66e25ef44a91c345a76babc3f2e9d62", func := "whipcord/whipcordlaw.TablePlays", spec := "tablePlays", inPlace := ["slices.overlaps[whipcord/api.Route]", "internal/reflectlite.ValueOf", "internal/reflectlite.Swapper", "(internal/reflectlite.Value).Len"], unfollowed := true, recurses := true, apart := false }
def TablePlaysSaid : Prop := tablePlaysRow.holds Try.pinned (OpenSpec.ofChange tablePlaysSpec)

/-- ITS FALSE NEIGHBOUR: 'it returns false'. Refute it at one input. -/
def tablePlaysWrong : ChangeSpec := { name := "tablePlays", fn := fun _ => fun
  | [d] => { results := [.lit (.bool false)], args := [d] }
  | _ => none }
def TablePlaysWrongFalsely : Prop := tablePlaysRow.holds Try.pinned (OpenSpec.ofChange tablePlaysWrong)

/-- 'whipcordlaw.TableRoutes': WHATEVER THE INPUT: true; the input reads as it did. -/
def tableRoutesSpec : ChangeSpec := { name := "tableRoutes", fn := fun _ => fun
  | [d] => { results := [.lit (.bool true)], args := [d] }
  | _ => none }
def tableRoutesRow : OpenClaim := { program := "ytifhakoeinalaaa", sum := "98800fe0a1c22ec1ff67f412efed69dbe66e25ef44a91c345a76babc3f2e9d62", func := "whipcord/whipcordlaw.TableRoutes", spec := "tableRoutes", inPlace := ["slices.overlaps[whipcord/api.Route]", "internal/reflectlite.ValueOf", "internal/reflectlite.Swapper", "(internal/reflectlite.Value).Len"], unfollowed := true, recurses := true, apart := false }
def TableRoutesSaid : Prop := tableRoutesRow.holds Try.pinned (OpenSpec.ofChange tableRoutesSpec)

/-- ITS FALSE NEIGHBOUR: 'it returns false'. Refute it at one input. -/
def tableRoutesWrong : ChangeSpec := { name := "tableRoutes", fn := fun _ => fun
  | [d] => { results := [.lit (.bool false)], args := [d] }
  | _ => none }
def TableRoutesWrongFalsely : Prop := tableRoutesRow.holds Try.pinned (OpenSpec.ofChange tableRoutesWrong)

/-- 'whipcordkeep.TableLongest': WHATEVER THE INPUT: true; the input reads as it did. -/
def tableLongestSpec : ChangeSpec := { name := "tableLongest", fn := fun _ => fun
  | [d1, d2] => { results := [.lit (.bool true)], args := [d1, d2] }
  | _ => none }
def tableLongestRow : OpenClaim := { program := "ytifhakoeinalaaa", sum := "98800fe0a1c22ec1ff67f412efed69dbe66e25ef44a91c345a76babc3f2e9d62", func := "whipcord/whipcordkeep.TableLongest", spec := "tableLongest", inPlace := ["slices.overlaps[whipcord/api.Route]"], unfollowed := true, recurses := true, apart := false }
def TableLongestSaid : Prop := tableLongestRow.holds Try.pinned (OpenSpec.ofChange tableLongestSpec)

/-- ITS FALSE NEIGHBOUR: 'it returns false'. Refute it at one input. -/
def tableLongestWrong : ChangeSpec := { name := "tableLongest", fn := fun _ => fun
  | [d1, d2] => { results := [.lit (.bool false)], args := [d1, d2] }
  | _ => none }
def TableLongestWrongFalsely : Prop := tableLongestRow.holds Try.pinned (OpenSpec.ofChange tableLongestWrong)

/-- 'whipcordkeep.TableElsewhere': WHATEVER THE INPUT: true; the input reads as it did. -/
def tableElsewhereSpec : ChangeSpec := { name := "tableElsewhere", fn := fun _ => fun
  | [d1, d2, d3, d4] => { results := [.lit (.bool true)], args := [d1, d2, d3, d4] }
  | _ => none }
def tableElsewhereRow : OpenClaim := { program := "ytifhakoeinalaaa", sum := "98800fe0a1c22ec1ff67f412efed69dbe66e25ef44a91c345a76babc3f2e9d62", func := "whipcord/whipcordkeep.TableElsewhere", spec := "tableElsewhere", inPlace := ["slices.overlaps[whipcord/api.Route]"], unfollowed := true, recurses := true, apart := false }
def TableElsewhereSaid : Prop := tableElsewhereRow.holds Try.pinned (OpenSpec.ofChange tableElsewhereSpec)

/-- ITS FALSE NEIGHBOUR: 'it returns false'. Refute it at one input. -/
def tableElsewhereWrong : ChangeSpec := { name := "tableElsewhere", fn := fun _ => fun
  | [d1, d2, d3, d4] => { results := [.lit (.bool false)], args := [d1, d2, d3, d4] }
  | _ => none }
def TableElsewhereWrongFalsely : Prop := tableElsewhereRow.holds Try.pinned (OpenSpec.ofChange tableElsewhereWrong)

/-- 'whipcordkeep.TableTold': WHATEVER THE INPUT: true; the input reads as it did. -/
def tableToldSpec : ChangeSpec := { name := "tableTold", fn := fun _ => fun
  | [d1, d2, d3] => { results := [.lit (.bool true)], args := [d1, d2, d3] }
  | _ => none }
def tableToldRow : OpenClaim := { program := "ytifhakoeinalaaa", sum := "98800fe0a1c22ec1ff67f412efed69dbe66e25ef44a91c345a76babc3f2e9d62", func := "whipcord/whipcordkeep.TableTold", spec := "tableTold", inPlace := ["slices.overlaps[whipcord/api.Route]"], unfollowed := true, recurses := true, apart := false }
def TableToldSaid : Prop := tableToldRow.holds Try.pinned (OpenSpec.ofChange tableToldSpec)

/-- ITS FALSE NEIGHBOUR: 'it returns false'. Refute it at one input. -/
def tableToldWrong : ChangeSpec := { name := "tableTold", fn := fun _ => fun
  | [d1, d2, d3] => { results := [.lit (.bool false)], args := [d1, d2, d3] }
  | _ => none }
def TableToldWrongFalsely : Prop := tableToldRow.holds Try.pinned (OpenSpec.ofChange tableToldWrong)

/- THE SECOND FORM. 'bulk': how many values and letters a reading holds, each counted each time it is reached (what is shared counts as often as it is met; a slice's spare places count too). A statement '..UptoSaid' is the law's where the arguments, and the package variables that the reading takes, are together of bulk at most 1048576: NARROWER than '..Said'. Prove '..Said' where nothing that the law and all that it calls make is longer than what came in: it says more and counts as full. Else prove '..UptoSaid'. A law counts once. -/
mutual
def uptoBulk {H : Type} : DataW H → Nat
  | .lit (.string bytes) => bytes.length + 1
  | .lit _ => 1
  | .nil => 1
  | .ptr d => uptoBulk d + 1
  | .slice elems spare => uptoBulkAll elems + uptoBulkAll spare + 1
  | .agg parts => uptoBulkAll parts + 1
  | .iface _ d => uptoBulk d + 1
  | .map entries => uptoBulkEntries entries + 1
  | .held _ => 1
def uptoBulkAll {H : Type} : List (DataW H) → Nat
  | [] => 0
  | d :: r => uptoBulk d + uptoBulkAll r
def uptoBulkEntries {H : Type} : List (Lit × DataW H) → Nat
  | [] => 0
  | x :: r => uptoBulkEntry x + uptoBulkEntries r
def uptoBulkEntry {H : Type} : Lit × DataW H → Nat
  | (.string bytes, d) => bytes.length + uptoBulk d + 1
  | (_, d) => uptoBulk d + 1
 end
def uptoSmall : (H : Type) → List (DataW H) → Bool := fun _ ds => decide (uptoBulkAll ds ≤ 1048576)
def OpenSpec.upto (s : _root_.Go.ChangeSpec) : _root_.Go.OpenSpec := { _root_.Go.OpenSpec.ofChange s with cond := some uptoSmall }

/-- 'whipcordlaw.TablePlays', WHERE WHAT IT READS IS OF BULK AT MOST 1048576: true; the input reads as it did. -/
def tablePlaysUptoRow : OpenClaim := { program := "ytifhakoeinalaaa", sum := "98800fe0a1c22ec1ff67f412efed69dbe66e25ef44a91c345a76babc3f2e9d62", func := "whipcord/whipcordlaw.TablePlays", spec := "tablePlays", inPlace := ["slices.overlaps[whipcord/api.Route]", "internal/reflectlite.ValueOf", "internal/reflectlite.Swapper", "(internal/reflectlite.Value).Len"], unfollowed := true, recurses := true, apart := false, narrowed := true }
def TablePlaysUptoSaid : Prop := tablePlaysUptoRow.holds Try.pinned (OpenSpec.upto tablePlaysSpec)

/-- 'whipcordlaw.TableRoutes', WHERE WHAT IT READS IS OF BULK AT MOST 1048576: true; the input reads as it did. -/
def tableRoutesUptoRow : OpenClaim := { program := "ytifhakoeinalaaa", sum := "98800fe0a1c22ec1ff67f412efed69dbe66e25ef44a91c345a76babc3f2e9d62", func := "whipcord/whipcordlaw.TableRoutes", spec := "tableRoutes", inPlace := ["slices.overlaps[whipcord/api.Route]", "internal/reflectlite.ValueOf", "internal/reflectlite.Swapper", "(internal/reflectlite.Value).Len"], unfollowed := true, recurses := true, apart := false, narrowed := true }
def TableRoutesUptoSaid : Prop := tableRoutesUptoRow.holds Try.pinned (OpenSpec.upto tableRoutesSpec)

/-- 'whipcordkeep.TableLongest', WHERE WHAT IT READS IS OF BULK AT MOST 1048576: true; the input reads as it did. -/
def tableLongestUptoRow : OpenClaim := { program := "ytifhakoeinalaaa", sum := "98800fe0a1c22ec1ff67f412efed69dbe66e25ef44a91c345a76babc3f2e9d62", func := "whipcord/whipcordkeep.TableLongest", spec := "tableLongest", inPlace := ["slices.overlaps[whipcord/api.Route]"], unfollowed := true, recurses := true, apart := false, narrowed := true }
def TableLongestUptoSaid : Prop := tableLongestUptoRow.holds Try.pinned (OpenSpec.upto tableLongestSpec)

/-- 'whipcordkeep.TableElsewhere', WHERE WHAT IT READS IS OF BULK AT MOST 1048576: true; the input reads as it did. -/
def tableElsewhereUptoRow : OpenClaim := { program := "ytifhakoeinalaaa", sum := "98800fe0a1c22ec1ff67f412efed69dbe66e25ef44a91c345a76babc3f2e9d62", func := "whipcord/whipcordkeep.TableElsewhere", spec := "tableElsewhere", inPlace := ["slices.overlaps[whipcord/api.Route]"], unfollowed := true, recurses := true, apart := false, narrowed := true }
def TableElsewhereUptoSaid : Prop := tableElsewhereUptoRow.holds Try.pinned (OpenSpec.upto tableElsewhereSpec)

/-- 'whipcordkeep.TableTold', WHERE WHAT IT READS IS OF BULK AT MOST 1048576: true; the input reads as it did. -/
def tableToldUptoRow : OpenClaim := { program := "ytifhakoeinalaaa", sum := "98800fe0a1c22ec1ff67f412efed69dbe66e25ef44a91c345a76babc3f2e9d62", func := "whipcord/whipcordkeep.TableTold", spec := "tableTold", inPlace := ["slices.overlaps[whipcord/api.Route]"], unfollowed := true, recurses := true, apart := false, narrowed := true }
def TableToldUptoSaid : Prop := tableToldUptoRow.holds Try.pinned (OpenSpec.upto tableToldSpec)

end Rows
end Go.Proofs.Ytifhakoeinalaaa
