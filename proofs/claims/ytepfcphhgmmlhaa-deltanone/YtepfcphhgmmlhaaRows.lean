/-
  No cell of these rows narrows 'for every input' (looked for: loops, veiled, ifaces, maps, wideKeys, modest, calm, conditions, laid).
  DERIVED. THE GIVEN ROWS OF THIS SEAT. 9 by the template 'for every input the law returns true; each argument reads behind the call as it read before'; 0 by the template 'total and deterministic' (their statements: YtepfcphhgmmlhaaTotals.lean).
  GIVEN WITH THE SEED: the statements are not yours to turn. If you find one false, say at which input.
  Laid BY PROGRAM, IN A SANDBOX (cutbox-rows.mjs): the forced cells as the released guide's own fill.sh prints them over the translation eb82a2e426a49081… (all of the seat's roots in one cut). By AI agents, Wed Nov 11 2026. No macro, syntax, notation, axiom, sorry.
-/
import Derived.Test.YtepfcphhgmmlhaaChecked
import GoSem.Claim
import GoSem.ClaimJoined
import GoSem.ClaimMapViews
import Derived.JoinedTies
import Derived.KernelRfl
namespace Go.Proofs.Ytepfcphhgmmlhaa
/- THE CELL 'sum', in the pinned program and in every row, IS THE sha256 OF THE DUMP (.gsa) THAT YtepfcphhgmmlhaaProg.lean LOADS. Nothing in Lean hashes anything: it is a label: what it is worth is what the hold of that sum in a sandbox is worth. -/
noncomputable def Try.pinned : Pinned := { name := "ytepfcphhgmmlhaa", sum := "eb82a2e426a49081be7d74c0fc9affa6633f663151174f8bb6e1033498816f14", checked := Try.checked }
namespace Rows
def none {H : Type} : Left H := { results := [], args := [] }

/-- 'whipcordlaw.TablePlays': WHATEVER THE INPUT: true; the input reads as it did. -/
def tablePlaysSpec : ChangeSpec := { name := "tablePlays", fn := fun _ => fun
  | [d] => { results := [.lit (.bool true)], args := [d] }
  | _ => none }
def tablePlaysRow : OpenClaim := { program := "ytepfcphhgmmlhaa", sum := "eb82a2e426a49081be7d74c0fc9affa6633f663151174f8bb6e1033498816f14", func := "whipcord/whipcordlaw.TablePlays", spec := "tablePlays", inPlace := ["slices.overlaps[whipcord/api.Route]", "internal/reflectlite.ValueOf", "internal/reflectlite.Swapper", "(internal/reflectlite.Value).Len"], unfollowed := true, recurses := true, apart := false }
def TablePlaysSaid : Prop := tablePlaysRow.holds Try.pinned (OpenSpec.ofChange tablePlaysSpec)

/-- ITS FALSE NEIGHBOUR: 'it returns false'. Refute it at one input. -/
def tablePlaysWrong : ChangeSpec := { name := "tablePlays", fn := fun _ => fun
  | [d] => { results := [.lit (.bool false)], args := [d] }
  | _ => none }
def TablePlaysWrongFalsely : Prop := tablePlaysRow.holds Try.pinned (OpenSpec.ofChange tablePlaysWrong)

/-- 'whipcordlaw.TableRoutes': WHATEVER THE INPUT: true; the input reads as it did. -/
def tableRoutesSpec : ChangeSpec := { name := "tableRoutes", fn := fun _ => fun
  | [d] => { results := [.lit (.bool true)], args := [d] }
  | _ => none }
def tableRoutesRow : OpenClaim := { program := "ytepfcphhgmmlhaa", sum := "eb82a2e426a49081be7d74c0fc9affa6633f663151174f8bb6e1033498816f14", func := "whipcord/whipcordlaw.TableRoutes", spec := "tableRoutes", inPlace := ["slices.overlaps[whipcord/api.Route]", "internal/reflectlite.ValueOf", "internal/reflectlite.Swapper", "(internal/reflectlite.Value).Len"], unfollowed := true, recurses := true, apart := false }
def TableRoutesSaid : Prop := tableRoutesRow.holds Try.pinned (OpenSpec.ofChange tableRoutesSpec)

/-- ITS FALSE NEIGHBOUR: 'it returns false'. Refute it at one input. -/
def tableRoutesWrong : ChangeSpec := { name := "tableRoutes", fn := fun _ => fun
  | [d] => { results := [.lit (.bool false)], args := [d] }
  | _ => none }
def TableRoutesWrongFalsely : Prop := tableRoutesRow.holds Try.pinned (OpenSpec.ofChange tableRoutesWrong)

/-- 'whipcordlaw.DeltaDiffs': WHATEVER THE INPUT: true; the input reads as it did. -/
def deltaDiffsSpec : ChangeSpec := { name := "deltaDiffs", fn := fun _ => fun
  | [d1, d2] => { results := [.lit (.bool true)], args := [d1, d2] }
  | _ => none }
def deltaDiffsRow : OpenClaim := { program := "ytepfcphhgmmlhaa", sum := "eb82a2e426a49081be7d74c0fc9affa6633f663151174f8bb6e1033498816f14", func := "whipcord/whipcordlaw.DeltaDiffs", spec := "deltaDiffs", inPlace := ["slices.overlaps[whipcord/api.Route]", "internal/reflectlite.ValueOf", "internal/reflectlite.Swapper", "(internal/reflectlite.Value).Len"], unfollowed := true, recurses := true, apart := false }
def DeltaDiffsSaid : Prop := deltaDiffsRow.holds Try.pinned (OpenSpec.ofChange deltaDiffsSpec)

/-- ITS FALSE NEIGHBOUR: 'it returns false'. Refute it at one input. -/
def deltaDiffsWrong : ChangeSpec := { name := "deltaDiffs", fn := fun _ => fun
  | [d1, d2] => { results := [.lit (.bool false)], args := [d1, d2] }
  | _ => none }
def DeltaDiffsWrongFalsely : Prop := deltaDiffsRow.holds Try.pinned (OpenSpec.ofChange deltaDiffsWrong)

/-- 'whipcordlaw.DeltaApplies': WHATEVER THE INPUT: true; the input reads as it did. -/
def deltaAppliesSpec : ChangeSpec := { name := "deltaApplies", fn := fun _ => fun
  | [d1, d2] => { results := [.lit (.bool true)], args := [d1, d2] }
  | _ => none }
def deltaAppliesRow : OpenClaim := { program := "ytepfcphhgmmlhaa", sum := "eb82a2e426a49081be7d74c0fc9affa6633f663151174f8bb6e1033498816f14", func := "whipcord/whipcordlaw.DeltaApplies", spec := "deltaApplies", inPlace := ["slices.overlaps[whipcord/api.Route]", "internal/reflectlite.ValueOf", "internal/reflectlite.Swapper", "(internal/reflectlite.Value).Len"], unfollowed := true, recurses := true, apart := false }
def DeltaAppliesSaid : Prop := deltaAppliesRow.holds Try.pinned (OpenSpec.ofChange deltaAppliesSpec)

/-- ITS FALSE NEIGHBOUR: 'it returns false'. Refute it at one input. -/
def deltaAppliesWrong : ChangeSpec := { name := "deltaApplies", fn := fun _ => fun
  | [d1, d2] => { results := [.lit (.bool false)], args := [d1, d2] }
  | _ => none }
def DeltaAppliesWrongFalsely : Prop := deltaAppliesRow.holds Try.pinned (OpenSpec.ofChange deltaAppliesWrong)

/-- 'whipcordkeep.DeltaBack': WHATEVER THE INPUT: true; the input reads as it did. -/
def deltaBackSpec : ChangeSpec := { name := "deltaBack", fn := fun _ => fun
  | [d1, d2, d3] => { results := [.lit (.bool true)], args := [d1, d2, d3] }
  | _ => none }
def deltaBackRow : OpenClaim := { program := "ytepfcphhgmmlhaa", sum := "eb82a2e426a49081be7d74c0fc9affa6633f663151174f8bb6e1033498816f14", func := "whipcord/whipcordkeep.DeltaBack", spec := "deltaBack", inPlace := ["slices.overlaps[whipcord/api.Route]"], unfollowed := true, recurses := true, apart := false }
def DeltaBackSaid : Prop := deltaBackRow.holds Try.pinned (OpenSpec.ofChange deltaBackSpec)

/-- ITS FALSE NEIGHBOUR: 'it returns false'. Refute it at one input. -/
def deltaBackWrong : ChangeSpec := { name := "deltaBack", fn := fun _ => fun
  | [d1, d2, d3] => { results := [.lit (.bool false)], args := [d1, d2, d3] }
  | _ => none }
def DeltaBackWrongFalsely : Prop := deltaBackRow.holds Try.pinned (OpenSpec.ofChange deltaBackWrong)

/-- 'whipcordkeep.DeltaSteps': WHATEVER THE INPUT: true; the input reads as it did. -/
def deltaStepsSpec : ChangeSpec := { name := "deltaSteps", fn := fun _ => fun
  | [d1, d2, d3] => { results := [.lit (.bool true)], args := [d1, d2, d3] }
  | _ => none }
def deltaStepsRow : OpenClaim := { program := "ytepfcphhgmmlhaa", sum := "eb82a2e426a49081be7d74c0fc9affa6633f663151174f8bb6e1033498816f14", func := "whipcord/whipcordkeep.DeltaSteps", spec := "deltaSteps", inPlace := ["slices.overlaps[whipcord/api.Route]"], unfollowed := true, recurses := true, apart := false }
def DeltaStepsSaid : Prop := deltaStepsRow.holds Try.pinned (OpenSpec.ofChange deltaStepsSpec)

/-- ITS FALSE NEIGHBOUR: 'it returns false'. Refute it at one input. -/
def deltaStepsWrong : ChangeSpec := { name := "deltaSteps", fn := fun _ => fun
  | [d1, d2, d3] => { results := [.lit (.bool false)], args := [d1, d2, d3] }
  | _ => none }
def DeltaStepsWrongFalsely : Prop := deltaStepsRow.holds Try.pinned (OpenSpec.ofChange deltaStepsWrong)

/-- 'whipcordkeep.DeltaNone': WHATEVER THE INPUT: true; the input reads as it did. -/
def deltaNoneSpec : ChangeSpec := { name := "deltaNone", fn := fun _ => fun
  | [d1, d2, d3] => { results := [.lit (.bool true)], args := [d1, d2, d3] }
  | _ => none }
def deltaNoneRow : OpenClaim := { program := "ytepfcphhgmmlhaa", sum := "eb82a2e426a49081be7d74c0fc9affa6633f663151174f8bb6e1033498816f14", func := "whipcord/whipcordkeep.DeltaNone", spec := "deltaNone", inPlace := ["slices.overlaps[whipcord/api.Route]"], unfollowed := true, recurses := true, apart := false }
def DeltaNoneSaid : Prop := deltaNoneRow.holds Try.pinned (OpenSpec.ofChange deltaNoneSpec)

/-- ITS FALSE NEIGHBOUR: 'it returns false'. Refute it at one input. -/
def deltaNoneWrong : ChangeSpec := { name := "deltaNone", fn := fun _ => fun
  | [d1, d2, d3] => { results := [.lit (.bool false)], args := [d1, d2, d3] }
  | _ => none }
def DeltaNoneWrongFalsely : Prop := deltaNoneRow.holds Try.pinned (OpenSpec.ofChange deltaNoneWrong)

/-- 'whipcordkeep.DeltaParts': WHATEVER THE INPUT: true; the input reads as it did. -/
def deltaPartsSpec : ChangeSpec := { name := "deltaParts", fn := fun _ => fun
  | [d1, d2, d3] => { results := [.lit (.bool true)], args := [d1, d2, d3] }
  | _ => none }
def deltaPartsRow : OpenClaim := { program := "ytepfcphhgmmlhaa", sum := "eb82a2e426a49081be7d74c0fc9affa6633f663151174f8bb6e1033498816f14", func := "whipcord/whipcordkeep.DeltaParts", spec := "deltaParts", inPlace := ["slices.overlaps[whipcord/api.Route]"], unfollowed := true, recurses := true, apart := false }
def DeltaPartsSaid : Prop := deltaPartsRow.holds Try.pinned (OpenSpec.ofChange deltaPartsSpec)

/-- ITS FALSE NEIGHBOUR: 'it returns false'. Refute it at one input. -/
def deltaPartsWrong : ChangeSpec := { name := "deltaParts", fn := fun _ => fun
  | [d1, d2, d3] => { results := [.lit (.bool false)], args := [d1, d2, d3] }
  | _ => none }
def DeltaPartsWrongFalsely : Prop := deltaPartsRow.holds Try.pinned (OpenSpec.ofChange deltaPartsWrong)

/-- 'whipcordlaw.FewestSames': WHATEVER THE INPUT: true; the input reads as it did. -/
def fewestSamesSpec : ChangeSpec := { name := "fewestSames", fn := fun _ => fun
  | [d1, d2] => { results := [.lit (.bool true)], args := [d1, d2] }
  | _ => none }
def fewestSamesRow : OpenClaim := { program := "ytepfcphhgmmlhaa", sum := "eb82a2e426a49081be7d74c0fc9affa6633f663151174f8bb6e1033498816f14", func := "whipcord/whipcordlaw.FewestSames", spec := "fewestSames", inPlace := ["slices.overlaps[whipcord/api.Route]", "math/bits.Sub64", "math/bits.Add64"], unfollowed := true, recurses := true, apart := false }
def FewestSamesSaid : Prop := fewestSamesRow.holds Try.pinned (OpenSpec.ofChange fewestSamesSpec)

/-- ITS FALSE NEIGHBOUR: 'it returns false'. Refute it at one input. -/
def fewestSamesWrong : ChangeSpec := { name := "fewestSames", fn := fun _ => fun
  | [d1, d2] => { results := [.lit (.bool false)], args := [d1, d2] }
  | _ => none }
def FewestSamesWrongFalsely : Prop := fewestSamesRow.holds Try.pinned (OpenSpec.ofChange fewestSamesWrong)

/- THE SECOND FORM. 'bulk': how many values and letters a reading holds, each counted each time it is reached (what is shared counts as often as it is met; a slice's spare places count too). A statement '..UptoSaid' is the law's where the arguments, and the package variables that the reading takes, are together of bulk at most 1048576: NARROWER than '..Said'. Prove '..Said' where nothing that the law and all that it calls make is longer than what came in: it says more and counts as full. Else prove '..UptoSaid'. A law counts once. -/
mutual
def uptoBulk {H : Type} : DataW H → Nat
  | .lit (.string bytes) => bytes.length + 1
  | .lit _ => 1
  | .nil => 1
  | .ptr d => uptoBulk d + 1
  | .slice elems spare => uptoBulkAll elems + uptoBulkAll spare + 1
  | .agg parts => uptoBulkAll parts + 1
  | .iface _ d => uptoBulk d + 1
  | .map entries => uptoBulkEntries entries + 1
  | .held _ => 1
def uptoBulkAll {H : Type} : List (DataW H) → Nat
  | [] => 0
  | d :: r => uptoBulk d + uptoBulkAll r
def uptoBulkEntries {H : Type} : List (Lit × DataW H) → Nat
  | [] => 0
  | x :: r => uptoBulkEntry x + uptoBulkEntries r
def uptoBulkEntry {H : Type} : Lit × DataW H → Nat
  | (.string bytes, d) => bytes.length + uptoBulk d + 1
  | (_, d) => uptoBulk d + 1
 end
def uptoSmall : (H : Type) → List (DataW H) → Bool := fun _ ds => decide (uptoBulkAll ds ≤ 1048576)
def OpenSpec.upto (s : _root_.Go.ChangeSpec) : _root_.Go.OpenSpec := { _root_.Go.OpenSpec.ofChange s with cond := some uptoSmall }

/-- 'whipcordlaw.TablePlays', WHERE WHAT IT READS IS OF BULK AT MOST 1048576: true; the input reads as it did. -/
def tablePlaysUptoRow : OpenClaim := { program := "ytepfcphhgmmlhaa", sum := "eb82a2e426a49081be7d74c0fc9affa6633f663151174f8bb6e1033498816f14", func := "whipcord/whipcordlaw.TablePlays", spec := "tablePlays", inPlace := ["slices.overlaps[whipcord/api.Route]", "internal/reflectlite.ValueOf", "internal/reflectlite.Swapper", "(internal/reflectlite.Value).Len"], unfollowed := true, recurses := true, apart := false, narrowed := true }
def TablePlaysUptoSaid : Prop := tablePlaysUptoRow.holds Try.pinned (OpenSpec.upto tablePlaysSpec)

/-- 'whipcordlaw.TableRoutes', WHERE WHAT IT READS IS OF BULK AT MOST 1048576: true; the input reads as it did. -/
def tableRoutesUptoRow : OpenClaim := { program := "ytepfcphhgmmlhaa", sum := "eb82a2e426a49081be7d74c0fc9affa6633f663151174f8bb6e1033498816f14", func := "whipcord/whipcordlaw.TableRoutes", spec := "tableRoutes", inPlace := ["slices.overlaps[whipcord/api.Route]", "internal/reflectlite.ValueOf", "internal/reflectlite.Swapper", "(internal/reflectlite.Value).Len"], unfollowed := true, recurses := true, apart := false, narrowed := true }
def TableRoutesUptoSaid : Prop := tableRoutesUptoRow.holds Try.pinned (OpenSpec.upto tableRoutesSpec)

/-- 'whipcordlaw.DeltaDiffs', WHERE WHAT IT READS IS OF BULK AT MOST 1048576: true; the input reads as it did. -/
def deltaDiffsUptoRow : OpenClaim := { program := "ytepfcphhgmmlhaa", sum := "eb82a2e426a49081be7d74c0fc9affa6633f663151174f8bb6e1033498816f14", func := "whipcord/whipcordlaw.DeltaDiffs", spec := "deltaDiffs", inPlace := ["slices.overlaps[whipcord/api.Route]", "internal/reflectlite.ValueOf", "internal/reflectlite.Swapper", "(internal/reflectlite.Value).Len"], unfollowed := true, recurses := true, apart := false, narrowed := true }
def DeltaDiffsUptoSaid : Prop := deltaDiffsUptoRow.holds Try.pinned (OpenSpec.upto deltaDiffsSpec)

/-- 'whipcordlaw.DeltaApplies', WHERE WHAT IT READS IS OF BULK AT MOST 1048576: true; the input reads as it did. -/
def deltaAppliesUptoRow : OpenClaim := { program := "ytepfcphhgmmlhaa", sum := "eb82a2e426a49081be7d74c0fc9affa6633f663151174f8bb6e1033498816f14", func := "whipcord/whipcordlaw.DeltaApplies", spec := "deltaApplies", inPlace := ["slices.overlaps[whipcord/api.Route]", "internal/reflectlite.ValueOf", "internal/reflectlite.Swapper", "(internal/reflectlite.Value).Len"], unfollowed := true, recurses := true, apart := false, narrowed := true }
def DeltaAppliesUptoSaid : Prop := deltaAppliesUptoRow.holds Try.pinned (OpenSpec.upto deltaAppliesSpec)

/-- 'whipcordkeep.DeltaBack', WHERE WHAT IT READS IS OF BULK AT MOST 1048576: true; the input reads as it did. -/
def deltaBackUptoRow : OpenClaim := { program := "ytepfcphhgmmlhaa", sum := "eb82a2e426a49081be7d74c0fc9affa6633f663151174f8bb6e1033498816f14", func := "whipcord/whipcordkeep.DeltaBack", spec := "deltaBack", inPlace := ["slices.overlaps[whipcord/api.Route]"], unfollowed := true, recurses := true, apart := false, narrowed := true }
def DeltaBackUptoSaid : Prop := deltaBackUptoRow.holds Try.pinned (OpenSpec.upto deltaBackSpec)

/-- 'whipcordkeep.DeltaSteps', WHERE WHAT IT READS IS OF BULK AT MOST 1048576: true; the input reads as it did. -/
def deltaStepsUptoRow : OpenClaim := { program := "ytepfcphhgmmlhaa", sum := "eb82a2e426a49081be7d74c0fc9affa6633f663151174f8bb6e1033498816f14", func := "whipcord/whipcordkeep.DeltaSteps", spec := "deltaSteps", inPlace := ["slices.overlaps[whipcord/api.Route]"], unfollowed := true, recurses := true, apart := false, narrowed := true }
def DeltaStepsUptoSaid : Prop := deltaStepsUptoRow.holds Try.pinned (OpenSpec.upto deltaStepsSpec)

/-- 'whipcordkeep.DeltaNone', WHERE WHAT IT READS IS OF BULK AT MOST 1048576: true; the input reads as it did. -/
def deltaNoneUptoRow : OpenClaim := { program := "ytepfcphhgmmlhaa", sum := "eb82a2e426a49081be7d74c0fc9affa6633f663151174f8bb6e1033498816f14", func := "whipcord/whipcordkeep.DeltaNone", spec := "deltaNone", inPlace := ["slices.overlaps[whipcord/api.Route]"], unfollowed := true, recurses := true, apart := false, narrowed := true }
def DeltaNoneUptoSaid : Prop := deltaNoneUptoRow.holds Try.pinned (OpenSpec.upto deltaNoneSpec)

/-- 'whipcordkeep.DeltaParts', WHERE WHAT IT READS IS OF BULK AT MOST 1048576: true; the input reads as it did. -/
def deltaPartsUptoRow : OpenClaim := { program := "ytepfcphhgmmlhaa", sum := "eb82a2e426a49081be7d74c0fc9affa6633f663151174f8bb6e1033498816f14", func := "whipcord/whipcordkeep.DeltaParts", spec := "deltaParts", inPlace := ["slices.overlaps[whipcord/api.Route]"], unfollowed := true, recurses := true, apart := false, narrowed := true }
def DeltaPartsUptoSaid : Prop := deltaPartsUptoRow.holds Try.pinned (OpenSpec.upto deltaPartsSpec)

/-- 'whipcordlaw.FewestSames', WHERE WHAT IT READS IS OF BULK AT MOST 1048576: true; the input reads as it did. -/
def fewestSamesUptoRow : OpenClaim := { program := "ytepfcphhgmmlhaa", sum := "eb82a2e426a49081be7d74c0fc9affa6633f663151174f8bb6e1033498816f14", func := "whipcord/whipcordlaw.FewestSames", spec := "fewestSames", inPlace := ["slices.overlaps[whipcord/api.Route]", "math/bits.Sub64", "math/bits.Add64"], unfollowed := true, recurses := true, apart := false, narrowed := true }
def FewestSamesUptoSaid : Prop := fewestSamesUptoRow.holds Try.pinned (OpenSpec.upto fewestSamesSpec)

end Rows
end Go.Proofs.Ytepfcphhgmmlhaa
