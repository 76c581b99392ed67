/-
  No cell of these rows narrows 'for every input' (looked for: loops, veiled, ifaces, maps, wideKeys, modest, calm, conditions, laid).
  DERIVED. THE GIVEN ROWS OF THIS SEAT. 8 by the template 'for every input the law returns true; each argument reads behind the call as it read before'; 0 by the template 'total and deterministic' (their statements: YtgajepmnklbmpaaTotals.lean).
  GIVEN WITH THE SEED: the statements are not yours to turn. If you find one false, say at which input.
  Laid BY PROGRAM, IN A SANDBOX (cutbox-rows.mjs): the forced cells as the released guide's own fill.sh prints them over the translation b2680bfc42e84f58… (all of the seat's roots in one cut). By AI agents, Wed Nov 11 2026. No macro, syntax, notation, axiom, sorry.
-/
import Derived.Test.YtgajepmnklbmpaaChecked
import GoSem.Claim
import GoSem.ClaimJoined
import GoSem.ClaimMapViews
import Derived.JoinedTies
import Derived.KernelRfl
namespace Go.Proofs.Ytgajepmnklbmpaa
/- THE CELL 'sum', in the pinned program and in every row, IS THE sha256 OF THE DUMP (.gsa) THAT YtgajepmnklbmpaaProg.lean LOADS. Nothing in Lean hashes anything: it is a label: what it is worth is what the hold of that sum in a sandbox is worth. -/
noncomputable def Try.pinned : Pinned := { name := "ytgajepmnklbmpaa", sum := "b2680bfc42e84f5883daa3b24f93be2caf4fff060aab5e98ccc6c7a3be8f189e", checked := Try.checked }
namespace Rows
def none {H : Type} : Left H := { results := [], args := [] }

/-- 'whipcordlaw.ViaAlls': WHATEVER THE INPUT: true; the input reads as it did. -/
def viaAllsSpec : ChangeSpec := { name := "viaAlls", fn := fun _ => fun
  | [d] => { results := [.lit (.bool true)], args := [d] }
  | _ => none }
def viaAllsRow : OpenClaim := { program := "ytgajepmnklbmpaa", sum := "b2680bfc42e84f5883daa3b24f93be2caf4fff060aab5e98ccc6c7a3be8f189e", func := "whipcord/whipcordlaw.ViaAlls", spec := "viaAlls", unfollowed := true, recurses := true, apart := false }
def ViaAllsSaid : Prop := viaAllsRow.holds Try.pinned (OpenSpec.ofChange viaAllsSpec)

/-- ITS FALSE NEIGHBOUR: 'it returns false'. Refute it at one input. -/
def viaAllsWrong : ChangeSpec := { name := "viaAlls", fn := fun _ => fun
  | [d] => { results := [.lit (.bool false)], args := [d] }
  | _ => none }
def ViaAllsWrongFalsely : Prop := viaAllsRow.holds Try.pinned (OpenSpec.ofChange viaAllsWrong)

/-- 'whipcordlaw.ViaPorts': WHATEVER THE INPUT: true; the input reads as it did. -/
def viaPortsSpec : ChangeSpec := { name := "viaPorts", fn := fun _ => fun
  | [d1, d2] => { results := [.lit (.bool true)], args := [d1, d2] }
  | _ => none }
def viaPortsRow : OpenClaim := { program := "ytgajepmnklbmpaa", sum := "b2680bfc42e84f5883daa3b24f93be2caf4fff060aab5e98ccc6c7a3be8f189e", func := "whipcord/whipcordlaw.ViaPorts", spec := "viaPorts", recurses := true, apart := false }
def ViaPortsSaid : Prop := viaPortsRow.holds Try.pinned (OpenSpec.ofChange viaPortsSpec)

/-- ITS FALSE NEIGHBOUR: 'it returns false'. Refute it at one input. -/
def viaPortsWrong : ChangeSpec := { name := "viaPorts", fn := fun _ => fun
  | [d1, d2] => { results := [.lit (.bool false)], args := [d1, d2] }
  | _ => none }
def ViaPortsWrongFalsely : Prop := viaPortsRow.holds Try.pinned (OpenSpec.ofChange viaPortsWrong)

/-- 'whipcordlaw.ViaChecks': WHATEVER THE INPUT: true; the input reads as it did. -/
def viaChecksSpec : ChangeSpec := { name := "viaChecks", fn := fun _ => fun
  | [d] => { results := [.lit (.bool true)], args := [d] }
  | _ => none }
def viaChecksRow : OpenClaim := { program := "ytgajepmnklbmpaa", sum := "b2680bfc42e84f5883daa3b24f93be2caf4fff060aab5e98ccc6c7a3be8f189e", func := "whipcord/whipcordlaw.ViaChecks", spec := "viaChecks", apart := false }
def ViaChecksSaid : Prop := viaChecksRow.holds Try.pinned (OpenSpec.ofChange viaChecksSpec)

/-- ITS FALSE NEIGHBOUR: 'it returns false'. Refute it at one input. -/
def viaChecksWrong : ChangeSpec := { name := "viaChecks", fn := fun _ => fun
  | [d] => { results := [.lit (.bool false)], args := [d] }
  | _ => none }
def ViaChecksWrongFalsely : Prop := viaChecksRow.holds Try.pinned (OpenSpec.ofChange viaChecksWrong)

/-- 'whipcordlaw.FewestFews': WHATEVER THE INPUT: true; the input reads as it did. -/
def fewestFewsSpec : ChangeSpec := { name := "fewestFews", fn := fun _ => fun
  | [d] => { results := [.lit (.bool true)], args := [d] }
  | _ => none }
def fewestFewsRow : OpenClaim := { program := "ytgajepmnklbmpaa", sum := "b2680bfc42e84f5883daa3b24f93be2caf4fff060aab5e98ccc6c7a3be8f189e", func := "whipcord/whipcordlaw.FewestFews", spec := "fewestFews", inPlace := ["slices.overlaps[whipcord/api.Route]"], unfollowed := true, recurses := true, apart := false }
def FewestFewsSaid : Prop := fewestFewsRow.holds Try.pinned (OpenSpec.ofChange fewestFewsSpec)

/-- ITS FALSE NEIGHBOUR: 'it returns false'. Refute it at one input. -/
def fewestFewsWrong : ChangeSpec := { name := "fewestFews", fn := fun _ => fun
  | [d] => { results := [.lit (.bool false)], args := [d] }
  | _ => none }
def FewestFewsWrongFalsely : Prop := fewestFewsRow.holds Try.pinned (OpenSpec.ofChange fewestFewsWrong)

/-- 'whipcordkeep.ViaStep': WHATEVER THE INPUT: true; the input reads as it did. -/
def viaStepSpec : ChangeSpec := { name := "viaStep", fn := fun _ => fun
  | [d1, d2, d3] => { results := [.lit (.bool true)], args := [d1, d2, d3] }
  | _ => none }
def viaStepRow : OpenClaim := { program := "ytgajepmnklbmpaa", sum := "b2680bfc42e84f5883daa3b24f93be2caf4fff060aab5e98ccc6c7a3be8f189e", func := "whipcord/whipcordkeep.ViaStep", spec := "viaStep", apart := false }
def ViaStepSaid : Prop := viaStepRow.holds Try.pinned (OpenSpec.ofChange viaStepSpec)

/-- ITS FALSE NEIGHBOUR: 'it returns false'. Refute it at one input. -/
def viaStepWrong : ChangeSpec := { name := "viaStep", fn := fun _ => fun
  | [d1, d2, d3] => { results := [.lit (.bool false)], args := [d1, d2, d3] }
  | _ => none }
def ViaStepWrongFalsely : Prop := viaStepRow.holds Try.pinned (OpenSpec.ofChange viaStepWrong)

/-- 'whipcordkeep.ViaAll': WHATEVER THE INPUT: true; the input reads as it did. -/
def viaAllSpec : ChangeSpec := { name := "viaAll", fn := fun _ => fun
  | [d1, d2] => { results := [.lit (.bool true)], args := [d1, d2] }
  | _ => none }
def viaAllRow : OpenClaim := { program := "ytgajepmnklbmpaa", sum := "b2680bfc42e84f5883daa3b24f93be2caf4fff060aab5e98ccc6c7a3be8f189e", func := "whipcord/whipcordkeep.ViaAll", spec := "viaAll", unfollowed := true, recurses := true, apart := false }
def ViaAllSaid : Prop := viaAllRow.holds Try.pinned (OpenSpec.ofChange viaAllSpec)

/-- ITS FALSE NEIGHBOUR: 'it returns false'. Refute it at one input. -/
def viaAllWrong : ChangeSpec := { name := "viaAll", fn := fun _ => fun
  | [d1, d2] => { results := [.lit (.bool false)], args := [d1, d2] }
  | _ => none }
def ViaAllWrongFalsely : Prop := viaAllRow.holds Try.pinned (OpenSpec.ofChange viaAllWrong)

/-- 'whipcordkeep.ViaMore': WHATEVER THE INPUT: true; the input reads as it did. -/
def viaMoreSpec : ChangeSpec := { name := "viaMore", fn := fun _ => fun
  | [d1, d2, d3, d4] => { results := [.lit (.bool true)], args := [d1, d2, d3, d4] }
  | _ => none }
def viaMoreRow : OpenClaim := { program := "ytgajepmnklbmpaa", sum := "b2680bfc42e84f5883daa3b24f93be2caf4fff060aab5e98ccc6c7a3be8f189e", func := "whipcord/whipcordkeep.ViaMore", spec := "viaMore", apart := false }
def ViaMoreSaid : Prop := viaMoreRow.holds Try.pinned (OpenSpec.ofChange viaMoreSpec)

/-- ITS FALSE NEIGHBOUR: 'it returns false'. Refute it at one input. -/
def viaMoreWrong : ChangeSpec := { name := "viaMore", fn := fun _ => fun
  | [d1, d2, d3, d4] => { results := [.lit (.bool false)], args := [d1, d2, d3, d4] }
  | _ => none }
def ViaMoreWrongFalsely : Prop := viaMoreRow.holds Try.pinned (OpenSpec.ofChange viaMoreWrong)

/-- 'whipcordkeep.ViaChain': WHATEVER THE INPUT: true; the input reads as it did. -/
def viaChainSpec : ChangeSpec := { name := "viaChain", fn := fun _ => fun
  | [d1, d2, d3] => { results := [.lit (.bool true)], args := [d1, d2, d3] }
  | _ => none }
def viaChainRow : OpenClaim := { program := "ytgajepmnklbmpaa", sum := "b2680bfc42e84f5883daa3b24f93be2caf4fff060aab5e98ccc6c7a3be8f189e", func := "whipcord/whipcordkeep.ViaChain", spec := "viaChain", apart := false }
def ViaChainSaid : Prop := viaChainRow.holds Try.pinned (OpenSpec.ofChange viaChainSpec)

/-- ITS FALSE NEIGHBOUR: 'it returns false'. Refute it at one input. -/
def viaChainWrong : ChangeSpec := { name := "viaChain", fn := fun _ => fun
  | [d1, d2, d3] => { results := [.lit (.bool false)], args := [d1, d2, d3] }
  | _ => none }
def ViaChainWrongFalsely : Prop := viaChainRow.holds Try.pinned (OpenSpec.ofChange viaChainWrong)

/- THE SECOND FORM. 'bulk': how many values and letters a reading holds, each counted each time it is reached (what is shared counts as often as it is met; a slice's spare places count too). A statement '..UptoSaid' is the law's where the arguments, and the package variables that the reading takes, are together of bulk at most 1048576: NARROWER than '..Said'. Prove '..Said' where nothing that the law and all that it calls make is longer than what came in: it says more and counts as full. Else prove '..UptoSaid'. A law counts once. -/
mutual
def uptoBulk {H : Type} : DataW H → Nat
  | .lit (.string bytes) => bytes.length + 1
  | .lit _ => 1
  | .nil => 1
  | .ptr d => uptoBulk d + 1
  | .slice elems spare => uptoBulkAll elems + uptoBulkAll spare + 1
  | .agg parts => uptoBulkAll parts + 1
  | .iface _ d => uptoBulk d + 1
  | .map entries => uptoBulkEntries entries + 1
  | .held _ => 1
def uptoBulkAll {H : Type} : List (DataW H) → Nat
  | [] => 0
  | d :: r => uptoBulk d + uptoBulkAll r
def uptoBulkEntries {H : Type} : List (Lit × DataW H) → Nat
  | [] => 0
  | x :: r => uptoBulkEntry x + uptoBulkEntries r
def uptoBulkEntry {H : Type} : Lit × DataW H → Nat
  | (.string bytes, d) => bytes.length + uptoBulk d + 1
  | (_, d) => uptoBulk d + 1
 end
def uptoSmall : (H : Type) → List (DataW H) → Bool := fun _ ds => decide (uptoBulkAll ds ≤ 1048576)
def OpenSpec.upto (s : _root_.Go.ChangeSpec) : _root_.Go.OpenSpec := { _root_.Go.OpenSpec.ofChange s with cond := some uptoSmall }

/-- 'whipcordlaw.ViaAlls', WHERE WHAT IT READS IS OF BULK AT MOST 1048576: true; the input reads as it did. -/
def viaAllsUptoRow : OpenClaim := { program := "ytgajepmnklbmpaa", sum := "b2680bfc42e84f5883daa3b24f93be2caf4fff060aab5e98ccc6c7a3be8f189e", func := "whipcord/whipcordlaw.ViaAlls", spec := "viaAlls", unfollowed := true, recurses := true, apart := false, narrowed := true }
def ViaAllsUptoSaid : Prop := viaAllsUptoRow.holds Try.pinned (OpenSpec.upto viaAllsSpec)

/-- 'whipcordlaw.ViaPorts', WHERE WHAT IT READS IS OF BULK AT MOST 1048576: true; the input reads as it did. -/
def viaPortsUptoRow : OpenClaim := { program := "ytgajepmnklbmpaa", sum := "b2680bfc42e84f5883daa3b24f93be2caf4fff060aab5e98ccc6c7a3be8f189e", func := "whipcord/whipcordlaw.ViaPorts", spec := "viaPorts", recurses := true, apart := false, narrowed := true }
def ViaPortsUptoSaid : Prop := viaPortsUptoRow.holds Try.pinned (OpenSpec.upto viaPortsSpec)

/-- 'whipcordlaw.ViaChecks', WHERE WHAT IT READS IS OF BULK AT MOST 1048576: true; the input reads as it did. -/
def viaChecksUptoRow : OpenClaim := { program := "ytgajepmnklbmpaa", sum := "b2680bfc42e84f5883daa3b24f93be2caf4fff060aab5e98ccc6c7a3be8f189e", func := "whipcord/whipcordlaw.ViaChecks", spec := "viaChecks", apart := false, narrowed := true }
def ViaChecksUptoSaid : Prop := viaChecksUptoRow.holds Try.pinned (OpenSpec.upto viaChecksSpec)

/-- 'whipcordlaw.FewestFews', WHERE WHAT IT READS IS OF BULK AT MOST 1048576: true; the input reads as it did. -/
def fewestFewsUptoRow : OpenClaim := { program := "ytgajepmnklbmpaa", sum := "b2680bfc42e84f5883daa3b24f93be2caf4fff060aab5e98ccc6c7a3be8f189e", func := "whipcord/whipcordlaw.FewestFews", spec := "fewestFews", inPlace := ["slices.overlaps[whipcord/api.Route]"], unfollowed := true, recurses := true, apart := false, narrowed := true }
def FewestFewsUptoSaid : Prop := fewestFewsUptoRow.holds Try.pinned (OpenSpec.upto fewestFewsSpec)

/-- 'whipcordkeep.ViaStep', WHERE WHAT IT READS IS OF BULK AT MOST 1048576: true; the input reads as it did. -/
def viaStepUptoRow : OpenClaim := { program := "ytgajepmnklbmpaa", sum := "b2680bfc42e84f5883daa3b24f93be2caf4fff060aab5e98ccc6c7a3be8f189e", func := "whipcord/whipcordkeep.ViaStep", spec := "viaStep", apart := false, narrowed := true }
def ViaStepUptoSaid : Prop := viaStepUptoRow.holds Try.pinned (OpenSpec.upto viaStepSpec)

/-- 'whipcordkeep.ViaAll', WHERE WHAT IT READS IS OF BULK AT MOST 1048576: true; the input reads as it did. -/
def viaAllUptoRow : OpenClaim := { program := "ytgajepmnklbmpaa", sum := "b2680bfc42e84f5883daa3b24f93be2caf4fff060aab5e98ccc6c7a3be8f189e", func := "whipcord/whipcordkeep.ViaAll", spec := "viaAll", unfollowed := true, recurses := true, apart := false, narrowed := true }
def ViaAllUptoSaid : Prop := viaAllUptoRow.holds Try.pinned (OpenSpec.upto viaAllSpec)

/-- 'whipcordkeep.ViaMore', WHERE WHAT IT READS IS OF BULK AT MOST 1048576: true; the input reads as it did. -/
def viaMoreUptoRow : OpenClaim := { program := "ytgajepmnklbmpaa", sum := "b2680bfc42e84f5883daa3b24f93be2caf4fff060aab5e98ccc6c7a3be8f189e", func := "whipcord/whipcordkeep.ViaMore", spec := "viaMore", apart := false, narrowed := true }
def ViaMoreUptoSaid : Prop := viaMoreUptoRow.holds Try.pinned (OpenSpec.upto viaMoreSpec)

/-- 'whipcordkeep.ViaChain', WHERE WHAT IT READS IS OF BULK AT MOST 1048576: true; the input reads as it did. -/
def viaChainUptoRow : OpenClaim := { program := "ytgajepmnklbmpaa", sum := "b2680bfc42e84f5883daa3b24f93be2caf4fff060aab5e98ccc6c7a3be8f189e", func := "whipcord/whipcordkeep.ViaChain", spec := "viaChain", apart := false, narrowed := true }
def ViaChainUptoSaid : Prop := viaChainUptoRow.holds Try.pinned (OpenSpec.upto viaChainSpec)

end Rows
end Go.Proofs.Ytgajepmnklbmpaa
