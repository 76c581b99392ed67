/-
  No cell of these rows narrows 'for every input' (looked for: loops, veiled, ifaces, maps, wideKeys, modest, calm, conditions, laid).
  DERIVED. THE GIVEN ROWS OF THIS SEAT. 12 by the template 'for every input the law returns true; each argument reads behind the call as it read before'; 0 by the template 'total and deterministic' (their statements: YtnpaijmibkbhfaaTotals.lean).
  GIVEN WITH THE SEED: the statements are not yours to turn. If you find one false, say at which input.
  Laid BY PROGRAM, IN A SANDBOX (cutbox-rows.mjs): the forced cells as the released guide's own fill.sh prints them over the translation 4ab67bb99d2742b0… (all of the seat's roots in one cut). By AI agents, Wed Nov 11 2026. No macro, syntax, notation, axiom, sorry.
-/
import Derived.Test.YtnpaijmibkbhfaaChecked
import GoSem.Claim
import GoSem.ClaimJoined
import GoSem.ClaimMapViews
import Derived.JoinedTies
import Derived.KernelRfl
namespace Go.Proofs.Ytnpaijmibkbhfaa
/- THE CELL 'sum', in the pinned program and in every row, IS THE sha256 OF THE DUMP (.gsa) THAT YtnpaijmibkbhfaaProg.lean LOADS. Nothing in Lean hashes anything: it is a label: what it is worth is what the hold of that sum in a sandbox is worth. -/
noncomputable def Try.pinned : Pinned := { name := "ytnpaijmibkbhfaa", sum := "4ab67bb99d2742b091e95c943d547b251540d6f81f025aea9954987fef9e4fe5", checked := Try.checked }
namespace Rows
def none {H : Type} : Left H := { results := [], args := [] }

/-- 'whipcordlaw.OfferChecks': WHATEVER THE INPUT: true; the input reads as it did. -/
def offerChecksSpec : ChangeSpec := { name := "offerChecks", fn := fun _ => fun
  | [d] => { results := [.lit (.bool true)], args := [d] }
  | _ => none }
def offerChecksRow : OpenClaim := { program := "ytnpaijmibkbhfaa", sum := "4ab67bb99d2742b091e95c943d547b251540d6f81f025aea9954987fef9e4fe5", func := "whipcord/whipcordlaw.OfferChecks", spec := "offerChecks", apart := false }
def OfferChecksSaid : Prop := offerChecksRow.holds Try.pinned (OpenSpec.ofChange offerChecksSpec)

/-- ITS FALSE NEIGHBOUR: 'it returns false'. Refute it at one input. -/
def offerChecksWrong : ChangeSpec := { name := "offerChecks", fn := fun _ => fun
  | [d] => { results := [.lit (.bool false)], args := [d] }
  | _ => none }
def OfferChecksWrongFalsely : Prop := offerChecksRow.holds Try.pinned (OpenSpec.ofChange offerChecksWrong)

/-- 'whipcordlaw.DeltaApplies': WHATEVER THE INPUT: true; the input reads as it did. -/
def deltaAppliesSpec : ChangeSpec := { name := "deltaApplies", fn := fun _ => fun
  | [d1, d2] => { results := [.lit (.bool true)], args := [d1, d2] }
  | _ => none }
def deltaAppliesRow : OpenClaim := { program := "ytnpaijmibkbhfaa", sum := "4ab67bb99d2742b091e95c943d547b251540d6f81f025aea9954987fef9e4fe5", func := "whipcord/whipcordlaw.DeltaApplies", spec := "deltaApplies", inPlace := ["slices.overlaps[whipcord/api.Route]", "internal/reflectlite.ValueOf", "internal/reflectlite.Swapper", "(internal/reflectlite.Value).Len"], unfollowed := true, recurses := true, apart := false }
def DeltaAppliesSaid : Prop := deltaAppliesRow.holds Try.pinned (OpenSpec.ofChange deltaAppliesSpec)

/-- ITS FALSE NEIGHBOUR: 'it returns false'. Refute it at one input. -/
def deltaAppliesWrong : ChangeSpec := { name := "deltaApplies", fn := fun _ => fun
  | [d1, d2] => { results := [.lit (.bool false)], args := [d1, d2] }
  | _ => none }
def DeltaAppliesWrongFalsely : Prop := deltaAppliesRow.holds Try.pinned (OpenSpec.ofChange deltaAppliesWrong)

/-- 'whipcordkeep.DeltaParts': WHATEVER THE INPUT: true; the input reads as it did. -/
def deltaPartsSpec : ChangeSpec := { name := "deltaParts", fn := fun _ => fun
  | [d1, d2, d3] => { results := [.lit (.bool true)], args := [d1, d2, d3] }
  | _ => none }
def deltaPartsRow : OpenClaim := { program := "ytnpaijmibkbhfaa", sum := "4ab67bb99d2742b091e95c943d547b251540d6f81f025aea9954987fef9e4fe5", func := "whipcord/whipcordkeep.DeltaParts", spec := "deltaParts", inPlace := ["slices.overlaps[whipcord/api.Route]"], unfollowed := true, recurses := true, apart := false }
def DeltaPartsSaid : Prop := deltaPartsRow.holds Try.pinned (OpenSpec.ofChange deltaPartsSpec)

/-- ITS FALSE NEIGHBOUR: 'it returns false'. Refute it at one input. -/
def deltaPartsWrong : ChangeSpec := { name := "deltaParts", fn := fun _ => fun
  | [d1, d2, d3] => { results := [.lit (.bool false)], args := [d1, d2, d3] }
  | _ => none }
def DeltaPartsWrongFalsely : Prop := deltaPartsRow.holds Try.pinned (OpenSpec.ofChange deltaPartsWrong)

/-- 'whipcordkeep.DeltaBack': WHATEVER THE INPUT: true; the input reads as it did. -/
def deltaBackSpec : ChangeSpec := { name := "deltaBack", fn := fun _ => fun
  | [d1, d2, d3] => { results := [.lit (.bool true)], args := [d1, d2, d3] }
  | _ => none }
def deltaBackRow : OpenClaim := { program := "ytnpaijmibkbhfaa", sum := "4ab67bb99d2742b091e95c943d547b251540d6f81f025aea9954987fef9e4fe5", func := "whipcord/whipcordkeep.DeltaBack", spec := "deltaBack", inPlace := ["slices.overlaps[whipcord/api.Route]"], unfollowed := true, recurses := true, apart := false }
def DeltaBackSaid : Prop := deltaBackRow.holds Try.pinned (OpenSpec.ofChange deltaBackSpec)

/-- ITS FALSE NEIGHBOUR: 'it returns false'. Refute it at one input. -/
def deltaBackWrong : ChangeSpec := { name := "deltaBack", fn := fun _ => fun
  | [d1, d2, d3] => { results := [.lit (.bool false)], args := [d1, d2, d3] }
  | _ => none }
def DeltaBackWrongFalsely : Prop := deltaBackRow.holds Try.pinned (OpenSpec.ofChange deltaBackWrong)

/-- 'whipcordkeep.DeltaSteps': WHATEVER THE INPUT: true; the input reads as it did. -/
def deltaStepsSpec : ChangeSpec := { name := "deltaSteps", fn := fun _ => fun
  | [d1, d2, d3] => { results := [.lit (.bool true)], args := [d1, d2, d3] }
  | _ => none }
def deltaStepsRow : OpenClaim := { program := "ytnpaijmibkbhfaa", sum := "4ab67bb99d2742b091e95c943d547b251540d6f81f025aea9954987fef9e4fe5", func := "whipcord/whipcordkeep.DeltaSteps", spec := "deltaSteps", inPlace := ["slices.overlaps[whipcord/api.Route]"], unfollowed := true, recurses := true, apart := false }
def DeltaStepsSaid : Prop := deltaStepsRow.holds Try.pinned (OpenSpec.ofChange deltaStepsSpec)

/-- ITS FALSE NEIGHBOUR: 'it returns false'. Refute it at one input. -/
def deltaStepsWrong : ChangeSpec := { name := "deltaSteps", fn := fun _ => fun
  | [d1, d2, d3] => { results := [.lit (.bool false)], args := [d1, d2, d3] }
  | _ => none }
def DeltaStepsWrongFalsely : Prop := deltaStepsRow.holds Try.pinned (OpenSpec.ofChange deltaStepsWrong)

/-- 'whipcordtop.TopDelta': WHATEVER THE INPUT: true; the input reads as it did. -/
def topDeltaSpec : ChangeSpec := { name := "topDelta", fn := fun _ => fun
  | [d1, d2, d3] => { results := [.lit (.bool true)], args := [d1, d2, d3] }
  | _ => none }
def topDeltaRow : OpenClaim := { program := "ytnpaijmibkbhfaa", sum := "4ab67bb99d2742b091e95c943d547b251540d6f81f025aea9954987fef9e4fe5", func := "whipcord/whipcordtop.TopDelta", spec := "topDelta", inPlace := ["slices.overlaps[whipcord/api.Route]", "math/bits.Sub64", "math/bits.Add64"], unfollowed := true, recurses := true, apart := false }
def TopDeltaSaid : Prop := topDeltaRow.holds Try.pinned (OpenSpec.ofChange topDeltaSpec)

/-- ITS FALSE NEIGHBOUR: 'it returns false'. Refute it at one input. -/
def topDeltaWrong : ChangeSpec := { name := "topDelta", fn := fun _ => fun
  | [d1, d2, d3] => { results := [.lit (.bool false)], args := [d1, d2, d3] }
  | _ => none }
def TopDeltaWrongFalsely : Prop := topDeltaRow.holds Try.pinned (OpenSpec.ofChange topDeltaWrong)

/-- 'whipcordkeep.FewestLikeness': WHATEVER THE INPUT: true; the input reads as it did. -/
def fewestLikenessSpec : ChangeSpec := { name := "fewestLikeness", fn := fun _ => fun
  | [d1, d2, d3] => { results := [.lit (.bool true)], args := [d1, d2, d3] }
  | _ => none }
def fewestLikenessRow : OpenClaim := { program := "ytnpaijmibkbhfaa", sum := "4ab67bb99d2742b091e95c943d547b251540d6f81f025aea9954987fef9e4fe5", func := "whipcord/whipcordkeep.FewestLikeness", spec := "fewestLikeness", inPlace := ["slices.overlaps[whipcord/api.Route]", "math/bits.Sub64", "math/bits.Add64"], unfollowed := true, recurses := true, apart := false }
def FewestLikenessSaid : Prop := fewestLikenessRow.holds Try.pinned (OpenSpec.ofChange fewestLikenessSpec)

/-- ITS FALSE NEIGHBOUR: 'it returns false'. Refute it at one input. -/
def fewestLikenessWrong : ChangeSpec := { name := "fewestLikeness", fn := fun _ => fun
  | [d1, d2, d3] => { results := [.lit (.bool false)], args := [d1, d2, d3] }
  | _ => none }
def FewestLikenessWrongFalsely : Prop := fewestLikenessRow.holds Try.pinned (OpenSpec.ofChange fewestLikenessWrong)

/-- 'whipcordkeep.FewestGoes': WHATEVER THE INPUT: true; the input reads as it did. -/
def fewestGoesSpec : ChangeSpec := { name := "fewestGoes", fn := fun _ => fun
  | [d1, d2, d3] => { results := [.lit (.bool true)], args := [d1, d2, d3] }
  | _ => none }
def fewestGoesRow : OpenClaim := { program := "ytnpaijmibkbhfaa", sum := "4ab67bb99d2742b091e95c943d547b251540d6f81f025aea9954987fef9e4fe5", func := "whipcord/whipcordkeep.FewestGoes", spec := "fewestGoes", inPlace := ["slices.overlaps[whipcord/api.Route]"], unfollowed := true, recurses := true, apart := false }
def FewestGoesSaid : Prop := fewestGoesRow.holds Try.pinned (OpenSpec.ofChange fewestGoesSpec)

/-- ITS FALSE NEIGHBOUR: 'it returns false'. Refute it at one input. -/
def fewestGoesWrong : ChangeSpec := { name := "fewestGoes", fn := fun _ => fun
  | [d1, d2, d3] => { results := [.lit (.bool false)], args := [d1, d2, d3] }
  | _ => none }
def FewestGoesWrongFalsely : Prop := fewestGoesRow.holds Try.pinned (OpenSpec.ofChange fewestGoesWrong)

/-- 'whipcordkeep.FewestOrder': WHATEVER THE INPUT: true; the input reads as it did. -/
def fewestOrderSpec : ChangeSpec := { name := "fewestOrder", fn := fun _ => fun
  | [d1, d2, d3, d4] => { results := [.lit (.bool true)], args := [d1, d2, d3, d4] }
  | _ => none }
def fewestOrderRow : OpenClaim := { program := "ytnpaijmibkbhfaa", sum := "4ab67bb99d2742b091e95c943d547b251540d6f81f025aea9954987fef9e4fe5", func := "whipcord/whipcordkeep.FewestOrder", spec := "fewestOrder", inPlace := ["slices.overlaps[whipcord/api.Route]"], unfollowed := true, recurses := true, apart := false }
def FewestOrderSaid : Prop := fewestOrderRow.holds Try.pinned (OpenSpec.ofChange fewestOrderSpec)

/-- ITS FALSE NEIGHBOUR: 'it returns false'. Refute it at one input. -/
def fewestOrderWrong : ChangeSpec := { name := "fewestOrder", fn := fun _ => fun
  | [d1, d2, d3, d4] => { results := [.lit (.bool false)], args := [d1, d2, d3, d4] }
  | _ => none }
def FewestOrderWrongFalsely : Prop := fewestOrderRow.holds Try.pinned (OpenSpec.ofChange fewestOrderWrong)

/-- 'whipcordkeep.FewestBest': WHATEVER THE INPUT: true; the input reads as it did. -/
def fewestBestSpec : ChangeSpec := { name := "fewestBest", fn := fun _ => fun
  | [d1, d2] => { results := [.lit (.bool true)], args := [d1, d2] }
  | _ => none }
def fewestBestRow : OpenClaim := { program := "ytnpaijmibkbhfaa", sum := "4ab67bb99d2742b091e95c943d547b251540d6f81f025aea9954987fef9e4fe5", func := "whipcord/whipcordkeep.FewestBest", spec := "fewestBest", inPlace := ["slices.overlaps[whipcord/api.Route]", "math/bits.Sub64", "math/bits.Add64"], unfollowed := true, recurses := true, apart := false }
def FewestBestSaid : Prop := fewestBestRow.holds Try.pinned (OpenSpec.ofChange fewestBestSpec)

/-- ITS FALSE NEIGHBOUR: 'it returns false'. Refute it at one input. -/
def fewestBestWrong : ChangeSpec := { name := "fewestBest", fn := fun _ => fun
  | [d1, d2] => { results := [.lit (.bool false)], args := [d1, d2] }
  | _ => none }
def FewestBestWrongFalsely : Prop := fewestBestRow.holds Try.pinned (OpenSpec.ofChange fewestBestWrong)

/-- 'whipcordkeep.FewestHalves': WHATEVER THE INPUT: true; the input reads as it did. -/
def fewestHalvesSpec : ChangeSpec := { name := "fewestHalves", fn := fun _ => fun
  | [d1, d2, d3] => { results := [.lit (.bool true)], args := [d1, d2, d3] }
  | _ => none }
def fewestHalvesRow : OpenClaim := { program := "ytnpaijmibkbhfaa", sum := "4ab67bb99d2742b091e95c943d547b251540d6f81f025aea9954987fef9e4fe5", func := "whipcord/whipcordkeep.FewestHalves", spec := "fewestHalves", inPlace := ["slices.overlaps[whipcord/api.Route]"], unfollowed := true, recurses := true, apart := false }
def FewestHalvesSaid : Prop := fewestHalvesRow.holds Try.pinned (OpenSpec.ofChange fewestHalvesSpec)

/-- ITS FALSE NEIGHBOUR: 'it returns false'. Refute it at one input. -/
def fewestHalvesWrong : ChangeSpec := { name := "fewestHalves", fn := fun _ => fun
  | [d1, d2, d3] => { results := [.lit (.bool false)], args := [d1, d2, d3] }
  | _ => none }
def FewestHalvesWrongFalsely : Prop := fewestHalvesRow.holds Try.pinned (OpenSpec.ofChange fewestHalvesWrong)

/-- 'whipcordlaw.FewestFews': WHATEVER THE INPUT: true; the input reads as it did. -/
def fewestFewsSpec : ChangeSpec := { name := "fewestFews", fn := fun _ => fun
  | [d] => { results := [.lit (.bool true)], args := [d] }
  | _ => none }
def fewestFewsRow : OpenClaim := { program := "ytnpaijmibkbhfaa", sum := "4ab67bb99d2742b091e95c943d547b251540d6f81f025aea9954987fef9e4fe5", func := "whipcord/whipcordlaw.FewestFews", spec := "fewestFews", inPlace := ["slices.overlaps[whipcord/api.Route]"], unfollowed := true, recurses := true, apart := false }
def FewestFewsSaid : Prop := fewestFewsRow.holds Try.pinned (OpenSpec.ofChange fewestFewsSpec)

/-- ITS FALSE NEIGHBOUR: 'it returns false'. Refute it at one input. -/
def fewestFewsWrong : ChangeSpec := { name := "fewestFews", fn := fun _ => fun
  | [d] => { results := [.lit (.bool false)], args := [d] }
  | _ => none }
def FewestFewsWrongFalsely : Prop := fewestFewsRow.holds Try.pinned (OpenSpec.ofChange fewestFewsWrong)

/- THE SECOND FORM. 'bulk': how many values and letters a reading holds, each counted each time it is reached (what is shared counts as often as it is met; a slice's spare places count too). A statement '..UptoSaid' is the law's where the arguments, and the package variables that the reading takes, are together of bulk at most 1048576: NARROWER than '..Said'. Prove '..Said' where nothing that the law and all that it calls make is longer than what came in: it says more and counts as full. Else prove '..UptoSaid'. A law counts once. -/
mutual
def uptoBulk {H : Type} : DataW H → Nat
  | .lit (.string bytes) => bytes.length + 1
  | .lit _ => 1
  | .nil => 1
  | .ptr d => uptoBulk d + 1
  | .slice elems spare => uptoBulkAll elems + uptoBulkAll spare + 1
  | .agg parts => uptoBulkAll parts + 1
  | .iface _ d => uptoBulk d + 1
  | .map entries => uptoBulkEntries entries + 1
  | .held _ => 1
def uptoBulkAll {H : Type} : List (DataW H) → Nat
  | [] => 0
  | d :: r => uptoBulk d + uptoBulkAll r
def uptoBulkEntries {H : Type} : List (Lit × DataW H) → Nat
  | [] => 0
  | x :: r => uptoBulkEntry x + uptoBulkEntries r
def uptoBulkEntry {H : Type} : Lit × DataW H → Nat
  | (.string bytes, d) => bytes.length + uptoBulk d + 1
  | (_, d) => uptoBulk d + 1
 end
def uptoSmall : (H : Type) → List (DataW H) → Bool := fun _ ds => decide (uptoBulkAll ds ≤ 1048576)
def OpenSpec.upto (s : _root_.Go.ChangeSpec) : _root_.Go.OpenSpec := { _root_.Go.OpenSpec.ofChange s with cond := some uptoSmall }

/-- 'whipcordlaw.OfferChecks', WHERE WHAT IT READS IS OF BULK AT MOST 1048576: true; the input reads as it did. -/
def offerChecksUptoRow : OpenClaim := { program := "ytnpaijmibkbhfaa", sum := "4ab67bb99d2742b091e95c943d547b251540d6f81f025aea9954987fef9e4fe5", func := "whipcord/whipcordlaw.OfferChecks", spec := "offerChecks", apart := false, narrowed := true }
def OfferChecksUptoSaid : Prop := offerChecksUptoRow.holds Try.pinned (OpenSpec.upto offerChecksSpec)

/-- 'whipcordlaw.DeltaApplies', WHERE WHAT IT READS IS OF BULK AT MOST 1048576: true; the input reads as it did. -/
def deltaAppliesUptoRow : OpenClaim := { program := "ytnpaijmibkbhfaa", sum := "4ab67bb99d2742b091e95c943d547b251540d6f81f025aea9954987fef9e4fe5", func := "whipcord/whipcordlaw.DeltaApplies", spec := "deltaApplies", inPlace := ["slices.overlaps[whipcord/api.Route]", "internal/reflectlite.ValueOf", "internal/reflectlite.Swapper", "(internal/reflectlite.Value).Len"], unfollowed := true, recurses := true, apart := false, narrowed := true }
def DeltaAppliesUptoSaid : Prop := deltaAppliesUptoRow.holds Try.pinned (OpenSpec.upto deltaAppliesSpec)

/-- 'whipcordkeep.DeltaParts', WHERE WHAT IT READS IS OF BULK AT MOST 1048576: true; the input reads as it did. -/
def deltaPartsUptoRow : OpenClaim := { program := "ytnpaijmibkbhfaa", sum := "4ab67bb99d2742b091e95c943d547b251540d6f81f025aea9954987fef9e4fe5", func := "whipcord/whipcordkeep.DeltaParts", spec := "deltaParts", inPlace := ["slices.overlaps[whipcord/api.Route]"], unfollowed := true, recurses := true, apart := false, narrowed := true }
def DeltaPartsUptoSaid : Prop := deltaPartsUptoRow.holds Try.pinned (OpenSpec.upto deltaPartsSpec)

/-- 'whipcordkeep.DeltaBack', WHERE WHAT IT READS IS OF BULK AT MOST 1048576: true; the input reads as it did. -/
def deltaBackUptoRow : OpenClaim := { program := "ytnpaijmibkbhfaa", sum := "4ab67bb99d2742b091e95c943d547b251540d6f81f025aea9954987fef9e4fe5", func := "whipcord/whipcordkeep.DeltaBack", spec := "deltaBack", inPlace := ["slices.overlaps[whipcord/api.Route]"], unfollowed := true, recurses := true, apart := false, narrowed := true }
def DeltaBackUptoSaid : Prop := deltaBackUptoRow.holds Try.pinned (OpenSpec.upto deltaBackSpec)

/-- 'whipcordkeep.DeltaSteps', WHERE WHAT IT READS IS OF BULK AT MOST 1048576: true; the input reads as it did. -/
def deltaStepsUptoRow : OpenClaim := { program := "ytnpaijmibkbhfaa", sum := "4ab67bb99d2742b091e95c943d547b251540d6f81f025aea9954987fef9e4fe5", func := "whipcord/whipcordkeep.DeltaSteps", spec := "deltaSteps", inPlace := ["slices.overlaps[whipcord/api.Route]"], unfollowed := true, recurses := true, apart := false, narrowed := true }
def DeltaStepsUptoSaid : Prop := deltaStepsUptoRow.holds Try.pinned (OpenSpec.upto deltaStepsSpec)

/-- 'whipcordtop.TopDelta', WHERE WHAT IT READS IS OF BULK AT MOST 1048576: true; the input reads as it did. -/
def topDeltaUptoRow : OpenClaim := { program := "ytnpaijmibkbhfaa", sum := "4ab67bb99d2742b091e95c943d547b251540d6f81f025aea9954987fef9e4fe5", func := "whipcord/whipcordtop.TopDelta", spec := "topDelta", inPlace := ["slices.overlaps[whipcord/api.Route]", "math/bits.Sub64", "math/bits.Add64"], unfollowed := true, recurses := true, apart := false, narrowed := true }
def TopDeltaUptoSaid : Prop := topDeltaUptoRow.holds Try.pinned (OpenSpec.upto topDeltaSpec)

/-- 'whipcordkeep.FewestLikeness', WHERE WHAT IT READS IS OF BULK AT MOST 1048576: true; the input reads as it did. -/
def fewestLikenessUptoRow : OpenClaim := { program := "ytnpaijmibkbhfaa", sum := "4ab67bb99d2742b091e95c943d547b251540d6f81f025aea9954987fef9e4fe5", func := "whipcord/whipcordkeep.FewestLikeness", spec := "fewestLikeness", inPlace := ["slices.overlaps[whipcord/api.Route]", "math/bits.Sub64", "math/bits.Add64"], unfollowed := true, recurses := true, apart := false, narrowed := true }
def FewestLikenessUptoSaid : Prop := fewestLikenessUptoRow.holds Try.pinned (OpenSpec.upto fewestLikenessSpec)

/-- 'whipcordkeep.FewestGoes', WHERE WHAT IT READS IS OF BULK AT MOST 1048576: true; the input reads as it did. -/
def fewestGoesUptoRow : OpenClaim := { program := "ytnpaijmibkbhfaa", sum := "4ab67bb99d2742b091e95c943d547b251540d6f81f025aea9954987fef9e4fe5", func := "whipcord/whipcordkeep.FewestGoes", spec := "fewestGoes", inPlace := ["slices.overlaps[whipcord/api.Route]"], unfollowed := true, recurses := true, apart := false, narrowed := true }
def FewestGoesUptoSaid : Prop := fewestGoesUptoRow.holds Try.pinned (OpenSpec.upto fewestGoesSpec)

/-- 'whipcordkeep.FewestOrder', WHERE WHAT IT READS IS OF BULK AT MOST 1048576: true; the input reads as it did. -/
def fewestOrderUptoRow : OpenClaim := { program := "ytnpaijmibkbhfaa", sum := "4ab67bb99d2742b091e95c943d547b251540d6f81f025aea9954987fef9e4fe5", func := "whipcord/whipcordkeep.FewestOrder", spec := "fewestOrder", inPlace := ["slices.overlaps[whipcord/api.Route]"], unfollowed := true, recurses := true, apart := false, narrowed := true }
def FewestOrderUptoSaid : Prop := fewestOrderUptoRow.holds Try.pinned (OpenSpec.upto fewestOrderSpec)

/-- 'whipcordkeep.FewestBest', WHERE WHAT IT READS IS OF BULK AT MOST 1048576: true; the input reads as it did. -/
def fewestBestUptoRow : OpenClaim := { program := "ytnpaijmibkbhfaa", sum := "4ab67bb99d2742b091e95c943d547b251540d6f81f025aea9954987fef9e4fe5", func := "whipcord/whipcordkeep.FewestBest", spec := "fewestBest", inPlace := ["slices.overlaps[whipcord/api.Route]", "math/bits.Sub64", "math/bits.Add64"], unfollowed := true, recurses := true, apart := false, narrowed := true }
def FewestBestUptoSaid : Prop := fewestBestUptoRow.holds Try.pinned (OpenSpec.upto fewestBestSpec)

/-- 'whipcordkeep.FewestHalves', WHERE WHAT IT READS IS OF BULK AT MOST 1048576: true; the input reads as it did. -/
def fewestHalvesUptoRow : OpenClaim := { program := "ytnpaijmibkbhfaa", sum := "4ab67bb99d2742b091e95c943d547b251540d6f81f025aea9954987fef9e4fe5", func := "whipcord/whipcordkeep.FewestHalves", spec := "fewestHalves", inPlace := ["slices.overlaps[whipcord/api.Route]"], unfollowed := true, recurses := true, apart := false, narrowed := true }
def FewestHalvesUptoSaid : Prop := fewestHalvesUptoRow.holds Try.pinned (OpenSpec.upto fewestHalvesSpec)

/-- 'whipcordlaw.FewestFews', WHERE WHAT IT READS IS OF BULK AT MOST 1048576: true; the input reads as it did. -/
def fewestFewsUptoRow : OpenClaim := { program := "ytnpaijmibkbhfaa", sum := "4ab67bb99d2742b091e95c943d547b251540d6f81f025aea9954987fef9e4fe5", func := "whipcord/whipcordlaw.FewestFews", spec := "fewestFews", inPlace := ["slices.overlaps[whipcord/api.Route]"], unfollowed := true, recurses := true, apart := false, narrowed := true }
def FewestFewsUptoSaid : Prop := fewestFewsUptoRow.holds Try.pinned (OpenSpec.upto fewestFewsSpec)

end Rows
end Go.Proofs.Ytnpaijmibkbhfaa
