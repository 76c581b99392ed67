/-
  No cell of these rows narrows 'for every input' (looked for: loops, veiled, ifaces, maps, wideKeys, modest, calm, conditions, laid).
  DERIVED. THE GIVEN ROWS OF THIS SEAT. 11 by the template 'for every input the law returns true; each argument reads behind the call as it read before'; 0 by the template 'total and deterministic' (their statements: YthlkofbdfjpfpaaTotals.lean).
  GIVEN WITH THE SEED: the statements are not yours to turn. If you find one false, say at which input.
  Laid BY PROGRAM, IN A SANDBOX (cutbox-rows.mjs): the forced cells as the released guide's own fill.sh prints them over the translation 5c3093581a2b3778… (all of the seat's roots in one cut). By AI agents, Wed Nov 11 2026. No macro, syntax, notation, axiom, sorry.
-/
import Derived.Test.YthlkofbdfjpfpaaChecked
import GoSem.Claim
import GoSem.ClaimJoined
import GoSem.ClaimMapViews
import Derived.JoinedTies
import Derived.KernelRfl
namespace Go.Proofs.Ythlkofbdfjpfpaa
/- THE CELL 'sum', in the pinned program and in every row, IS THE sha256 OF THE DUMP (.gsa) THAT YthlkofbdfjpfpaaProg.lean LOADS. Nothing in Lean hashes anything: it is a label: what it is worth is what the hold of that sum in a sandbox is worth. -/
noncomputable def Try.pinned : Pinned := { name := "ythlkofbdfjpfpaa", sum := "5c3093581a2b3778b123bcf0958705db5ecd702f6cd49bf10da81dee1d322546", checked := Try.checked }
namespace Rows
def none {H : Type} : Left H := { results := [], args := [] }

/-- 'whipcordlaw.PreChecks': WHATEVER THE INPUT: true; the input reads as it did. -/
def preChecksSpec : ChangeSpec := { name := "preChecks", fn := fun _ => fun
  | [d] => { results := [.lit (.bool true)], args := [d] }
  | _ => none }
def preChecksRow : OpenClaim := { program := "ythlkofbdfjpfpaa", sum := "5c3093581a2b3778b123bcf0958705db5ecd702f6cd49bf10da81dee1d322546", func := "whipcord/whipcordlaw.PreChecks", spec := "preChecks", apart := false }
def PreChecksSaid : Prop := preChecksRow.holds Try.pinned (OpenSpec.ofChange preChecksSpec)

/-- ITS FALSE NEIGHBOUR: 'it returns false'. Refute it at one input. -/
def preChecksWrong : ChangeSpec := { name := "preChecks", fn := fun _ => fun
  | [d] => { results := [.lit (.bool false)], args := [d] }
  | _ => none }
def PreChecksWrongFalsely : Prop := preChecksRow.holds Try.pinned (OpenSpec.ofChange preChecksWrong)

/-- 'whipcordlaw.PreHas': WHATEVER THE INPUT: true; the input reads as it did. -/
def preHasSpec : ChangeSpec := { name := "preHas", fn := fun _ => fun
  | [d1, d2] => { results := [.lit (.bool true)], args := [d1, d2] }
  | _ => none }
def preHasRow : OpenClaim := { program := "ythlkofbdfjpfpaa", sum := "5c3093581a2b3778b123bcf0958705db5ecd702f6cd49bf10da81dee1d322546", func := "whipcord/whipcordlaw.PreHas", spec := "preHas", apart := false }
def PreHasSaid : Prop := preHasRow.holds Try.pinned (OpenSpec.ofChange preHasSpec)

/-- ITS FALSE NEIGHBOUR: 'it returns false'. Refute it at one input. -/
def preHasWrong : ChangeSpec := { name := "preHas", fn := fun _ => fun
  | [d1, d2] => { results := [.lit (.bool false)], args := [d1, d2] }
  | _ => none }
def PreHasWrongFalsely : Prop := preHasRow.holds Try.pinned (OpenSpec.ofChange preHasWrong)

/-- 'whipcordlaw.PreCovers': WHATEVER THE INPUT: true; the input reads as it did. -/
def preCoversSpec : ChangeSpec := { name := "preCovers", fn := fun _ => fun
  | [d1, d2] => { results := [.lit (.bool true)], args := [d1, d2] }
  | _ => none }
def preCoversRow : OpenClaim := { program := "ythlkofbdfjpfpaa", sum := "5c3093581a2b3778b123bcf0958705db5ecd702f6cd49bf10da81dee1d322546", func := "whipcord/whipcordlaw.PreCovers", spec := "preCovers", apart := false }
def PreCoversSaid : Prop := preCoversRow.holds Try.pinned (OpenSpec.ofChange preCoversSpec)

/-- ITS FALSE NEIGHBOUR: 'it returns false'. Refute it at one input. -/
def preCoversWrong : ChangeSpec := { name := "preCovers", fn := fun _ => fun
  | [d1, d2] => { results := [.lit (.bool false)], args := [d1, d2] }
  | _ => none }
def PreCoversWrongFalsely : Prop := preCoversRow.holds Try.pinned (OpenSpec.ofChange preCoversWrong)

/-- 'whipcordlaw.PreSpans': WHATEVER THE INPUT: true; the input reads as it did. -/
def preSpansSpec : ChangeSpec := { name := "preSpans", fn := fun _ => fun
  | [d] => { results := [.lit (.bool true)], args := [d] }
  | _ => none }
def preSpansRow : OpenClaim := { program := "ythlkofbdfjpfpaa", sum := "5c3093581a2b3778b123bcf0958705db5ecd702f6cd49bf10da81dee1d322546", func := "whipcord/whipcordlaw.PreSpans", spec := "preSpans", apart := false }
def PreSpansSaid : Prop := preSpansRow.holds Try.pinned (OpenSpec.ofChange preSpansSpec)

/-- ITS FALSE NEIGHBOUR: 'it returns false'. Refute it at one input. -/
def preSpansWrong : ChangeSpec := { name := "preSpans", fn := fun _ => fun
  | [d] => { results := [.lit (.bool false)], args := [d] }
  | _ => none }
def PreSpansWrongFalsely : Prop := preSpansRow.holds Try.pinned (OpenSpec.ofChange preSpansWrong)

/-- 'whipcordlaw.PreHalves': WHATEVER THE INPUT: true; the input reads as it did. -/
def preHalvesSpec : ChangeSpec := { name := "preHalves", fn := fun _ => fun
  | [d] => { results := [.lit (.bool true)], args := [d] }
  | _ => none }
def preHalvesRow : OpenClaim := { program := "ythlkofbdfjpfpaa", sum := "5c3093581a2b3778b123bcf0958705db5ecd702f6cd49bf10da81dee1d322546", func := "whipcord/whipcordlaw.PreHalves", spec := "preHalves", apart := false }
def PreHalvesSaid : Prop := preHalvesRow.holds Try.pinned (OpenSpec.ofChange preHalvesSpec)

/-- ITS FALSE NEIGHBOUR: 'it returns false'. Refute it at one input. -/
def preHalvesWrong : ChangeSpec := { name := "preHalves", fn := fun _ => fun
  | [d] => { results := [.lit (.bool false)], args := [d] }
  | _ => none }
def PreHalvesWrongFalsely : Prop := preHalvesRow.holds Try.pinned (OpenSpec.ofChange preHalvesWrong)

/-- 'whipcordlaw.PreCommons': WHATEVER THE INPUT: true; the input reads as it did. -/
def preCommonsSpec : ChangeSpec := { name := "preCommons", fn := fun _ => fun
  | [d1, d2] => { results := [.lit (.bool true)], args := [d1, d2] }
  | _ => none }
def preCommonsRow : OpenClaim := { program := "ythlkofbdfjpfpaa", sum := "5c3093581a2b3778b123bcf0958705db5ecd702f6cd49bf10da81dee1d322546", func := "whipcord/whipcordlaw.PreCommons", spec := "preCommons", apart := false }
def PreCommonsSaid : Prop := preCommonsRow.holds Try.pinned (OpenSpec.ofChange preCommonsSpec)

/-- ITS FALSE NEIGHBOUR: 'it returns false'. Refute it at one input. -/
def preCommonsWrong : ChangeSpec := { name := "preCommons", fn := fun _ => fun
  | [d1, d2] => { results := [.lit (.bool false)], args := [d1, d2] }
  | _ => none }
def PreCommonsWrongFalsely : Prop := preCommonsRow.holds Try.pinned (OpenSpec.ofChange preCommonsWrong)

/-- 'whipcordkeep.PreHalved': WHATEVER THE INPUT: true; the input reads as it did. -/
def preHalvedSpec : ChangeSpec := { name := "preHalved", fn := fun _ => fun
  | [d1, d2, d3] => { results := [.lit (.bool true)], args := [d1, d2, d3] }
  | _ => none }
def preHalvedRow : OpenClaim := { program := "ythlkofbdfjpfpaa", sum := "5c3093581a2b3778b123bcf0958705db5ecd702f6cd49bf10da81dee1d322546", func := "whipcord/whipcordkeep.PreHalved", spec := "preHalved", inPlace := ["math/bits.Sub64", "math/bits.Add64"], apart := false }
def PreHalvedSaid : Prop := preHalvedRow.holds Try.pinned (OpenSpec.ofChange preHalvedSpec)

/-- ITS FALSE NEIGHBOUR: 'it returns false'. Refute it at one input. -/
def preHalvedWrong : ChangeSpec := { name := "preHalved", fn := fun _ => fun
  | [d1, d2, d3] => { results := [.lit (.bool false)], args := [d1, d2, d3] }
  | _ => none }
def PreHalvedWrongFalsely : Prop := preHalvedRow.holds Try.pinned (OpenSpec.ofChange preHalvedWrong)

/-- 'whipcordkeep.PreNested': WHATEVER THE INPUT: true; the input reads as it did. -/
def preNestedSpec : ChangeSpec := { name := "preNested", fn := fun _ => fun
  | [d1, d2, d3, d4] => { results := [.lit (.bool true)], args := [d1, d2, d3, d4] }
  | _ => none }
def preNestedRow : OpenClaim := { program := "ythlkofbdfjpfpaa", sum := "5c3093581a2b3778b123bcf0958705db5ecd702f6cd49bf10da81dee1d322546", func := "whipcord/whipcordkeep.PreNested", spec := "preNested", apart := false }
def PreNestedSaid : Prop := preNestedRow.holds Try.pinned (OpenSpec.ofChange preNestedSpec)

/-- ITS FALSE NEIGHBOUR: 'it returns false'. Refute it at one input. -/
def preNestedWrong : ChangeSpec := { name := "preNested", fn := fun _ => fun
  | [d1, d2, d3, d4] => { results := [.lit (.bool false)], args := [d1, d2, d3, d4] }
  | _ => none }
def PreNestedWrongFalsely : Prop := preNestedRow.holds Try.pinned (OpenSpec.ofChange preNestedWrong)

/-- 'whipcordkeep.PreSize': WHATEVER THE INPUT: true; the input reads as it did. -/
def preSizeSpec : ChangeSpec := { name := "preSize", fn := fun _ => fun
  | [d1, d2] => { results := [.lit (.bool true)], args := [d1, d2] }
  | _ => none }
def preSizeRow : OpenClaim := { program := "ythlkofbdfjpfpaa", sum := "5c3093581a2b3778b123bcf0958705db5ecd702f6cd49bf10da81dee1d322546", func := "whipcord/whipcordkeep.PreSize", spec := "preSize", inPlace := ["math/bits.Sub64", "math/bits.Add64"], apart := false }
def PreSizeSaid : Prop := preSizeRow.holds Try.pinned (OpenSpec.ofChange preSizeSpec)

/-- ITS FALSE NEIGHBOUR: 'it returns false'. Refute it at one input. -/
def preSizeWrong : ChangeSpec := { name := "preSize", fn := fun _ => fun
  | [d1, d2] => { results := [.lit (.bool false)], args := [d1, d2] }
  | _ => none }
def PreSizeWrongFalsely : Prop := preSizeRow.holds Try.pinned (OpenSpec.ofChange preSizeWrong)

/-- 'whipcordkeep.PreChain': WHATEVER THE INPUT: true; the input reads as it did. -/
def preChainSpec : ChangeSpec := { name := "preChain", fn := fun _ => fun
  | [d1, d2, d3, d4] => { results := [.lit (.bool true)], args := [d1, d2, d3, d4] }
  | _ => none }
def preChainRow : OpenClaim := { program := "ythlkofbdfjpfpaa", sum := "5c3093581a2b3778b123bcf0958705db5ecd702f6cd49bf10da81dee1d322546", func := "whipcord/whipcordkeep.PreChain", spec := "preChain", apart := false }
def PreChainSaid : Prop := preChainRow.holds Try.pinned (OpenSpec.ofChange preChainSpec)

/-- ITS FALSE NEIGHBOUR: 'it returns false'. Refute it at one input. -/
def preChainWrong : ChangeSpec := { name := "preChain", fn := fun _ => fun
  | [d1, d2, d3, d4] => { results := [.lit (.bool false)], args := [d1, d2, d3, d4] }
  | _ => none }
def PreChainWrongFalsely : Prop := preChainRow.holds Try.pinned (OpenSpec.ofChange preChainWrong)

/-- 'whipcordkeep.PreMeet': WHATEVER THE INPUT: true; the input reads as it did. -/
def preMeetSpec : ChangeSpec := { name := "preMeet", fn := fun _ => fun
  | [d1, d2, d3, d4, d5, d6] => { results := [.lit (.bool true)], args := [d1, d2, d3, d4, d5, d6] }
  | _ => none }
def preMeetRow : OpenClaim := { program := "ythlkofbdfjpfpaa", sum := "5c3093581a2b3778b123bcf0958705db5ecd702f6cd49bf10da81dee1d322546", func := "whipcord/whipcordkeep.PreMeet", spec := "preMeet", apart := false }
def PreMeetSaid : Prop := preMeetRow.holds Try.pinned (OpenSpec.ofChange preMeetSpec)

/-- ITS FALSE NEIGHBOUR: 'it returns false'. Refute it at one input. -/
def preMeetWrong : ChangeSpec := { name := "preMeet", fn := fun _ => fun
  | [d1, d2, d3, d4, d5, d6] => { results := [.lit (.bool false)], args := [d1, d2, d3, d4, d5, d6] }
  | _ => none }
def PreMeetWrongFalsely : Prop := preMeetRow.holds Try.pinned (OpenSpec.ofChange preMeetWrong)

/- THE SECOND FORM. 'bulk': how many values and letters a reading holds, each counted each time it is reached (what is shared counts as often as it is met; a slice's spare places count too). A statement '..UptoSaid' is the law's where the arguments, and the package variables that the reading takes, are together of bulk at most 1048576: NARROWER than '..Said'. Prove '..Said' where nothing that the law and all that it calls make is longer than what came in: it says more and counts as full. Else prove '..UptoSaid'. A law counts once. -/
mutual
def uptoBulk {H : Type} : DataW H → Nat
  | .lit (.string bytes) => bytes.length + 1
  | .lit _ => 1
  | .nil => 1
  | .ptr d => uptoBulk d + 1
  | .slice elems spare => uptoBulkAll elems + uptoBulkAll spare + 1
  | .agg parts => uptoBulkAll parts + 1
  | .iface _ d => uptoBulk d + 1
  | .map entries => uptoBulkEntries entries + 1
  | .held _ => 1
def uptoBulkAll {H : Type} : List (DataW H) → Nat
  | [] => 0
  | d :: r => uptoBulk d + uptoBulkAll r
def uptoBulkEntries {H : Type} : List (Lit × DataW H) → Nat
  | [] => 0
  | x :: r => uptoBulkEntry x + uptoBulkEntries r
def uptoBulkEntry {H : Type} : Lit × DataW H → Nat
  | (.string bytes, d) => bytes.length + uptoBulk d + 1
  | (_, d) => uptoBulk d + 1
 end
def uptoSmall : (H : Type) → List (DataW H) → Bool := fun _ ds => decide (uptoBulkAll ds ≤ 1048576)
def OpenSpec.upto (s : _root_.Go.ChangeSpec) : _root_.Go.OpenSpec := { _root_.Go.OpenSpec.ofChange s with cond := some uptoSmall }

/-- 'whipcordlaw.PreChecks', WHERE WHAT IT READS IS OF BULK AT MOST 1048576: true; the input reads as it did. -/
def preChecksUptoRow : OpenClaim := { program := "ythlkofbdfjpfpaa", sum := "5c3093581a2b3778b123bcf0958705db5ecd702f6cd49bf10da81dee1d322546", func := "whipcord/whipcordlaw.PreChecks", spec := "preChecks", apart := false, narrowed := true }
def PreChecksUptoSaid : Prop := preChecksUptoRow.holds Try.pinned (OpenSpec.upto preChecksSpec)

/-- 'whipcordlaw.PreHas', WHERE WHAT IT READS IS OF BULK AT MOST 1048576: true; the input reads as it did. -/
def preHasUptoRow : OpenClaim := { program := "ythlkofbdfjpfpaa", sum := "5c3093581a2b3778b123bcf0958705db5ecd702f6cd49bf10da81dee1d322546", func := "whipcord/whipcordlaw.PreHas", spec := "preHas", apart := false, narrowed := true }
def PreHasUptoSaid : Prop := preHasUptoRow.holds Try.pinned (OpenSpec.upto preHasSpec)

/-- 'whipcordlaw.PreCovers', WHERE WHAT IT READS IS OF BULK AT MOST 1048576: true; the input reads as it did. -/
def preCoversUptoRow : OpenClaim := { program := "ythlkofbdfjpfpaa", sum := "5c3093581a2b3778b123bcf0958705db5ecd702f6cd49bf10da81dee1d322546", func := "whipcord/whipcordlaw.PreCovers", spec := "preCovers", apart := false, narrowed := true }
def PreCoversUptoSaid : Prop := preCoversUptoRow.holds Try.pinned (OpenSpec.upto preCoversSpec)

/-- 'whipcordlaw.PreSpans', WHERE WHAT IT READS IS OF BULK AT MOST 1048576: true; the input reads as it did. -/
def preSpansUptoRow : OpenClaim := { program := "ythlkofbdfjpfpaa", sum := "5c3093581a2b3778b123bcf0958705db5ecd702f6cd49bf10da81dee1d322546", func := "whipcord/whipcordlaw.PreSpans", spec := "preSpans", apart := false, narrowed := true }
def PreSpansUptoSaid : Prop := preSpansUptoRow.holds Try.pinned (OpenSpec.upto preSpansSpec)

/-- 'whipcordlaw.PreHalves', WHERE WHAT IT READS IS OF BULK AT MOST 1048576: true; the input reads as it did. -/
def preHalvesUptoRow : OpenClaim := { program := "ythlkofbdfjpfpaa", sum := "5c3093581a2b3778b123bcf0958705db5ecd702f6cd49bf10da81dee1d322546", func := "whipcord/whipcordlaw.PreHalves", spec := "preHalves", apart := false, narrowed := true }
def PreHalvesUptoSaid : Prop := preHalvesUptoRow.holds Try.pinned (OpenSpec.upto preHalvesSpec)

/-- 'whipcordlaw.PreCommons', WHERE WHAT IT READS IS OF BULK AT MOST 1048576: true; the input reads as it did. -/
def preCommonsUptoRow : OpenClaim := { program := "ythlkofbdfjpfpaa", sum := "5c3093581a2b3778b123bcf0958705db5ecd702f6cd49bf10da81dee1d322546", func := "whipcord/whipcordlaw.PreCommons", spec := "preCommons", apart := false, narrowed := true }
def PreCommonsUptoSaid : Prop := preCommonsUptoRow.holds Try.pinned (OpenSpec.upto preCommonsSpec)

/-- 'whipcordkeep.PreHalved', WHERE WHAT IT READS IS OF BULK AT MOST 1048576: true; the input reads as it did. -/
def preHalvedUptoRow : OpenClaim := { program := "ythlkofbdfjpfpaa", sum := "5c3093581a2b3778b123bcf0958705db5ecd702f6cd49bf10da81dee1d322546", func := "whipcord/whipcordkeep.PreHalved", spec := "preHalved", inPlace := ["math/bits.Sub64", "math/bits.Add64"], apart := false, narrowed := true }
def PreHalvedUptoSaid : Prop := preHalvedUptoRow.holds Try.pinned (OpenSpec.upto preHalvedSpec)

/-- 'whipcordkeep.PreNested', WHERE WHAT IT READS IS OF BULK AT MOST 1048576: true; the input reads as it did. -/
def preNestedUptoRow : OpenClaim := { program := "ythlkofbdfjpfpaa", sum := "5c3093581a2b3778b123bcf0958705db5ecd702f6cd49bf10da81dee1d322546", func := "whipcord/whipcordkeep.PreNested", spec := "preNested", apart := false, narrowed := true }
def PreNestedUptoSaid : Prop := preNestedUptoRow.holds Try.pinned (OpenSpec.upto preNestedSpec)

/-- 'whipcordkeep.PreSize', WHERE WHAT IT READS IS OF BULK AT MOST 1048576: true; the input reads as it did. -/
def preSizeUptoRow : OpenClaim := { program := "ythlkofbdfjpfpaa", sum := "5c3093581a2b3778b123bcf0958705db5ecd702f6cd49bf10da81dee1d322546", func := "whipcord/whipcordkeep.PreSize", spec := "preSize", inPlace := ["math/bits.Sub64", "math/bits.Add64"], apart := false, narrowed := true }
def PreSizeUptoSaid : Prop := preSizeUptoRow.holds Try.pinned (OpenSpec.upto preSizeSpec)

/-- 'whipcordkeep.PreChain', WHERE WHAT IT READS IS OF BULK AT MOST 1048576: true; the input reads as it did. -/
def preChainUptoRow : OpenClaim := { program := "ythlkofbdfjpfpaa", sum := "5c3093581a2b3778b123bcf0958705db5ecd702f6cd49bf10da81dee1d322546", func := "whipcord/whipcordkeep.PreChain", spec := "preChain", apart := false, narrowed := true }
def PreChainUptoSaid : Prop := preChainUptoRow.holds Try.pinned (OpenSpec.upto preChainSpec)

/-- 'whipcordkeep.PreMeet', WHERE WHAT IT READS IS OF BULK AT MOST 1048576: true; the input reads as it did. -/
def preMeetUptoRow : OpenClaim := { program := "ythlkofbdfjpfpaa", sum := "5c3093581a2b3778b123bcf0958705db5ecd702f6cd49bf10da81dee1d322546", func := "whipcord/whipcordkeep.PreMeet", spec := "preMeet", apart := false, narrowed := true }
def PreMeetUptoSaid : Prop := preMeetUptoRow.holds Try.pinned (OpenSpec.upto preMeetSpec)

end Rows
end Go.Proofs.Ythlkofbdfjpfpaa
