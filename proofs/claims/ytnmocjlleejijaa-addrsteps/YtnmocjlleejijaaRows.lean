/-
  No cell of these rows narrows 'for every input' (looked for: loops, veiled, ifaces, maps, wideKeys, modest, calm, conditions, laid).
  DERIVED. THE GIVEN ROWS OF THIS SEAT. 6 by the template 'for every input the law returns true; each argument reads behind the call as it read before'; 0 by the template 'total and deterministic' (their statements: YtnmocjlleejijaaTotals.lean).
  GIVEN WITH THE SEED: the statements are not yours to turn. If you find one false, say at which input.
  Laid BY PROGRAM, IN A SANDBOX (cutbox-rows.mjs): the forced cells as the released guide's own fill.sh prints them over the translation 752170522f2dd9d9… (all of the seat's roots in one cut). By AI agents, Wed Nov 11 2026. No macro, syntax, notation, axiom, sorry.
-/
import Derived.Test.YtnmocjlleejijaaChecked
import GoSem.Claim
import GoSem.ClaimJoined
import GoSem.ClaimMapViews
import Derived.JoinedTies
import Derived.KernelRfl
namespace Go.Proofs.Ytnmocjlleejijaa
/- THE CELL 'sum', in the pinned program and in every row, IS THE sha256 OF THE DUMP (.gsa) THAT YtnmocjlleejijaaProg.lean LOADS. Nothing in Lean hashes anything: it is a label: what it is worth is what the hold of that sum in a sandbox is worth. -/
noncomputable def Try.pinned : Pinned := { name := "ytnmocjlleejijaa", sum := "752170522f2dd9d960a314091989a995712a95d5e1d9a7ca7289b3f1015f37ab", checked := Try.checked }
namespace Rows
def none {H : Type} : Left H := { results := [], args := [] }

/-- 'whipcordlaw.AddrMays': WHATEVER THE INPUT: true; the input reads as it did. -/
def addrMaysSpec : ChangeSpec := { name := "addrMays", fn := fun _ => fun
  | [d] => { results := [.lit (.bool true)], args := [d] }
  | _ => none }
def addrMaysRow : OpenClaim := { program := "ytnmocjlleejijaa", sum := "752170522f2dd9d960a314091989a995712a95d5e1d9a7ca7289b3f1015f37ab", func := "whipcord/whipcordlaw.AddrMays", spec := "addrMays", apart := false }
def AddrMaysSaid : Prop := addrMaysRow.holds Try.pinned (OpenSpec.ofChange addrMaysSpec)

/-- ITS FALSE NEIGHBOUR: 'it returns false'. Refute it at one input. -/
def addrMaysWrong : ChangeSpec := { name := "addrMays", fn := fun _ => fun
  | [d] => { results := [.lit (.bool false)], args := [d] }
  | _ => none }
def AddrMaysWrongFalsely : Prop := addrMaysRow.holds Try.pinned (OpenSpec.ofChange addrMaysWrong)

/-- 'whipcordlaw.AddrBits': WHATEVER THE INPUT: true; the input reads as it did. -/
def addrBitsSpec : ChangeSpec := { name := "addrBits", fn := fun _ => fun
  | [d1, d2] => { results := [.lit (.bool true)], args := [d1, d2] }
  | _ => none }
def addrBitsRow : OpenClaim := { program := "ytnmocjlleejijaa", sum := "752170522f2dd9d960a314091989a995712a95d5e1d9a7ca7289b3f1015f37ab", func := "whipcord/whipcordlaw.AddrBits", spec := "addrBits", apart := false }
def AddrBitsSaid : Prop := addrBitsRow.holds Try.pinned (OpenSpec.ofChange addrBitsSpec)

/-- ITS FALSE NEIGHBOUR: 'it returns false'. Refute it at one input. -/
def addrBitsWrong : ChangeSpec := { name := "addrBits", fn := fun _ => fun
  | [d1, d2] => { results := [.lit (.bool false)], args := [d1, d2] }
  | _ => none }
def AddrBitsWrongFalsely : Prop := addrBitsRow.holds Try.pinned (OpenSpec.ofChange addrBitsWrong)

/-- 'whipcordlaw.AddrNexts': WHATEVER THE INPUT: true; the input reads as it did. -/
def addrNextsSpec : ChangeSpec := { name := "addrNexts", fn := fun _ => fun
  | [d1, d2] => { results := [.lit (.bool true)], args := [d1, d2] }
  | _ => none }
def addrNextsRow : OpenClaim := { program := "ytnmocjlleejijaa", sum := "752170522f2dd9d960a314091989a995712a95d5e1d9a7ca7289b3f1015f37ab", func := "whipcord/whipcordlaw.AddrNexts", spec := "addrNexts", inPlace := ["math/bits.Sub64", "math/bits.Add64"], apart := false }
def AddrNextsSaid : Prop := addrNextsRow.holds Try.pinned (OpenSpec.ofChange addrNextsSpec)

/-- ITS FALSE NEIGHBOUR: 'it returns false'. Refute it at one input. -/
def addrNextsWrong : ChangeSpec := { name := "addrNexts", fn := fun _ => fun
  | [d1, d2] => { results := [.lit (.bool false)], args := [d1, d2] }
  | _ => none }
def AddrNextsWrongFalsely : Prop := addrNextsRow.holds Try.pinned (OpenSpec.ofChange addrNextsWrong)

/-- 'whipcordkeep.AddrThere': WHATEVER THE INPUT: true; the input reads as it did. -/
def addrThereSpec : ChangeSpec := { name := "addrThere", fn := fun _ => fun
  | [d1, d2, d3] => { results := [.lit (.bool true)], args := [d1, d2, d3] }
  | _ => none }
def addrThereRow : OpenClaim := { program := "ytnmocjlleejijaa", sum := "752170522f2dd9d960a314091989a995712a95d5e1d9a7ca7289b3f1015f37ab", func := "whipcord/whipcordkeep.AddrThere", spec := "addrThere", inPlace := ["math/bits.Sub64", "math/bits.Add64"], apart := false }
def AddrThereSaid : Prop := addrThereRow.holds Try.pinned (OpenSpec.ofChange addrThereSpec)

/-- ITS FALSE NEIGHBOUR: 'it returns false'. Refute it at one input. -/
def addrThereWrong : ChangeSpec := { name := "addrThere", fn := fun _ => fun
  | [d1, d2, d3] => { results := [.lit (.bool false)], args := [d1, d2, d3] }
  | _ => none }
def AddrThereWrongFalsely : Prop := addrThereRow.holds Try.pinned (OpenSpec.ofChange addrThereWrong)

/-- 'whipcordkeep.AddrSpelt': WHATEVER THE INPUT: true; the input reads as it did. -/
def addrSpeltSpec : ChangeSpec := { name := "addrSpelt", fn := fun _ => fun
  | [d1, d2] => { results := [.lit (.bool true)], args := [d1, d2] }
  | _ => none }
def addrSpeltRow : OpenClaim := { program := "ytnmocjlleejijaa", sum := "752170522f2dd9d960a314091989a995712a95d5e1d9a7ca7289b3f1015f37ab", func := "whipcord/whipcordkeep.AddrSpelt", spec := "addrSpelt", apart := false }
def AddrSpeltSaid : Prop := addrSpeltRow.holds Try.pinned (OpenSpec.ofChange addrSpeltSpec)

/-- ITS FALSE NEIGHBOUR: 'it returns false'. Refute it at one input. -/
def addrSpeltWrong : ChangeSpec := { name := "addrSpelt", fn := fun _ => fun
  | [d1, d2] => { results := [.lit (.bool false)], args := [d1, d2] }
  | _ => none }
def AddrSpeltWrongFalsely : Prop := addrSpeltRow.holds Try.pinned (OpenSpec.ofChange addrSpeltWrong)

/-- 'whipcordkeep.AddrSteps': WHATEVER THE INPUT: true; the input reads as it did. -/
def addrStepsSpec : ChangeSpec := { name := "addrSteps", fn := fun _ => fun
  | [d1, d2] => { results := [.lit (.bool true)], args := [d1, d2] }
  | _ => none }
def addrStepsRow : OpenClaim := { program := "ytnmocjlleejijaa", sum := "752170522f2dd9d960a314091989a995712a95d5e1d9a7ca7289b3f1015f37ab", func := "whipcord/whipcordkeep.AddrSteps", spec := "addrSteps", inPlace := ["math/bits.Sub64", "math/bits.Add64"], apart := false }
def AddrStepsSaid : Prop := addrStepsRow.holds Try.pinned (OpenSpec.ofChange addrStepsSpec)

/-- ITS FALSE NEIGHBOUR: 'it returns false'. Refute it at one input. -/
def addrStepsWrong : ChangeSpec := { name := "addrSteps", fn := fun _ => fun
  | [d1, d2] => { results := [.lit (.bool false)], args := [d1, d2] }
  | _ => none }
def AddrStepsWrongFalsely : Prop := addrStepsRow.holds Try.pinned (OpenSpec.ofChange addrStepsWrong)

/- THE SECOND FORM. 'bulk': how many values and letters a reading holds, each counted each time it is reached (what is shared counts as often as it is met; a slice's spare places count too). A statement '..UptoSaid' is the law's where the arguments, and the package variables that the reading takes, are together of bulk at most 1048576: NARROWER than '..Said'. Prove '..Said' where nothing that the law and all that it calls make is longer than what came in: it says more and counts as full. Else prove '..UptoSaid'. A law counts once. -/
mutual
def uptoBulk {H : Type} : DataW H → Nat
  | .lit (.string bytes) => bytes.length + 1
  | .lit _ => 1
  | .nil => 1
  | .ptr d => uptoBulk d + 1
  | .slice elems spare => uptoBulkAll elems + uptoBulkAll spare + 1
  | .agg parts => uptoBulkAll parts + 1
  | .iface _ d => uptoBulk d + 1
  | .map entries => uptoBulkEntries entries + 1
  | .held _ => 1
def uptoBulkAll {H : Type} : List (DataW H) → Nat
  | [] => 0
  | d :: r => uptoBulk d + uptoBulkAll r
def uptoBulkEntries {H : Type} : List (Lit × DataW H) → Nat
  | [] => 0
  | x :: r => uptoBulkEntry x + uptoBulkEntries r
def uptoBulkEntry {H : Type} : Lit × DataW H → Nat
  | (.string bytes, d) => bytes.length + uptoBulk d + 1
  | (_, d) => uptoBulk d + 1
 end
def uptoSmall : (H : Type) → List (DataW H) → Bool := fun _ ds => decide (uptoBulkAll ds ≤ 1048576)
def OpenSpec.upto (s : _root_.Go.ChangeSpec) : _root_.Go.OpenSpec := { _root_.Go.OpenSpec.ofChange s with cond := some uptoSmall }

/-- 'whipcordlaw.AddrMays', WHERE WHAT IT READS IS OF BULK AT MOST 1048576: true; the input reads as it did. -/
def addrMaysUptoRow : OpenClaim := { program := "ytnmocjlleejijaa", sum := "752170522f2dd9d960a314091989a995712a95d5e1d9a7ca7289b3f1015f37ab", func := "whipcord/whipcordlaw.AddrMays", spec := "addrMays", apart := false, narrowed := true }
def AddrMaysUptoSaid : Prop := addrMaysUptoRow.holds Try.pinned (OpenSpec.upto addrMaysSpec)

/-- 'whipcordlaw.AddrBits', WHERE WHAT IT READS IS OF BULK AT MOST 1048576: true; the input reads as it did. -/
def addrBitsUptoRow : OpenClaim := { program := "ytnmocjlleejijaa", sum := "752170522f2dd9d960a314091989a995712a95d5e1d9a7ca7289b3f1015f37ab", func := "whipcord/whipcordlaw.AddrBits", spec := "addrBits", apart := false, narrowed := true }
def AddrBitsUptoSaid : Prop := addrBitsUptoRow.holds Try.pinned (OpenSpec.upto addrBitsSpec)

/-- 'whipcordlaw.AddrNexts', WHERE WHAT IT READS IS OF BULK AT MOST 1048576: true; the input reads as it did. -/
def addrNextsUptoRow : OpenClaim := { program := "ytnmocjlleejijaa", sum := "752170522f2dd9d960a314091989a995712a95d5e1d9a7ca7289b3f1015f37ab", func := "whipcord/whipcordlaw.AddrNexts", spec := "addrNexts", inPlace := ["math/bits.Sub64", "math/bits.Add64"], apart := false, narrowed := true }
def AddrNextsUptoSaid : Prop := addrNextsUptoRow.holds Try.pinned (OpenSpec.upto addrNextsSpec)

/-- 'whipcordkeep.AddrThere', WHERE WHAT IT READS IS OF BULK AT MOST 1048576: true; the input reads as it did. -/
def addrThereUptoRow : OpenClaim := { program := "ytnmocjlleejijaa", sum := "752170522f2dd9d960a314091989a995712a95d5e1d9a7ca7289b3f1015f37ab", func := "whipcord/whipcordkeep.AddrThere", spec := "addrThere", inPlace := ["math/bits.Sub64", "math/bits.Add64"], apart := false, narrowed := true }
def AddrThereUptoSaid : Prop := addrThereUptoRow.holds Try.pinned (OpenSpec.upto addrThereSpec)

/-- 'whipcordkeep.AddrSpelt', WHERE WHAT IT READS IS OF BULK AT MOST 1048576: true; the input reads as it did. -/
def addrSpeltUptoRow : OpenClaim := { program := "ytnmocjlleejijaa", sum := "752170522f2dd9d960a314091989a995712a95d5e1d9a7ca7289b3f1015f37ab", func := "whipcord/whipcordkeep.AddrSpelt", spec := "addrSpelt", apart := false, narrowed := true }
def AddrSpeltUptoSaid : Prop := addrSpeltUptoRow.holds Try.pinned (OpenSpec.upto addrSpeltSpec)

/-- 'whipcordkeep.AddrSteps', WHERE WHAT IT READS IS OF BULK AT MOST 1048576: true; the input reads as it did. -/
def addrStepsUptoRow : OpenClaim := { program := "ytnmocjlleejijaa", sum := "752170522f2dd9d960a314091989a995712a95d5e1d9a7ca7289b3f1015f37ab", func := "whipcord/whipcordkeep.AddrSteps", spec := "addrSteps", inPlace := ["math/bits.Sub64", "math/bits.Add64"], apart := false, narrowed := true }
def AddrStepsUptoSaid : Prop := addrStepsUptoRow.holds Try.pinned (OpenSpec.upto addrStepsSpec)

end Rows
end Go.Proofs.Ytnmocjlleejijaa
