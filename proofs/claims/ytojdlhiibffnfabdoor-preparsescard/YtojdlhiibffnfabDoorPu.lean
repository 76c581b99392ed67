/-
  internal/strconv.ParseUint to base 10 at 8 bits and to base 16 at 16 bits.
-/
import Derived.Test.YtojdlhiibffnfabDoorProg
import Derived.Test.YtojdlhiibffnfabDoorBase
import Derived.Lib.ConvBytes
namespace Go.Proofs.YtojdlhiibffnfabDoor
open Go.RowKit Go.Sort
set_option linter.unusedVariables false
set_option linter.unusedSimpArgs false

/-- A letter made small. -/
def low (c : UInt8) : Nat := (c ||| 32).toNat
theorem low_bits (c : UInt8) : bits .or .u8 (c.toNat : Int) 32 = (low c : Int) := by
  have h : ∀ n : Fin 256, bits .or .u8 (((UInt8.ofNat n.1).toNat : Nat) : Int) 32 = (low (UInt8.ofNat n.1) : Int) := by decide +kernel
  have := h ⟨c.toNat, c.toNat_lt⟩
  simpa using this
theorem low_lt (c : UInt8) : low c < 256 := (c ||| 32).toNat_lt
/-- A digit's worth. -/
def dv (B : Nat) (c : UInt8) : Option Nat :=
  if 48 ≤ c.toNat ∧ c.toNat ≤ 57 then (if c.toNat - 48 < B then some (c.toNat - 48) else none)
  else if 97 ≤ low c ∧ low c ≤ 122 then (if low c - 87 < B then some (low c - 87) else none) else none
/-- A number read on. -/
def pu (B M : Nat) : Nat → List UInt8 → Option Nat
  | acc, [] => some acc
  | acc, c :: cs => match dv B c with
    | none => none
    | some d => if acc * B + d ≤ M then pu B M (acc * B + d) cs else none
theorem pu_none {B M acc : Nat} {c : UInt8} {cs : List UInt8} (h : dv B c = none) : pu B M acc (c :: cs) = none := by simp [pu, h]
theorem pu_over {B M acc d : Nat} {c : UInt8} {cs : List UInt8} (h : dv B c = some d) (hd : ¬ acc * B + d ≤ M) : pu B M acc (c :: cs) = none := by simp [pu, h, hd]
theorem pu_step {B M acc d : Nat} {c : UInt8} {cs : List UInt8} (h : dv B c = some d) (hd : acc * B + d ≤ M) : pu B M acc (c :: cs) = pu B M (acc * B + d) cs := by simp [pu, h, hd]

set_option maxHeartbeats 400000 in
theorem lower_calls (c : UInt8) (w : World) : Calls Tryd.prog 80 #[.int .u8 (c.toNat : Int)] w fun e w' => e = .returned (.int .u8 (low c : Int)) ∧ w' = w := by
  have h := low_bits c
  go_enter Tryd.func80, Tryd.ntmps80
  go_wp2
  go_ret
  exact ⟨by rw [← h]; rfl, rfl⟩

/-- What internal/strconv.ParseUint answers. -/
def PuIs (r : Option Nat) (e : Ending) : Prop := match r with
  | some u => e = .returned (.tuple #[.int .u64 (u : Int), .nilIface])
  | none => ∃ m k : Int, e = .returned (.tuple #[.int .u64 m, .iface 86 (.int .i64 k)]) ∧ (k = 1 ∨ k = 2)

end Go.Proofs.YtojdlhiibffnfabDoor
