/-
  whipcordkeep.Pres of one number, Near, sameRoutes.
-/
import Derived.Test.YtepfcphhgmmlhaaTabV
import Derived.Test.YtepfcphhgmmlhaaPicked
namespace Go.Proofs.Ytepfcphhgmmlhaa
open Go.RowKit
set_option linter.unusedVariables false
set_option linter.unusedSimpArgs false

/-- The prefix that Pres makes of a number. -/
def kZ (z : Int) : Nat := (z % 9).toNat
def dZ (z : Int) : Nat := (z.tdiv 9 % 512).toNat
def xZ (z : Int) : Nat := lowN (167772160 + dZ z) (32 - (24 + kZ z))
def preZ (z : Int) : PK := (false, xZ z, ((24 + kZ z : Nat) : Int))
theorem kZ_lt (z : Int) : kZ z ≤ 8 := by unfold kZ; have := Int.emod_lt_of_pos z (show (0 : Int) < 9 by decide); omega
theorem dZ_lt (z : Int) : dZ z < 512 := by unfold dZ; have := Int.emod_lt_of_pos (z.tdiv 9) (show (0 : Int) < 512 by decide); omega
theorem xZ_lt (z : Int) : xZ z < 4294967296 := Nat.lt_of_le_of_lt (lowN_le _ _) (by have := dZ_lt z; omega)
theorem preZ_ok (z : Int) : chkE (preZ z).1 (preZ z).2.1 (preZ z).2.2 = 0 := by
  have hk := kZ_lt z
  refine chk_mk false _ (24 + kZ z) ?_ (by show 24 + kZ z ≤ 32; omega) ?_
  · exact xZ_lt z
  · show lowN (xZ z) (32 - (24 + kZ z)) = xZ z
    unfold xZ
    generalize 167772160 + dZ z = A
    generalize 32 - (24 + kZ z) = k
    unfold lowN
    rw [Nat.mul_div_cancel _ (Nat.two_pow_pos _)]
theorem wrapZ (x : Nat) (h : x < 18446744073709551616) : IntKind.u64.wrap (x : Int) = x := by rw [IntKind.wrap_u64]; omega
theorem wordZ (z : Int) : IntKind.u64.wrap ((167772160 + (dZ z : Int)) / 2 ^ (32 - (24 + kZ z)) * 2 ^ (32 - (24 + kZ z))) = (xZ z : Int) := by
  have e : (167772160 + (dZ z : Int)) / 2 ^ (32 - (24 + kZ z)) * 2 ^ (32 - (24 + kZ z)) = ((xZ z : Nat) : Int) := by unfold xZ lowN; simp
  rw [e, wrapZ _ (by have := xZ_lt z; omega)]
theorem tdivZ (z : Int) (v0 : -9223372036854775808 ≤ z) (v1 : z ≤ 9223372036854775807) : -9223372036854775808 ≤ z.tdiv 9 ∧ z.tdiv 9 ≤ 9223372036854775807 := by
  by_cases h : 0 ≤ z
  · rw [Int.tdiv_eq_ediv_of_nonneg h]; omega
  · have e : z.tdiv 9 = -((-z).tdiv 9) := by rw [Int.neg_tdiv, Int.neg_neg]
    rw [e, Int.tdiv_eq_ediv_of_nonneg (by omega)]; omega
def pkc (p : PK) : List Value := [.bool p.1, .int .u64 (aH p.2.1), .int .u64 (aL p.2.1), .int .i64 p.2.2]
theorem aXZ (z : Int) : aH (xZ z) = 0 ∧ aL (xZ z) = (xZ z : Int) := by have := xZ_lt z; unfold aH aL; omega
theorem info_pfx : (Try.prog.info? 51).map (fun i => (i.zero, i.size, i.bytes)) = some (some (.agg #[.bool false, .int .u64 0, .int .u64 0, .int .i64 0]), 4, 32) := by kernel_rfl
set_option maxHeartbeats 4000000 in
set_option maxRecDepth 100000 in
theorem pres1_calls (z : Int) (v0 : -9223372036854775808 ≤ z) (v1 : z ≤ 9223372036854775807) (g : Nat) (w : World) (hc : w.cell? ⟨g, 0, none⟩ = some (.int .i64 z)) :
    Calls Try.prog 41 #[.slice (some ⟨g, 0, none⟩) 1 1, .int .i64 1] w fun e w' => ∃ v, e = .returned v ∧ w'.ownsRow w.heap.size 51 4 v 1 (pkc (preZ z)) ∧ Below w.heap.size w w' := by
  obtain ⟨i0, hii, hz0, hz1, hz2⟩ := info_parts info_pfx
  have d2 := tdivZ z v0 v1
  have PA : Hid (∀ W : World, Calls Try.prog 25 #[.int .i64 z, .int .i64 9] W fun e w' => e = .returned (.int .i64 (kZ z)) ∧ W = w') := Lib.hid fun W => by
    have := picked_calls z 9 (by decide) (by decide) v0 v1 W
    rw [show z % 9 = (kZ z : Int) by unfold kZ; have := Int.emod_nonneg z (show (9 : Int) ≠ 0 by decide); omega] at this; exact this
  have PB : Hid (∀ W : World, Calls Try.prog 25 #[.int .i64 (z.tdiv 9), .int .i64 512] W fun e w' => e = .returned (.int .i64 (dZ z)) ∧ W = w') := Lib.hid fun W => by
    have := picked_calls (z.tdiv 9) 512 (by decide) (by decide) d2.1 d2.2 W
    rw [show z.tdiv 9 % 512 = (dZ z : Int) by unfold dZ; have := Int.emod_nonneg (z.tdiv 9) (show (512 : Int) ≠ 0 by decide); omega] at this; exact this
  have hK8 := kZ_lt z
  have hD5 := dZ_lt z
  have hXb := xZ_lt z
  have hXw := wordZ z
  have hRow : Hid (pkc (preZ z) = [.bool false, .int .u64 0, .int .u64 (xZ z : Int), .int .i64 (24 + (kZ z : Int))]) := Lib.hid (by
    show [Value.bool false, .int .u64 (aH (xZ z)), .int .u64 (aL (xZ z)), .int .i64 ((24 + kZ z : Nat) : Int)] = _
    rw [(aXZ z).1, (aXZ z).2]; simp)
  have hgw := World.block_lt_of_cell? w _ hc
  obtain ⟨t, ht⟩ : ∃ t, z.tdiv 9 = t := ⟨_, rfl⟩
  rw [ht] at PB d2
  generalize kZ z = K at *
  generalize dZ z = D at *
  generalize xZ z = X at *
  go_enter Try.func41, Try.ntmps41
  go_wp2
  go_loopw [5, 6] (fun u i wr => (i = .int .i64 0 ∧ u = .slice none 0 0 ∧ wr = w) ∨ (i = .int .i64 1 ∧ wr.ownsRow w.heap.size 51 4 u 1 (pkc (preZ z)) ∧ Below w.heap.size w wr)) (fun _ i _ => 1 - (intOf i).toNat)
  case atStart => exact .inl ⟨rfl, rfl, rfl⟩
  case round =>
    rcases hrel with ⟨rfl, rfl, rfl⟩ | ⟨rfl, ho, hb⟩
    · go_wp2_with fail
      refine (PA.out _).mono ?_
      rintro e w' ⟨rfl, rfl⟩
      go_wp2_with fail
      refine (PB.out _).mono ?_
      rintro e w' ⟨rfl, rfl⟩
      go_wp2_with (first
        | (at_builtin; refine wpList_append_own _ rfl _ _ 79 rfl wr.heap.size 51 i0 _ 4 32 Try.underlying79 hii hz0 hz1 hz2 rfl (by decide) _ 0 [] rfl (World.ownsRow_nil _ _ _ _) ⟨wr.heap.size, 0, none⟩ 1 1 [.bool false, .int .u64 0, .int .u64 (X : Int), .int .i64 (24 + (K : Int))] rfl rfl ?c1 ?c2 ?c3 ?c4 ?c5 ?_))
      case c1 => exact World.news_of_block (_root_.Go.heap_alloc_new wr _)
      case c2 => intro u hu; simp only [List.mem_cons, List.not_mem_nil, or_false] at hu; rcases hu with h | h | h | h <;> subst h <;> rfl
      case c3 => unfold maxLen; omega
      case c4 => omega
      case c5 => simp
      intro v' w4 hown' hgrow _
      have hb4 := ((Below.refl wr.heap.size wr).alloc (Nat.le_refl _) _).grown hgrow (by simp) (fun q hq => by simp [Value.ownBlock] at hq)
      go_wp2
      go_roundw
      case rel => exact .inr ⟨by go_num, by rw [hRow.out]; simpa using hown', hb4⟩
      case measure => simp [intOf]
    · go_wp2
      go_returns
      exact ⟨_, rfl, ho, hb⟩
/-- The address that Near makes of a number. -/
def nearZ (n : Int) : Nat := 167772152 + (n % 540).toNat
theorem nearZ_lt (n : Int) : nearZ n < 4294967296 := by unfold nearZ; have := Int.emod_lt_of_pos n (show (0 : Int) < 540 by decide); omega
theorem near_calls (n : Int) (v0 : -9223372036854775808 ≤ n) (v1 : n ≤ 9223372036854775807) (w : World) :
    Calls Try.prog 42 #[.int .i64 n] w fun e w' => e = .returned (.agg #[.bool false, .int .u64 (aH (nearZ n)), .int .u64 (aL (nearZ n))]) ∧ Below w.heap.size w w' := by
  have PA := Lib.hid (fun W => picked_calls n 540 (by decide) (by decide) v0 v1 W)
  have k0 := Int.emod_nonneg n (show (540 : Int) ≠ 0 by decide)
  have k1 := Int.emod_lt_of_pos n (show (0 : Int) < 540 by decide)
  have e1 := Lib.hid (show aH (nearZ n) = 0 ∧ aL (nearZ n) = 167772152 + n % 540 by unfold nearZ aH aL; omega)
  generalize n % 540 = t at *
  have hw1 : IntKind.i64.wrap (167772152 + t) = 167772152 + t := by rw [IntKind.wrap_i64]; omega
  have hw2 : IntKind.u64.wrap (167772152 + t) = 167772152 + t := by rw [IntKind.wrap_u64]; omega
  rw [e1.out.1, e1.out.2]
  go_enter Try.func42, Try.ntmps42
  go_wp2_with fail
  refine (PA.out _).mono ?_
  rintro e w' ⟨rfl, rfl⟩
  go_wp2
  go_returns
  exact ⟨by simp, by go_grown⟩
end Go.Proofs.Ytepfcphhgmmlhaa
