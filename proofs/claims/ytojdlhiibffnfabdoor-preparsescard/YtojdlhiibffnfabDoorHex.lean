/-
  strconv.FormatUint of a number below 65536 to the base 16.
-/
import Derived.Test.YtojdlhiibffnfabDoorProg
import Derived.Test.YtojdlhiibffnfabDoorBase
import Derived.Lib.LaidTab
import Derived.Lib.Strings
namespace Go.Proofs.YtojdlhiibffnfabDoor
open Go.RowKit
set_option linter.unusedVariables false
set_option linter.unusedSimpArgs false

/-- The digits. -/
def digs : List UInt8 := [48, 49, 50, 51, 52, 53, 54, 55, 56, 57, 97, 98, 99, 100, 101, 102]
def dig (d : Nat) : UInt8 := digs.getD d 0
/-- A number's text to a base, without a needless 0. -/
def numText (base : Nat) : Nat → Nat → List UInt8
  | 0, _ => []
  | f + 1, n => if n < base then [dig n] else numText base f (n / base) ++ [dig (n % base)]

theorem deBruijn_at : Tryd.prog.globalNamed "math/bits.deBruijn64tab" = some 5 := by kernel_rfl

set_option maxHeartbeats 400000 in
theorem tz16 (w : World) (hc : w.cell? ⟨5, 15, none⟩ = some (.int .u8 4)) :
    Calls Tryd.prog 86 #[.int .u64 16] w fun e w' => e = .returned (.int .i64 4) ∧ w = w' := by
  have ha : bits .and .u64 16 (IntKind.u64.wrap (-16)) = 16 := by decide
  go_enter Tryd.func86, Tryd.ntmps86
  go_wp2
  go_ret
  exact ⟨rfl, rfl⟩

theorem and15 (x : Nat) (h : x < 18446744073709551616) : bits .and .u64 (x : Int) 15 = ((x % 16 : Nat) : Int) := by
  have h2 := bits_and_u64_nat x 15 (by omega) (by omega)
  rw [show (15 : Nat) = 2 ^ 4 - 1 from rfl, Nat.and_two_pow_sub_one_eq_mod] at h2
  exact h2

theorem dig_eq (r : Nat) (h : r < 16) (h' : r < (⟨#[48, 49, 50, 51, 52, 53, 54, 55, 56, 57, 97, 98, 99, 100, 101, 102, 103, 104, 105, 106, 107, 108, 109, 110, 111, 112, 113, 114, 115, 116, 117, 118, 119, 120, 121, 122]⟩ : ByteArray).size) : (⟨#[48, 49, 50, 51, 52, 53, 54, 55, 56, 57, 97, 98, 99, 100, 101, 102, 103, 104, 105, 106, 107, 108, 109, 110, 111, 112, 113, 114, 115, 116, 117, 118, 119, 120, 121, 122]⟩ : ByteArray)[r] = dig r := by
  match r, h with
  | 0, _ => rfl
  | 1, _ => rfl
  | 2, _ => rfl
  | 3, _ => rfl
  | 4, _ => rfl
  | 5, _ => rfl
  | 6, _ => rfl
  | 7, _ => rfl
  | 8, _ => rfl
  | 9, _ => rfl
  | 10, _ => rfl
  | 11, _ => rfl
  | 12, _ => rfl
  | 13, _ => rfl
  | 14, _ => rfl
  | 15, _ => rfl
  | n + 16, h => exact absurd h (by omega)

theorem addPlain (b o j : Nat) : (⟨b, o, none⟩ : Addr).add j = ⟨b, o + j, none⟩ := by
  unfold Addr.add
  split <;> simp_all

/-- After k rounds: the last k places hold digits; each place holds something; nothing is frozen. -/
def HexInv (w wr : World) (u k : Nat) : Prop :=
  (∀ j, j < 65 → ∃ v, wr.cell? ⟨w.heap.size, j, none⟩ = some v) ∧ (∀ t, t < k → wr.cell? ⟨w.heap.size, 64 - t, none⟩ = some (.int .u8 ((dig (u / 16 ^ t % 16)).toNat : Int))) ∧ (∀ o, wr.frozen? ⟨w.heap.size, o, none⟩ = false) ∧ Below w.heap.size w wr ∧ w.heap.size < wr.heap.size

/-- One more place. -/
theorem HexInv.step {w wr : World} {u k : Nat} (h : HexInv w wr u k) (hk : k < 65) : HexInv w (wr.setCell ⟨w.heap.size, 65 - k - 1, none⟩ (.int .u8 ((dig (u / 16 ^ k % 16)).toNat : Int))) u (k + 1) := by
  obtain ⟨h1, h2, h3, h4, h5⟩ := h
  refine ⟨fun j hj => ?_, fun t ht => ?_, fun o => by simpa using h3 o, h4.setCell (by simp) _, by simpa using h5⟩
  · by_cases e : j = 65 - k - 1
    · obtain ⟨v, hv⟩ := h1 j hj
      subst e
      exact ⟨_, World.cell?_setCell_same _ _ _ hv⟩
    · obtain ⟨v, hv⟩ := h1 j hj
      exact ⟨v, (World.cell?_setCell_other _ _ _ _ (by simp <;> omega)).trans hv⟩
  · by_cases e : t = k
    · subst e
      obtain ⟨v, hv⟩ := h1 (64 - t) (by omega)
      rw [show 65 - t - 1 = 64 - t from by omega]
      exact World.cell?_setCell_same _ _ _ hv
    · exact (World.cell?_setCell_other _ _ _ _ (by simp <;> omega)).trans (h2 t (by omega))

/-- The digits of a number that has k + 1 of them. -/
def hexTo (u k : Nat) : List UInt8 := (List.range (k + 1)).map fun j => dig (u / 16 ^ (k - j) % 16)
theorem hexTo_eq (u k : Nat) (hk : k ≤ 3) (hbig : ∀ t, t < k → 16 ≤ u / 16 ^ t) (hs : u / 16 ^ k < 16) : hexTo u k = numText 16 4 u := by
  match k, hk with
  | 0, _ => simp at hs; simp [hexTo, List.range_succ, numText, hs, Nat.mod_eq_of_lt hs]
  | 1, _ =>
    have a0 := hbig 0 (by omega)
    simp at hs a0
    simp [hexTo, List.range_succ, numText, show ¬ u < 16 from by omega, hs, Nat.mod_eq_of_lt hs]
  | 2, _ =>
    have a0 := hbig 0 (by omega); have a1 := hbig 1 (by omega)
    simp at hs a0 a1
    simp [hexTo, List.range_succ, numText, show ¬ u < 16 from by omega, show ¬ u / 16 < 16 from by omega, Nat.div_div_eq_div_mul, hs, Nat.mod_eq_of_lt hs]
  | 3, _ =>
    have a0 := hbig 0 (by omega); have a1 := hbig 1 (by omega); have a2 := hbig 2 (by omega)
    simp at hs a0 a1 a2
    simp [hexTo, List.range_succ, numText, show ¬ u < 16 from by omega, show ¬ u / 16 < 16 from by omega, Nat.div_div_eq_div_mul, show ¬ u / 256 < 16 from by omega, hs, Nat.mod_eq_of_lt hs]

theorem zero89_at (j : Nat) (h : j < 65) : ∃ v, Tryd.zeroCells115[j]? = some v := by
  have e : Tryd.zeroCells115.size = 65 := by kernel_rfl
  exact ⟨_, Array.getElem?_eq_getElem (by omega)⟩

set_option maxHeartbeats 1000000 in
set_option maxRecDepth 100000 in
theorem fb16 (u : Nat) (h1 : u < 65536) (w : World) (hc : w.cell? ⟨5, 15, none⟩ = some (.int .u8 4)) (hz : 5 < w.heap.size) :
    Calls Tryd.prog 71 #[.slice none 0 0, .int .u64 (u : Int), .int .i64 16, .bool false, .bool false] w fun e w' => e = .returned (.tuple #[.slice none 0 0, .string ⟨(numText 16 4 u).toArray⟩]) ∧ Below w.heap.size w w' := by
  have hp : bits .and .i64 16 15 = 0 := by decide
  go_enter Tryd.func71, Tryd.ntmps71
  go_wp2_with (first
    | (go_at_call 86; refine (tz16 _ (by simp [go_sem, *])).mono ?_; rintro e w1 ⟨rfl, rfl⟩)
    | go_in)
  clear hp hc
  go_loopw [1, 13] (fun v i wr => ∃ k : Nat, k ≤ 3 ∧ v = .int .u64 ((u / 16 ^ k : Nat) : Int) ∧ i = .int .i64 (65 - (k : Int)) ∧ (∀ t, t < k → 16 ≤ u / 16 ^ t) ∧ HexInv w wr u k)
    (fun _ i _ => (intOf i).toNat)
  case atStart =>
    refine ⟨0, by omega, by simp, rfl, fun t ht => absurd ht (by omega), ?_, fun t ht => absurd ht (by omega), fun o => by simp [go_sem], (Below.refl _ _).alloc (Nat.le_refl _) _, by simp⟩
    intro j hj
    simpa using zero89_at j hj
  case round =>
    obtain ⟨k, hk, rfl, rfl, hbig, hinv⟩ := hrel
    have HB := Lib.hid hbig; have HI := Lib.hid hinv
    clear hbig hinv
    obtain ⟨q, hq⟩ : ∃ q, u / 16 ^ k = q := ⟨_, rfl⟩
    have HQ := Lib.hid hq
    rw [hq]
    have hqu : q ≤ u := by rw [← hq]; exact Nat.div_le_self _ _
    clear hq
    obtain ⟨v0, hv0⟩ := HI.out.1 (65 - k - 1) (by omega)
    have hf0 := HI.out.2.2.1 (65 - k - 1)
    have hm : q % 16 < 16 := by omega
    have ha := and15 q (by omega)
    obtain ⟨r, hr⟩ : ∃ r, q % 16 = r := ⟨_, rfl⟩
    have HR := Lib.hid hr
    rw [hr] at ha hm
    clear hr
    have hd := dig_eq r hm (by show r < 36; omega)
    have hst := HI.out.step (by omega)
    rw [HQ.out, HR.out] at hst
    have HST := Lib.hid hst
    clear hst
    by_cases hlt : 16 ≤ q
    · have hk3 : k < 3 := by
        rcases Nat.lt_or_ge k 3 with h | h
        · exact h
        · obtain rfl : k = 3 := by omega
          have := HQ.out
          omega
      go_wp2
      go_roundw
      case rel =>
        refine ⟨k + 1, by omega, ?_, by go_num, fun t ht => ?_, HST.out⟩
        · rw [Nat.pow_succ, ← Nat.div_div_eq_div_mul, HQ.out]; simp
        · by_cases e : t = k
          · subst e; rw [HQ.out]; exact hlt
          · exact HB.out t (by omega)
      case measure => simp [intOf]; omega
    · obtain rfl : q = r := by have := HR.out; omega
      have hal : Tryd.prog.arrayLen 115 = 65 := by kernel_rfl
      have hsl : ∀ W, (Instr.sliceAt 115 (.pointer (some ⟨w.heap.size, 0, none⟩)) (some (.int .i64 (65 - (k : Int) - 1))) none none).run Tryd.prog W = .ok (.slice (some ⟨w.heap.size, 65 - k - 1, none⟩) (k + 1) (k + 1)) W := fun W => by
        rw [run_sliceAt_array_l W 115 ⟨w.heap.size, 0, none⟩ (by kernel_rfl) .i64 (65 - (k : Int) - 1) (by omega) (by rw [hal]; omega), hal]
        go_simp
        omega
      have hcv : (convert 81 9 (.slice (some ⟨w.heap.size, 65 - k - 1, none⟩) (k + 1) (k + 1))).run Tryd.prog (wr.setCell ⟨w.heap.size, 65 - k - 1, none⟩ (.int .u8 ((dig q).toNat : Int))) = .ok (.string ⟨(hexTo u k).toArray⟩) (wr.setCell ⟨w.heap.size, 65 - k - 1, none⟩ (.int .u8 ((dig q).toNat : Int))) := by
        have h := run_convert_bytes_back (P := Tryd.prog) (wr.setCell ⟨w.heap.size, 65 - k - 1, none⟩ (.int .u8 ((dig q).toNat : Int))) 81 9 5 ⟨w.heap.size, 65 - k - 1, none⟩ (k + 1) (hexTo u k) Tryd.underlying81 Tryd.underlying5 Tryd.underlying9 (fun j hj => by
          have hj' : j < k + 1 := by simpa [hexTo] using hj
          have h2 := HST.out.2.1 (k - j) (by omega)
          rw [show 64 - (k - j) = 65 - k - 1 + j from by omega] at h2
          simp only [hexTo, List.getElem_map, List.getElem_range]
          rw [addPlain]
          exact h2)
        rw [show (hexTo u k).length = k + 1 from by simp [hexTo]] at h
        exact h
      clear hal
      have hfin := hexTo_eq u k hk HB.out (by rw [HQ.out]; omega)
      have HF := Lib.hid hfin
      clear hfin
      go_wp2
      go_ret2
      exact ⟨by show Ending.returned (.tuple #[.slice none 0 0, .string ⟨(hexTo u k).toArray⟩]) = _; rw [HF.out], HST.out.2.2.2.1⟩

set_option maxHeartbeats 400000 in
/-- strconv.FormatUint to the base 16. -/
theorem format16 (u : Nat) (h1 : u < 65536) (w : World) (hc : w.cell? ⟨5, 15, none⟩ = some (.int .u8 4)) (hz : 5 < w.heap.size) :
    Calls Tryd.prog 39 #[.int .u64 (u : Int), .int .i64 16] w fun e w' => e = .returned (.string ⟨(numText 16 4 u).toArray⟩) ∧ Below w.heap.size w w' := by
  go_enter Tryd.func39, Tryd.ntmps39
  go_wp2_with (first
    | (go_at_call 71; refine (fb16 u h1 _ (by assumption) (by assumption)).mono ?_; rintro e w1 ⟨rfl, hb⟩)
    | go_in)
  go_ret
  exact ⟨rfl, hb⟩
end Go.Proofs.YtojdlhiibffnfabDoor
