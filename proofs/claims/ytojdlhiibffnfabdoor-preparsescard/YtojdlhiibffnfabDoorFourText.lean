/-
  The contract of addr.fourText.
-/
import Derived.Test.YtojdlhiibffnfabDoorTextBase
namespace Go.Proofs.YtojdlhiibffnfabDoor
open Go.RowKit Go.Sort
set_option linter.unusedVariables false
set_option linter.unusedSimpArgs false

/-- The four bytes, the most significant one first. -/
def fourP (L : Nat) : List Nat := (List.range 4).map fun j => L / 2 ^ (8 * (3 - j)) % 256
def fourT (L : Nat) : List (List UInt8) := (fourP L).map (numText 10 3)
theorem fourT_length (L : Nat) : (fourT L).length = 4 := by simp [fourT, fourP]
theorem fourT_get (L k : Nat) (h : k < (fourT L).length) : (fourT L)[k] = numText 10 3 (L / 2 ^ (8 * (3 - k)) % 256) := by simp [fourT, fourP]

theorem and255 (x : Nat) (h : x < 18446744073709551616) : bits .and .u64 (x : Int) 255 = ((x % 256 : Nat) : Int) := by
  have h2 := bits_and_u64_nat x 255 (by omega) (by omega)
  rw [show (255 : Nat) = 2 ^ 8 - 1 from rfl, Nat.and_two_pow_sub_one_eq_mod] at h2
  exact h2
theorem numText10_len : ∀ u : Fin 256, (numText 10 3 u.val).length ≤ 3 := by decide +kernel
theorem join_len_le (ts : List (List UInt8)) (sep : List UInt8) (m : Nat) (h : ∀ t ∈ ts, t.length ≤ m) : (Lib.join ts sep).length ≤ ts.length * (m + sep.length) := by
  induction ts with
  | nil => simp [Lib.join_nil]
  | cons t r ih =>
    have ht := h t (by simp)
    have hr := ih (fun x hx => h x (by simp [hx]))
    cases r with
    | nil => rw [Lib.join_one]; simp; omega
    | cons y r =>
      have e : Lib.join (t :: y :: r) sep = t ++ (sep ++ Lib.join (y :: r) sep) := by
        simp [Lib.join, List.intercalate]
      rw [e, List.length_append, List.length_append, List.length_cons, Nat.succ_mul]
      omega

set_option maxHeartbeats 1000000 in
set_option maxRecDepth 100000 in
theorem fourText_calls (hi : Int) (L : Nat) (h1 : L < 18446744073709551616) (w : World) (ht : Tabs w) :
    Calls Tryd.prog 23 #[.agg #[.bool false, .int .u64 hi, .int .u64 (L : Int)]] w fun e w' => e = .returned (.string ⟨(Lib.join (fourT L) [46]).toArray⟩) ∧ Below w.heap.size w w' := by
  have HT := Lib.hid ht
  clear ht
  have hmk : ∀ W, (Instr.makeSlice 70 (.int .i64 4) (.int .i64 4)).run Tryd.prog W = .ok (.slice (some ⟨W.heap.size, 0, none⟩) 4 4) (W.alloc (.cells #[.string ByteArray.empty, .string ByteArray.empty, .string ByteArray.empty, .string ByteArray.empty] 9)) := fun _ => by kernel_rfl
  go_enter Tryd.func23, Tryd.ntmps23
  go_wp2
  clear hmk
  go_loopw [9] (fun i wr => ∃ k : Nat, k ≤ 4 ∧ i = .int .i64 k ∧ StrRow wr (w.heap.size + 1) (mixTo (fourT L) k) ∧ wr.cell? ⟨w.heap.size, 2, none⟩ = some (.int .u64 (L : Int)) ∧ Below w.heap.size w wr)
    (fun i _ => 4 - (intOf i).toNat)
  case atStart =>
    refine ⟨0, by omega, rfl, ?_, by simp [go_sem], by go_grown⟩
    rw [mixTo_zero 4 _ (fourT_length L)]
    refine ⟨fun j x hx => ?_, fun o => by simp [go_sem], by simp⟩
    have hj : j < 4 := by have := (List.getElem?_eq_some_iff.1 hx).1; simpa using this
    rw [List.getElem?_replicate, if_pos hj] at hx
    obtain rfl := Option.some.inj hx
    match j, hj with
    | 0, _ => simp [go_sem]
    | 1, _ => simp [go_sem]
    | 2, _ => simp [go_sem]
    | 3, _ => simp [go_sem]
  case round =>
    obtain ⟨k, hk, rfl, hrow, hlo, hb⟩ := hrel
    have HR := Lib.hid hrow
    have hz := hrow.2.2
    have hs := hb.size
    clear hrow
    by_cases hlt : k < 4
    · have hkl : k < (fourT L).length := by rw [fourT_length]; exact hlt
      have hq : L / 2 ^ (8 * (3 - k)) % 256 < 256 := Nat.mod_lt _ (by omega)
      have ha : bits .and .u64 ((L : Int) / 2 ^ (8 * (3 - k))) 255 = ((L / 2 ^ (8 * (3 - k)) % 256 : Nat) : Int) := by
        have := and255 (L / 2 ^ (8 * (3 - k))) (Nat.lt_of_le_of_lt (Nat.div_le_self _ _) h1)
        simpa using this
      obtain ⟨p, hp⟩ : ∃ p, L / 2 ^ (8 * (3 - k)) % 256 = p := ⟨_, rfl⟩
      have hst : (fourT L)[k] = numText 10 3 p := by rw [fourT_get, hp]
      rw [hp] at ha hq
      have HST := Lib.hid hst
      have HA := Lib.hid ha
      clear hst hp
      go_wp2_with fail
      refine (format10 p hq _ (HT.out.keep hb).2.1).mono ?_
      rintro e w2 ⟨rfl, hb2⟩
      have R2 := HR.out.keep hb2
      have b2 := thenBelow hb hb2
      have lo2 := (hb2.cell (p := ⟨w.heap.size, 2, none⟩) (by show w.heap.size < wr.heap.size; omega)).trans hlo
      have hs2 := b2.size
      have hset := R2.set (k := k) (by rw [mixTo_length _ _ (by omega)]; exact hkl) ⟨(numText 10 3 p).toArray⟩
      rw [← HST.out, mixTo_succ _ _ hkl, HST.out] at hset
      have HS := Lib.hid hset
      obtain ⟨y, hcell⟩ := R2.ex (k := k) (by rw [mixTo_length _ _ (by omega)]; exact hkl)
      have hfr := R2.2.1 k
      have z2 := R2.2.2
      clear hset R2 ha hb hb2 hlo hz hs
      go_wp2
      go_roundw
      case rel => exact ⟨k + 1, by omega, by go_num, HS.out, (World.cell?_setCell_other _ _ _ _ (by simp)).trans lo2, b2.setCell (by simp) _⟩
      case measure => simp [intOf]; omega
    · obtain rfl : k = 4 := by omega
      have hfull : (mixTo (fourT L) 4).map (·.data.toList) = fourT L := by have := mixTo_full (fourT L); rwa [fourT_length] at this
      have hl4 : (mixTo (fourT L) 4).length = 4 := by rw [mixTo_length _ _ (by rw [fourT_length]; omega), fourT_length]
      have c := Tryd.strings_Join (w.heap.size + 1) 0 4 (mixTo (fourT L) 4) ⟨#[46]⟩ wr HR.out.1 hz (by omega) (by omega) (by
        rw [hfull]
        have hj := join_len_le (fourT L) [46] 3 (fun t ht => by
          simp only [fourT, List.mem_map] at ht
          obtain ⟨p, hp, rfl⟩ := ht
          simp only [fourP, List.mem_map] at hp
          obtain ⟨j, _, rfl⟩ := hp
          exact numText10_len ⟨_, Nat.mod_lt _ (by omega)⟩)
        rw [fourT_length] at hj
        simp at hj
        show (Lib.join (fourT L) [46]).length ≤ _
        omega)
      rw [hl4, hfull] at c
      have C := Lib.hid c
      clear c hfull hl4 hlo
      go_wp2_with fail
      refine C.out.mono ?_
      rintro e w2 ⟨rfl, hb2⟩
      have b2 := thenBelow hb hb2
      go_wp2
      go_ret
      exact ⟨rfl, b2⟩
end Go.Proofs.YtojdlhiibffnfabDoor
