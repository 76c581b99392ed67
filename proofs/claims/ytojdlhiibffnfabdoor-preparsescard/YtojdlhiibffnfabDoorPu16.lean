/-
  internal/strconv.ParseUint to base 16 at 16 bits.
-/
import Derived.Test.YtojdlhiibffnfabDoorPu
namespace Go.Proofs.YtojdlhiibffnfabDoor
open Go.RowKit Go.Sort
set_option linter.unusedVariables false
set_option linter.unusedSimpArgs false

set_option maxHeartbeats 4000000 in
set_option maxRecDepth 100000 in
theorem pu16_calls (t : ByteArray) (bs : List UInt8) (hbs : t.data.toList = bs) (hne : bs ≠ []) (hmax : bs.length ≤ 9223372036854775806) (w : World) :
    Calls Tryd.prog 67 #[.string t, .int .i64 16, .int .i64 16] w fun e w' => PuIs (pu 16 65535 0 bs) e ∧ w' = Lib.bytesWorld w 5 t := by
  have hsz : t.size = bs.length := by rw [← hbs, Lib.size_eq]
  have hcv := Lib.run_convert_string_bytes (P := Tryd.prog) w 9 81 5 t (u := .string) Tryd.underlying9 Tryd.underlying81 Tryd.underlying5
  have hB : ∀ j, j < bs.length → (Lib.bytesWorld w 5 t).cell? ⟨w.heap.size, j, none⟩ = some (.int .u8 (bs.getD j 0).toNat) := fun j hj => by rw [← hbs]; exact Lib.bytesWorld_cell w 5 t j (by rw [hsz]; exact hj)
  obtain ⟨W1, hW1⟩ : ∃ W1, W1 = Lib.bytesWorld w 5 t := ⟨_, rfl⟩
  rw [← hW1] at hcv hB ⊢
  clear hW1
  obtain ⟨R, hR⟩ : ∃ R, pu 16 65535 0 bs = R := ⟨_, rfl⟩
  rw [hR]
  have hemp : t.toList.isEmpty = false := by
    rw [← decide_eq_emptyBytes]
    exact decide_eq_false (fun h => by have := congrArg ByteArray.size h; rw [hsz] at this; exact hne (List.eq_nil_of_length_eq_zero (by simpa using this)))
  clear hne hbs
  have hmv : IntKind.u64.wrap (IntKind.u64.wrap 65536 - 1) = 65535 := by
    rw [IntKind.wrap_u64, IntKind.wrap_u64]
    decide
  have HB := Lib.hid hB
  have HR0 := Lib.hid hR
  clear hB hR
  go_enter Tryd.func67, Tryd.ntmps67
  go_wp2
  go_loop [12, 13, 101] (fun vu vn vi => ∃ (k acc : Nat) (a : Int), vu = .bool false ∧ vn = .int .u64 a ∧ vi = .int .i64 k ∧ k ≤ t.size ∧ Hid (a = (acc : Int) ∧ acc ≤ 65535 ∧ pu 16 65535 acc (bs.drop k) = R))
    (fun _ _ vi => t.size - (intOf vi).toNat)
  case atStart => exact ⟨0, 0, 0, rfl, rfl, rfl, by omega, rfl, by omega, HR0.out⟩
  case round =>
    obtain ⟨k, acc, a, rfl, rfl, rfl, hk, hh⟩ := hrel
    obtain ⟨ha, hacc, hdec⟩ := hh.out
    clear hh
    have a0 : 0 ≤ a := by omega
    have a1 : a ≤ 65535 := by omega
    by_cases hkn : k < t.size
    · have hc := HB.out k (hsz ▸ hkn)
      have hdrop : bs.drop k = bs[k]'(hsz ▸ hkn) :: bs.drop (k + 1) := List.drop_eq_getElem_cons (hsz ▸ hkn)
      have hget : bs.getD k 0 = bs[k]'(hsz ▸ hkn) := by simp [List.getD, List.getElem?_eq_getElem (hsz ▸ hkn : k < bs.length)]
      rw [hdrop] at hdec
      rw [hget] at hc
      generalize bs[k]'(hsz ▸ hkn) = c at hc hdec
      have hc256 : c.toNat < 256 := c.toNat_lt
      have hl256 := low_lt c
      clear hdrop hget
      have CL := Lib.hid (lower_calls c)
      by_cases hdig : 48 ≤ c.toNat ∧ c.toNat ≤ 57
      · obtain ⟨hd0, hd1⟩ := hdig
        have hd : dv 16 c = some (c.toNat - 48) := by unfold dv; rw [if_pos ⟨hd0, hd1⟩, if_pos (by omega)]
        by_cases hov : acc * 16 + (c.toNat - 48) ≤ 65535
        · rw [pu_step hd hov] at hdec
          have HN : Hid (a * 16 + ((c.toNat : Int) - 48) = ((acc * 16 + (c.toNat - 48) : Nat) : Int) ∧ acc * 16 + (c.toNat - 48) ≤ 65535 ∧ pu 16 65535 (acc * 16 + (c.toNat - 48)) (bs.drop (k + 1)) = R) := Lib.hid ⟨by omega, hov, hdec⟩
          have iov : a * 16 + ((c.toNat : Int) - 48) ≤ 65535 := by omega
          clear hdec hd hov CL hl256 ha hacc
          go_wp2
          refine ⟨⟨k + 1, acc * 16 + (c.toNat - 48), a * 16 + ((c.toNat : Int) - 48), rfl, (by first | rfl | (congr 1; omega)), (by first | rfl | (congr 1; omega)), by omega, HN⟩, by simp [intOf]; omega⟩
        · rw [pu_over hd hov] at hdec
          have iov : 65535 < a * 16 + ((c.toNat : Int) - 48) := by omega
          clear hd hov CL hl256 ha hacc
          subst hdec
          go_wp2
          go_ret2
          exact ⟨⟨_, _, rfl, by simp⟩, rfl⟩
      · by_cases hlet : 97 ≤ low c ∧ low c ≤ 122
        · obtain ⟨hl0, hl1⟩ := hlet
          have h95 : ¬ ((c.toNat : Int) = 95) := fun h => by
            have : c = 95 := UInt8.toNat_inj.1 (by show c.toNat = 95; omega)
            rw [this] at hl1
            exact absurd hl1 (by decide)
          have b95 : ((c.toNat : Int) == 95) = false := by simpa using h95
          have hd2 : dv 16 c = if low c - 87 < 16 then some (low c - 87) else none := by unfold dv; rw [if_neg hdig, if_pos ⟨hl0, hl1⟩]
          generalize low c = lc at CL hl256 hl0 hl1 hd2
          by_cases hl2 : lc ≤ 102
          · rw [if_pos (by omega)] at hd2
            by_cases hov : acc * 16 + (lc - 87) ≤ 65535
            · rw [pu_step hd2 hov] at hdec
              have HN : Hid (a * 16 + ((lc : Int) - 97 + 10) = ((acc * 16 + (lc - 87) : Nat) : Int) ∧ acc * 16 + (lc - 87) ≤ 65535 ∧ pu 16 65535 (acc * 16 + (lc - 87)) (bs.drop (k + 1)) = R) := Lib.hid ⟨by omega, hov, hdec⟩
              have iov : a * 16 + ((lc : Int) - 97 + 10) ≤ 65535 := by omega
              clear hdec hd2 hov ha hacc
              go_wp2_with (go_at_call 80; refine (CL.out _).mono ?_; rintro e w' ⟨rfl, rfl⟩)
              all_goals refine ⟨⟨k + 1, acc * 16 + (lc - 87), a * 16 + ((lc : Int) - 97 + 10), rfl, (by first | rfl | (congr 1; omega)), (by first | rfl | (congr 1; omega)), by omega, HN⟩, by simp [intOf]; omega⟩
            · rw [pu_over hd2 hov] at hdec
              have iov : 65535 < a * 16 + ((lc : Int) - 97 + 10) := by omega
              clear hd2 hov ha hacc
              subst hdec
              go_wp2_with (go_at_call 80; refine (CL.out _).mono ?_; rintro e w' ⟨rfl, rfl⟩)
              all_goals go_ret2
              all_goals exact ⟨⟨_, _, rfl, by simp⟩, rfl⟩
          · rw [if_neg (by omega)] at hd2
            rw [pu_none hd2] at hdec
            subst hdec
            clear hd2
            go_wp2_with (go_at_call 80; refine (CL.out _).mono ?_; rintro e w' ⟨rfl, rfl⟩)
            all_goals go_ret2
            all_goals exact ⟨⟨_, _, rfl, by simp⟩, rfl⟩
        · have hd : dv 16 c = none := by unfold dv; rw [if_neg hdig, if_neg hlet]
          rw [pu_none hd] at hdec
          subst hdec
          clear hd
          by_cases h95 : c = 95
          · subst h95
            have C95 : Hid (∀ w : World, Calls Tryd.prog 80 #[.int .u8 95] w fun e w' => e = .returned (.int .u8 127) ∧ w' = w) := CL
            clear CL hl256 hlet hdig hc256 ha hacc
            go_wp2_with (go_at_call 80; refine (C95.out _).mono ?_; rintro e w' ⟨rfl, rfl⟩)
            all_goals go_ret2
            all_goals exact ⟨⟨_, _, rfl, by simp⟩, rfl⟩
          have h95' : ¬ ((c.toNat : Int) = 95) := fun h => h95 (UInt8.toNat_inj.1 (by show c.toNat = 95; omega))
          have b95 : ((c.toNat : Int) == 95) = false := by simpa using h95'
          clear h95 ha hacc
          generalize low c = lc at CL hl256 hlet
          go_wp2_with (go_at_call 80; refine (CL.out _).mono ?_; rintro e w' ⟨rfl, rfl⟩)
          all_goals go_ret2
          all_goals exact ⟨⟨_, _, rfl, by simp⟩, rfl⟩
    · obtain rfl : k = t.size := by omega
      rw [List.drop_of_length_le (by omega)] at hdec
      have h2 : some acc = R := hdec
      subst h2
      subst ha
      clear hdec
      go_wp2
      go_ret2
      exact ⟨rfl, rfl⟩
end Go.Proofs.YtojdlhiibffnfabDoor
