/-
  PROVED: whipcordkeep.AddrSpelt returns true for all arguments, and they read afterwards as they read before. No condition.
-/
import Derived.Test.YtnmocjlleejijaaRows
import Derived.Test.YtnmocjlleejijaaKeep1
import Derived.Test.YtnmocjlleejijaaBitIn
import Derived.Test.YtnmocjlleejijaaRefNext
import Derived.Test.YtnmocjlleejijaaShapesRaw
namespace Go.Proofs.Ytnmocjlleejijaa
open Go.ChangeShapes Go.WideShapes Go.ChangeAt Go.RowKit Go.Joins
set_option linter.unusedVariables false
set_option linter.unusedSimpArgs false

/-- Two addresses have the same first k bits. -/
def Agree (six : Bool) (h l h2 l2 : Int) (k : Nat) : Prop := ∀ j, j < k → bitAt six h l j = bitAt six h2 l2 j

theorem spell_lt (p s t : List Int) (hl : s.length = t.length) (hs : ∀ b ∈ s, b = 0 ∨ b = 1) (ht : ∀ b ∈ t, b = 0 ∨ b = 1) : spell (p ++ 0 :: s) < spell (p ++ 1 :: t) := by
  have h1 := spell_bd s hs
  have h2 := spell_bd t ht
  rw [spell_append, spell_append, spell_cons, spell_cons, List.length_cons, List.length_cons, hl]
  rw [hl] at h1
  generalize spell p * 2 ^ (t.length + 1) = a at *
  generalize (2 : Int) ^ t.length = r at *
  omega
theorem agree_take (six : Bool) (h l h2 l2 : Int) (k : Nat) (hk : k ≤ if six then 128 else 32) (ha : Agree six h l h2 l2 k) : (bitsL six h l).take k = (bitsL six h2 l2).take k := by
  apply List.ext_getElem?
  intro j
  by_cases hj : j < k
  · rw [List.getElem?_take_of_lt hj, List.getElem?_take_of_lt hj, bitsL_get six h l j (by omega), bitsL_get six h2 l2 j (by omega), ha j hj]
  · rw [List.getElem?_eq_none (by rw [List.length_take]; omega), List.getElem?_eq_none (by rw [List.length_take]; omega)]
theorem spell_of (six : Bool) (h l : Int) (h0 : 0 ≤ h) (h1 : h ≤ 18446744073709551615) (l0 : 0 ≤ l) (l1 : l ≤ 18446744073709551615) (hm : mayB six h l = true) : spell (bitsL six h l) = h * 18446744073709551616 + l := by
  cases six
  · simp [mayB] at hm
    obtain ⟨rfl, hl⟩ := hm
    rw [spell_four l l0 (by omega)]; omega
  · exact spell_six h l h0 h1 l0 l1
/-- The first bit in which two addresses differ tells which one is ahead. -/
theorem first_diff (six : Bool) (h l h2 l2 : Int) (k : Nat) (h0 : 0 ≤ h) (h1 : h ≤ 18446744073709551615) (l0 : 0 ≤ l) (l1 : l ≤ 18446744073709551615) (hm : mayB six h l = true)
    (g0 : 0 ≤ h2) (g1 : h2 ≤ 18446744073709551615) (k0 : 0 ≤ l2) (k1 : l2 ≤ 18446744073709551615) (hm2 : mayB six h2 l2 = true) (hk : k < if six then 128 else 32) (ha : Agree six h l h2 l2 k) (e1 : bitAt six h l k = 0) (e2 : bitAt six h2 l2 k = 1) :
    h < h2 ∨ h = h2 ∧ l < l2 := by
  have ht := agree_take six h l h2 l2 k (by omega) ha
  have n1 := bitsL_length six h l
  have n2 := bitsL_length six h2 l2
  have q1 : bitsL six h l = (bitsL six h l).take k ++ 0 :: (bitsL six h l).drop (k + 1) := by
    have hg := bitsL_get six h l k hk
    rw [e1] at hg
    obtain ⟨hlt, hv⟩ := List.getElem?_eq_some_iff.1 hg
    conv => lhs; rw [← List.take_append_drop k (bitsL six h l), List.drop_eq_getElem_cons hlt, hv]
  have q2 : bitsL six h2 l2 = (bitsL six h l).take k ++ 1 :: (bitsL six h2 l2).drop (k + 1) := by
    have hg := bitsL_get six h2 l2 k hk
    rw [e2] at hg
    obtain ⟨hlt, hv⟩ := List.getElem?_eq_some_iff.1 hg
    rw [ht]
    conv => lhs; rw [← List.take_append_drop k (bitsL six h2 l2), List.drop_eq_getElem_cons hlt, hv]
  have h3 := spell_lt ((bitsL six h l).take k) ((bitsL six h l).drop (k + 1)) ((bitsL six h2 l2).drop (k + 1)) (by rw [List.length_drop, List.length_drop, n1, n2]) (fun b hb => bitsL_01 six h l b (List.mem_of_mem_drop hb)) (fun b hb => bitsL_01 six h2 l2 b (List.mem_of_mem_drop hb))
  rw [← q1, ← q2, spell_of six h l h0 h1 l0 l1 hm, spell_of six h2 l2 g0 g1 k0 k1 hm2] at h3
  omega
theorem all_same (six : Bool) (h l h2 l2 : Int) (h0 : 0 ≤ h) (h1 : h ≤ 18446744073709551615) (l0 : 0 ≤ l) (l1 : l ≤ 18446744073709551615) (hm : mayB six h l = true)
    (g0 : 0 ≤ h2) (g1 : h2 ≤ 18446744073709551615) (k0 : 0 ≤ l2) (k1 : l2 ≤ 18446744073709551615) (hm2 : mayB six h2 l2 = true) (ha : Agree six h l h2 l2 (if six then 128 else 32)) : h = h2 ∧ l = l2 := by
  have ht := agree_take six h l h2 l2 _ (Nat.le_refl _) ha
  rw [List.take_of_length_le (by rw [bitsL_length]; exact Nat.le_refl _), List.take_of_length_le (by rw [bitsL_length]; exact Nat.le_refl _)] at ht
  have h3 := spell_of six h l h0 h1 l0 l1 hm
  rw [ht, spell_of six h2 l2 g0 g1 k0 k1 hm2] at h3
  omega


set_option maxHeartbeats 2000000 in
set_option maxRecDepth 100000 in
theorem Spelt.walktrue (s2 : Bool) (hi lo hi2 lo2 H L H2 L2 : Int) (ph : ofH true hi = H) (pl : ofL true lo = L) (ph2 : ofH true hi2 = H2) (pl2 : ofL true lo2 = L2) (h0 : 0 ≤ hi) (h1 : hi ≤ 18446744073709551615) (l0 : 0 ≤ lo) (l1 : lo ≤ 18446744073709551615) (g0 : 0 ≤ hi2) (g1 : hi2 ≤ 18446744073709551615) (k0 : 0 ≤ lo2) (k1 : lo2 ≤ 18446744073709551615)
    (H0 : 0 ≤ H) (H1 : H ≤ 18446744073709551615) (L0 : 0 ≤ L) (L1 : L ≤ 18446744073709551615) (hm : Hid (mayB true H L = true)) (G0 : 0 ≤ H2) (G1 : H2 ≤ 18446744073709551615) (K0 : 0 ≤ L2) (K1 : L2 ≤ 18446744073709551615) (hm2 : Hid (mayB true H2 L2 = true)) (w : World) :
    Calls Try.prog 7 #[.agg #[.bool true, .int .u64 hi, .int .u64 lo], .agg #[.bool s2, .int .u64 hi2, .int .u64 lo2]] w fun e w' => e = .returned (.bool true) ∧ Below w.heap.size w w' := by
  have PH := Lib.hid ph; have PL := Lib.hid pl; have PH2 := Lib.hid ph2; have PL2 := Lib.hid pl2
  clear ph pl ph2 pl2
  go_enter Try.func7, Try.ntmps7
  go_wp2_with fail
  refine (addrOfRaw_calls true hi lo h0 l0 l1 _).mono ?_
  rw [PH.out, PL.out]
  rintro e w1 ⟨rfl, hb1⟩
  obtain ⟨r0, r1, r2, rf0, rf1, rf2⟩ := three hb1 (b := w.heap.size) (by simp; omega)
  obtain ⟨t0, t1, t2, tf0, tf1, tf2⟩ := three hb1 (b := w.heap.size + 1) (by simp)
  have hs1 := hb1.size
  simp [go_sem] at r0 r1 r2 t0 t1 t2 tf0 hs1
  have z1 : w.heap.size < w1.heap.size := by omega
  have z2 : w.heap.size + 1 < w1.heap.size := by omega
  have b1 := thenBelow (((Below.refl _ w).alloc (Nat.le_refl _) _).alloc (by simp) _) hb1
  clear hb1 rf0 rf1 rf2 tf1 tf2
  go_wp2_with fail
  refine (addrOfRaw_calls true hi2 lo2 g0 k0 k1 _).mono ?_
  rw [PH2.out, PL2.out]
  rintro e w2 ⟨rfl, hb2⟩
  have A2 := AddrAt.new (w1.setCell ⟨w.heap.size + 1, 0, none⟩ (.bool true)) true H L 24
  rw [World.size_setCell] at A2
  replace A2 := (A2.keep hb2).alloc (.cells #[.bool true, .int .u64 H2, .int .u64 L2] 24)
  have B2 := AddrAt.new w2 true H2 L2 24
  have b2 := thenBelow ((b1.setCell (p := ⟨w.heap.size + 1, 0, none⟩) (by simp) (.bool true)).alloc (by simp; omega) _) hb2
  replace b2 := b2.alloc (b2.size) (.cells #[.bool true, .int .u64 H2, .int .u64 L2] 24)
  have az := A2.2.2.2
  simp only [World.size_alloc] at az
  have a0 := A2.1
  clear hb2 b1 r0 r1 r2 t0 t1 t2 tf0
  go_wp2
  clear a0 az z1 z2 hs1
  go_loopw [8] (fun i wr => ∃ k : Nat, k ≤ 128 ∧ i = .int .i64 k ∧ Agree true H L H2 L2 k ∧ AddrAt wr w1.heap.size true H L ∧ AddrAt wr w2.heap.size true H2 L2 ∧ Below w.heap.size w wr)
    (fun i _ => 128 - (intOf i).toNat)
  case atStart => exact ⟨0, by omega, rfl, fun j hj => absurd hj (by omega), A2, B2, b2⟩
  case round =>
    clear A2 B2 b2
    obtain ⟨k, hk, rfl, hag, A3, B3, b3⟩ := hrel
    have HAG := Lib.hid hag
    clear hag
    by_cases hlt : k < 128
    · obtain ⟨x, hx⟩ : ∃ x, bitAt true H L k = x := ⟨_, rfl⟩
      obtain ⟨y, hy⟩ : ∃ y, bitAt true H2 L2 k = y := ⟨_, rfl⟩
      have x01 := bitAt_01 true H L k
      have y01 := bitAt_01 true H2 L2 k
      have HX := Lib.hid hx; have HY := Lib.hid hy
      rw [hx] at x01; rw [hy] at y01
      clear hx hy
      have cx := bit_in true H L k H0 H1 L0 L1 hm.out (by omega) (by simp [wideB]; omega)
      have cy := bit_in true H2 L2 k G0 G1 K0 K1 hm2.out (by omega) (by simp [wideB]; omega)
      rw [Int.toNat_natCast, HX.out] at cx
      rw [Int.toNat_natCast, HY.out] at cy
      have CX := Lib.hid cx; have CY := Lib.hid cy
      clear cx cy
      have X01 := Lib.hid x01; have Y01 := Lib.hid y01
      clear x01 y01
      have ⟨p0, p1, p2, pz⟩ := A3
      go_wp2_with fail
      refine (CX.out _).mono ?_
      rintro e w4 ⟨rfl, hb4⟩
      have A4 := A3.keep hb4
      have B4 := B3.keep hb4
      have b4 := thenBelow b3 hb4
      clear A3 B3 b3 hb4 p0 p1 p2 pz
      have ⟨p0, p1, p2, pz⟩ := B4
      go_wp2_with fail
      refine (CY.out _).mono ?_
      rintro e w5 ⟨rfl, hb5⟩
      have A5 := A4.keep hb5
      have B5 := B4.keep hb5
      have b5 := thenBelow b4 hb5
      clear A4 B4 b4 hb5 p0 p1 p2 pz
      have ⟨p0, p1, p2, pz⟩ := A5
      have ⟨q0, q1, q2, qz⟩ := B5
      have hs5 := b5.size
      by_cases hxy : x = y
      · have hne : (x != y) = false := by simpa using hxy
        have HXY := Lib.hid hxy
        clear hxy
        go_wp2
        go_roundw
        case rel =>
          refine ⟨k + 1, by omega, by go_num, fun j hj => ?_, A5, B5, b5⟩
          by_cases hjk : j < k
          · exact HAG.out j hjk
          · obtain rfl : j = k := by omega
            rw [HX.out, HY.out, HXY.out]
        case measure => simp [intOf]; omega
      · have hne : (x != y) = true := by simpa using hxy
        by_cases hlt2 : x < y
        · have hd := first_diff true H L H2 L2 k H0 H1 L0 L1 hm.out G0 G1 K0 K1 hm2.out (by simpa using hlt) HAG.out (by have := X01.out; have := Y01.out; rw [HX.out]; omega) (by have := X01.out; have := Y01.out; rw [HY.out]; omega)
          have HD := Lib.hid hd
          clear hd hxy
          go_wp2_with (go_at_call 17; refine (ahead_yes true true H L H2 L2 HD.out _).mono ?_; rintro e w6 ⟨rfl, rfl⟩)
          go_ret
          exact ⟨by simp [hlt2], by go_grown⟩
        · have hd := first_diff true H2 L2 H L k G0 G1 K0 K1 hm2.out H0 H1 L0 L1 hm.out (by simpa using hlt) (fun j hj => (HAG.out j hj).symm) (by have := X01.out; have := Y01.out; rw [HY.out]; omega) (by have := X01.out; have := Y01.out; rw [HX.out]; omega)
          have HD : Hid (H2 < H ∨ H = H2 ∧ L2 ≤ L) := by show H2 < H ∨ H = H2 ∧ L2 ≤ L; omega
          clear hd hxy
          go_wp2_with (go_at_call 17; refine (ahead_no true true H L H2 L2 HD.out _).mono ?_; rintro e w6 ⟨rfl, rfl⟩)
          go_ret
          exact ⟨by simp [hlt2], by go_grown⟩
    · obtain rfl : k = 128 := by omega
      obtain ⟨rfl, rfl⟩ := all_same true H L H2 L2 H0 H1 L0 L1 hm.out G0 G1 K0 K1 hm2.out HAG.out
      have ⟨p0, p1, p2, pz⟩ := A3
      go_wp2_with fail
      refine (bit_out true H L 128 H0 H1 L0 L1 hm.out (by simp [wideB]) _).mono ?_
      rintro e w4 ⟨rfl, hb4⟩
      have A4 := A3.keep hb4
      have B4 := B3.keep hb4
      have b4 := thenBelow b3 hb4
      clear A3 B3 b3 hb4 p0 p1 p2 pz
      have ⟨p0, p1, p2, pz⟩ := A4
      have ⟨q0, q1, q2, qz⟩ := B4
      go_wp2
      go_ret
      exact ⟨rfl, b4⟩

set_option maxHeartbeats 2000000 in
set_option maxRecDepth 100000 in
theorem Spelt.walkfalse (s2 : Bool) (hi lo hi2 lo2 H L H2 L2 : Int) (ph : ofH false hi = H) (pl : ofL false lo = L) (ph2 : ofH false hi2 = H2) (pl2 : ofL false lo2 = L2) (h0 : 0 ≤ hi) (h1 : hi ≤ 18446744073709551615) (l0 : 0 ≤ lo) (l1 : lo ≤ 18446744073709551615) (g0 : 0 ≤ hi2) (g1 : hi2 ≤ 18446744073709551615) (k0 : 0 ≤ lo2) (k1 : lo2 ≤ 18446744073709551615)
    (H0 : 0 ≤ H) (H1 : H ≤ 18446744073709551615) (L0 : 0 ≤ L) (L1 : L ≤ 18446744073709551615) (hm : Hid (mayB false H L = true)) (G0 : 0 ≤ H2) (G1 : H2 ≤ 18446744073709551615) (K0 : 0 ≤ L2) (K1 : L2 ≤ 18446744073709551615) (hm2 : Hid (mayB false H2 L2 = true)) (w : World) :
    Calls Try.prog 7 #[.agg #[.bool false, .int .u64 hi, .int .u64 lo], .agg #[.bool s2, .int .u64 hi2, .int .u64 lo2]] w fun e w' => e = .returned (.bool true) ∧ Below w.heap.size w w' := by
  have PH := Lib.hid ph; have PL := Lib.hid pl; have PH2 := Lib.hid ph2; have PL2 := Lib.hid pl2
  clear ph pl ph2 pl2
  go_enter Try.func7, Try.ntmps7
  go_wp2_with fail
  refine (addrOfRaw_calls false hi lo h0 l0 l1 _).mono ?_
  rw [PH.out, PL.out]
  rintro e w1 ⟨rfl, hb1⟩
  obtain ⟨r0, r1, r2, rf0, rf1, rf2⟩ := three hb1 (b := w.heap.size) (by simp; omega)
  obtain ⟨t0, t1, t2, tf0, tf1, tf2⟩ := three hb1 (b := w.heap.size + 1) (by simp)
  have hs1 := hb1.size
  simp [go_sem] at r0 r1 r2 t0 t1 t2 tf0 hs1
  have z1 : w.heap.size < w1.heap.size := by omega
  have z2 : w.heap.size + 1 < w1.heap.size := by omega
  have b1 := thenBelow (((Below.refl _ w).alloc (Nat.le_refl _) _).alloc (by simp) _) hb1
  clear hb1 rf0 rf1 rf2 tf1 tf2
  go_wp2_with fail
  refine (addrOfRaw_calls false hi2 lo2 g0 k0 k1 _).mono ?_
  rw [PH2.out, PL2.out]
  rintro e w2 ⟨rfl, hb2⟩
  have A2 := AddrAt.new (w1.setCell ⟨w.heap.size + 1, 0, none⟩ (.bool false)) false H L 24
  rw [World.size_setCell] at A2
  replace A2 := (A2.keep hb2).alloc (.cells #[.bool false, .int .u64 H2, .int .u64 L2] 24)
  have B2 := AddrAt.new w2 false H2 L2 24
  have b2 := thenBelow ((b1.setCell (p := ⟨w.heap.size + 1, 0, none⟩) (by simp) (.bool false)).alloc (by simp; omega) _) hb2
  replace b2 := b2.alloc (b2.size) (.cells #[.bool false, .int .u64 H2, .int .u64 L2] 24)
  have az := A2.2.2.2
  simp only [World.size_alloc] at az
  have a0 := A2.1
  clear hb2 b1 r0 r1 r2 t0 t1 t2 tf0
  go_wp2
  clear a0 az z1 z2 hs1
  go_loopw [8] (fun i wr => ∃ k : Nat, k ≤ 32 ∧ i = .int .i64 k ∧ Agree false H L H2 L2 k ∧ AddrAt wr w1.heap.size false H L ∧ AddrAt wr w2.heap.size false H2 L2 ∧ Below w.heap.size w wr)
    (fun i _ => 32 - (intOf i).toNat)
  case atStart => exact ⟨0, by omega, rfl, fun j hj => absurd hj (by omega), A2, B2, b2⟩
  case round =>
    clear A2 B2 b2
    obtain ⟨k, hk, rfl, hag, A3, B3, b3⟩ := hrel
    have HAG := Lib.hid hag
    clear hag
    by_cases hlt : k < 32
    · obtain ⟨x, hx⟩ : ∃ x, bitAt false H L k = x := ⟨_, rfl⟩
      obtain ⟨y, hy⟩ : ∃ y, bitAt false H2 L2 k = y := ⟨_, rfl⟩
      have x01 := bitAt_01 false H L k
      have y01 := bitAt_01 false H2 L2 k
      have HX := Lib.hid hx; have HY := Lib.hid hy
      rw [hx] at x01; rw [hy] at y01
      clear hx hy
      have cx := bit_in false H L k H0 H1 L0 L1 hm.out (by omega) (by simp [wideB]; omega)
      have cy := bit_in false H2 L2 k G0 G1 K0 K1 hm2.out (by omega) (by simp [wideB]; omega)
      rw [Int.toNat_natCast, HX.out] at cx
      rw [Int.toNat_natCast, HY.out] at cy
      have CX := Lib.hid cx; have CY := Lib.hid cy
      clear cx cy
      have X01 := Lib.hid x01; have Y01 := Lib.hid y01
      clear x01 y01
      have ⟨p0, p1, p2, pz⟩ := A3
      go_wp2_with fail
      refine (CX.out _).mono ?_
      rintro e w4 ⟨rfl, hb4⟩
      have A4 := A3.keep hb4
      have B4 := B3.keep hb4
      have b4 := thenBelow b3 hb4
      clear A3 B3 b3 hb4 p0 p1 p2 pz
      have ⟨p0, p1, p2, pz⟩ := B4
      go_wp2_with fail
      refine (CY.out _).mono ?_
      rintro e w5 ⟨rfl, hb5⟩
      have A5 := A4.keep hb5
      have B5 := B4.keep hb5
      have b5 := thenBelow b4 hb5
      clear A4 B4 b4 hb5 p0 p1 p2 pz
      have ⟨p0, p1, p2, pz⟩ := A5
      have ⟨q0, q1, q2, qz⟩ := B5
      have hs5 := b5.size
      by_cases hxy : x = y
      · have hne : (x != y) = false := by simpa using hxy
        have HXY := Lib.hid hxy
        clear hxy
        go_wp2
        go_roundw
        case rel =>
          refine ⟨k + 1, by omega, by go_num, fun j hj => ?_, A5, B5, b5⟩
          by_cases hjk : j < k
          · exact HAG.out j hjk
          · obtain rfl : j = k := by omega
            rw [HX.out, HY.out, HXY.out]
        case measure => simp [intOf]; omega
      · have hne : (x != y) = true := by simpa using hxy
        by_cases hlt2 : x < y
        · have hd := first_diff false H L H2 L2 k H0 H1 L0 L1 hm.out G0 G1 K0 K1 hm2.out (by simpa using hlt) HAG.out (by have := X01.out; have := Y01.out; rw [HX.out]; omega) (by have := X01.out; have := Y01.out; rw [HY.out]; omega)
          have HD := Lib.hid hd
          clear hd hxy
          go_wp2_with (go_at_call 17; refine (ahead_yes false false H L H2 L2 HD.out _).mono ?_; rintro e w6 ⟨rfl, rfl⟩)
          go_ret
          exact ⟨by simp [hlt2], by go_grown⟩
        · have hd := first_diff false H2 L2 H L k G0 G1 K0 K1 hm2.out H0 H1 L0 L1 hm.out (by simpa using hlt) (fun j hj => (HAG.out j hj).symm) (by have := X01.out; have := Y01.out; rw [HY.out]; omega) (by have := X01.out; have := Y01.out; rw [HX.out]; omega)
          have HD : Hid (H2 < H ∨ H = H2 ∧ L2 ≤ L) := by show H2 < H ∨ H = H2 ∧ L2 ≤ L; omega
          clear hd hxy
          go_wp2_with (go_at_call 17; refine (ahead_no false false H L H2 L2 HD.out _).mono ?_; rintro e w6 ⟨rfl, rfl⟩)
          go_ret
          exact ⟨by simp [hlt2], by go_grown⟩
    · obtain rfl : k = 32 := by omega
      obtain ⟨rfl, rfl⟩ := all_same false H L H2 L2 H0 H1 L0 L1 hm.out G0 G1 K0 K1 hm2.out HAG.out
      have ⟨p0, p1, p2, pz⟩ := A3
      go_wp2_with fail
      refine (bit_out false H L 32 H0 H1 L0 L1 hm.out (by simp [wideB]) _).mono ?_
      rintro e w4 ⟨rfl, hb4⟩
      have A4 := A3.keep hb4
      have B4 := B3.keep hb4
      have b4 := thenBelow b3 hb4
      clear A3 B3 b3 hb4 p0 p1 p2 pz
      have ⟨p0, p1, p2, pz⟩ := A4
      have ⟨q0, q1, q2, qz⟩ := B4
      go_wp2
      go_ret
      exact ⟨rfl, b4⟩

theorem Spelt.walk (six : Bool) (hi lo : Int) (s2 : Bool) (hi2 lo2 : Int) (h0 : 0 ≤ hi) (h1 : hi ≤ 18446744073709551615) (l0 : 0 ≤ lo) (l1 : lo ≤ 18446744073709551615) (g0 : 0 ≤ hi2) (g1 : hi2 ≤ 18446744073709551615) (k0 : 0 ≤ lo2) (k1 : lo2 ≤ 18446744073709551615) (w : World) :
    Calls Try.prog 7 #[.agg #[.bool six, .int .u64 hi, .int .u64 lo], .agg #[.bool s2, .int .u64 hi2, .int .u64 lo2]] w fun e w' => e = .returned (.bool true) ∧ Below w.heap.size w w' := by
  obtain ⟨H0, H1, L0, L1, hm⟩ := of_ok six hi lo h0 h1 l0 l1
  obtain ⟨G0, G1, K0, K1, hm2⟩ := of_ok six hi2 lo2 g0 g1 k0 k1
  cases six
  · exact Spelt.walkfalse s2 hi lo hi2 lo2 _ _ _ _ rfl rfl rfl rfl h0 h1 l0 l1 g0 g1 k0 k1 H0 H1 L0 L1 (Lib.hid hm) G0 G1 K0 K1 (Lib.hid hm2) w
  · exact Spelt.walktrue s2 hi lo hi2 lo2 _ _ _ _ rfl rfl rfl rfl h0 h1 l0 l1 g0 g1 k0 k1 H0 H1 L0 L1 (Lib.hid hm) G0 G1 K0 K1 (Lib.hid hm2) w
theorem Spelt.own : ownKnob Try.prog.godebug = none := by kernel_rfl
set_option maxRecDepth 100000 in
theorem Spelt.lifted (os : Os) (started : os.Started) (H : Type) (enc : TypeId × Value → H) :
    ReturnsInHanded {} Try.checked os 7 .any (Rows.addrSpeltSpec.pre6 enc Try.prog Try.f7 Rows.addrSpeltRow.domain false) (Rows.addrSpeltSpec.post enc Try.prog Try.f7 false true false false) := by
  refine returnsInHanded_of_change (C := Try.checked) Spelt.own started (by kernel_rfl) Try.func7
    (ChangeSpec.witness6 (enc := enc) (C := Try.checked) false ⟨#[], #[.agg #[.bool false, .int .u64 0, .int .u64 0], .agg #[.bool false, .int .u64 0, .int .u64 0]], []⟩ 8 (by kernel_rfl) (by kernel_rfl) (by kernel_rfl) (by kernel_rfl)) ?_
  intro W base args ds gs before hval0 hW hcnd _
  have hval : ∀ (j : Nat) t v, Try.f7.params[j]? = some t → args[j]? = some v → Value.okWide Try.prog W .any base t v := hval0
  have hW' := hW
  obtain ⟨p, q, hA0, hV, rfl, hfz, hnd⟩ := hW
  have hA : DataW.TrodAll enc Try.prog W 0 (fun _ => true) true Try.f7.params.toList args.toList ds p := hA0
  rw [Try.params7] at hA hval
  obtain ⟨v0, vs0, d0, ds0, p0, q0, hargs, rfl, rfl, rd0, r0⟩ := trodAll_cons hA
  obtain ⟨v1, vs1, d1, ds1, p1, q1, rfl, rfl, rfl, rd1, r1⟩ := trodAll_cons r0
  obtain ⟨rfl, rfl, rfl⟩ := trodAll_nil r1
  obtain rfl : args = #[v0, v1] := by cases args; simp_all
  obtain ⟨rfl, rfl⟩ := trodVars_none hV
  obtain ⟨s0, h0, l0, rfl, rfl, rfl, wa0, wb0⟩ := openRaw (hval 0 32 v0 rfl rfl) rd0
  obtain ⟨s1, h1, l1, rfl, rfl, rfl, wa1, wb1⟩ := openRaw (hval 1 32 v1 rfl rfl) rd1
  clear hA0 hval0
  simp only [List.append_nil] at hW'
  refine (Spelt.walk s0 h0 l0 s1 h1 l1 (u64_of_wf wa0).1 (u64_of_wf wa0).2 (u64_of_wf wb0).1 (u64_of_wf wb0).2 (u64_of_wf wa1).1 (u64_of_wf wa1).2 (u64_of_wf wb1).1 (u64_of_wf wb1).2 W).mono fun e W' ⟨he, hb⟩ => ?_
  subst he
  exact ⟨_, rfl, postBelow (pa := []) (pv := []) hW' hb (fun _ _ _ => trodAll_cons_mk (shut_bool Try.underlying4 _) trodAll_mk0) (fun sp _ => trodAll_cons_mk (shutRaw wa0 wb0) (trodAll_cons_mk (shutRaw wa1 wb1) trodAll_mk0)) (fun _ _ => rfl) rfl⟩

theorem Spelt.holds : Rows.AddrSpeltSaid :=
  OpenClaim.holds_of_wide 7 Try.f7 rfl rfl rfl rfl rfl rfl rfl ⟨rfl, rfl, rfl, rfl, rfl⟩ rfl rfl rfl rfl rfl (by kernel_rfl) Try.func7 (by kernel_rfl)
    (of_decide_eq_true (by kernel_rfl)) (by unfold Func.isWrapper; first | (rw [if_pos (by decide +kernel)]; kernel_rfl) | (rw [if_neg (by decide +kernel)]; exact ⟨rfl, rfl⟩))
    (fun os started H enc _ => Spelt.lifted os started H enc)
#print axioms Spelt.holds
end Go.Proofs.Ytnmocjlleejijaa
