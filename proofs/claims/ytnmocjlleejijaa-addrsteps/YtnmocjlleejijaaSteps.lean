/-
  PROVED: whipcordkeep.AddrSteps returns true for all arguments, and they read afterwards as they read before. No condition.
-/
import Derived.Test.YtnmocjlleejijaaRows
import Derived.Test.YtnmocjlleejijaaKeep1
import Derived.Test.YtnmocjlleejijaaBitIn
import Derived.Test.YtnmocjlleejijaaShapesRaw
namespace Go.Proofs.Ytnmocjlleejijaa
open Go.ChangeShapes Go.WideShapes Go.ChangeAt Go.RowKit Go.Joins
set_option linter.unusedVariables false
set_option linter.unusedSimpArgs false

theorem wide_true (w : World) : Calls Try.prog 18 #[.bool true] w fun e w' => e = .returned (.int .i64 128) ∧ w = w' := by
  go_enter Try.func18, Try.ntmps18
  go_wp2
  go_ret
  exact ⟨rfl, rfl⟩
theorem wide_false (w : World) : Calls Try.prog 18 #[.bool false] w fun e w' => e = .returned (.int .i64 32) ∧ w = w' := by
  go_enter Try.func18, Try.ntmps18
  go_wp2
  go_ret
  exact ⟨rfl, rfl⟩

theorem AddrAt.far {w : World} {b : Nat} {s : Bool} {h l : Int} (a : AddrAt w b s h l) {p : Addr} (hp : b ≠ p.block) (u : Value) : AddrAt (w.setCell p u) b s h l := by
  have ne : ∀ o, p ≠ ⟨b, o, none⟩ := fun o e => hp (by rw [e])
  exact ⟨(World.cell?_setCell_other w p _ u (ne 0)).trans a.1, (World.cell?_setCell_other w p _ u (ne 1)).trans a.2.1, (World.cell?_setCell_other w p _ u (ne 2)).trans a.2.2.1, by simpa using a.2.2.2⟩
theorem AddrAt.store {w : World} {b : Nat} {s : Bool} {h l : Int} (a : AddrAt w b s h l) (s2 : Bool) (h2 l2 : Int) :
    AddrAt (((w.setCell ⟨b, 0, none⟩ (.bool s2)).setCell ⟨b, 1, none⟩ (.int .u64 h2)).setCell ⟨b, 2, none⟩ (.int .u64 l2)) b s2 h2 l2 := by
  obtain ⟨a0, a1, a2, az⟩ := a
  exact ⟨by simp [go_sem, a0, a1, a2], by simp [go_sem, a0, a1, a2], by simp [go_sem, a0, a1, a2], by simpa using az⟩

set_option maxHeartbeats 2000000 in
set_option maxRecDepth 100000 in
theorem Steps.walktrue (hi lo q H L : Int) (n : Nat) (ph : ofH true hi = H) (pl : ofL true lo = L) (pn : q % 40 = (n : Int)) (h0 : 0 ≤ hi) (h1 : hi ≤ 18446744073709551615) (l0 : 0 ≤ lo) (l1 : lo ≤ 18446744073709551615) (q0 : -9223372036854775808 ≤ q) (q1 : q ≤ 9223372036854775807) (n1 : n < 40)
    (H0 : 0 ≤ H) (H1 : H ≤ 18446744073709551615) (L0 : 0 ≤ L) (L1 : L ≤ 18446744073709551615) (hm : Hid (mayB true H L = true)) (w : World) :
    Calls Try.prog 8 #[.agg #[.bool true, .int .u64 hi, .int .u64 lo], .int .i64 q] w fun e w' => e = .returned (.bool true) ∧ Below w.heap.size w w' := by
  have PH := Lib.hid ph; have PL := Lib.hid pl; have PN := Lib.hid pn
  clear ph pl pn
  have hlim := (may_iff true H L H0 L0 L1 H1).1 hm.out
  have HLIM := Lib.hid hlim
  clear hlim
  go_enter Try.func8, Try.ntmps8
  go_wp2_with fail
  refine (addrOfRaw_calls true hi lo h0 l0 l1 _).mono ?_
  rw [PH.out, PL.out]
  rintro e w1 ⟨rfl, hb1⟩
  have b1 := thenBelow ((Below.refl _ w).alloc (Nat.le_refl _) _) hb1
  have hs1 := hb1.size
  clear hb1
  go_wp2_with fail
  refine (picked_calls q 40 (by omega) (by omega) q0 q1 _).mono ?_
  rw [PN.out]
  rintro e w2 ⟨rfl, rfl⟩
  go_wp2
  have A1 := (AddrAt.new w1 true H L 24).alloc (.cells #[.bool true, .int .u64 H, .int .u64 L] 24)
  have T1 := AddrAt.new (w1.alloc (.cells #[.bool true, .int .u64 H, .int .u64 L] 24)) true H L 24
  simp only [World.size_alloc] at T1
  have F1 : ∀ o, ((w1.alloc (.cells #[.bool true, .int .u64 H, .int .u64 L] 24)).alloc (.cells #[.bool true, .int .u64 H, .int .u64 L] 24)).frozen? ⟨w1.heap.size + 1, o, none⟩ = false := fun o => by simp [go_sem]
  have bb := (b1.alloc b1.size (.cells #[.bool true, .int .u64 H, .int .u64 L] 24)).alloc (by have := b1.size; simp; omega) (.cells #[.bool true, .int .u64 H, .int .u64 L] 24)
  have hbase := b1.size
  clear b1
  go_loopw [8] (fun i wr => ∃ (k : Nat) (ah al : Int), k ≤ n ∧ i = .int .i64 k ∧ (numN H L k = ah * 18446744073709551616 + al ∧ 0 ≤ ah ∧ ah ≤ 18446744073709551615 ∧ 0 ≤ al ∧ al ≤ 18446744073709551615 ∧ mayB true ah al = true) ∧ AddrAt wr w1.heap.size true H L ∧ AddrAt wr (w1.heap.size + 1) true ah al ∧ (∀ o, wr.frozen? ⟨w1.heap.size + 1, o, none⟩ = false) ∧ Below w.heap.size w wr)
    (fun i _ => n - (intOf i).toNat)
  case atStart => exact ⟨0, H, L, by omega, rfl, ⟨by unfold numN; omega, H0, H1, L0, L1, hm.out⟩, A1, T1, F1, bb⟩
  case round =>
    clear A1 T1 F1 bb
    obtain ⟨k, ah, al, hk, rfl, ⟨hN, a0, a1, c0, c1, hma⟩, A3, T3, F3, b3⟩ := hrel
    have HN := Lib.hid hN; have HMA := Lib.hid hma; have HF := Lib.hid F3
    clear hN hma F3
    by_cases hlt : k < n
    · have ⟨t0, t1, t2, tz⟩ := T3
      by_cases ok : nextOk true ah al 1 = true
      · have hok := (nextOk_iff true ah al 1 HMA.out).1 ok
        obtain ⟨bh, eh⟩ : ∃ x, numN ah al 1 / 18446744073709551616 = x := ⟨_, rfl⟩
        obtain ⟨bl, el⟩ : ∃ x, numN ah al 1 % 18446744073709551616 = x := ⟨_, rfl⟩
        have hl6 : limN true ≤ 340282366920938463463374607431768211456 := by simp [limN]
        have hNb : numN ah al 1 = bh * 18446744073709551616 + bl := by omega
        have d0 : 0 ≤ bh := by omega
        have d1 : bh ≤ 18446744073709551615 := by omega
        have f0 : 0 ≤ bl := by omega
        have f1 : bl ≤ 18446744073709551615 := by omega
        have hmb : mayB true bh bl = true := (may_iff true bh bl d0 f0 f1 d1).2 (by omega)
        have C1 := Lib.hid (fun W => next_yes true ah al 1 bh bl a0 a1 c0 c1 ok eh el W)
        have HNB : Hid (numN H L (k + 1 : Nat) = bh * 18446744073709551616 + bl) := by
          show numN H L (k + 1 : Nat) = bh * 18446744073709551616 + bl
          have := HN.out; unfold numN at *; omega
        have HMB := Lib.hid hmb
        obtain ⟨x, hx⟩ : ∃ x, bitAt true ah al 127 = x := ⟨_, rfl⟩
        obtain ⟨y, hy⟩ : ∃ y, bitAt true bh bl 127 = y := ⟨_, rfl⟩
        have hxy : (x == y) = false := by
          have e1 : x = al % 2 := by rw [← hx]; simp [bitAt, bitW]
          have e2 : y = bl % 2 := by rw [← hy]; simp [bitAt, bitW]
          unfold numN at hNb
          simp; omega
        have cx := bit_in true ah al 127 a0 a1 c0 c1 HMA.out (by omega) (by simp [wideB])
        have cy := bit_in true bh bl 127 d0 d1 f0 f1 HMB.out (by omega) (by simp [wideB])
        simp only [Int.reduceToNat, hx, hy] at cx cy
        have CX := Lib.hid cx; have CY := Lib.hid cy
        clear cx cy hx hy hNb eh el hok ok hl6 hmb
        go_wp2_with fail
        refine (C1.out _).mono ?_
        rintro e w4 ⟨rfl, hb4⟩
        have A4 := (A3.keep hb4).alloc (.cells #[.bool true, .int .u64 bh, .int .u64 bl] 24)
        have T4 := (T3.keep hb4).alloc (.cells #[.bool true, .int .u64 bh, .int .u64 bl] 24)
        have N4 := AddrAt.new w4 true bh bl 24
        have F4 : Hid (∀ o, (w4.alloc (.cells #[.bool true, .int .u64 bh, .int .u64 bl] 24)).frozen? ⟨w1.heap.size + 1, o, none⟩ = false) := fun o => by
          rw [World.frozen?_alloc_past _ _ _ (Nat.lt_of_lt_of_le tz hb4.size), hb4.frozen (p := ⟨w1.heap.size + 1, o, none⟩) tz]; exact HF.out o
        have b4 := thenBelow b3 hb4
        replace b4 := b4.alloc b4.size (.cells #[.bool true, .int .u64 bh, .int .u64 bl] 24)
        have ⟨t0', t1', t2', tz'⟩ := T3.keep hb4
        have ⟨s0', s1', s2', sz'⟩ := A3.keep hb4
        clear hb4 b3 A3 T3 t0 t1 t2 tz HF s1' s2'
        go_wp2
        go_region_held3 (fun w' => w'.cell? ⟨w1.heap.size + 1, 0, none⟩ = some (.bool true) ∧ w'.cell? ⟨w1.heap.size + 1, 1, none⟩ = some (.int .u64 ah) ∧ w'.cell? ⟨w1.heap.size + 1, 2, none⟩ = some (.int .u64 al) ∧ w'.cell? ⟨w1.heap.size, 0, none⟩ = some (.bool true)) (first | exact ⟨T5.1, T5.2.1, T5.2.2.1, A5.1⟩ | (simp [go_sem, *]; done))
          (first
            | (go_at_call 18; refine (wide_true _).mono ?_; rintro e w' ⟨rfl, rfl⟩)
            | (go_at_call 11; refine (CX.out _).mono ?_; rintro e w5 ⟨rfl, hb5⟩; have T5 := AddrAt.keep (by exact T4) hb5; have A5 := AddrAt.keep (by exact A4) hb5))
        have N5 := AddrAt.keep (by exact N4) hb5
        have F5 : Hid (∀ o, w5.frozen? ⟨w1.heap.size + 1, o, none⟩ = false) := fun o => (hb5.frozen (p := ⟨w1.heap.size + 1, o, none⟩) T4.2.2.2).trans (F4.out o)
        have b5 : Below w.heap.size w w5 := thenBelow (show Below w.heap.size w (w4.alloc (.cells #[.bool true, .int .u64 bh, .int .u64 bl] 24)).drew from b4.drew) hb5
        clear hb5 T4 A4 N4 F4 b4 t0' t1' t2' tz' s0' sz'
        have ⟨t0, t1, t2, tz⟩ := N5
        have ⟨s0, s1, s2, sz⟩ := A5
        clear s1 s2
        go_wp2
        go_region_held3 (fun w' => w'.cell? ⟨w4.heap.size, 0, none⟩ = some (.bool true) ∧ w'.cell? ⟨w4.heap.size, 1, none⟩ = some (.int .u64 bh) ∧ w'.cell? ⟨w4.heap.size, 2, none⟩ = some (.int .u64 bl) ∧ w'.cell? ⟨w1.heap.size, 0, none⟩ = some (.bool true)) (first | exact ⟨N6.1, N6.2.1, N6.2.2.1, A6.1⟩ | (simp [go_sem, *]; done))
          (first
            | (go_at_call 18; refine (wide_true _).mono ?_; rintro e w' ⟨rfl, rfl⟩)
            | (go_at_call 11; refine (CY.out _).mono ?_; rintro e w6 ⟨rfl, hb6⟩; have N6 := AddrAt.keep (by exact N5) hb6; have A6 := AddrAt.keep (by exact A5) hb6))
        have T6 := AddrAt.keep (by exact T5) hb6
        have F6 : Hid (∀ o, w6.frozen? ⟨w1.heap.size + 1, o, none⟩ = false) := fun o => (hb6.frozen (p := ⟨w1.heap.size + 1, o, none⟩) T5.2.2.2).trans (F5.out o)
        have b6 : Below w.heap.size w w6 := thenBelow (show Below w.heap.size w w5.drew from b5.drew) hb6
        clear hb6 T5 A5 N5 F5 b5 t0 t1 t2 tz s0 sz
        have ⟨t0, t1, t2, tz⟩ := N6
        have ⟨s0, s1, s2, sz⟩ := T6
        have r0 := F6.out 0
        have r1 := F6.out 1
        have r2 := F6.out 2
        have hs6 := b6.size
        go_wp2
        go_roundw
        case rel => exact ⟨k + 1, bh, bl, by omega, by go_num, ⟨HNB.out, d0, d1, f0, f1, HMB.out⟩, ((A6.far (by simp) _).far (by simp) _).far (by simp) _, T6.store true bh bl, fun o => by simp only [World.frozen?_setCell]; exact F6.out o, ((b6.setCell (by simp; omega) _).setCell (by simp; omega) _).setCell (by simp; omega) _⟩
        case measure => simp [intOf]; omega
      · have ok' : nextOk true ah al 1 = false := by simpa using ok
        have hno : ¬ ((-1099511627776 ≤ (1 : Int) ∧ (1 : Int) ≤ 1099511627776) ∧ 0 ≤ numN ah al 1 ∧ numN ah al 1 < limN true) := fun h => ok ((nextOk_iff true ah al 1 HMA.out).2 h)
        have okn : nextOk true H L n = false := by
          rw [Bool.eq_false_iff]
          intro h
          have h' := (nextOk_iff true H L n hm.out).1 h
          have := HN.out
          unfold numN at *
          omega
        have C1 := Lib.hid (fun W => next_none true ah al 1 a0 a1 c0 c1 HMA.out ok' W)
        have C2 := Lib.hid (fun W => next_none true H L n H0 H1 L0 L1 hm.out okn W)
        clear ok ok' hno okn
        go_wp2_with fail
        refine (C1.out _).mono ?_
        rintro e w4 ⟨rfl, hb4⟩
        have A4 := A3.keep hb4
        have b4 := thenBelow b3 hb4
        clear hb4 b3 A3 T3 t0 t1 t2 tz HF
        have ⟨t0, t1, t2, tz⟩ := A4
        go_wp2_with fail
        refine (C2.out _).mono ?_
        rintro e w5 ⟨rfl, hb5⟩
        have b5 := thenBelow (b4.alloc b4.size _) hb5
        go_wp2
        go_ret
        exact ⟨rfl, b5.alloc b5.size _⟩
    · obtain rfl : k = n := by omega
      have okn : nextOk true H L k = true := (nextOk_iff true H L k hm.out).2 ⟨by omega, by have := HN.out; have := (may_iff true ah al a0 c0 c1 a1).1 HMA.out; omega⟩
      have C2 := Lib.hid (fun W => next_yes true H L k ah al H0 H1 L0 L1 okn (by have := HN.out; omega) (by have := HN.out; omega) W)
      have cb := bit_in false 0 1 31 (by omega) (by omega) (by omega) (by omega) (by decide) (by omega) (by simp [wideB])
      have eb : bitAt false 0 1 31 = 1 := by decide
      simp only [Int.reduceToNat, eb] at cb
      have CB := Lib.hid cb
      clear cb eb okn
      have ⟨t0, t1, t2, tz⟩ := A3
      go_wp2_with fail
      refine (C2.out _).mono ?_
      rintro e w4 ⟨rfl, hb4⟩
      have T4 := T3.keep hb4
      have b4 := thenBelow b3 hb4
      clear hb4 b3 A3 T3 t0 t1 t2 tz HF
      go_wp2_with fail
      refine (CB.out _).mono ?_
      rintro e w5 ⟨rfl, hb5⟩
      have b5 := thenBelow (b4.alloc b4.size _) hb5
      have T5 := (T4.alloc _).keep hb5
      have N5 := (AddrAt.new w4 true ah al 24).keep hb5
      have ⟨t0, t1, t2, tz⟩ := T5
      have ⟨s0, s1, s2, sz⟩ := N5
      clear hb5
      go_wp2
      go_ret
      exact ⟨rfl, b5⟩

set_option maxHeartbeats 2000000 in
set_option maxRecDepth 100000 in
theorem Steps.walkfalse (hi lo q H L : Int) (n : Nat) (ph : ofH false hi = H) (pl : ofL false lo = L) (pn : q % 40 = (n : Int)) (h0 : 0 ≤ hi) (h1 : hi ≤ 18446744073709551615) (l0 : 0 ≤ lo) (l1 : lo ≤ 18446744073709551615) (q0 : -9223372036854775808 ≤ q) (q1 : q ≤ 9223372036854775807) (n1 : n < 40)
    (H0 : 0 ≤ H) (H1 : H ≤ 18446744073709551615) (L0 : 0 ≤ L) (L1 : L ≤ 18446744073709551615) (hm : Hid (mayB false H L = true)) (w : World) :
    Calls Try.prog 8 #[.agg #[.bool false, .int .u64 hi, .int .u64 lo], .int .i64 q] w fun e w' => e = .returned (.bool true) ∧ Below w.heap.size w w' := by
  have PH := Lib.hid ph; have PL := Lib.hid pl; have PN := Lib.hid pn
  clear ph pl pn
  have hlim := (may_iff false H L H0 L0 L1 H1).1 hm.out
  have HLIM := Lib.hid hlim
  clear hlim
  go_enter Try.func8, Try.ntmps8
  go_wp2_with fail
  refine (addrOfRaw_calls false hi lo h0 l0 l1 _).mono ?_
  rw [PH.out, PL.out]
  rintro e w1 ⟨rfl, hb1⟩
  have b1 := thenBelow ((Below.refl _ w).alloc (Nat.le_refl _) _) hb1
  have hs1 := hb1.size
  clear hb1
  go_wp2_with fail
  refine (picked_calls q 40 (by omega) (by omega) q0 q1 _).mono ?_
  rw [PN.out]
  rintro e w2 ⟨rfl, rfl⟩
  go_wp2
  have A1 := (AddrAt.new w1 false H L 24).alloc (.cells #[.bool false, .int .u64 H, .int .u64 L] 24)
  have T1 := AddrAt.new (w1.alloc (.cells #[.bool false, .int .u64 H, .int .u64 L] 24)) false H L 24
  simp only [World.size_alloc] at T1
  have F1 : ∀ o, ((w1.alloc (.cells #[.bool false, .int .u64 H, .int .u64 L] 24)).alloc (.cells #[.bool false, .int .u64 H, .int .u64 L] 24)).frozen? ⟨w1.heap.size + 1, o, none⟩ = false := fun o => by simp [go_sem]
  have bb := (b1.alloc b1.size (.cells #[.bool false, .int .u64 H, .int .u64 L] 24)).alloc (by have := b1.size; simp; omega) (.cells #[.bool false, .int .u64 H, .int .u64 L] 24)
  have hbase := b1.size
  clear b1
  go_loopw [8] (fun i wr => ∃ (k : Nat) (ah al : Int), k ≤ n ∧ i = .int .i64 k ∧ (numN H L k = ah * 18446744073709551616 + al ∧ 0 ≤ ah ∧ ah ≤ 18446744073709551615 ∧ 0 ≤ al ∧ al ≤ 18446744073709551615 ∧ mayB false ah al = true) ∧ AddrAt wr w1.heap.size false H L ∧ AddrAt wr (w1.heap.size + 1) false ah al ∧ (∀ o, wr.frozen? ⟨w1.heap.size + 1, o, none⟩ = false) ∧ Below w.heap.size w wr)
    (fun i _ => n - (intOf i).toNat)
  case atStart => exact ⟨0, H, L, by omega, rfl, ⟨by unfold numN; omega, H0, H1, L0, L1, hm.out⟩, A1, T1, F1, bb⟩
  case round =>
    clear A1 T1 F1 bb
    obtain ⟨k, ah, al, hk, rfl, ⟨hN, a0, a1, c0, c1, hma⟩, A3, T3, F3, b3⟩ := hrel
    have HN := Lib.hid hN; have HMA := Lib.hid hma; have HF := Lib.hid F3
    clear hN hma F3
    by_cases hlt : k < n
    · have ⟨t0, t1, t2, tz⟩ := T3
      by_cases ok : nextOk false ah al 1 = true
      · have hok := (nextOk_iff false ah al 1 HMA.out).1 ok
        obtain ⟨bh, eh⟩ : ∃ x, numN ah al 1 / 18446744073709551616 = x := ⟨_, rfl⟩
        obtain ⟨bl, el⟩ : ∃ x, numN ah al 1 % 18446744073709551616 = x := ⟨_, rfl⟩
        have hl6 : limN false ≤ 340282366920938463463374607431768211456 := by simp [limN]
        have hNb : numN ah al 1 = bh * 18446744073709551616 + bl := by omega
        have d0 : 0 ≤ bh := by omega
        have d1 : bh ≤ 18446744073709551615 := by omega
        have f0 : 0 ≤ bl := by omega
        have f1 : bl ≤ 18446744073709551615 := by omega
        have hmb : mayB false bh bl = true := (may_iff false bh bl d0 f0 f1 d1).2 (by omega)
        have C1 := Lib.hid (fun W => next_yes false ah al 1 bh bl a0 a1 c0 c1 ok eh el W)
        have HNB : Hid (numN H L (k + 1 : Nat) = bh * 18446744073709551616 + bl) := by
          show numN H L (k + 1 : Nat) = bh * 18446744073709551616 + bl
          have := HN.out; unfold numN at *; omega
        have HMB := Lib.hid hmb
        obtain ⟨x, hx⟩ : ∃ x, bitAt false ah al 31 = x := ⟨_, rfl⟩
        obtain ⟨y, hy⟩ : ∃ y, bitAt false bh bl 31 = y := ⟨_, rfl⟩
        have hxy : (x == y) = false := by
          have e1 : x = al % 2 := by rw [← hx]; simp [bitAt, bitW]
          have e2 : y = bl % 2 := by rw [← hy]; simp [bitAt, bitW]
          unfold numN at hNb
          simp; omega
        have cx := bit_in false ah al 31 a0 a1 c0 c1 HMA.out (by omega) (by simp [wideB])
        have cy := bit_in false bh bl 31 d0 d1 f0 f1 HMB.out (by omega) (by simp [wideB])
        simp only [Int.reduceToNat, hx, hy] at cx cy
        have CX := Lib.hid cx; have CY := Lib.hid cy
        clear cx cy hx hy hNb eh el hok ok hl6 hmb
        go_wp2_with fail
        refine (C1.out _).mono ?_
        rintro e w4 ⟨rfl, hb4⟩
        have A4 := (A3.keep hb4).alloc (.cells #[.bool false, .int .u64 bh, .int .u64 bl] 24)
        have T4 := (T3.keep hb4).alloc (.cells #[.bool false, .int .u64 bh, .int .u64 bl] 24)
        have N4 := AddrAt.new w4 false bh bl 24
        have F4 : Hid (∀ o, (w4.alloc (.cells #[.bool false, .int .u64 bh, .int .u64 bl] 24)).frozen? ⟨w1.heap.size + 1, o, none⟩ = false) := fun o => by
          rw [World.frozen?_alloc_past _ _ _ (Nat.lt_of_lt_of_le tz hb4.size), hb4.frozen (p := ⟨w1.heap.size + 1, o, none⟩) tz]; exact HF.out o
        have b4 := thenBelow b3 hb4
        replace b4 := b4.alloc b4.size (.cells #[.bool false, .int .u64 bh, .int .u64 bl] 24)
        have ⟨t0', t1', t2', tz'⟩ := T3.keep hb4
        have ⟨s0', s1', s2', sz'⟩ := A3.keep hb4
        clear hb4 b3 A3 T3 t0 t1 t2 tz HF s1' s2'
        go_wp2
        go_region_held3 (fun w' => w'.cell? ⟨w1.heap.size + 1, 0, none⟩ = some (.bool false) ∧ w'.cell? ⟨w1.heap.size + 1, 1, none⟩ = some (.int .u64 ah) ∧ w'.cell? ⟨w1.heap.size + 1, 2, none⟩ = some (.int .u64 al) ∧ w'.cell? ⟨w1.heap.size, 0, none⟩ = some (.bool false)) (first | exact ⟨T5.1, T5.2.1, T5.2.2.1, A5.1⟩ | (simp [go_sem, *]; done))
          (first
            | (go_at_call 18; refine (wide_false _).mono ?_; rintro e w' ⟨rfl, rfl⟩)
            | (go_at_call 11; refine (CX.out _).mono ?_; rintro e w5 ⟨rfl, hb5⟩; have T5 := AddrAt.keep (by exact T4) hb5; have A5 := AddrAt.keep (by exact A4) hb5))
        have N5 := AddrAt.keep (by exact N4) hb5
        have F5 : Hid (∀ o, w5.frozen? ⟨w1.heap.size + 1, o, none⟩ = false) := fun o => (hb5.frozen (p := ⟨w1.heap.size + 1, o, none⟩) T4.2.2.2).trans (F4.out o)
        have b5 : Below w.heap.size w w5 := thenBelow (show Below w.heap.size w (w4.alloc (.cells #[.bool false, .int .u64 bh, .int .u64 bl] 24)).drew from b4.drew) hb5
        clear hb5 T4 A4 N4 F4 b4 t0' t1' t2' tz' s0' sz'
        have ⟨t0, t1, t2, tz⟩ := N5
        have ⟨s0, s1, s2, sz⟩ := A5
        clear s1 s2
        go_wp2
        go_region_held3 (fun w' => w'.cell? ⟨w4.heap.size, 0, none⟩ = some (.bool false) ∧ w'.cell? ⟨w4.heap.size, 1, none⟩ = some (.int .u64 bh) ∧ w'.cell? ⟨w4.heap.size, 2, none⟩ = some (.int .u64 bl) ∧ w'.cell? ⟨w1.heap.size, 0, none⟩ = some (.bool false)) (first | exact ⟨N6.1, N6.2.1, N6.2.2.1, A6.1⟩ | (simp [go_sem, *]; done))
          (first
            | (go_at_call 18; refine (wide_false _).mono ?_; rintro e w' ⟨rfl, rfl⟩)
            | (go_at_call 11; refine (CY.out _).mono ?_; rintro e w6 ⟨rfl, hb6⟩; have N6 := AddrAt.keep (by exact N5) hb6; have A6 := AddrAt.keep (by exact A5) hb6))
        have T6 := AddrAt.keep (by exact T5) hb6
        have F6 : Hid (∀ o, w6.frozen? ⟨w1.heap.size + 1, o, none⟩ = false) := fun o => (hb6.frozen (p := ⟨w1.heap.size + 1, o, none⟩) T5.2.2.2).trans (F5.out o)
        have b6 : Below w.heap.size w w6 := thenBelow (show Below w.heap.size w w5.drew from b5.drew) hb6
        clear hb6 T5 A5 N5 F5 b5 t0 t1 t2 tz s0 sz
        have ⟨t0, t1, t2, tz⟩ := N6
        have ⟨s0, s1, s2, sz⟩ := T6
        have r0 := F6.out 0
        have r1 := F6.out 1
        have r2 := F6.out 2
        have hs6 := b6.size
        go_wp2
        go_roundw
        case rel => exact ⟨k + 1, bh, bl, by omega, by go_num, ⟨HNB.out, d0, d1, f0, f1, HMB.out⟩, ((A6.far (by simp) _).far (by simp) _).far (by simp) _, T6.store false bh bl, fun o => by simp only [World.frozen?_setCell]; exact F6.out o, ((b6.setCell (by simp; omega) _).setCell (by simp; omega) _).setCell (by simp; omega) _⟩
        case measure => simp [intOf]; omega
      · have ok' : nextOk false ah al 1 = false := by simpa using ok
        have hno : ¬ ((-1099511627776 ≤ (1 : Int) ∧ (1 : Int) ≤ 1099511627776) ∧ 0 ≤ numN ah al 1 ∧ numN ah al 1 < limN false) := fun h => ok ((nextOk_iff false ah al 1 HMA.out).2 h)
        have okn : nextOk false H L n = false := by
          rw [Bool.eq_false_iff]
          intro h
          have h' := (nextOk_iff false H L n hm.out).1 h
          have := HN.out
          unfold numN at *
          omega
        have C1 := Lib.hid (fun W => next_none false ah al 1 a0 a1 c0 c1 HMA.out ok' W)
        have C2 := Lib.hid (fun W => next_none false H L n H0 H1 L0 L1 hm.out okn W)
        clear ok ok' hno okn
        go_wp2_with fail
        refine (C1.out _).mono ?_
        rintro e w4 ⟨rfl, hb4⟩
        have A4 := A3.keep hb4
        have b4 := thenBelow b3 hb4
        clear hb4 b3 A3 T3 t0 t1 t2 tz HF
        have ⟨t0, t1, t2, tz⟩ := A4
        go_wp2_with fail
        refine (C2.out _).mono ?_
        rintro e w5 ⟨rfl, hb5⟩
        have b5 := thenBelow (b4.alloc b4.size _) hb5
        go_wp2
        go_ret
        exact ⟨rfl, b5.alloc b5.size _⟩
    · obtain rfl : k = n := by omega
      have okn : nextOk false H L k = true := (nextOk_iff false H L k hm.out).2 ⟨by omega, by have := HN.out; have := (may_iff false ah al a0 c0 c1 a1).1 HMA.out; omega⟩
      have C2 := Lib.hid (fun W => next_yes false H L k ah al H0 H1 L0 L1 okn (by have := HN.out; omega) (by have := HN.out; omega) W)
      have cb := bit_in false 0 1 31 (by omega) (by omega) (by omega) (by omega) (by decide) (by omega) (by simp [wideB])
      have eb : bitAt false 0 1 31 = 1 := by decide
      simp only [Int.reduceToNat, eb] at cb
      have CB := Lib.hid cb
      clear cb eb okn
      have ⟨t0, t1, t2, tz⟩ := A3
      go_wp2_with fail
      refine (C2.out _).mono ?_
      rintro e w4 ⟨rfl, hb4⟩
      have T4 := T3.keep hb4
      have b4 := thenBelow b3 hb4
      clear hb4 b3 A3 T3 t0 t1 t2 tz HF
      go_wp2_with fail
      refine (CB.out _).mono ?_
      rintro e w5 ⟨rfl, hb5⟩
      have b5 := thenBelow (b4.alloc b4.size _) hb5
      have T5 := (T4.alloc _).keep hb5
      have N5 := (AddrAt.new w4 false ah al 24).keep hb5
      have ⟨t0, t1, t2, tz⟩ := T5
      have ⟨s0, s1, s2, sz⟩ := N5
      clear hb5
      go_wp2
      go_ret
      exact ⟨rfl, b5⟩

theorem Steps.walk (six : Bool) (hi lo q : Int) (h0 : 0 ≤ hi) (h1 : hi ≤ 18446744073709551615) (l0 : 0 ≤ lo) (l1 : lo ≤ 18446744073709551615) (q0 : -9223372036854775808 ≤ q) (q1 : q ≤ 9223372036854775807) (w : World) :
    Calls Try.prog 8 #[.agg #[.bool six, .int .u64 hi, .int .u64 lo], .int .i64 q] w fun e w' => e = .returned (.bool true) ∧ Below w.heap.size w w' := by
  obtain ⟨H0, H1, L0, L1, hm⟩ := of_ok six hi lo h0 h1 l0 l1
  obtain ⟨n, hn⟩ := Int.eq_ofNat_of_zero_le (show 0 ≤ q % 40 by omega)
  cases six
  · exact Steps.walkfalse hi lo q _ _ n rfl rfl hn h0 h1 l0 l1 q0 q1 (by omega) H0 H1 L0 L1 (Lib.hid hm) w
  · exact Steps.walktrue hi lo q _ _ n rfl rfl hn h0 h1 l0 l1 q0 q1 (by omega) H0 H1 L0 L1 (Lib.hid hm) w
theorem Steps.own : ownKnob Try.prog.godebug = none := by kernel_rfl
set_option maxRecDepth 100000 in
theorem Steps.lifted (os : Os) (started : os.Started) (H : Type) (enc : TypeId × Value → H) :
    ReturnsInHanded {} Try.checked os 8 .any (Rows.addrStepsSpec.pre6 enc Try.prog Try.f8 Rows.addrStepsRow.domain false) (Rows.addrStepsSpec.post enc Try.prog Try.f8 false true false false) := by
  refine returnsInHanded_of_change (C := Try.checked) Steps.own started (by kernel_rfl) Try.func8
    (ChangeSpec.witness6 (enc := enc) (C := Try.checked) false ⟨#[], #[.agg #[.bool false, .int .u64 0, .int .u64 0], .int .i64 0], []⟩ 8 (by kernel_rfl) (by kernel_rfl) (by kernel_rfl) (by kernel_rfl)) ?_
  intro W base args ds gs before hval0 hW hcnd _
  have hval : ∀ (j : Nat) t v, Try.f8.params[j]? = some t → args[j]? = some v → Value.okWide Try.prog W .any base t v := hval0
  have hW' := hW
  obtain ⟨p, q, hA0, hV, rfl, hfz, hnd⟩ := hW
  have hA : DataW.TrodAll enc Try.prog W 0 (fun _ => true) true Try.f8.params.toList args.toList ds p := hA0
  rw [Try.params8] at hA hval
  obtain ⟨v0, vs0, d0, ds0, p0, q0, hargs, rfl, rfl, rd0, r0⟩ := trodAll_cons hA
  obtain ⟨v1, vs1, d1, ds1, p1, q1, rfl, rfl, rfl, rd1, r1⟩ := trodAll_cons r0
  obtain ⟨rfl, rfl, rfl⟩ := trodAll_nil r1
  obtain rfl : args = #[v0, v1] := by cases args; simp_all
  obtain ⟨rfl, rfl⟩ := trodVars_none hV
  obtain ⟨s0, h0, l0, rfl, rfl, rfl, wa0, wb0⟩ := openRaw (hval 0 32 v0 rfl rfl) rd0
  obtain ⟨a1, rfl, rfl, rfl, wa1⟩ := open_int Try.underlying3 (hval 1 3 v1 rfl rfl) rd1
  clear hA0 hval0
  simp only [List.append_nil] at hW'
  refine (Steps.walk s0 h0 l0 a1 (u64_of_wf wa0).1 (u64_of_wf wa0).2 (u64_of_wf wb0).1 (u64_of_wf wb0).2 (i64_of_wf wa1).1 (i64_of_wf wa1).2 W).mono fun e W' ⟨he, hb⟩ => ?_
  subst he
  exact ⟨_, rfl, postBelow (pa := []) (pv := []) hW' hb (fun _ _ _ => trodAll_cons_mk (shut_bool Try.underlying4 _) trodAll_mk0) (fun sp _ => trodAll_cons_mk (shutRaw wa0 wb0) (trodAll_cons_mk (shut_int Try.underlying3 wa1) trodAll_mk0)) (fun _ _ => rfl) rfl⟩

theorem Steps.holds : Rows.AddrStepsSaid :=
  OpenClaim.holds_of_wide 8 Try.f8 rfl rfl rfl rfl rfl rfl rfl ⟨rfl, rfl, rfl, rfl, rfl⟩ rfl rfl rfl rfl rfl (by kernel_rfl) Try.func8 (by kernel_rfl)
    (of_decide_eq_true (by kernel_rfl)) (by unfold Func.isWrapper; first | (rw [if_pos (by decide +kernel)]; kernel_rfl) | (rw [if_neg (by decide +kernel)]; exact ⟨rfl, rfl⟩))
    (fun os started H enc _ => Steps.lifted os started H enc)
#print axioms Steps.holds
end Go.Proofs.Ytnmocjlleejijaa
