/-
  Contracts of the document's preOver, PreCommon.
-/
import Derived.Test.YthlkofbdfjpfpaaRefCovers
import Derived.Test.YthlkofbdfjpfpaaPreH
namespace Go.Proofs.Ythlkofbdfjpfpaa
open Go.RowKit
set_option linter.unusedVariables false
set_option linter.unusedSimpArgs false

set_option maxHeartbeats 1000000 in
theorem refOver_calls (six : Bool) (x y n m : Nat) (b : Bool) (hx : x < 2 ^ wideN six) (hy : y < 2 ^ wideN six) (hn : n ≤ wideN six) (hm : n ≤ m) (hb : decide (lowN y (wideN six - n) = lowN x (wideN six - n)) = b) (w : World) :
    Calls Try.prog 44 #[.agg #[.bool six, .int .u64 (aH x), .int .u64 (aL x), .int .i64 n], .agg #[.bool six, .int .u64 (aH y), .int .u64 (aL y), .int .i64 m]] w fun e w' => e = .returned (.bool b) ∧ Below w.heap.size w w' := by
  have IN := Lib.hid (fun W : World => refIn_calls six x y n b hx hy hn hb W)
  clear hb
  go_enter Try.func44, Try.ntmps44
  go_wp2_with fail
  refine (IN.out _).mono ?_
  rintro e w1 ⟨rfl, hb1⟩
  have b1 := thenBelow (((Below.refl _ w).alloc (Nat.le_refl _) _).alloc (by simp) _) hb1
  go_wp2
  go_ret
  exact ⟨rfl, b1⟩

set_option maxHeartbeats 400000 in
theorem refCommon_err (s1 s2 : Bool) (x y : Nat) (n m e0 : Int) (hx : x < 2 ^ 128) (hy : y < 2 ^ 128) (hc : bothE s1 x n s2 y m = e0) (he : (e0 == 0) = false) (w : World) :
    Calls Try.prog 25 #[.agg #[.bool s1, .int .u64 (aH x), .int .u64 (aL x), .int .i64 n], .agg #[.bool s2, .int .u64 (aH y), .int .u64 (aL y), .int .i64 m]] w fun e w' => e = .returned (.tuple #[.agg #[.bool false, .int .u64 0, .int .u64 0, .int .i64 0], .int .i64 e0]) ∧ Below w.heap.size w w' := by
  have C := Lib.hid hc
  clear hc
  go_enter Try.func25, Try.ntmps25
  go_wp2_with fail
  refine (refBoth_calls s1 s2 x y n m hx hy _).mono ?_
  rw [C.out]
  rintro e w1 ⟨rfl, hb1⟩
  have b1 := thenBelow ((((Below.refl _ w).alloc (Nat.le_refl _) _).alloc (by simp) _).alloc (by simp; omega) _) hb1
  have P := (((PreV.new w s1 (aH x) (aL x) n 26).alloc _).alloc _).keep hb1
  have Q := ((PreV.new (w.alloc (.cells #[.bool s1, .int .u64 (aH x), .int .u64 (aL x), .int .i64 n] 26)) s2 (aH y) (aL y) m 26).alloc _).keep hb1
  have R := (PreV.new ((w.alloc (.cells #[.bool s1, .int .u64 (aH x), .int .u64 (aL x), .int .i64 n] 26)).alloc (.cells #[.bool s2, .int .u64 (aH y), .int .u64 (aL y), .int .i64 m] 26)) false 0 0 0 26).keep hb1
  simp only [World.size_alloc] at P Q R
  obtain ⟨⟨t0, t1, t2, t3, tl⟩, tf⟩ := R
  have g0 := tf 0; have g1 := tf 1; have g2 := tf 2; have g3 := tf 3
  clear hb1 tf P Q
  go_wp2
  try simp only [Exit.inBlock, Exit.then]
  refine bodyPost_ret (v := .tuple #[.agg #[.bool false, .int .u64 0, .int .u64 0, .int .i64 0], .int .i64 e0]) (by simp [results, Try.results25, go_sem, t0, t1, t2, t3]) rfl ?_
  exact ⟨rfl, ((((b1.setCell (p := ⟨w.heap.size + 1 + 1, 0, none⟩) (by show w.heap.size ≤ w.heap.size + 1 + 1; omega) (.bool false)).setCell (p := ⟨w.heap.size + 1 + 1, 1, none⟩) (by show w.heap.size ≤ w.heap.size + 1 + 1; omega) (.int .u64 0)).setCell (p := ⟨w.heap.size + 1 + 1, 2, none⟩) (by show w.heap.size ≤ w.heap.size + 1 + 1; omega) (.int .u64 0)).setCell (p := ⟨w.heap.size + 1 + 1, 3, none⟩) (by show w.heap.size ≤ w.heap.size + 1 + 1; omega) (.int .i64 0))⟩

/-- The bits from t on, k of them, are 0. -/
def dnF (six : Bool) (x t k : Nat) (j : Nat) : Bool := !decide (t ≤ j ∧ j < t + k) && fB six x j
set_option maxHeartbeats 4000000 in
set_option maxRecDepth 100000 in
theorem refCommon_ok (six : Bool) (x n y m c : Nat) (hx : x < 2 ^ wideN six) (hy : y < 2 ^ wideN six) (hn : n ≤ wideN six) (hm : m ≤ wideN six) (hc : bothE six x n six y m = 0) (hk : comN six x n y m = c) (w : World) :
    Calls Try.prog 25 #[.agg #[.bool six, .int .u64 (aH x), .int .u64 (aL x), .int .i64 n], .agg #[.bool six, .int .u64 (aH y), .int .u64 (aL y), .int .i64 m]] w fun e w' => e = .returned (.tuple #[.agg #[.bool six, .int .u64 (aH (lowN x (wideN six - c))), .int .u64 (aL (lowN x (wideN six - c))), .int .i64 c], .int .i64 0]) ∧ Below w.heap.size w w' := by
  have hW := wideN_le six
  have hx' := lt128 hx
  have hy' := lt128 hy
  have hcl : c ≤ n ∧ c ≤ m ∧ c ≤ wideN six := by have := shared_le six x y; unfold comN at hk; omega
  obtain ⟨hcn, hcm, hcw⟩ := hcl
  have OV := Lib.hid (fun (t : Nat) (h1 : t ≤ n) (h2 : t ≤ m) (b : Bool) (hb : decide (t ≤ c) = b) (W : World) => refOver_calls six (lowN x (wideN six - t)) y t m b (lowN_lt _ _ _ hx) hy (by omega) h2 (by
    have e : lowN (lowN x (wideN six - t)) (wideN six - t) = lowN x (wideN six - t) := by
      refine Nat.eq_of_testBit_eq fun i => ?_
      rw [lowN_testBit, lowN_testBit]
      cases decide (wideN six - t ≤ i) <;> simp
    rw [e, ← hb]
    refine decide_eq_decide.2 ?_
    rw [eq_comm, ← shared_iff six x y t hx hy (by omega)]
    unfold comN at hk
    omega) W)
  have AO := Lib.hid (fun (t g cap : Nat) (W : World) (h : BitsF W g (wideN six) (fB six (lowN x (wideN six - t)))) => addrOf_bits six (lowN x (wideN six - t)) g cap (lowN_lt _ _ _ hx) W h)
  have FL := Lib.hid (fun t (ht : t ≤ wideN six) j (hj : j < wideN six) => fB_low six x t j ht hj)
  have BO := Lib.hid (fun W : World => bitsOf_num six x hx' W)
  obtain ⟨W, hWe⟩ : ∃ W, wideN six = W := ⟨_, rfl⟩
  rw [hWe] at hn hm hW hcw OV AO BO FL ⊢
  clear hk hWe
  have C := Lib.hid hc
  clear hc
  go_enter Try.func25, Try.ntmps25
  go_wp2_with fail
  refine (refBoth_calls six six x y n m hx' hy' _).mono ?_
  rw [C.out]
  rintro e w1 ⟨rfl, hb1⟩
  have b1 := thenBelow ((((Below.refl _ w).alloc (Nat.le_refl _) _).alloc (by simp) _).alloc (by simp; omega) _) hb1
  have P := (((PreV.new w six (aH x) (aL x) n 26).alloc _).alloc _).keep hb1
  have Q := ((PreV.new (w.alloc (.cells #[.bool six, .int .u64 (aH x), .int .u64 (aL x), .int .i64 n] 26)) six (aH y) (aL y) m 26).alloc _).keep hb1
  have R := (PreV.new ((w.alloc (.cells #[.bool six, .int .u64 (aH x), .int .u64 (aL x), .int .i64 n] 26)).alloc (.cells #[.bool six, .int .u64 (aH y), .int .u64 (aL y), .int .i64 m] 26)) false 0 0 0 26).keep hb1
  simp only [World.size_alloc] at P Q R
  have HP := Lib.hid P
  have HQ := Lib.hid Q
  have HR := Lib.hid R
  have zr := R.1.2.2.2.2
  obtain ⟨⟨p0, p1, p2, p3, pl⟩, _⟩ := P
  obtain ⟨⟨q0, q1, q2, q3, ql⟩, _⟩ := Q
  clear hb1 R
  go_wp2
  go_loopw [7] (fun i wr => ∃ t : Nat, c ≤ t ∧ t ≤ n ∧ t ≤ m ∧ i = .int .i64 t ∧ PreV wr w.heap.size six (aH x) (aL x) n ∧ PreV wr (w.heap.size + 1) six (aH y) (aL y) m ∧ PreV wr (w.heap.size + 1 + 1) false 0 0 0 ∧ Below w.heap.size w wr) (fun i _ => (intOf i).toNat)
  case atStart => exact ⟨min n m, by omega, by omega, by omega, by congr 1; omega, HP.out, HQ.out, HR.out, b1⟩
  case round =>
    clear HP HQ HR zr p0 p1 p2 p3 pl q0 q1 q2 q3 ql b1
    obtain ⟨t, h1, h2, h3, rfl, hP, hQ, hR, hb⟩ := hrel
    have HP := Lib.hid hP
    have HQ := Lib.hid hQ
    have HR := Lib.hid hR
    have zr := hR.1.2.2.2.2
    obtain ⟨⟨p0, p1, p2, p3, pl⟩, _⟩ := hP
    clear hQ hR
    go_wp2_with fail
    refine (BO.out _).mono ?_
    rintro e w2 ⟨g, cap, rfl, hB2, hg2, hc2, hb2⟩
    have b2 := thenBelow hb hb2
    have HP := Lib.hid (HP.out.keep hb2)
    have HQ := Lib.hid (HQ.out.keep hb2)
    have HR := Lib.hid (HR.out.keep hb2)
    have HB := Lib.hid hB2
    have hg : w.heap.size + 1 + 1 < g := by omega
    obtain ⟨hc2a, hc2b⟩ := hc2
    unfold maxLen at hc2b
    clear p0 p1 p2 p3 pl hb2 hB2 hg2 zr hb
    go_wp2
    go_loopw [9] (fun i wr => ∃ k : Nat, k ≤ W - t ∧ i = .int .i64 ((t + k : Nat) : Int) ∧ BitsF wr g W (dnF six x t k) ∧ PreV wr w.heap.size six (aH x) (aL x) n ∧ PreV wr (w.heap.size + 1) six (aH y) (aL y) m ∧ PreV wr (w.heap.size + 1 + 1) false 0 0 0 ∧ Below w.heap.size w wr) (fun i _ => W - (intOf i).toNat)
    case atStart => exact ⟨0, Nat.zero_le _, rfl, HB.out.congr (fun j _ => by unfold dnF; rw [decide_eq_false (by omega)]; rfl), HP.out, HQ.out, HR.out, b2⟩
    case round =>
      clear HB HP HQ HR b2
      obtain ⟨k, hk, rfl, hB, hP, hQ, hR, hb⟩ := hrel
      by_cases hlt : k < W - t
      · have hcell := hB.1 (t + k) (by omega)
        have hfr := hB.2.1 (t + k)
        have HB := Lib.hid (hB.set (t + k) (by omega) false)
        have HP := Lib.hid (hP.far (p := ⟨g, t + k, none⟩) (by show w.heap.size ≠ g; omega) (.int .i64 0))
        have HQ := Lib.hid (hQ.far (p := ⟨g, t + k, none⟩) (by show w.heap.size + 1 ≠ g; omega) (.int .i64 0))
        have HR := Lib.hid (hR.far (p := ⟨g, t + k, none⟩) (by show w.heap.size + 1 + 1 ≠ g; omega) (.int .i64 0))
        have hb' := hb.setCell (p := ⟨g, t + k, none⟩) (by show w.heap.size ≤ g; omega) (.int .i64 0)
        clear hB hP hQ hR hb
        go_wp2
        go_roundw
        case rel => exact ⟨k + 1, by omega, by go_num, HB.out.congr (fun j _ => by
          unfold dnF
          by_cases e : j = t + k
          · rw [if_pos e, decide_eq_true (by omega)]; rfl
          · rw [if_neg e]
            congr 2
            exact decide_eq_decide.2 (by omega)), HP.out, HQ.out, HR.out, hb'⟩
        case measure => simp [intOf]; omega
      · obtain rfl : k = W - t := by omega
        have HB := Lib.hid (hB.congr (f' := fB six (lowN x (W - t))) (fun j hj => by
          rw [FL.out t (by omega) j hj]
          unfold dnF
          congr 1
          rw [← decide_not]
          exact decide_eq_decide.2 (by omega)))
        have HP := Lib.hid hP
        have HQ := Lib.hid hQ
        have HR := Lib.hid hR
        clear hB hP hQ hR
        go_wp2_with fail
        refine (AO.out t g cap _ HB.out).mono ?_
        rintro e w3 ⟨rfl, hb3⟩
        have b3 := thenBelow hb hb3
        have HP := Lib.hid (HP.out.keep hb3)
        have HQ := Lib.hid (HQ.out.keep hb3)
        have HR := Lib.hid (HR.out.keep hb3)
        have Q := HQ.out
        obtain ⟨⟨q0, q1, q2, q3, ql⟩, _⟩ := Q
        clear hb3 HB hb
        go_wp2_with fail
        by_cases htc : t ≤ c
        · obtain rfl : t = c := by omega
          refine (OV.out t h2 h3 true (decide_eq_true htc) _).mono ?_
          rintro e w4 ⟨rfl, hb4⟩
          have b4 := thenBelow (b3.alloc b3.size _) hb4
          have O4 := (PreV.new w3 six (aH (lowN x (W - t))) (aL (lowN x (W - t))) t 26).keep hb4
          have R4 := (HR.out.alloc _).keep hb4
          obtain ⟨⟨o0, o1, o2, o3, ol⟩, _⟩ := O4
          obtain ⟨⟨r0, r1, r2, r3, rl⟩, rf⟩ := R4
          have f0 := rf 0; have f1 := rf 1; have f2 := rf 2; have f3 := rf 3
          clear rf hb4 q0 q1 q2 q3 ql
          go_wp2
          try simp only [Exit.inBlock, Exit.then]
          refine bodyPost_ret (v := .tuple #[.agg #[.bool six, .int .u64 (aH (lowN x (W - t))), .int .u64 (aL (lowN x (W - t))), .int .i64 t], .int .i64 0]) (by simp [results, Try.results25, go_sem, r0, r1, r2, r3]) rfl ?_
          exact ⟨rfl, ((((b4.setCell (p := ⟨w.heap.size + 1 + 1, 0, none⟩) (by show w.heap.size ≤ w.heap.size + 1 + 1; omega) (.bool six)).setCell (p := ⟨w.heap.size + 1 + 1, 1, none⟩) (by show w.heap.size ≤ w.heap.size + 1 + 1; omega) (.int .u64 (aH (lowN x (W - t))))).setCell (p := ⟨w.heap.size + 1 + 1, 2, none⟩) (by show w.heap.size ≤ w.heap.size + 1 + 1; omega) (.int .u64 (aL (lowN x (W - t))))).setCell (p := ⟨w.heap.size + 1 + 1, 3, none⟩) (by show w.heap.size ≤ w.heap.size + 1 + 1; omega) (.int .i64 t))⟩
        · refine (OV.out t h2 h3 false (decide_eq_false htc) _).mono ?_
          rintro e w4 ⟨rfl, hb4⟩
          have b4 := thenBelow (b3.alloc b3.size _) hb4
          have HP := Lib.hid ((HP.out.alloc _).keep hb4)
          have HQ := Lib.hid ((HQ.out.alloc _).keep hb4)
          have HR := Lib.hid ((HR.out.alloc _).keep hb4)
          clear hb4 q0 q1 q2 q3 ql
          go_wp2
          go_roundw
          case rel => exact ⟨t - 1, by omega, by omega, by omega, by congr 1; omega, HP.out, HQ.out, HR.out, b4⟩
          case measure => simp [intOf]; omega
end Go.Proofs.Ythlkofbdfjpfpaa
