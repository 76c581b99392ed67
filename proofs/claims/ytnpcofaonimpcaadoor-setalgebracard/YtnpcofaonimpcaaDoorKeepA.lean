/-
  Contracts of whipcordkeep's helpers: AddrOf and addr.Next by the number, preSure, copiedPres, samePres.
-/
import Derived.Test.YtnpcofaonimpcaaDoorPreC
import Derived.Test.YtnpcofaonimpcaaDoorNextYes
import Derived.Test.YtnpcofaonimpcaaDoorPicked
import Derived.Test.YtnpcofaonimpcaaDoorAddrOf
import Derived.Test.YtnpcofaonimpcaaDoorPreHasC
import Derived.Test.YtnpcofaonimpcaaDoorVia
import Derived.Test.YtnpcofaonimpcaaDoorAppTwo
import Derived.Test.YtnpcofaonimpcaaDoorG1
namespace Go.Proofs.YtnpcofaonimpcaaDoor
open Go.RowKit
set_option linter.unusedVariables false
set_option linter.unusedSimpArgs false

/-- The number of the address that AddrOf makes. -/
def numR (six : Bool) (hi lo : Int) : Nat := numA (ofH six hi) (ofL six lo)
theorem numR_lt (six : Bool) (hi lo : Int) (h0 : 0 ≤ hi) (h1 : hi ≤ 18446744073709551615) (l0 : 0 ≤ lo) (l1 : lo ≤ 18446744073709551615) : numR six hi lo < 2 ^ wideN six := by
  unfold numR numA
  cases six
  · simp [ofH, ofL, wideN]; omega
  · simp [ofH, ofL, wideN]; omega
theorem addrOfNum_calls (six : Bool) (hi lo : Int) (h0 : 0 ≤ hi) (h1 : hi ≤ 18446744073709551615) (l0 : 0 ≤ lo) (l1 : lo ≤ 18446744073709551615) (x : Nat) (hx : numR six hi lo = x) (w : World) :
    Calls Tryd.prog 6 #[.agg #[.bool six, .int .u64 hi, .int .u64 lo]] w fun e w' => e = .returned (.agg #[.bool six, .int .u64 (aH x), .int .u64 (aL x)]) ∧ Below w.heap.size w w' := by
  obtain ⟨a, b, c, d, _⟩ := of_ok six hi lo h0 h1 l0 l1
  rw [← hx, show aH (numR six hi lo) = ofH six hi from aH_numA _ _ a c d, show aL (numR six hi lo) = ofL six lo from aL_numA _ _ a c d]
  exact addrOfRaw_calls six hi lo h0 l0 l1 w

theorem sureHas (w : World) :
    Calls Tryd.prog 34 #[.agg #[.bool false, .int .u64 0, .int .u64 16, .int .i64 28], .agg #[.bool false, .int .u64 0, .int .u64 17]] w fun e w' => e = .returned (.tuple #[.bool true, .int .i64 0]) ∧ Below w.heap.size w w' :=
  has_ok false 16 17 28 16 true (by decide) (by decide) (by decide) (by decide) (by decide) (by decide) (by decide) w
set_option maxHeartbeats 400000 in
theorem preSure_calls (w : World) :
    Calls Tryd.prog 24 #[] w fun e w' => e = .returned (.bool true) ∧ Below w.heap.size w w' := by
  go_enter Tryd.func24, Tryd.ntmps24
  go_wp2_with fail
  refine (sureHas _).mono ?_
  rintro e w1 ⟨rfl, hb1⟩
  go_wp2
  go_ret
  exact ⟨rfl, hb1⟩

/-- addr.Next by the number. -/
theorem next_num (six : Bool) (x y : Nat) (by' : Int) (hx : x < 2 ^ wideN six) (hy : y < 2 ^ wideN six) (b0 : -1099511627776 ≤ by') (b1 : by' ≤ 1099511627776) (h : (x : Int) + by' = y) (w : World) :
    Calls Tryd.prog 7 #[.agg #[.bool six, .int .u64 (aH x), .int .u64 (aL x)], .int .i64 by'] w fun e w' => e = .returned (.tuple #[.agg #[.bool six, .int .u64 (aH y), .int .u64 (aL y)], .int .i64 0]) ∧ Below w.heap.size w w' := by
  have hx' := lt128 hx
  have hn : numN (aH x) (aL x) by' = (y : Int) := by unfold numN aH aL; omega
  have hm : mayB six (aH x) (aL x) = true := (mayB_num six x hx').trans (decide_eq_true hx)
  have hl : limN six = ((2 ^ wideN six : Nat) : Int) := by cases six <;> rfl
  have hok : nextOk six (aH x) (aL x) by' = true := by
    rw [nextOk_iff six _ _ _ hm, hn, hl]
    exact ⟨⟨b0, b1⟩, by omega, by exact_mod_cast hy⟩
  exact next_yes six (aH x) (aL x) by' (aH y) (aL y) (aH_0 x) (aH_1 x hx') (aL_0 x) (aL_1 x) hok (by rw [hn]; unfold aH; omega) (by rw [hn]; unfold aL; omega) w
/-- .. where there is none. -/
theorem next_num_none (six : Bool) (x : Nat) (by' : Int) (hx : x < 2 ^ wideN six) (h : (x : Int) + by' < 0 ∨ ((2 ^ wideN six : Nat) : Int) ≤ (x : Int) + by') (w : World) :
    Calls Tryd.prog 7 #[.agg #[.bool six, .int .u64 (aH x), .int .u64 (aL x)], .int .i64 by'] w fun e w' => e = .returned (.tuple #[.agg #[.bool false, .int .u64 0, .int .u64 0], .int .i64 2]) ∧ Below w.heap.size w w' := by
  have hx' := lt128 hx
  have hn : numN (aH x) (aL x) by' = (x : Int) + by' := by unfold numN aH aL; omega
  have hm : mayB six (aH x) (aL x) = true := (mayB_num six x hx').trans (decide_eq_true hx)
  have hl : limN six = ((2 ^ wideN six : Nat) : Int) := by cases six <;> rfl
  have hok : nextOk six (aH x) (aL x) by' = false := by
    rw [Bool.eq_false_iff]
    intro hc
    rw [nextOk_iff six _ _ _ hm, hn, hl] at hc
    omega
  exact next_none six (aH x) (aL x) by' (aH_0 x) (aH_1 x hx') (aL_0 x) (aL_1 x) hm hok w

theorem copied_calls (l : List PT) (v : Value) (base : Nat) (hlen : l.length ≤ 1000000000) (w : World) (h : Owned w base v l) :
    Calls Tryd.prog 16 #[v] w (PresOut l w) := by
  obtain ⟨i0, hii, hz0, hz1, hz2⟩ := info_parts info_pre
  have hby : (0 + l.length) * 32 ≤ 140737488355328 := by omega
  have h63 : 0 + l.length ≤ maxLen := by unfold maxLen; omega
  have n0 := World.ownsRow_nil w w.heap.size 40 4
  go_enter Tryd.func16, Tryd.ntmps16
  go_wp2_with (first
    | (at_builtin; refine wpList_append_two (by rfl) _ _ _ (by rfl) w.heap.size 40 i0 _ 4 32 Tryd.underlying32 hii hz0 hz1 hz2 rfl (by decide) _ _ _ (by rfl) n0 _ _ _ _ (by rfl) h (pRow_one _) hby h63 (Nat.le_refl _) ?_; intro ve we he be))
  go_wp2
  go_returns
  refine ⟨_, rfl, ?_, be⟩
  rw [Nat.zero_add, List.nil_append] at he
  exact he
set_option maxHeartbeats 2000000 in
theorem keepSame_calls (b1 b2 : Nat) (v1 v2 : Value) (l : List PT) (hlen : l.length ≤ 1000000000) (w : World) (h1 : Owned w b1 v1 l) (h2 : Owned w b2 v2 l) :
    Calls Tryd.prog 19 #[v1, v2] w fun e w' => e = .returned (.bool true) ∧ Below w.heap.size w w' := by
  by_cases h0 : l.length = 0
  · obtain rfl := List.eq_nil_of_length_eq_zero h0
    obtain ⟨p1, c1, rfl⟩ : ∃ p c, v1 = .slice p 0 c := by
      rcases h1.2 with ⟨e, _⟩ | ⟨g, c, _, e, _⟩
      · exact ⟨none, 0, e⟩
      · exact ⟨_, c, e⟩
    obtain ⟨p2, c2, rfl⟩ : ∃ p c, v2 = .slice p 0 c := by
      rcases h2.2 with ⟨e, _⟩ | ⟨g, c, _, e, _⟩
      · exact ⟨none, 0, e⟩
      · exact ⟨_, c, e⟩
    go_enter Tryd.func19, Tryd.ntmps19
    go_wp2
    go_rounds 1
    go_returns
    exact ⟨rfl, Below.refl _ _⟩
  · obtain ⟨g1, c1, rfl, _, _⟩ := h1.form (by omega)
    obtain ⟨g2, c2, rfl, _, _⟩ := h2.form (by omega)
    obtain ⟨n, hn⟩ : ∃ n, l.length = n := ⟨_, rfl⟩
    have H1 := Lib.hid (fun k hk => owned_at h1 rfl k hk)
    have H2 := Lib.hid (fun k hk => owned_at h2 rfl k hk)
    have HN := Lib.hid hn
    rw [hn] at hlen ⊢
    clear h1 h2 h0 hn
    go_enter Tryd.func19, Tryd.ntmps19
    go_wp2
    go_loopw [5] (fun i wr => ∃ k q : Nat, k ≤ n ∧ i = .int .i64 k ∧ wr = w.drewN q) (fun i _ => n - (intOf i).toNat)
    case atStart => exact ⟨0, 0, Nat.zero_le _, rfl, rfl⟩
    case round =>
      obtain ⟨k, q, hk, rfl, rfl⟩ := hrel
      by_cases hlt : k < n
      · obtain ⟨x0, x1, x2, x3⟩ := H1.out k (by rw [HN.out]; exact hlt)
        obtain ⟨y0, y1, y2, y3⟩ := H2.out k (by rw [HN.out]; exact hlt)
        generalize (l[k]'(by rw [HN.out]; exact hlt)) = p at x0 x1 x2 x3 y0 y1 y2 y3
        obtain ⟨s, x, m⟩ := p
        simp only at x0 x1 x2 x3 y0 y1 y2 y3
        go_wp2_with fail
        go_quiet ((fail))
        go_wp2
        go_roundw
        case rel => exact ⟨k + 1, _, by omega, by go_num, rfl⟩
        case measure => simp [intOf]; omega
      · go_wp2
        go_returns
        exact ⟨rfl, below_drewN (Below.refl _ _) _⟩
end Go.Proofs.YtnpcofaonimpcaaDoor
