/-
  A slice of ints that can be read; whipcordkeep.Pres.
-/
import Derived.Test.YtifhakoeinalaaaDoorKeepA
import Derived.Test.YtifhakoeinalaaaDoorCidrN
namespace Go.Proofs.YtifhakoeinalaaaDoor
open Go.RowKit
set_option linter.unusedVariables false
set_option linter.unusedSimpArgs false

/-- A slice of ints that can be read. -/
def RowI (w : World) (v : Value) (l : List Int) : Prop := ∃ p c, v = .slice p l.length c ∧ ∀ k (hk : k < l.length), ∃ g o, p = some ⟨g, o, none⟩ ∧ g < w.heap.size ∧ w.cell? ⟨g, o + k, none⟩ = some (.int .i64 l[k])
theorem RowI.keep {w w' : World} {v : Value} {l : List Int} (h : RowI w v l) (hb : Below w.heap.size w w') : RowI w' v l := by
  obtain ⟨p, c, e, hc⟩ := h
  refine ⟨p, c, e, fun k hk => ?_⟩
  obtain ⟨g, o, e1, hg, hx⟩ := hc k hk
  exact ⟨g, o, e1, Nat.lt_of_lt_of_le hg hb.size, (hb.cell (p := ⟨g, o + k, none⟩) hg).trans hx⟩
def IntsOK (l : List Int) : Prop := ∀ v ∈ l, -9223372036854775808 ≤ v ∧ v ≤ 9223372036854775807
/-- The prefix made of K and D. -/
def mkP (K D : Nat) : PT := (false, lowN (167772160 + D) (32 - (24 + K)), ((24 + K : Nat) : Int))
theorem mkP_ok (K D : Nat) (hK : K ≤ 8) (hD : D < 512) : chkP (mkP K D) = 0 := by
  refine chk_mk false _ (24 + K) ?_ (by show 24 + K ≤ 32; omega) ?_
  · exact Nat.lt_of_le_of_lt (lowN_le _ _) (by show 167772160 + D < 2 ^ 32; omega)
  · show lowN (lowN (167772160 + D) (32 - (24 + K))) (32 - (24 + K)) = lowN (167772160 + D) (32 - (24 + K))
    generalize 167772160 + D = A
    generalize 32 - (24 + K) = k
    unfold lowN
    rw [Nat.mul_div_cancel _ (Nat.two_pow_pos _)]
/-- What is said of a list that Pres makes. -/
def Made (n : Nat) (ps : List PT) : Prop := AllOK ps ∧ (∀ p ∈ ps, p.1 = false) ∧ ps.length ≤ n
theorem Made.nil (n : Nat) : Made n [] := ⟨fun p hp => (by cases hp), fun p hp => (by cases hp), by simp⟩
theorem Made.app {n : Nat} {ps : List PT} (h : Made n ps) (K D : Nat) (hK : K ≤ 8) (hD : D < 512) : Made (n + 1) (ps ++ [mkP K D]) := by
  refine ⟨fun p hp => ?_, fun p hp => ?_, by rw [List.length_append]; have := h.2.2; simp; omega⟩
  · rcases List.mem_append.1 hp with c | c
    · exact h.1 p c
    · rw [List.mem_singleton] at c; subst c; exact mkP_ok K D hK hD
  · rcases List.mem_append.1 hp with c | c
    · exact h.2.1 p c
    · rw [List.mem_singleton] at c; subst c; rfl
theorem mk_word (K D : Nat) (hK : K ≤ 8) (hD : D < 512) : ∃ X : Nat, lowN (167772160 + D) (32 - (24 + K)) = X ∧ IntKind.u64.wrap ((167772160 + (D : Int)) / 2 ^ (32 - (24 + K)) * 2 ^ (32 - (24 + K))) = (X : Int) ∧ X < 4294967296 := by
  have hlt : lowN (167772160 + D) (32 - (24 + K)) < 4294967296 := Nat.lt_of_le_of_lt (lowN_le _ _) (by omega)
  refine ⟨_, rfl, ?_, hlt⟩
  have e : (167772160 + (D : Int)) / 2 ^ (32 - (24 + K)) * 2 ^ (32 - (24 + K)) = ((lowN (167772160 + D) (32 - (24 + K)) : Nat) : Int) := by unfold lowN; simp
  rw [e, wrap_nat64 _ (by omega)]
theorem tdiv_bd (z : Int) (v0 : -9223372036854775808 ≤ z) (v1 : z ≤ 9223372036854775807) : -9223372036854775808 ≤ z.tdiv 9 ∧ z.tdiv 9 ≤ 9223372036854775807 := by
  by_cases h : 0 ≤ z
  · rw [Int.tdiv_eq_ediv_of_nonneg h]; omega
  · have e : z.tdiv 9 = -((-z).tdiv 9) := by rw [Int.neg_tdiv, Int.neg_neg]
    rw [e, Int.tdiv_eq_ediv_of_nonneg (by omega)]; omega
set_option maxHeartbeats 4000000 in
set_option maxRecDepth 100000 in
theorem pres_calls (l : List Int) (ok : IntsOK l) (n : Nat) (hn : n ≤ 1000) (v : Value) (w : World) (hr : RowI w v l) :
    Calls Tryd.prog 15 #[v, .int .i64 n] w fun e w' => ∃ ps, Made n ps ∧ PresOut ps w e w' := by
  obtain ⟨i0, hii, hz0, hz1, hz2⟩ := info_parts info_pre
  obtain ⟨p, c, rfl, hc⟩ := hr
  have HC := Lib.hid hc
  have OK := Lib.hid ok
  clear hc ok
  go_enter Tryd.func15, Tryd.ntmps15
  go_wp2
  go_loopw [5, 6] (fun u i wr => ∃ (j : Nat) (ps : List PT), j ≤ n ∧ j ≤ l.length ∧ i = .int .i64 j ∧ Owned wr w.heap.size u ps ∧ Below w.heap.size w wr ∧ Hid (Made j ps)) (fun _ i _ => n - (intOf i).toNat)
  case atStart => exact ⟨0, [], by omega, by omega, rfl, owned_nil _ _, Below.refl _ _, Lib.hid (Made.nil 0)⟩
  case round =>
    obtain ⟨j, ps, hj, hjl, rfl, hown, hnx, hmade⟩ := hrel
    have hsz := hnx.size
    by_cases hlt : j < l.length
    · by_cases hlt2 : j < n
      · obtain ⟨g, o, rfl, hg, hx⟩ := HC.out j hlt
        have hx' := (hnx.cell (p := ⟨g, o + j, none⟩) hg).trans hx
        obtain ⟨v0, v1⟩ := OK.out _ (List.getElem_mem hlt)
        generalize l[j] = z at hx' v0 v1
        clear hx
        have d2 := tdiv_bd z v0 v1
        obtain ⟨t, ht⟩ : ∃ t, z.tdiv 9 = t := ⟨_, rfl⟩
        rw [ht] at d2
        have k0 : 0 ≤ z % 9 := Int.emod_nonneg _ (by decide)
        have k1 : z % 9 < 9 := Int.emod_lt_of_pos _ (by decide)
        have d0 : 0 ≤ t % 512 := Int.emod_nonneg _ (by decide)
        have d1 : t % 512 < 512 := Int.emod_lt_of_pos _ (by decide)
        obtain ⟨K, hK⟩ : ∃ K : Nat, z % 9 = K := ⟨(z % 9).toNat, by omega⟩
        obtain ⟨D, hD⟩ : ∃ D : Nat, t % 512 = D := ⟨(t % 512).toNat, by omega⟩
        have PA : Hid (∀ W : World, Calls Tryd.prog 12 #[.int .i64 z, .int .i64 9] W fun e w' => e = .returned (.int .i64 K) ∧ W = w') := Lib.hid fun W => by
          have := picked_calls z 9 (by decide) (by decide) v0 v1 W
          rw [hK] at this; exact this
        have PB : Hid (∀ W : World, Calls Tryd.prog 12 #[.int .i64 t, .int .i64 512] W fun e w' => e = .returned (.int .i64 D) ∧ W = w') := Lib.hid fun W => by
          have := picked_calls t 512 (by decide) (by decide) d2.1 d2.2 W
          rw [hD] at this; exact this
        rw [hK] at k1
        rw [hD] at d1
        have hK8 : K ≤ 8 := by omega
        have hD5 : D < 512 := by omega
        clear k0 k1 d0 d1 hK hD
        obtain ⟨X, hX, hXw, hXb⟩ := mk_word K D hK8 hD5
        have hM := Lib.hid (hmade.out.app K D hK8 hD5)
        have hRow : Hid (pRow [mkP K D] = [.bool false, .int .u64 0, .int .u64 (X : Int), .int .i64 (24 + (K : Int))]) := Lib.hid (by
          show [Value.bool false, .int .u64 (aH (lowN (167772160 + D) (32 - (24 + K)))), .int .u64 (aL (lowN (167772160 + D) (32 - (24 + K)))), .int .i64 ((24 + K : Nat) : Int)] = _
          rw [hX]
          have e1 : aH X = 0 := by unfold aH; omega
          have e2 : aL X = (X : Int) := by unfold aL; omega
          rw [e1, e2]; simp)
        have hpl := hmade.out.2.2
        clear hX hmade
        go_wp2_with fail
        refine (PA.out _).mono ?_
        rintro e w' ⟨rfl, rfl⟩
        go_wp2_with fail
        refine (PB.out _).mono ?_
        rintro e w' ⟨rfl, rfl⟩
        go_wp2_with (first
          | (at_builtin; refine wpList_append_own _ rfl _ _ 28 rfl w.heap.size 33 i0 _ 4 32 Tryd.underlying28 hii hz0 hz1 hz2 rfl (by decide) _ _ _ rfl (hown.alloc _) ⟨wr.heap.size, 0, none⟩ 1 1 [.bool false, .int .u64 0, .int .u64 (X : Int), .int .i64 (24 + (K : Int))] rfl rfl ?c1 ?c2 ?c3 ?c4 ?c5 ?_))
        case c1 => exact World.news_of_block (heap_alloc_new wr _)
        case c2 => rw [← hRow.out]; exact pRow_one _
        case c3 => unfold maxLen; omega
        case c4 => omega
        case c5 => simp; omega
        intro v' w4 hown' hgrow _
        have hb4 := below_app hnx (Nat.le_refl _) (Nat.le_refl _) hown hgrow
        have hown4 : Owned w4 w.heap.size v' (ps ++ [mkP K D]) := by
          unfold Owned
          rw [pRow_app, List.length_append, hRow.out]
          exact hown'
        clear hown' hgrow hown hnx
        go_wp2
        go_roundw
        case rel => exact ⟨j + 1, ps ++ [mkP K D], by omega, by omega, by go_num, hown4, hb4, hM⟩
        case measure => simp [intOf]; omega
      · obtain rfl : j = n := by omega
        go_wp2
        go_returns
        exact ⟨ps, hmade.out, _, rfl, hown, hnx⟩
    · have hjn := hj
      have hM : Made n ps := ⟨hmade.out.1, hmade.out.2.1, Nat.le_trans hmade.out.2.2 hj⟩
      have hle : ¬ (j : Int) < (l.length : Int) := by omega
      go_wp2
      go_returns
      exact ⟨ps, hM, _, rfl, hown, hnx⟩
end Go.Proofs.YtifhakoeinalaaaDoor
