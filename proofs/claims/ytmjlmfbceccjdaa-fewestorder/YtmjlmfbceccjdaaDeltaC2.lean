/-
  slices.Contains of routes; delta.without.
-/
import Derived.Test.YtmjlmfbceccjdaaG16
namespace Go.Proofs.Ytmjlmfbceccjdaa
open Go.RowKit
set_option linter.unusedVariables false
set_option linter.unusedSimpArgs false
set_option maxHeartbeats 2000000 in
theorem containsV_calls (l : List RT) (v : Value) (q : RT) (hlen : l.length ≤ 100000) (w : World) (row : RowR w v l) :
    Calls Try.prog 64 #[v, .agg #[.bool q.1.1, .int .u64 (aH q.1.2.1), .int .u64 (aL q.1.2.1), .int .i64 q.1.2.2, .int .i64 q.2]] w fun e w' => e = .returned (.bool (decide (q ∈ l))) ∧ Below w.heap.size w w' := by
  have bA := (Below.refl w.heap.size w).alloc (Nat.le_refl _) (.cells #[.bool q.1.1, .int .u64 (aH q.1.2.1), .int .u64 (aL q.1.2.1), .int .i64 q.1.2.2, .int .i64 q.2] 51)
  have C := Lib.hid (indexV_calls l v q hlen _ (row.keep bA))
  obtain ⟨p, c, rfl⟩ := row.form
  obtain ⟨b, hb⟩ : ∃ b, decide (q ∈ l) = b := ⟨_, rfl⟩
  have HB := Lib.hid hb
  rw [hb]
  clear row hb
  generalize l.length = n at C hlen ⊢
  go_enter Try.func64, Try.ntmps64
  go_wp2_with fail
  refine C.out.mono ?_
  rintro e w1 ⟨r, rfl, hr, hb1⟩
  have b1 := thenBelow bA hb1
  cases b with
  | true =>
    have h0 : (0 : Int) ≤ r := hr.2 (of_decide_eq_true HB.out)
    clear C hb1 bA hr
    go_wp2
    go_ret
    exact ⟨rfl, b1⟩
  | false =>
    have h0 : ¬ (0 : Int) ≤ r := fun h => of_decide_eq_false HB.out (hr.1 h)
    have h1 : decide ((0 : Int) ≤ r) = false := decide_eq_false h0
    clear C hb1 bA hr h0
    go_wp2
    go_ret
    exact ⟨rfl, b1⟩
/-- The routes of one list that the other one does not have. -/
def wiL (S T : List RT) : List RT := S.filter fun r => !decide (r ∈ T)
theorem wiL_len (S T : List RT) : (wiL S T).length ≤ S.length := List.length_filter_le _ _
theorem wi_take {S T : List RT} {k : Nat} (hk : k < S.length) : wiL (S.take (k + 1)) T = wiL (S.take k) T ++ if decide (S[k] ∈ T) then [] else [S[k]] := by
  rw [wiL, List.take_succ_eq_append_getElem hk, List.filter_append]
  congr 1
  by_cases h : S[k] ∈ T <;> simp [h]
set_option maxHeartbeats 4000000 in
set_option maxRecDepth 100000 in
theorem without_calls (S T : List RT) (v t : Value) (hlen : S.length ≤ 1000) (hlT : T.length ≤ 1000) (w : World) (row : RowR w v S) (rowT : RowR w t T) :
    Calls Try.prog 36 #[v, t] w fun e w' => ∃ u, e = .returned u ∧ OwnR w' w.heap.size u (wiL S T) ∧ Below w.heap.size w w' := by
  obtain ⟨p, c, rfl, hcap, at_⟩ := row.at
  obtain ⟨n, hn⟩ : ∃ n, S.length = n := ⟨_, rfl⟩
  have HN := Lib.hid hn
  have AT := Lib.hid at_
  have CV := Lib.hid (fun (W : World) (q : RT) (r : RowR W t T) => containsV_calls T t q (by omega) W r)
  have RT_ := Lib.hid rowT
  obtain ⟨tp, tc, rfl⟩ := rowT.form
  rw [hn] at hlen ⊢
  obtain ⟨i0, hii, hz0, hz1, hz2⟩ := info_parts info_route
  have IN := Lib.hid (And.intro hii (And.intro hz0 (And.intro hz1 hz2)))
  clear row rowT at_ hn hii hz0 hz1 hz2
  obtain ⟨B, hB⟩ : ∃ B, w.heap.size = B := ⟨_, rfl⟩
  have HB := Lib.hid hB
  rw [hB]
  go_enter Try.func36, Try.ntmps36
  go_wp2
  go_loopw [5, 10] (fun u i wr => ∃ k : Nat, k ≤ n ∧ i = .int .i64 k ∧ Hid (OwnR wr B u (wiL (S.take k) T)) ∧ Below B w wr ∧ B ≤ wr.heap.size) (fun _ i _ => n - (intOf i).toNat)
  case atStart => exact ⟨0, by omega, rfl, Lib.hid (World.ownsRow_nil _ _ _ _), Below.refl _ _, by omega⟩
  case round =>
    clear hB
    obtain ⟨k, hk, rfl, OD, hnk, hBs⟩ := hrel
    by_cases hlt : k < n
    · have hkl : k < S.length := by rw [HN.out]; exact hlt
      obtain ⟨g, o, rfl, hg, hrec⟩ := AT.out k hkl
      rw [HB.out] at hg
      obtain ⟨x0, x1, x2, x3, x4⟩ := routeCells (hrec.keep hnk hg)
      have HT := Lib.hid (wi_take (T := T) hkl)
      have hcll : (wiL (S.take k) T).length ≤ 1000 := by have := wiL_len (S.take k) T; rw [List.length_take] at this; omega
      generalize S[k] = r at x0 x1 x2 x3 x4 HT
      obtain ⟨cl, hcl⟩ : ∃ cl, wiL (S.take k) T = cl := ⟨_, rfl⟩
      rw [hcl] at OD HT hcll
      have hlt' : (k : Int) < (n : Int) := by omega
      have bR := (Below.refl wr.heap.size wr).alloc (Nat.le_refl _) (.cells #[.bool r.1.1, .int .u64 (aH r.1.2.1), .int .u64 (aL r.1.2.1), .int .i64 r.1.2.2, .int .i64 r.2] 51)
      have hnR := hnk.alloc hBs (.cells #[.bool r.1.1, .int .u64 (aH r.1.2.1), .int .u64 (aL r.1.2.1), .int .i64 r.1.2.2, .int .i64 r.2] 51)
      have ODR := Lib.hid (OD.out.alloc (.cells #[.bool r.1.1, .int .u64 (aH r.1.2.1), .int .u64 (aL r.1.2.1), .int .i64 r.1.2.2, .int .i64 r.2] 51))
      have CF := Lib.hid (CV.out _ r ((RT_.out.keep (by rw [HB.out]; exact hnk)).keep bR))
      obtain ⟨q, hq⟩ : ∃ q, decide (r ∈ T) = q := ⟨_, rfl⟩
      rw [hq] at CF HT
      clear hcl hrec OD hnk hq
      have y0 : (wr.alloc (.cells #[.bool r.1.1, .int .u64 (aH r.1.2.1), .int .u64 (aL r.1.2.1), .int .i64 r.1.2.2, .int .i64 r.2] 51)).cell? ⟨wr.heap.size, 0, none⟩ = some (.bool r.1.1) := by simp
      have y1 : (wr.alloc (.cells #[.bool r.1.1, .int .u64 (aH r.1.2.1), .int .u64 (aL r.1.2.1), .int .i64 r.1.2.2, .int .i64 r.2] 51)).cell? ⟨wr.heap.size, 1, none⟩ = some (.int .u64 (aH r.1.2.1)) := by simp
      have y2 : (wr.alloc (.cells #[.bool r.1.1, .int .u64 (aH r.1.2.1), .int .u64 (aL r.1.2.1), .int .i64 r.1.2.2, .int .i64 r.2] 51)).cell? ⟨wr.heap.size, 2, none⟩ = some (.int .u64 (aL r.1.2.1)) := by simp
      have y3 : (wr.alloc (.cells #[.bool r.1.1, .int .u64 (aH r.1.2.1), .int .u64 (aL r.1.2.1), .int .i64 r.1.2.2, .int .i64 r.2] 51)).cell? ⟨wr.heap.size, 3, none⟩ = some (.int .i64 r.1.2.2) := by simp
      have y4 : (wr.alloc (.cells #[.bool r.1.1, .int .u64 (aH r.1.2.1), .int .u64 (aL r.1.2.1), .int .i64 r.1.2.2, .int .i64 r.2] 51)).cell? ⟨wr.heap.size, 4, none⟩ = some (.int .i64 r.2) := by simp
      have hb0 : wr.heap.size < (wr.alloc (.cells #[.bool r.1.1, .int .u64 (aH r.1.2.1), .int .u64 (aL r.1.2.1), .int .i64 r.1.2.2, .int .i64 r.2] 51)).heap.size := by simp
      have hsR : B ≤ (wr.alloc (.cells #[.bool r.1.1, .int .u64 (aH r.1.2.1), .int .u64 (aL r.1.2.1), .int .i64 r.1.2.2, .int .i64 r.2] 51)).heap.size := by simp; omega
      go_wp2_with fail
      refine CF.out.mono ?_
      rintro e w1 ⟨rfl, hb1⟩
      have z0 := (hb1.cell (p := ⟨wr.heap.size, 0, none⟩) hb0).trans y0
      have z1 := (hb1.cell (p := ⟨wr.heap.size, 1, none⟩) hb0).trans y1
      have z2 := (hb1.cell (p := ⟨wr.heap.size, 2, none⟩) hb0).trans y2
      have z3 := (hb1.cell (p := ⟨wr.heap.size, 3, none⟩) hb0).trans y3
      have z4 := (hb1.cell (p := ⟨wr.heap.size, 4, none⟩) hb0).trans y4
      have hs1 : B ≤ w1.heap.size := Nat.le_trans hsR hb1.size
      have hn1 : Below B w w1 := hnR.trans (hb1.mono hsR)
      have OD1 := Lib.hid (ownsKeep ODR.out hb1)
      clear CF x0 x1 x2 x3 x4 y0 y1 y2 y3 y4 hb0 hsR hb1 hnR ODR bR
      cases q with
      | true =>
        have HT2 : Hid (wiL (S.take (k + 1)) T = cl) := Lib.hid (by rw [HT.out]; simp)
        clear HT z0 z1 z2 z3 z4
        go_wp2_with fail
        go_roundw
        case rel => exact ⟨k + 1, by omega, by go_num, Lib.hid (by rw [HT2.out]; exact OD1.out), hn1, hs1⟩
        case measure => simp [intOf]; omega
      | false =>
        have HT2 : Hid (wiL (S.take (k + 1)) T = cl ++ [r]) := Lib.hid (by rw [HT.out]; simp)
        have OD3 := Lib.hid (OD1.out.alloc (.cells #[.bool r.1.1, .int .u64 (aH r.1.2.1), .int .u64 (aL r.1.2.1), .int .i64 r.1.2.2, .int .i64 r.2] 51))
        have hCN := Lib.hid (cell_new w1 (rcs r) 51)
        have hnA := hn1.alloc hs1 (.cells #[.bool r.1.1, .int .u64 (aH r.1.2.1), .int .u64 (aL r.1.2.1), .int .i64 r.1.2.2, .int .i64 r.2] 51)
        clear HT OD1 hn1
        obtain ⟨hii, hz0, hz1, hz2⟩ := IN.out
        go_wp2_with (at_builtin; refine wpList_append_one rfl _ _ 23 rfl B 51 i0 _ 40 Try.underlying23 hii hz0 hz1 hz2 rfl (by decide) rcs_len rcs_one cl ⟨_, rfl, OD3.out⟩ r w1.heap.size 1 rfl hCN.out (by omega) (by decide) (by simp; omega) ?_; intro v2 w2 ho2 hg2 hb2)
        have hn4 := hnA.trans hb2
        have hs4 : B ≤ w2.heap.size := Nat.le_trans (by simp; omega) hb2.size
        have OD4 := Lib.hid ho2
        clear ho2 hg2 hb2 hnA OD3 hCN
        go_roundw
        case rel => exact ⟨k + 1, by omega, by go_num, Lib.hid (by rw [HT2.out]; exact OD4.out), hn4, hs4⟩
        case measure => simp [intOf]; omega
    · obtain rfl : k = n := by omega
      have e1 : S.take k = S := by rw [← HN.out]; exact List.take_length
      rw [e1] at OD
      go_wp2
      go_ret
      exact ⟨_, by simp, OD.out, hnk⟩
end Go.Proofs.Ytmjlmfbceccjdaa
