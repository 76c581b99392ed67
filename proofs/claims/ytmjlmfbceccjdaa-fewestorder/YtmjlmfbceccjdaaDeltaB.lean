/-
  delta.cuts.
-/
import Derived.Test.YtmjlmfbceccjdaaG15
import Derived.Test.YtmjlmfbceccjdaaG21
namespace Go.Proofs.Ytmjlmfbceccjdaa
open Go.RowKit
set_option linter.unusedVariables false
set_option linter.unusedSimpArgs false
def cutAct (p : PK) : ActT := ⟨2, p, 0, false, 0⟩
/-- Has the list a route of this prefix? -/
def anyP (T : List RT) (r : RT) : Bool := T.any fun s => decide (s.1 = r.1)
def cutsL (S T : List RT) : List ActT := (S.filter fun r => !anyP T r).map fun r => cutAct r.1
theorem cutsL_len (S T : List RT) : (cutsL S T).length ≤ S.length := by unfold cutsL; rw [List.length_map]; exact List.length_filter_le _ _
theorem cuts_take {S T : List RT} {k : Nat} (hk : k < S.length) : cutsL (S.take (k + 1)) T = cutsL (S.take k) T ++ if anyP T S[k] then [] else [cutAct S[k].1] := by
  rw [cutsL, List.take_succ_eq_append_getElem hk, List.filter_append, List.map_append]
  congr 1
  cases h : anyP T S[k] <;> simp [h]
set_option maxHeartbeats 2000000 in
set_option maxRecDepth 100000 in
theorem cutF_calls (s r : RT) (b : Nat) (w : World) (b0 : w.cell? ⟨b, 0, none⟩ = some (.bool r.1.1)) (b1 : w.cell? ⟨b, 1, none⟩ = some (.int .u64 (aH r.1.2.1))) (b2 : w.cell? ⟨b, 2, none⟩ = some (.int .u64 (aL r.1.2.1))) (b3 : w.cell? ⟨b, 3, none⟩ = some (.int .i64 r.1.2.2)) (hb : b < w.heap.size) :
    Calls Try.prog 63 #[.agg #[.bool s.1.1, .int .u64 (aH s.1.2.1), .int .u64 (aL s.1.2.1), .int .i64 s.1.2.2, .int .i64 s.2], .pointer (some ⟨b, 0, none⟩)] w fun e w' => e = .returned (.bool (decide (s.1 = r.1))) ∧ Below w.heap.size w w' := by
  obtain ⟨rb, hrb⟩ : ∃ rb, decide (s.1 = r.1) = rb := ⟨_, rfl⟩
  rw [hrb]
  have hne : ¬ w.heap.size = b := by omega
  have hne2 : ¬ b = w.heap.size := by omega
  rcases pk_cases s.1 r.1 with e | e | ⟨e1, e⟩ | ⟨e1, e2, e⟩ | ⟨e1, e2, e3, e⟩
  · have H := Lib.hid (show true = rb by rw [← hrb, decide_eq_true e])
    rw [← e] at b0 b1 b2 b3
    clear e hrb
    go_enter Try.func63, Try.ntmps63
    go_wp2
    go_ret
    exact ⟨by rw [← H.out]; simp, by go_grown⟩
  all_goals
    have H := Lib.hid (show false = rb by
      rw [← hrb]
      refine (decide_eq_false fun h => ?_).symm
      rw [h] at e; simp at e)
    clear hrb
    try rw [← e1] at b0
    try rw [← e2] at b1
    try rw [← e3] at b2
    go_enter Try.func63, Try.ntmps63
    go_wp2
    go_ret
    exact ⟨by rw [← H.out]; simp, by go_grown⟩
set_option maxHeartbeats 4000000 in
set_option maxRecDepth 100000 in
theorem cuts_calls (S T : List RT) (v t : Value) (hlen : S.length ≤ 1000) (hlT : T.length ≤ 1000) (w : World) (row : RowR w v S) (rowT : RowR w t T) :
    Calls Try.prog 34 #[v, t] w fun e w' => ∃ u, e = .returned u ∧ OwnA w' w.heap.size u (cutsL S T) ∧ Below w.heap.size w w' := by
  obtain ⟨p, c, rfl, hcap, at_⟩ := row.at
  obtain ⟨n, hn⟩ : ∃ n, S.length = n := ⟨_, rfl⟩
  have HN := Lib.hid hn
  have AT := Lib.hid at_
  have RT_ := Lib.hid rowT
  obtain ⟨tp, tc, rfl⟩ := rowT.form
  rw [hn] at hlen ⊢
  obtain ⟨i0, hii, hz0, hz1, hz2⟩ := info_parts info_act
  have IN := Lib.hid (And.intro hii (And.intro hz0 (And.intro hz1 hz2)))
  clear row rowT at_ hn hii hz0 hz1 hz2
  obtain ⟨B, hB⟩ : ∃ B, w.heap.size = B := ⟨_, rfl⟩
  have HB := Lib.hid hB
  rw [hB]
  go_enter Try.func34, Try.ntmps34
  go_wp2
  go_loopw [5, 10] (fun u i wr => ∃ k : Nat, k ≤ n ∧ i = .int .i64 k ∧ Hid (OwnA wr B u (cutsL (S.take k) T)) ∧ Below B w wr ∧ B ≤ wr.heap.size) (fun _ i _ => n - (intOf i).toNat)
  case atStart => exact ⟨0, by omega, rfl, Lib.hid (World.ownsRow_nil _ _ _ _), Below.refl _ _, by omega⟩
  case round =>
    clear hB
    obtain ⟨k, hk, rfl, OD, hnk, hBs⟩ := hrel
    by_cases hlt : k < n
    · have hkl : k < S.length := by rw [HN.out]; exact hlt
      obtain ⟨g, o, rfl, hg, hrec⟩ := AT.out k hkl
      rw [HB.out] at hg
      obtain ⟨x0, x1, x2, x3, x4⟩ := routeCells (hrec.keep hnk hg)
      have HT := Lib.hid (cuts_take (T := T) hkl)
      have hcll : (cutsL (S.take k) T).length ≤ 1000 := by have := cutsL_len (S.take k) T; rw [List.length_take] at this; omega
      generalize S[k] = r at x0 x1 x2 x3 x4 HT
      obtain ⟨cl, hcl⟩ : ∃ cl, cutsL (S.take k) T = cl := ⟨_, rfl⟩
      rw [hcl] at OD HT hcll
      have hlt' : (k : Int) < (n : Int) := by omega
      have bR := (Below.refl wr.heap.size wr).alloc (Nat.le_refl _) (.cells #[.bool r.1.1, .int .u64 (aH r.1.2.1), .int .u64 (aL r.1.2.1), .int .i64 r.1.2.2, .int .i64 r.2] 51)
      have hnR := hnk.alloc hBs (.cells #[.bool r.1.1, .int .u64 (aH r.1.2.1), .int .u64 (aL r.1.2.1), .int .i64 r.1.2.2, .int .i64 r.2] 51)
      have ODR := Lib.hid (OD.out.alloc (.cells #[.bool r.1.1, .int .u64 (aH r.1.2.1), .int .u64 (aL r.1.2.1), .int .i64 r.1.2.2, .int .i64 r.2] 51))
      have RTR := Lib.hid ((RT_.out.keep (by rw [HB.out]; exact hnk)).keep bR)
      have KF : Hid (∀ c ∈ T, ∀ W, Below (wr.alloc (.cells #[.bool r.1.1, .int .u64 (aH r.1.2.1), .int .u64 (aL r.1.2.1), .int .i64 r.1.2.2, .int .i64 r.2] 51)).heap.size (wr.alloc (.cells #[.bool r.1.1, .int .u64 (aH r.1.2.1), .int .u64 (aL r.1.2.1), .int .i64 r.1.2.2, .int .i64 r.2] 51)) W → Calls Try.prog 63 (#[.agg #[.bool c.1.1, .int .u64 (aH c.1.2.1), .int .u64 (aL c.1.2.1), .int .i64 c.1.2.2, .int .i64 c.2]] ++ #[.pointer (some ⟨wr.heap.size, 0, none⟩)]) W fun e w' => e = .returned (.bool (decide (c.1 = r.1))) ∧ Below W.heap.size W w') := Lib.hid fun c _ W hW => by
        have h0 : wr.heap.size < (wr.alloc (.cells #[.bool r.1.1, .int .u64 (aH r.1.2.1), .int .u64 (aL r.1.2.1), .int .i64 r.1.2.2, .int .i64 r.2] 51)).heap.size := by simp
        exact cutF_calls c r wr.heap.size W ((hW.cell (p := ⟨wr.heap.size, 0, none⟩) h0).trans (by simp)) ((hW.cell (p := ⟨wr.heap.size, 1, none⟩) h0).trans (by simp)) ((hW.cell (p := ⟨wr.heap.size, 2, none⟩) h0).trans (by simp)) ((hW.cell (p := ⟨wr.heap.size, 3, none⟩) h0).trans (by simp)) (Nat.lt_of_lt_of_le h0 hW.size)
      have CF := Lib.hid (containsR_calls T (.slice tp T.length tc) 63 #[.pointer (some ⟨wr.heap.size, 0, none⟩)] (fun s => decide (s.1 = r.1)) (by omega) _ RTR.out (enters_of Try.func63 (by kernel_rfl) rfl) KF)
      obtain ⟨q, hq⟩ : ∃ q, anyP T r = q := ⟨_, rfl⟩
      have HQ := Lib.hid hq
      have CF2 : Hid (Calls Try.prog 58 #[.slice tp T.length tc, .func (.func 63) #[] #[.pointer (some ⟨wr.heap.size, 0, none⟩)]] (wr.alloc (.cells #[.bool r.1.1, .int .u64 (aH r.1.2.1), .int .u64 (aL r.1.2.1), .int .i64 r.1.2.2, .int .i64 r.2] 51)) fun e w' => e = .returned (.bool q) ∧ Below (wr.alloc (.cells #[.bool r.1.1, .int .u64 (aH r.1.2.1), .int .u64 (aL r.1.2.1), .int .i64 r.1.2.2, .int .i64 r.2] 51)).heap.size (wr.alloc (.cells #[.bool r.1.1, .int .u64 (aH r.1.2.1), .int .u64 (aL r.1.2.1), .int .i64 r.1.2.2, .int .i64 r.2] 51)) w') := Lib.hid (by
        have := CF.out; rw [show (T.any fun s => decide (s.1 = r.1)) = q from hq] at this; exact this)
      rw [HQ.out] at HT
      have P1 := PreAt.new wr r.1.1 (aH r.1.2.1) (aL r.1.2.1) r.1.2.2 51
      clear hcl hrec OD hnk CF KF RTR hq P1
      have y0 : (wr.alloc (.cells #[.bool r.1.1, .int .u64 (aH r.1.2.1), .int .u64 (aL r.1.2.1), .int .i64 r.1.2.2, .int .i64 r.2] 51)).cell? ⟨wr.heap.size, 0, none⟩ = some (.bool r.1.1) := by simp
      have y1 : (wr.alloc (.cells #[.bool r.1.1, .int .u64 (aH r.1.2.1), .int .u64 (aL r.1.2.1), .int .i64 r.1.2.2, .int .i64 r.2] 51)).cell? ⟨wr.heap.size, 1, none⟩ = some (.int .u64 (aH r.1.2.1)) := by simp
      have y2 : (wr.alloc (.cells #[.bool r.1.1, .int .u64 (aH r.1.2.1), .int .u64 (aL r.1.2.1), .int .i64 r.1.2.2, .int .i64 r.2] 51)).cell? ⟨wr.heap.size, 2, none⟩ = some (.int .u64 (aL r.1.2.1)) := by simp
      have y3 : (wr.alloc (.cells #[.bool r.1.1, .int .u64 (aH r.1.2.1), .int .u64 (aL r.1.2.1), .int .i64 r.1.2.2, .int .i64 r.2] 51)).cell? ⟨wr.heap.size, 3, none⟩ = some (.int .i64 r.1.2.2) := by simp
      have hb0 : wr.heap.size < (wr.alloc (.cells #[.bool r.1.1, .int .u64 (aH r.1.2.1), .int .u64 (aL r.1.2.1), .int .i64 r.1.2.2, .int .i64 r.2] 51)).heap.size := by simp
      have hsR : B ≤ (wr.alloc (.cells #[.bool r.1.1, .int .u64 (aH r.1.2.1), .int .u64 (aL r.1.2.1), .int .i64 r.1.2.2, .int .i64 r.2] 51)).heap.size := by simp; omega
      go_wp2_with fail
      refine CF2.out.mono ?_
      rintro e w1 ⟨rfl, hb1⟩
      have z0 := (hb1.cell (p := ⟨wr.heap.size, 0, none⟩) hb0).trans y0
      have z1 := (hb1.cell (p := ⟨wr.heap.size, 1, none⟩) hb0).trans y1
      have z2 := (hb1.cell (p := ⟨wr.heap.size, 2, none⟩) hb0).trans y2
      have z3 := (hb1.cell (p := ⟨wr.heap.size, 3, none⟩) hb0).trans y3
      have hs1 : B ≤ w1.heap.size := Nat.le_trans hsR hb1.size
      have hn1 : Below B w w1 := hnR.trans (hb1.mono hsR)
      have OD1 := Lib.hid (ownsKeep ODR.out hb1)
      clear CF2 x0 x1 x2 x3 x4 y0 y1 y2 y3 hb0 hsR hb1 hnR ODR bR
      cases q with
      | true =>
        have HT2 : Hid (cutsL (S.take (k + 1)) T = cl) := Lib.hid (by rw [HT.out]; simp)
        clear HT z0 z1 z2 z3
        go_wp2_with fail
        go_roundw
        case rel => exact ⟨k + 1, by omega, by go_num, Lib.hid (by rw [HT2.out]; exact OD1.out), hn1, hs1⟩
        case measure => simp [intOf]; omega
      | false =>
        have HT2 : Hid (cutsL (S.take (k + 1)) T = cl ++ [cutAct r.1]) := Lib.hid (by rw [HT.out]; simp)
        have OD3 := Lib.hid (OD1.out.alloc (.cells #[.int .i64 2, .bool r.1.1, .int .u64 (aH r.1.2.1), .int .u64 (aL r.1.2.1), .int .i64 r.1.2.2, .int .i64 0, .bool false, .int .u64 0, .int .u64 0] 34))
        have hCN : Hid (∀ j u, (acs (cutAct r.1))[j]? = some u → (w1.alloc (.cells #[.int .i64 2, .bool r.1.1, .int .u64 (aH r.1.2.1), .int .u64 (aL r.1.2.1), .int .i64 r.1.2.2, .int .i64 0, .bool false, .int .u64 0, .int .u64 0] 34)).cell? ⟨w1.heap.size, j, none⟩ = some u) := Lib.hid (by
          have := cell_new w1 (acs (cutAct r.1)) 34
          simp only [acs, cutAct, aH_zero, aL_zero] at this ⊢
          exact this)
        have hnA := hn1.alloc hs1 (.cells #[.int .i64 2, .bool r.1.1, .int .u64 (aH r.1.2.1), .int .u64 (aL r.1.2.1), .int .i64 r.1.2.2, .int .i64 0, .bool false, .int .u64 0, .int .u64 0] 34)
        clear HT OD1 hn1
        obtain ⟨hii, hz0, hz1, hz2⟩ := IN.out
        go_wp2_with (at_builtin; refine wpList_append_one rfl _ _ 26 rfl B 34 i0 _ 72 Try.underlying26 hii hz0 hz1 hz2 rfl (by decide) acs_len acs_one cl ⟨_, rfl, OD3.out⟩ (cutAct r.1) w1.heap.size 1 rfl hCN.out (by omega) (by decide) (by simp; omega) ?_; intro v2 w2 ho2 hg2 hb2)
        have hn4 := hnA.trans hb2
        have hs4 : B ≤ w2.heap.size := Nat.le_trans (by simp; omega) hb2.size
        have OD4 := Lib.hid ho2
        clear ho2 hg2 hb2 hnA OD3 hCN
        go_roundw
        case rel => exact ⟨k + 1, by omega, by go_num, Lib.hid (by rw [HT2.out]; exact OD4.out), hn4, hs4⟩
        case measure => simp [intOf]; omega
    · obtain rfl : k = n := by omega
      have e1 : S.take k = S := by rw [← HN.out]; exact List.take_length
      rw [e1] at OD
      go_wp2
      go_ret
      exact ⟨_, by simp, OD.out, hnk⟩
end Go.Proofs.Ytmjlmfbceccjdaa
