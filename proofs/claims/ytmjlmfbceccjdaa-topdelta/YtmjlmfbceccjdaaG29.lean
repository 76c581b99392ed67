/-
  Laid together: DeltaB, DeltaC, DeltaC2, DeltaD.
-/
import Derived.Test.YtmjlmfbceccjdaaG15
import Derived.Test.YtmjlmfbceccjdaaG21
import Derived.Deep.QuietTactic
import Derived.Test.YtmjlmfbceccjdaaG16
/-
  delta.cuts.
-/
namespace Go.Proofs.Ytmjlmfbceccjdaa
open Go.RowKit
set_option linter.unusedVariables false
set_option linter.unusedSimpArgs false
def cutAct (p : PK) : ActT := ⟨2, p, 0, false, 0⟩
/-- Has the list a route of this prefix? -/
def anyP (T : List RT) (r : RT) : Bool := T.any fun s => decide (s.1 = r.1)
def cutsL (S T : List RT) : List ActT := (S.filter fun r => !anyP T r).map fun r => cutAct r.1
theorem cutsL_len (S T : List RT) : (cutsL S T).length ≤ S.length := by unfold cutsL; rw [List.length_map]; exact List.length_filter_le _ _
theorem cuts_take {S T : List RT} {k : Nat} (hk : k < S.length) : cutsL (S.take (k + 1)) T = cutsL (S.take k) T ++ if anyP T S[k] then [] else [cutAct S[k].1] := by
  rw [cutsL, List.take_succ_eq_append_getElem hk, List.filter_append, List.map_append]
  congr 1
  cases h : anyP T S[k] <;> simp [h]
set_option maxHeartbeats 2000000 in
set_option maxRecDepth 100000 in
theorem cutF_calls (s r : RT) (b : Nat) (w : World) (b0 : w.cell? ⟨b, 0, none⟩ = some (.bool r.1.1)) (b1 : w.cell? ⟨b, 1, none⟩ = some (.int .u64 (aH r.1.2.1))) (b2 : w.cell? ⟨b, 2, none⟩ = some (.int .u64 (aL r.1.2.1))) (b3 : w.cell? ⟨b, 3, none⟩ = some (.int .i64 r.1.2.2)) (hb : b < w.heap.size) :
    Calls Try.prog 63 #[.agg #[.bool s.1.1, .int .u64 (aH s.1.2.1), .int .u64 (aL s.1.2.1), .int .i64 s.1.2.2, .int .i64 s.2], .pointer (some ⟨b, 0, none⟩)] w fun e w' => e = .returned (.bool (decide (s.1 = r.1))) ∧ Below w.heap.size w w' := by
  obtain ⟨rb, hrb⟩ : ∃ rb, decide (s.1 = r.1) = rb := ⟨_, rfl⟩
  rw [hrb]
  have hne : ¬ w.heap.size = b := by omega
  have hne2 : ¬ b = w.heap.size := by omega
  rcases pk_cases s.1 r.1 with e | e | ⟨e1, e⟩ | ⟨e1, e2, e⟩ | ⟨e1, e2, e3, e⟩
  · have H := Lib.hid (show true = rb by rw [← hrb, decide_eq_true e])
    rw [← e] at b0 b1 b2 b3
    clear e hrb
    go_enter Try.func63, Try.ntmps63
    go_wp2
    go_ret
    exact ⟨by rw [← H.out]; simp, by go_grown⟩
  all_goals
    have H := Lib.hid (show false = rb by
      rw [← hrb]
      refine (decide_eq_false fun h => ?_).symm
      rw [h] at e; simp at e)
    clear hrb
    try rw [← e1] at b0
    try rw [← e2] at b1
    try rw [← e3] at b2
    go_enter Try.func63, Try.ntmps63
    go_wp2
    go_ret
    exact ⟨by rw [← H.out]; simp, by go_grown⟩
set_option maxHeartbeats 4000000 in
set_option maxRecDepth 100000 in
theorem cuts_calls (S T : List RT) (v t : Value) (hlen : S.length ≤ 1000) (hlT : T.length ≤ 1000) (w : World) (row : RowR w v S) (rowT : RowR w t T) :
    Calls Try.prog 34 #[v, t] w fun e w' => ∃ u, e = .returned u ∧ OwnA w' w.heap.size u (cutsL S T) ∧ Below w.heap.size w w' := by
  obtain ⟨p, c, rfl, hcap, at_⟩ := row.at
  obtain ⟨n, hn⟩ : ∃ n, S.length = n := ⟨_, rfl⟩
  have HN := Lib.hid hn
  have AT := Lib.hid at_
  have RT_ := Lib.hid rowT
  obtain ⟨tp, tc, rfl⟩ := rowT.form
  rw [hn] at hlen ⊢
  obtain ⟨i0, hii, hz0, hz1, hz2⟩ := info_parts info_act
  have IN := Lib.hid (And.intro hii (And.intro hz0 (And.intro hz1 hz2)))
  clear row rowT at_ hn hii hz0 hz1 hz2
  obtain ⟨B, hB⟩ : ∃ B, w.heap.size = B := ⟨_, rfl⟩
  have HB := Lib.hid hB
  rw [hB]
  go_enter Try.func34, Try.ntmps34
  go_wp2
  go_loopw [5, 10] (fun u i wr => ∃ k : Nat, k ≤ n ∧ i = .int .i64 k ∧ Hid (OwnA wr B u (cutsL (S.take k) T)) ∧ Below B w wr ∧ B ≤ wr.heap.size) (fun _ i _ => n - (intOf i).toNat)
  case atStart => exact ⟨0, by omega, rfl, Lib.hid (World.ownsRow_nil _ _ _ _), Below.refl _ _, by omega⟩
  case round =>
    clear hB
    obtain ⟨k, hk, rfl, OD, hnk, hBs⟩ := hrel
    by_cases hlt : k < n
    · have hkl : k < S.length := by rw [HN.out]; exact hlt
      obtain ⟨g, o, rfl, hg, hrec⟩ := AT.out k hkl
      rw [HB.out] at hg
      obtain ⟨x0, x1, x2, x3, x4⟩ := routeCells (hrec.keep hnk hg)
      have HT := Lib.hid (cuts_take (T := T) hkl)
      have hcll : (cutsL (S.take k) T).length ≤ 1000 := by have := cutsL_len (S.take k) T; rw [List.length_take] at this; omega
      generalize S[k] = r at x0 x1 x2 x3 x4 HT
      obtain ⟨cl, hcl⟩ : ∃ cl, cutsL (S.take k) T = cl := ⟨_, rfl⟩
      rw [hcl] at OD HT hcll
      have hlt' : (k : Int) < (n : Int) := by omega
      have bR := (Below.refl wr.heap.size wr).alloc (Nat.le_refl _) (.cells #[.bool r.1.1, .int .u64 (aH r.1.2.1), .int .u64 (aL r.1.2.1), .int .i64 r.1.2.2, .int .i64 r.2] 51)
      have hnR := hnk.alloc hBs (.cells #[.bool r.1.1, .int .u64 (aH r.1.2.1), .int .u64 (aL r.1.2.1), .int .i64 r.1.2.2, .int .i64 r.2] 51)
      have ODR := Lib.hid (OD.out.alloc (.cells #[.bool r.1.1, .int .u64 (aH r.1.2.1), .int .u64 (aL r.1.2.1), .int .i64 r.1.2.2, .int .i64 r.2] 51))
      have RTR := Lib.hid ((RT_.out.keep (by rw [HB.out]; exact hnk)).keep bR)
      have KF : Hid (∀ c ∈ T, ∀ W, Below (wr.alloc (.cells #[.bool r.1.1, .int .u64 (aH r.1.2.1), .int .u64 (aL r.1.2.1), .int .i64 r.1.2.2, .int .i64 r.2] 51)).heap.size (wr.alloc (.cells #[.bool r.1.1, .int .u64 (aH r.1.2.1), .int .u64 (aL r.1.2.1), .int .i64 r.1.2.2, .int .i64 r.2] 51)) W → Calls Try.prog 63 (#[.agg #[.bool c.1.1, .int .u64 (aH c.1.2.1), .int .u64 (aL c.1.2.1), .int .i64 c.1.2.2, .int .i64 c.2]] ++ #[.pointer (some ⟨wr.heap.size, 0, none⟩)]) W fun e w' => e = .returned (.bool (decide (c.1 = r.1))) ∧ Below W.heap.size W w') := Lib.hid fun c _ W hW => by
        have h0 : wr.heap.size < (wr.alloc (.cells #[.bool r.1.1, .int .u64 (aH r.1.2.1), .int .u64 (aL r.1.2.1), .int .i64 r.1.2.2, .int .i64 r.2] 51)).heap.size := by simp
        exact cutF_calls c r wr.heap.size W ((hW.cell (p := ⟨wr.heap.size, 0, none⟩) h0).trans (by simp)) ((hW.cell (p := ⟨wr.heap.size, 1, none⟩) h0).trans (by simp)) ((hW.cell (p := ⟨wr.heap.size, 2, none⟩) h0).trans (by simp)) ((hW.cell (p := ⟨wr.heap.size, 3, none⟩) h0).trans (by simp)) (Nat.lt_of_lt_of_le h0 hW.size)
      have CF := Lib.hid (containsR_calls T (.slice tp T.length tc) 63 #[.pointer (some ⟨wr.heap.size, 0, none⟩)] (fun s => decide (s.1 = r.1)) (by omega) _ RTR.out (enters_of Try.func63 (by kernel_rfl) rfl) KF)
      obtain ⟨q, hq⟩ : ∃ q, anyP T r = q := ⟨_, rfl⟩
      have HQ := Lib.hid hq
      have CF2 : Hid (Calls Try.prog 58 #[.slice tp T.length tc, .func (.func 63) #[] #[.pointer (some ⟨wr.heap.size, 0, none⟩)]] (wr.alloc (.cells #[.bool r.1.1, .int .u64 (aH r.1.2.1), .int .u64 (aL r.1.2.1), .int .i64 r.1.2.2, .int .i64 r.2] 51)) fun e w' => e = .returned (.bool q) ∧ Below (wr.alloc (.cells #[.bool r.1.1, .int .u64 (aH r.1.2.1), .int .u64 (aL r.1.2.1), .int .i64 r.1.2.2, .int .i64 r.2] 51)).heap.size (wr.alloc (.cells #[.bool r.1.1, .int .u64 (aH r.1.2.1), .int .u64 (aL r.1.2.1), .int .i64 r.1.2.2, .int .i64 r.2] 51)) w') := Lib.hid (by
        have := CF.out; rw [show (T.any fun s => decide (s.1 = r.1)) = q from hq] at this; exact this)
      rw [HQ.out] at HT
      have P1 := PreAt.new wr r.1.1 (aH r.1.2.1) (aL r.1.2.1) r.1.2.2 51
      clear hcl hrec OD hnk CF KF RTR hq P1
      have y0 : (wr.alloc (.cells #[.bool r.1.1, .int .u64 (aH r.1.2.1), .int .u64 (aL r.1.2.1), .int .i64 r.1.2.2, .int .i64 r.2] 51)).cell? ⟨wr.heap.size, 0, none⟩ = some (.bool r.1.1) := by simp
      have y1 : (wr.alloc (.cells #[.bool r.1.1, .int .u64 (aH r.1.2.1), .int .u64 (aL r.1.2.1), .int .i64 r.1.2.2, .int .i64 r.2] 51)).cell? ⟨wr.heap.size, 1, none⟩ = some (.int .u64 (aH r.1.2.1)) := by simp
      have y2 : (wr.alloc (.cells #[.bool r.1.1, .int .u64 (aH r.1.2.1), .int .u64 (aL r.1.2.1), .int .i64 r.1.2.2, .int .i64 r.2] 51)).cell? ⟨wr.heap.size, 2, none⟩ = some (.int .u64 (aL r.1.2.1)) := by simp
      have y3 : (wr.alloc (.cells #[.bool r.1.1, .int .u64 (aH r.1.2.1), .int .u64 (aL r.1.2.1), .int .i64 r.1.2.2, .int .i64 r.2] 51)).cell? ⟨wr.heap.size, 3, none⟩ = some (.int .i64 r.1.2.2) := by simp
      have hb0 : wr.heap.size < (wr.alloc (.cells #[.bool r.1.1, .int .u64 (aH r.1.2.1), .int .u64 (aL r.1.2.1), .int .i64 r.1.2.2, .int .i64 r.2] 51)).heap.size := by simp
      have hsR : B ≤ (wr.alloc (.cells #[.bool r.1.1, .int .u64 (aH r.1.2.1), .int .u64 (aL r.1.2.1), .int .i64 r.1.2.2, .int .i64 r.2] 51)).heap.size := by simp; omega
      go_wp2_with fail
      refine CF2.out.mono ?_
      rintro e w1 ⟨rfl, hb1⟩
      have z0 := (hb1.cell (p := ⟨wr.heap.size, 0, none⟩) hb0).trans y0
      have z1 := (hb1.cell (p := ⟨wr.heap.size, 1, none⟩) hb0).trans y1
      have z2 := (hb1.cell (p := ⟨wr.heap.size, 2, none⟩) hb0).trans y2
      have z3 := (hb1.cell (p := ⟨wr.heap.size, 3, none⟩) hb0).trans y3
      have hs1 : B ≤ w1.heap.size := Nat.le_trans hsR hb1.size
      have hn1 : Below B w w1 := hnR.trans (hb1.mono hsR)
      have OD1 := Lib.hid (ownsKeep ODR.out hb1)
      clear CF2 x0 x1 x2 x3 x4 y0 y1 y2 y3 hb0 hsR hb1 hnR ODR bR
      cases q with
      | true =>
        have HT2 : Hid (cutsL (S.take (k + 1)) T = cl) := Lib.hid (by rw [HT.out]; simp)
        clear HT z0 z1 z2 z3
        go_wp2_with fail
        go_roundw
        case rel => exact ⟨k + 1, by omega, by go_num, Lib.hid (by rw [HT2.out]; exact OD1.out), hn1, hs1⟩
        case measure => simp [intOf]; omega
      | false =>
        have HT2 : Hid (cutsL (S.take (k + 1)) T = cl ++ [cutAct r.1]) := Lib.hid (by rw [HT.out]; simp)
        have OD3 := Lib.hid (OD1.out.alloc (.cells #[.int .i64 2, .bool r.1.1, .int .u64 (aH r.1.2.1), .int .u64 (aL r.1.2.1), .int .i64 r.1.2.2, .int .i64 0, .bool false, .int .u64 0, .int .u64 0] 34))
        have hCN : Hid (∀ j u, (acs (cutAct r.1))[j]? = some u → (w1.alloc (.cells #[.int .i64 2, .bool r.1.1, .int .u64 (aH r.1.2.1), .int .u64 (aL r.1.2.1), .int .i64 r.1.2.2, .int .i64 0, .bool false, .int .u64 0, .int .u64 0] 34)).cell? ⟨w1.heap.size, j, none⟩ = some u) := Lib.hid (by
          have := cell_new w1 (acs (cutAct r.1)) 34
          simp only [acs, cutAct, aH_zero, aL_zero] at this ⊢
          exact this)
        have hnA := hn1.alloc hs1 (.cells #[.int .i64 2, .bool r.1.1, .int .u64 (aH r.1.2.1), .int .u64 (aL r.1.2.1), .int .i64 r.1.2.2, .int .i64 0, .bool false, .int .u64 0, .int .u64 0] 34)
        clear HT OD1 hn1
        obtain ⟨hii, hz0, hz1, hz2⟩ := IN.out
        go_wp2_with (at_builtin; refine wpList_append_one rfl _ _ 26 rfl B 34 i0 _ 72 Try.underlying26 hii hz0 hz1 hz2 rfl (by decide) acs_len acs_one cl ⟨_, rfl, OD3.out⟩ (cutAct r.1) w1.heap.size 1 rfl hCN.out (by omega) (by decide) (by simp; omega) ?_; intro v2 w2 ho2 hg2 hb2)
        have hn4 := hnA.trans hb2
        have hs4 : B ≤ w2.heap.size := Nat.le_trans (by simp; omega) hb2.size
        have OD4 := Lib.hid ho2
        clear ho2 hg2 hb2 hnA OD3 hCN
        go_roundw
        case rel => exact ⟨k + 1, by omega, by go_num, Lib.hid (by rw [HT2.out]; exact OD4.out), hn4, hs4⟩
        case measure => simp [intOf]; omega
    · obtain rfl : k = n := by omega
      have e1 : S.take k = S := by rw [← HN.out]; exact List.take_length
      rw [e1] at OD
      go_wp2
      go_ret
      exact ⟨_, by simp, OD.out, hnk⟩
end Go.Proofs.Ytmjlmfbceccjdaa
/-
  slices.Index, slices.Contains of routes; delta.without.
-/
namespace Go.Proofs.Ytmjlmfbceccjdaa
open Go.RowKit
set_option linter.unusedVariables false
set_option linter.unusedSimpArgs false
theorem rt_cases (s r : RT) : s = r ∨ (s.1 ≠ r.1) ∨ (s.1 = r.1 ∧ (s.2 == r.2) = false) := by
  by_cases h : s.1 = r.1
  · by_cases h2 : s.2 = r.2
    · exact .inl (Prod.ext h h2)
    · exact .inr (.inr ⟨h, by simpa using h2⟩)
  · exact .inr (.inl h)
theorem RouteAt (w : World) (r : RT) (o : Nat) : (w.alloc (.cells #[.bool r.1.1, .int .u64 (aH r.1.2.1), .int .u64 (aL r.1.2.1), .int .i64 r.1.2.2, .int .i64 r.2] 51)).cell? ⟨w.heap.size, o, none⟩ = (rcs r)[o]? := by
  match o with
  | 0 => simp [rcs]
  | 1 => simp [rcs]
  | 2 => simp [rcs]
  | 3 => simp [rcs]
  | 4 => simp [rcs]
  | o + 5 => simp [rcs]
set_option maxHeartbeats 4000000 in
set_option maxRecDepth 100000 in
theorem indexV_calls (l : List RT) (v : Value) (q : RT) (hlen : l.length ≤ 100000) (w : World) (row : RowR w v l) :
    Calls Try.prog 85 #[v, .agg #[.bool q.1.1, .int .u64 (aH q.1.2.1), .int .u64 (aL q.1.2.1), .int .i64 q.1.2.2, .int .i64 q.2]] w fun e w' => ∃ r : Int, e = .returned (.int .i64 r) ∧ (0 ≤ r ↔ q ∈ l) ∧ Below w.heap.size w w' := by
  obtain ⟨p, c, rfl, hcap, at_⟩ := row.at
  obtain ⟨n, hn⟩ : ∃ n, l.length = n := ⟨_, rfl⟩
  have HN := Lib.hid hn
  have AT := Lib.hid at_
  rw [hn] at hlen ⊢
  clear row at_ hn
  have bA := (Below.refl w.heap.size w).alloc (Nat.le_refl _) (.cells #[.bool q.1.1, .int .u64 (aH q.1.2.1), .int .u64 (aL q.1.2.1), .int .i64 q.1.2.2, .int .i64 q.2] 51)
  have Q0 := Lib.hid (fun o => RouteAt w q o)
  go_enter Try.func85, Try.ntmps85
  go_wp2
  have hw1 : w.heap.size < (w.alloc (.cells #[.bool q.1.1, .int .u64 (aH q.1.2.1), .int .u64 (aL q.1.2.1), .int .i64 q.1.2.2, .int .i64 q.2] 51)).heap.size := by simp
  revert Q0 bA hw1
  generalize w.alloc (.cells #[.bool q.1.1, .int .u64 (aH q.1.2.1), .int .u64 (aL q.1.2.1), .int .i64 q.1.2.2, .int .i64 q.2] 51) = Y
  intro bA Q0 hw1
  have HBA := Lib.hid bA
  go_loopw [8] (fun i wr => ∃ k z : Nat, k ≤ n ∧ i = .int .i64 k ∧ wr = Y.drewN z ∧ Hid (∀ c ∈ l.take k, c ≠ q)) (fun i _ => n - (intOf i).toNat)
  case atStart => exact ⟨0, 0, by omega, rfl, rfl, Lib.hid (fun c h => by simp at h)⟩
  case round =>
    clear bA
    obtain ⟨k, z, hk, rfl, rfl, HF⟩ := hrel
    by_cases hlt : k < n
    · have hkl : k < l.length := by rw [HN.out]; exact hlt
      obtain ⟨g, o, rfl, hg, hrec⟩ := AT.out k hkl
      obtain ⟨x0, x1, x2, x3, x4⟩ := routeCells (hrec.keep HBA.out hg)
      have q0 := Q0.out 0
      have q1 := Q0.out 1
      have q2 := Q0.out 2
      have q3 := Q0.out 3
      have q4 := Q0.out 4
      simp only [rcs, List.getElem?_cons_zero, List.getElem?_cons_succ] at q0 q1 q2 q3 q4
      have HA := Lib.hid (show l[k] = q → q ∈ l from fun h => by rw [← h]; exact List.getElem_mem hkl)
      have HT := Lib.hid (show l[k] ≠ q → ∀ c ∈ l.take (k + 1), c ≠ q from fun h c hc => by
        rw [List.take_succ_eq_append_getElem hkl, List.mem_append, List.mem_singleton] at hc
        rcases hc with hc | rfl
        · exact HF.out c hc
        · exact h)
      have hlt' : (k : Int) < (n : Int) := by omega
      generalize l[k] = r at x0 x1 x2 x3 x4 HA HT
      clear hrec
      rcases rt_cases q r with e | e | ⟨e, e'⟩
      · have HM := Lib.hid (HA.out e.symm)
        subst e
        clear HA HT
        go_wp2_with fail
        go_quiet ((fail))
        go_wp2
        go_ret
        exact ⟨k, rfl, ⟨fun _ => HM.out, fun _ => by omega⟩, below_drewN (below_drewN HBA.out _) _⟩
      · have HT2 := Lib.hid (HT.out (fun h => e (by rw [h])))
        clear HA HT
        rcases pk_cases q.1 r.1 with f | f | ⟨e1, f⟩ | ⟨e1, e2, f⟩ | ⟨e1, e2, e3, f⟩
        · exact absurd f e
        all_goals
          clear e
          try rw [← e1] at x0
          try rw [← e2] at x1
          try rw [← e3] at x2
          go_wp2_with fail
          go_quiet ((fail))
          go_wp2
          go_roundw
          case rel => exact ⟨k + 1, _, by omega, by go_num, rfl, HT2⟩
          case measure => simp [intOf]; omega
      · have HT2 := Lib.hid (HT.out (fun h => by rw [h] at e'; simp at e'))
        clear HA HT
        rw [← e] at x0 x1 x2 x3
        clear e
        go_wp2_with fail
        go_quiet ((fail))
        go_wp2
        go_roundw
        case rel => exact ⟨k + 1, _, by omega, by go_num, rfl, HT2⟩
        case measure => simp [intOf]; omega
    · obtain rfl : k = n := by omega
      have e1 : l.take k = l := by rw [← HN.out]; exact List.take_length
      rw [e1] at HF
      go_wp2
      go_ret
      exact ⟨-1, rfl, ⟨fun h => by omega, fun h => absurd rfl (HF.out q h)⟩, below_drewN HBA.out _⟩
end Go.Proofs.Ytmjlmfbceccjdaa
/-
  slices.Contains of routes; delta.without.
-/
namespace Go.Proofs.Ytmjlmfbceccjdaa
open Go.RowKit
set_option linter.unusedVariables false
set_option linter.unusedSimpArgs false
set_option maxHeartbeats 2000000 in
theorem containsV_calls (l : List RT) (v : Value) (q : RT) (hlen : l.length ≤ 100000) (w : World) (row : RowR w v l) :
    Calls Try.prog 64 #[v, .agg #[.bool q.1.1, .int .u64 (aH q.1.2.1), .int .u64 (aL q.1.2.1), .int .i64 q.1.2.2, .int .i64 q.2]] w fun e w' => e = .returned (.bool (decide (q ∈ l))) ∧ Below w.heap.size w w' := by
  have bA := (Below.refl w.heap.size w).alloc (Nat.le_refl _) (.cells #[.bool q.1.1, .int .u64 (aH q.1.2.1), .int .u64 (aL q.1.2.1), .int .i64 q.1.2.2, .int .i64 q.2] 51)
  have C := Lib.hid (indexV_calls l v q hlen _ (row.keep bA))
  obtain ⟨p, c, rfl⟩ := row.form
  obtain ⟨b, hb⟩ : ∃ b, decide (q ∈ l) = b := ⟨_, rfl⟩
  have HB := Lib.hid hb
  rw [hb]
  clear row hb
  generalize l.length = n at C hlen ⊢
  go_enter Try.func64, Try.ntmps64
  go_wp2_with fail
  refine C.out.mono ?_
  rintro e w1 ⟨r, rfl, hr, hb1⟩
  have b1 := thenBelow bA hb1
  cases b with
  | true =>
    have h0 : (0 : Int) ≤ r := hr.2 (of_decide_eq_true HB.out)
    clear C hb1 bA hr
    go_wp2
    go_ret
    exact ⟨rfl, b1⟩
  | false =>
    have h0 : ¬ (0 : Int) ≤ r := fun h => of_decide_eq_false HB.out (hr.1 h)
    have h1 : decide ((0 : Int) ≤ r) = false := decide_eq_false h0
    clear C hb1 bA hr h0
    go_wp2
    go_ret
    exact ⟨rfl, b1⟩
/-- The routes of one list that the other one does not have. -/
def wiL (S T : List RT) : List RT := S.filter fun r => !decide (r ∈ T)
theorem wiL_len (S T : List RT) : (wiL S T).length ≤ S.length := List.length_filter_le _ _
theorem wi_take {S T : List RT} {k : Nat} (hk : k < S.length) : wiL (S.take (k + 1)) T = wiL (S.take k) T ++ if decide (S[k] ∈ T) then [] else [S[k]] := by
  rw [wiL, List.take_succ_eq_append_getElem hk, List.filter_append]
  congr 1
  by_cases h : S[k] ∈ T <;> simp [h]
set_option maxHeartbeats 4000000 in
set_option maxRecDepth 100000 in
theorem without_calls (S T : List RT) (v t : Value) (hlen : S.length ≤ 1000) (hlT : T.length ≤ 1000) (w : World) (row : RowR w v S) (rowT : RowR w t T) :
    Calls Try.prog 36 #[v, t] w fun e w' => ∃ u, e = .returned u ∧ OwnR w' w.heap.size u (wiL S T) ∧ Below w.heap.size w w' := by
  obtain ⟨p, c, rfl, hcap, at_⟩ := row.at
  obtain ⟨n, hn⟩ : ∃ n, S.length = n := ⟨_, rfl⟩
  have HN := Lib.hid hn
  have AT := Lib.hid at_
  have CV := Lib.hid (fun (W : World) (q : RT) (r : RowR W t T) => containsV_calls T t q (by omega) W r)
  have RT_ := Lib.hid rowT
  obtain ⟨tp, tc, rfl⟩ := rowT.form
  rw [hn] at hlen ⊢
  obtain ⟨i0, hii, hz0, hz1, hz2⟩ := info_parts info_route
  have IN := Lib.hid (And.intro hii (And.intro hz0 (And.intro hz1 hz2)))
  clear row rowT at_ hn hii hz0 hz1 hz2
  obtain ⟨B, hB⟩ : ∃ B, w.heap.size = B := ⟨_, rfl⟩
  have HB := Lib.hid hB
  rw [hB]
  go_enter Try.func36, Try.ntmps36
  go_wp2
  go_loopw [5, 10] (fun u i wr => ∃ k : Nat, k ≤ n ∧ i = .int .i64 k ∧ Hid (OwnR wr B u (wiL (S.take k) T)) ∧ Below B w wr ∧ B ≤ wr.heap.size) (fun _ i _ => n - (intOf i).toNat)
  case atStart => exact ⟨0, by omega, rfl, Lib.hid (World.ownsRow_nil _ _ _ _), Below.refl _ _, by omega⟩
  case round =>
    clear hB
    obtain ⟨k, hk, rfl, OD, hnk, hBs⟩ := hrel
    by_cases hlt : k < n
    · have hkl : k < S.length := by rw [HN.out]; exact hlt
      obtain ⟨g, o, rfl, hg, hrec⟩ := AT.out k hkl
      rw [HB.out] at hg
      obtain ⟨x0, x1, x2, x3, x4⟩ := routeCells (hrec.keep hnk hg)
      have HT := Lib.hid (wi_take (T := T) hkl)
      have hcll : (wiL (S.take k) T).length ≤ 1000 := by have := wiL_len (S.take k) T; rw [List.length_take] at this; omega
      generalize S[k] = r at x0 x1 x2 x3 x4 HT
      obtain ⟨cl, hcl⟩ : ∃ cl, wiL (S.take k) T = cl := ⟨_, rfl⟩
      rw [hcl] at OD HT hcll
      have hlt' : (k : Int) < (n : Int) := by omega
      have bR := (Below.refl wr.heap.size wr).alloc (Nat.le_refl _) (.cells #[.bool r.1.1, .int .u64 (aH r.1.2.1), .int .u64 (aL r.1.2.1), .int .i64 r.1.2.2, .int .i64 r.2] 51)
      have hnR := hnk.alloc hBs (.cells #[.bool r.1.1, .int .u64 (aH r.1.2.1), .int .u64 (aL r.1.2.1), .int .i64 r.1.2.2, .int .i64 r.2] 51)
      have ODR := Lib.hid (OD.out.alloc (.cells #[.bool r.1.1, .int .u64 (aH r.1.2.1), .int .u64 (aL r.1.2.1), .int .i64 r.1.2.2, .int .i64 r.2] 51))
      have CF := Lib.hid (CV.out _ r ((RT_.out.keep (by rw [HB.out]; exact hnk)).keep bR))
      obtain ⟨q, hq⟩ : ∃ q, decide (r ∈ T) = q := ⟨_, rfl⟩
      rw [hq] at CF HT
      clear hcl hrec OD hnk hq
      have y0 : (wr.alloc (.cells #[.bool r.1.1, .int .u64 (aH r.1.2.1), .int .u64 (aL r.1.2.1), .int .i64 r.1.2.2, .int .i64 r.2] 51)).cell? ⟨wr.heap.size, 0, none⟩ = some (.bool r.1.1) := by simp
      have y1 : (wr.alloc (.cells #[.bool r.1.1, .int .u64 (aH r.1.2.1), .int .u64 (aL r.1.2.1), .int .i64 r.1.2.2, .int .i64 r.2] 51)).cell? ⟨wr.heap.size, 1, none⟩ = some (.int .u64 (aH r.1.2.1)) := by simp
      have y2 : (wr.alloc (.cells #[.bool r.1.1, .int .u64 (aH r.1.2.1), .int .u64 (aL r.1.2.1), .int .i64 r.1.2.2, .int .i64 r.2] 51)).cell? ⟨wr.heap.size, 2, none⟩ = some (.int .u64 (aL r.1.2.1)) := by simp
      have y3 : (wr.alloc (.cells #[.bool r.1.1, .int .u64 (aH r.1.2.1), .int .u64 (aL r.1.2.1), .int .i64 r.1.2.2, .int .i64 r.2] 51)).cell? ⟨wr.heap.size, 3, none⟩ = some (.int .i64 r.1.2.2) := by simp
      have y4 : (wr.alloc (.cells #[.bool r.1.1, .int .u64 (aH r.1.2.1), .int .u64 (aL r.1.2.1), .int .i64 r.1.2.2, .int .i64 r.2] 51)).cell? ⟨wr.heap.size, 4, none⟩ = some (.int .i64 r.2) := by simp
      have hb0 : wr.heap.size < (wr.alloc (.cells #[.bool r.1.1, .int .u64 (aH r.1.2.1), .int .u64 (aL r.1.2.1), .int .i64 r.1.2.2, .int .i64 r.2] 51)).heap.size := by simp
      have hsR : B ≤ (wr.alloc (.cells #[.bool r.1.1, .int .u64 (aH r.1.2.1), .int .u64 (aL r.1.2.1), .int .i64 r.1.2.2, .int .i64 r.2] 51)).heap.size := by simp; omega
      go_wp2_with fail
      refine CF.out.mono ?_
      rintro e w1 ⟨rfl, hb1⟩
      have z0 := (hb1.cell (p := ⟨wr.heap.size, 0, none⟩) hb0).trans y0
      have z1 := (hb1.cell (p := ⟨wr.heap.size, 1, none⟩) hb0).trans y1
      have z2 := (hb1.cell (p := ⟨wr.heap.size, 2, none⟩) hb0).trans y2
      have z3 := (hb1.cell (p := ⟨wr.heap.size, 3, none⟩) hb0).trans y3
      have z4 := (hb1.cell (p := ⟨wr.heap.size, 4, none⟩) hb0).trans y4
      have hs1 : B ≤ w1.heap.size := Nat.le_trans hsR hb1.size
      have hn1 : Below B w w1 := hnR.trans (hb1.mono hsR)
      have OD1 := Lib.hid (ownsKeep ODR.out hb1)
      clear CF x0 x1 x2 x3 x4 y0 y1 y2 y3 y4 hb0 hsR hb1 hnR ODR bR
      cases q with
      | true =>
        have HT2 : Hid (wiL (S.take (k + 1)) T = cl) := Lib.hid (by rw [HT.out]; simp)
        clear HT z0 z1 z2 z3 z4
        go_wp2_with fail
        go_roundw
        case rel => exact ⟨k + 1, by omega, by go_num, Lib.hid (by rw [HT2.out]; exact OD1.out), hn1, hs1⟩
        case measure => simp [intOf]; omega
      | false =>
        have HT2 : Hid (wiL (S.take (k + 1)) T = cl ++ [r]) := Lib.hid (by rw [HT.out]; simp)
        have OD3 := Lib.hid (OD1.out.alloc (.cells #[.bool r.1.1, .int .u64 (aH r.1.2.1), .int .u64 (aL r.1.2.1), .int .i64 r.1.2.2, .int .i64 r.2] 51))
        have hCN := Lib.hid (cell_new w1 (rcs r) 51)
        have hnA := hn1.alloc hs1 (.cells #[.bool r.1.1, .int .u64 (aH r.1.2.1), .int .u64 (aL r.1.2.1), .int .i64 r.1.2.2, .int .i64 r.2] 51)
        clear HT OD1 hn1
        obtain ⟨hii, hz0, hz1, hz2⟩ := IN.out
        go_wp2_with (at_builtin; refine wpList_append_one rfl _ _ 23 rfl B 51 i0 _ 40 Try.underlying23 hii hz0 hz1 hz2 rfl (by decide) rcs_len rcs_one cl ⟨_, rfl, OD3.out⟩ r w1.heap.size 1 rfl hCN.out (by omega) (by decide) (by simp; omega) ?_; intro v2 w2 ho2 hg2 hb2)
        have hn4 := hnA.trans hb2
        have hs4 : B ≤ w2.heap.size := Nat.le_trans (by simp; omega) hb2.size
        have OD4 := Lib.hid ho2
        clear ho2 hg2 hb2 hnA OD3 hCN
        go_roundw
        case rel => exact ⟨k + 1, by omega, by go_num, Lib.hid (by rw [HT2.out]; exact OD4.out), hn4, hs4⟩
        case measure => simp [intOf]; omega
    · obtain rfl : k = n := by omega
      have e1 : S.take k = S := by rw [← HN.out]; exact List.take_length
      rw [e1] at OD
      go_wp2
      go_ret
      exact ⟨_, by simp, OD.out, hnk⟩
end Go.Proofs.Ytmjlmfbceccjdaa
/-
  delta.Diff.
-/
namespace Go.Proofs.Ytmjlmfbceccjdaa
open Go.RowKit
set_option linter.unusedVariables false
set_option linter.unusedSimpArgs false
/-- The acts that make one sorted table of another one. -/
def difL (S T : List RT) : List ActT := cutsL S T ++ putsL (wiL T S)
def dfE (l m : List RT) : Int := if tabE l = 0 then tabE m else tabE l
def dfL (l m : List RT) : List ActT := if dfE l m = 0 then difL (srt l) (srt m) else []
set_option maxHeartbeats 4000000 in
set_option maxRecDepth 100000 in
theorem diff_calls (l m : List RT) (v t : Value) (ll : l.length ≤ 9223372036854775807) (lm : m.length ≤ 9223372036854775807) (wl : WordsR l) (wm : WordsR m) (w : World) (r1 : RowR w v l) (r2 : RowR w t m) :
    Calls Try.prog 14 #[v, t] w fun e w' => ∃ u, e = .returned (.tuple #[u, .int .i64 (dfE l m)]) ∧ OwnA w' w.heap.size u (dfL l m) ∧ Below w.heap.size w w' := by
  have C1 := Lib.hid (sorted_calls l v ll wl w r1)
  have C2 := Lib.hid (fun (W : World) (r : RowR W t m) => sorted_calls m t lm wm W r)
  have R2 := Lib.hid r2
  obtain ⟨i0, hii, hz0, hz1, hz2⟩ := info_parts info_act
  have IN := Lib.hid (And.intro hii (And.intro hz0 (And.intro hz1 hz2)))
  obtain ⟨p1, c1, rfl⟩ := r1.form
  obtain ⟨p2, c2, rfl⟩ := r2.form
  clear r1 r2 hii hz0 hz1 hz2
  by_cases h1 : tabE l = 0
  · by_cases h2 : tabE m = 0
    · have E := Lib.hid (show dfE l m = 0 ∧ dfL l m = difL (srt l) (srt m) by
        have : dfE l m = 0 := by rw [dfE, if_pos h1, h2]
        exact ⟨this, by rw [dfL, if_pos this]⟩)
      have s1 := (srt_inv h1).size
      have s2 := (srt_inv h2).size
      rw [show sorL l = srt l by rw [sorL, if_pos h1], h1] at C1
      rw [show sorL m = srt m by rw [sorL, if_pos h2], h2] at C2
      generalize srt l = S at C1 E s1
      generalize srt m = T at C2 E s2
      have CU := Lib.hid (fun (W : World) (u1 u2 : Value) (r1 : RowR W u1 S) (r2 : RowR W u2 T) => cuts_calls S T u1 u2 (by omega) (by omega) W r1 r2)
      have WI := Lib.hid (fun (W : World) (u1 u2 : Value) (r1 : RowR W u1 T) (r2 : RowR W u2 S) => without_calls T S u1 u2 (by omega) (by omega) W r1 r2)
      have hwl := wiL_len T S
      have hcl := cutsL_len S T
      have PU := Lib.hid (fun (W : World) (u : Value) (r : RowR W u (wiL T S)) => puts_calls (wiL T S) u (by omega) W r)
      rw [E.out.1]
      clear h1 h2
      go_enter Try.func14, Try.ntmps14
      go_wp2_with fail
      refine C1.out.mono ?_
      rintro e w1 ⟨u1, rfl, ho1, hb1⟩
      have R2' := Lib.hid (R2.out.keep hb1)
      have O1 := Lib.hid ho1
      clear C1 R2 ho1
      go_wp2_with fail
      refine (C2.out _ R2'.out).mono ?_
      rintro e w2 ⟨u2, rfl, ho2, hb2⟩
      have b2 := thenBelow hb1 hb2
      have O1' := Lib.hid (ownsKeep O1.out hb2)
      have O2 := Lib.hid (ownsLow ho2 hb1.size)
      clear C2 R2' ho2 hb2 hb1 O1
      go_wp2_with fail
      refine (CU.out _ _ _ (OwnR.row O1'.out) (OwnR.row O2.out)).mono ?_
      rintro e w3 ⟨u3, rfl, ho3, hb3⟩
      have b3 := thenBelow b2 hb3
      have O13 := Lib.hid (ownsKeep O1'.out hb3)
      have O23 := Lib.hid (ownsKeep O2.out hb3)
      have O3 := Lib.hid (ownsLow ho3 b2.size)
      clear CU ho3 hb3 b2 O1' O2
      go_wp2_with fail
      refine (WI.out _ _ _ (OwnR.row O23.out) (OwnR.row O13.out)).mono ?_
      rintro e w4 ⟨u4, rfl, ho4, hb4⟩
      have b4 := thenBelow b3 hb4
      have O34 := Lib.hid (ownsKeep O3.out hb4)
      have R4 := Lib.hid (OwnR.row ho4)
      clear WI ho4 hb4 b3 O13 O23 O3
      go_wp2_with fail
      refine (PU.out _ _ R4.out).mono ?_
      rintro e w5 ⟨u5, rfl, ho5, hb5⟩
      have b5 := thenBelow b4 hb5
      have O35 := Lib.hid (ownsKeep O34.out hb5)
      have R5 := Lib.hid (OwnA.row ho5)
      have hpl := putsL_len (wiL T S)
      clear PU ho5 hb5 b4 O34 R4
      obtain ⟨hii, hz0, hz1, hz2⟩ := IN.out
      obtain ⟨X, hX⟩ : ∃ X, cutsL S T = X := ⟨_, rfl⟩
      obtain ⟨Y, hY⟩ : ∃ Y, putsL (wiL T S) = Y := ⟨_, rfl⟩
      rw [hX] at O35 hcl
      rw [hY] at R5 hpl
      have HXY := Lib.hid (show dfL l m = X ++ Y by rw [E.out.2, difL, hX, hY])
      clear hX hY E
      have hXl : X.length ≤ 60 := by omega
      have hYl : Y.length ≤ 60 := by omega
      have hby : (X.length + Y.length) * 72 ≤ 140737488355328 := by omega
      have h63 : X.length + Y.length ≤ maxLen := by unfold maxLen; omega
      have hbs := b5.size
      go_wp2_with (at_builtin; refine wpList_append_any rfl _ _ 26 rfl w.heap.size 34 i0 _ 72 Try.underlying26 hii hz0 hz1 hz2 rfl (by decide) acs_len acs_one _ X.length (rowOf acs X) rfl O35.out _ Y rfl R5.out hby h63 hbs ?_; intro v6 w6 ho6 hb6)
      have b6 := b5.trans hb6
      have O6 : Hid (OwnA w6 w.heap.size v6 (X ++ Y)) := Lib.hid (by unfold OwnA; rw [List.length_append, rowOf_app]; exact ho6)
      clear ho6 hb6
      go_wp2
      go_ret2
      exact ⟨v6, by simp, by rw [HXY.out]; exact O6.out, b6⟩
    · have E := Lib.hid (show dfE l m = tabE m ∧ dfL l m = [] by
        have : dfE l m = tabE m := by rw [dfE, if_pos h1]
        exact ⟨this, by rw [dfL, this, if_neg h2]⟩)
      rw [E.out.1]
      rw [h1] at C1
      generalize tabE m = t at C2 h2 ⊢
      have hz1 : (t == 0) = false := by simpa using h2
      have hz2 : (t != 0) = true := by simp [bne, hz1]
      clear h1
      go_enter Try.func14, Try.ntmps14
      go_wp2_with fail
      refine C1.out.mono ?_
      rintro e w1 ⟨u1, rfl, ho1, hb1⟩
      have R2' := Lib.hid (R2.out.keep hb1)
      clear C1 R2 ho1
      go_wp2_with fail
      refine (C2.out _ R2'.out).mono ?_
      rintro e w2 ⟨u2, rfl, ho2, hb2⟩
      have b2 := thenBelow hb1 hb2
      clear C2 R2' ho2 hb2 hb1
      go_wp2
      go_ret2
      exact ⟨.slice none 0 0, by simp, by rw [E.out.2]; exact World.ownsRow_nil _ _ _ _, b2⟩
  · have E := Lib.hid (show dfE l m = tabE l ∧ dfL l m = [] by
      have : dfE l m = tabE l := by rw [dfE, if_neg h1]
      exact ⟨this, by rw [dfL, this, if_neg h1]⟩)
    rw [E.out.1]
    generalize tabE l = t at C1 h1 ⊢
    have hz1 : (t == 0) = false := by simpa using h1
    have hz2 : (t != 0) = true := by simp [bne, hz1]
    go_enter Try.func14, Try.ntmps14
    go_wp2_with fail
    refine C1.out.mono ?_
    rintro e w1 ⟨u1, rfl, ho1, hb1⟩
    clear C1 C2
    go_wp2
    go_ret2
    exact ⟨.slice none 0 0, by simp, by rw [E.out.2]; exact World.ownsRow_nil _ _ _ _, hb1⟩
end Go.Proofs.Ytmjlmfbceccjdaa
