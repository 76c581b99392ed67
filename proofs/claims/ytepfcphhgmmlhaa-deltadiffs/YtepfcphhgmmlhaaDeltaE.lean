/-
  The document's hop of a prefix in a list: its closure in DeltaDiff.
-/
import Derived.Test.YtepfcphhgmmlhaaDeltaD
import Derived.Test.YtepfcphhgmmlhaaG10
namespace Go.Proofs.Ytepfcphhgmmlhaa
open Go.RowKit
set_option linter.unusedVariables false
set_option linter.unusedSimpArgs false
/-- The first hop of a prefix, 0 if none. -/
def hopZ : List RT → PK → Int
  | [], _ => 0
  | r :: t, p => if r.1 = p then r.2 else hopZ t p
theorem hopZ_none : ∀ {T : List RT} {p : PK}, (∀ c ∈ T, c.1 ≠ p) → hopZ T p = 0
  | [], _, _ => rfl
  | r :: t, p, h => by
    rw [hopZ, if_neg (h r (by simp))]
    exact hopZ_none fun c hc => h c (by simp [hc])
theorem hopZ_at : ∀ {T : List RT} {p : PK} {k : Nat} (hk : k < T.length), (∀ c ∈ T.take k, c.1 ≠ p) → T[k].1 = p → hopZ T p = T[k].2
  | r :: t, p, 0, _, _, e => by rw [hopZ, if_pos (by simpa using e)]; rfl
  | r :: t, p, k + 1, hk, h, e => by
    rw [hopZ, if_neg (h r (by simp))]
    simpa using hopZ_at (T := t) (k := k) (by simpa using hk) (fun c hc => h c (by simp [hc])) (by simpa using e)
theorem hopZ_or (T : List RT) (p : PK) : (hopZ T p = 0 ∧ ∀ c ∈ T, c.1 ≠ p) ∨ ∃ c ∈ T, c.1 = p ∧ hopZ T p = c.2 := by
  induction T with
  | nil => exact .inl ⟨rfl, fun c h => by cases h⟩
  | cons r t ih =>
    rw [hopZ]
    by_cases h : r.1 = p
    · rw [if_pos h]; exact .inr ⟨r, by simp, h, rfl⟩
    · rw [if_neg h]
      rcases ih with ⟨a, b⟩ | ⟨c, hc, a, b⟩
      · refine .inl ⟨a, fun c hc => ?_⟩
        rcases List.mem_cons.1 hc with rfl | hc
        · exact h
        · exact b c hc
      · exact .inr ⟨c, by simp [hc], a, b⟩
theorem hop_cut {T : List RT} (I : InvR T) (r : RT) : anyP T r = !decide (hopZ T r.1 = 0) := by
  rcases hopZ_or T r.1 with ⟨a, b⟩ | ⟨c, hc, a, b⟩
  · rw [a, show anyP T r = false from by rw [anyP, List.any_eq_false]; intro s hs; simpa using b s hs]; rfl
  · have := (rtE_0 (I.fine c hc)).2.1
    rw [show anyP T r = true from List.any_eq_true.2 ⟨c, hc, decide_eq_true a⟩, decide_eq_false (by omega)]; rfl
theorem hop_put {S : List RT} (I : InvR S) {r : RT} (h1 : 1 ≤ r.2) : decide (r ∈ S) = decide (hopZ S r.1 = r.2) := by
  refine decide_eq_decide.2 ⟨fun hr => ?_, fun e => ?_⟩
  · rcases hopZ_or S r.1 with ⟨a, b⟩ | ⟨c, hc, a, b⟩
    · exact absurd rfl (b r hr)
    · rw [b, I.sorted.key hc hr a]
  · rcases hopZ_or S r.1 with ⟨a, b⟩ | ⟨c, hc, a, b⟩
    · omega
    · rw [show r = c from Prod.ext a.symm (by rw [← e, b])]; exact hc
set_option maxHeartbeats 4000000 in
set_option maxRecDepth 100000 in
theorem hopF_calls (T : List RT) (v : Value) (q : PK) (hlen : T.length ≤ 1000) (w : World) (row : RowR w v T) :
    Calls Try.prog 38 #[v, .agg #[.bool q.1, .int .u64 (aH q.2.1), .int .u64 (aL q.2.1), .int .i64 q.2.2]] w fun e w' => e = .returned (.int .i64 (hopZ T q)) ∧ Below w.heap.size w w' := by
  obtain ⟨p, c, rfl, hcap, at_⟩ := row.at
  obtain ⟨n, hn⟩ : ∃ n, T.length = n := ⟨_, rfl⟩
  have HN := Lib.hid hn
  have AT := Lib.hid at_
  rw [hn] at hlen ⊢
  clear row at_ hn
  obtain ⟨z, hz⟩ : ∃ z, hopZ T q = z := ⟨_, rfl⟩
  have HZ := Lib.hid hz
  rw [hz]
  have P1 := PreAt.new w q.1 (aH q.2.1) (aL q.2.1) q.2.2 51
  have bA := (Below.refl w.heap.size w).alloc (Nat.le_refl _) (.cells #[.bool q.1, .int .u64 (aH q.2.1), .int .u64 (aL q.2.1), .int .i64 q.2.2] 51)
  clear hz
  go_enter Try.func38, Try.ntmps38
  go_wp2
  revert P1 bA
  generalize w.alloc (.cells #[.bool q.1, .int .u64 (aH q.2.1), .int .u64 (aL q.2.1), .int .i64 q.2.2] 51) = Y
  intro P1 bA
  have HP := Lib.hid P1
  have HBA := Lib.hid bA
  go_loopw [9] (fun i wr => ∃ k : Nat, k ≤ n ∧ i = .int .i64 k ∧ Below Y.heap.size Y wr ∧ Hid (∀ c ∈ T.take k, c.1 ≠ q)) (fun i _ => n - (intOf i).toNat)
  case atStart => exact ⟨0, by omega, rfl, Below.refl _ _, Lib.hid (fun c h => by simp at h)⟩
  case round =>
    clear P1 bA
    obtain ⟨k, hk, rfl, hnk, HF⟩ := hrel
    by_cases hlt : k < n
    · have hkl : k < T.length := by rw [HN.out]; exact hlt
      obtain ⟨g, o, rfl, hg, hrec⟩ := AT.out k hkl
      obtain ⟨x0, x1, x2, x3, x4⟩ := routeCells (hrec.keep (thenBelow HBA.out hnk) hg)
      have HA := Lib.hid (show T[k].1 = q → T[k].2 = z from fun h => by rw [← HZ.out]; exact (hopZ_at hkl HF.out h).symm)
      have HT := Lib.hid (show T[k].1 ≠ q → ∀ c ∈ T.take (k + 1), c.1 ≠ q from fun h c hc => by
        rw [List.take_succ_eq_append_getElem hkl, List.mem_append, List.mem_singleton] at hc
        rcases hc with hc | rfl
        · exact HF.out c hc
        · exact h)
      have hlt' : (k : Int) < (n : Int) := by omega
      generalize T[k] = r at x0 x1 x2 x3 x4 HA HT
      have PK_ := (HP.out.keep hnk).alloc (.cells #[.bool r.1.1, .int .u64 (aH r.1.2.1), .int .u64 (aL r.1.2.1), .int .i64 r.1.2.2, .int .i64 r.2] 53)
      obtain ⟨p0, p1, p2, p3, pl⟩ := PK_
      have hn2 := hnk.alloc hnk.size (.cells #[.bool r.1.1, .int .u64 (aH r.1.2.1), .int .u64 (aL r.1.2.1), .int .i64 r.1.2.2, .int .i64 r.2] 53)
      have hn3 := Lib.hid (HBA.out.trans (hn2.mono HBA.out.size))
      clear hrec hnk
      rcases pk_cases r.1 q with e | e | ⟨e1, e⟩ | ⟨e1, e2, e⟩ | ⟨e1, e2, e3, e⟩
      · have HE := Lib.hid (HA.out e)
        have HEE := Lib.hid e
        rw [e] at x0 x1 x2 x3 p0 p1 p2 p3
        clear HA HT e
        go_wp2
        go_ret
        exact ⟨by rw [← HE.out]; simp, by have := hn3.out; rw [HEE.out] at this; exact this⟩
      all_goals
        have HT2 := Lib.hid (HT.out (fun h => by rw [h] at e; simp at e))
        clear HA HT
        try rw [e1] at x0 p0 p1 p2 p3 hn2
        try rw [e2] at x1 p0 p1 p2 p3 hn2
        try rw [e3] at x2 p0 p1 p2 p3 hn2
        go_wp2_with fail
        go_roundw
        case rel => exact ⟨k + 1, by omega, by go_num, hn2, HT2⟩
        case measure => simp [intOf]; omega
    · obtain rfl : k = n := by omega
      have e1 : T.take k = T := by rw [← HN.out]; exact List.take_length
      rw [e1] at HF
      have HE := Lib.hid (show 0 = z by rw [← HZ.out, hopZ_none HF.out])
      go_wp2
      go_ret
      exact ⟨by rw [← HE.out]; simp, HBA.out.trans (hnk.mono HBA.out.size)⟩
end Go.Proofs.Ytepfcphhgmmlhaa
