/-
  Laid together: DeltaA, AnyR, DeltaB, DeltaC, DeltaC2.
-/
import Derived.Test.YtepfcphhgmmlhaaG7
import Derived.Test.YtepfcphhgmmlhaaG5
import Derived.Test.YtepfcphhgmmlhaaTabH
import Derived.Test.YtepfcphhgmmlhaaG2
import Derived.Deep.QuietTactic
/-
  delta.puts, delta.sorted.
-/
namespace Go.Proofs.Ytepfcphhgmmlhaa
open Go.RowKit
set_option linter.unusedVariables false
set_option linter.unusedSimpArgs false
theorem aH_zero : aH 0 = 0 := by simp [aH]
theorem aL_zero : aL 0 = 0 := by simp [aL]
theorem puts_take {l : List RT} {k : Nat} (hk : k < l.length) : putsL (l.take (k + 1)) = putsL (l.take k) ++ [putAct l[k]] := by
  rw [putsL, List.take_succ_eq_append_getElem hk, List.map_append]; rfl
set_option maxHeartbeats 4000000 in
set_option maxRecDepth 100000 in
theorem puts_calls (l : List RT) (v : Value) (hlen : l.length ≤ 1000) (w : World) (row : RowR w v l) :
    Calls Try.prog 35 #[v] w fun e w' => ∃ u, e = .returned u ∧ OwnA w' w.heap.size u (putsL l) ∧ Below w.heap.size w w' := by
  obtain ⟨p, c, rfl, hcap, at_⟩ := row.at
  obtain ⟨n, hn⟩ : ∃ n, l.length = n := ⟨_, rfl⟩
  have HN := Lib.hid hn
  have AT := Lib.hid at_
  rw [hn] at hlen ⊢
  obtain ⟨i0, hii, hz0, hz1, hz2⟩ := info_parts info_act
  have IN := Lib.hid (And.intro hii (And.intro hz0 (And.intro hz1 hz2)))
  clear row at_ hn hii hz0 hz1 hz2
  obtain ⟨B, hB⟩ : ∃ B, w.heap.size = B := ⟨_, rfl⟩
  have HB := Lib.hid hB
  rw [hB]
  go_enter Try.func35, Try.ntmps35
  go_wp2
  go_loopw [3, 8] (fun u i wr => ∃ k : Nat, k ≤ n ∧ i = .int .i64 k ∧ Hid (OwnA wr B u (putsL (l.take k))) ∧ Below B w wr ∧ B ≤ wr.heap.size) (fun _ i _ => n - (intOf i).toNat)
  case atStart => exact ⟨0, by omega, rfl, Lib.hid (World.ownsRow_nil _ _ _ _), Below.refl _ _, by omega⟩
  case round =>
    clear hB
    obtain ⟨k, hk, rfl, OD, hnk, hBs⟩ := hrel
    by_cases hlt : k < n
    · have hkl : k < l.length := by rw [HN.out]; exact hlt
      obtain ⟨g, o, rfl, hg, hrec⟩ := AT.out k hkl
      rw [HB.out] at hg
      obtain ⟨x0, x1, x2, x3, x4⟩ := routeCells (hrec.keep hnk hg)
      have HT := Lib.hid (puts_take hkl)
      have hcll : (putsL (l.take k)).length ≤ 1000 := by rw [putsL_len, List.length_take]; omega
      generalize l[k] = r at x0 x1 x2 x3 x4 HT
      obtain ⟨cl, hcl⟩ : ∃ cl, putsL (l.take k) = cl := ⟨_, rfl⟩
      rw [hcl] at OD HT hcll
      have hlt' : (k : Int) < (n : Int) := by omega
      have OD3 := Lib.hid ((OD.out.alloc (.cells #[.bool r.1.1, .int .u64 (aH r.1.2.1), .int .u64 (aL r.1.2.1), .int .i64 r.1.2.2, .int .i64 r.2] 53)).alloc (.cells #[.int .i64 1, .bool r.1.1, .int .u64 (aH r.1.2.1), .int .u64 (aL r.1.2.1), .int .i64 r.1.2.2, .int .i64 r.2, .bool false, .int .u64 0, .int .u64 0] 55))
      have hCN : Hid (∀ j u, (acs (putAct r))[j]? = some u → ((wr.alloc (.cells #[.bool r.1.1, .int .u64 (aH r.1.2.1), .int .u64 (aL r.1.2.1), .int .i64 r.1.2.2, .int .i64 r.2] 53)).alloc (.cells #[.int .i64 1, .bool r.1.1, .int .u64 (aH r.1.2.1), .int .u64 (aL r.1.2.1), .int .i64 r.1.2.2, .int .i64 r.2, .bool false, .int .u64 0, .int .u64 0] 55)).cell? ⟨wr.heap.size + 1, j, none⟩ = some u) := Lib.hid (by
        have := cell_new (wr.alloc (.cells #[.bool r.1.1, .int .u64 (aH r.1.2.1), .int .u64 (aL r.1.2.1), .int .i64 r.1.2.2, .int .i64 r.2] 53)) (acs (putAct r)) 55
        rw [World.size_alloc] at this
        simp only [acs, putAct, aH_zero, aL_zero] at this ⊢
        exact this)
      have hnA := (hnk.alloc hBs (.cells #[.bool r.1.1, .int .u64 (aH r.1.2.1), .int .u64 (aL r.1.2.1), .int .i64 r.1.2.2, .int .i64 r.2] 53)).alloc (by simp; omega) (.cells #[.int .i64 1, .bool r.1.1, .int .u64 (aH r.1.2.1), .int .u64 (aL r.1.2.1), .int .i64 r.1.2.2, .int .i64 r.2, .bool false, .int .u64 0, .int .u64 0] 55)
      clear hcl hrec OD hnk
      obtain ⟨hii, hz0, hz1, hz2⟩ := IN.out
      go_wp2_with (at_builtin; refine wpList_append_one rfl _ _ 22 rfl B 55 i0 _ 72 Try.underlying22 hii hz0 hz1 hz2 rfl (by decide) acs_len acs_one cl ⟨_, rfl, OD3.out⟩ (putAct r) (wr.heap.size + 1) 1 rfl hCN.out (by omega) (by decide) (by simp; omega) ?_; intro v2 w2 ho2 hg2 hb2)
      have hn4 := hnA.trans hb2
      have hs4 : B ≤ w2.heap.size := Nat.le_trans (by simp; omega) hb2.size
      have OD4 := Lib.hid ho2
      clear ho2 hg2 hb2 hnA OD3 hCN
      go_roundw
      case rel => exact ⟨k + 1, by omega, by go_num, Lib.hid (by rw [HT.out]; exact OD4.out), hn4, hs4⟩
      case measure => simp [intOf]; omega
    · obtain rfl : k = n := by omega
      have e1 : l.take k = l := by rw [← HN.out]; exact List.take_length
      rw [e1] at OD
      go_wp2
      go_ret
      exact ⟨_, by simp, OD.out, hnk⟩
theorem putsL_words {l : List RT} (h : WordsR l) : WordsA (putsL l) := fun a ha => by
  obtain ⟨r, hr, rfl⟩ := List.mem_map.1 ha
  exact ⟨h r hr, Nat.two_pow_pos 128⟩
/-- What sorted gives. -/
def sorL (l : List RT) : List RT := if tabE l = 0 then srt l else []
set_option maxHeartbeats 4000000 in
theorem sorted_calls (l : List RT) (v : Value) (hlen : l.length ≤ 9223372036854775807) (hw : WordsR l) (w : World) (row : RowR w v l) :
    Calls Try.prog 33 #[v] w fun e w' => ∃ u, e = .returned (.tuple #[u, .int .i64 (tabE l)]) ∧ OwnR w' w.heap.size u (sorL l) ∧ Below w.heap.size w w' := by
  have C1 := Lib.hid (tableCheck_calls l v hlen hw w row)
  have R0 := Lib.hid row
  obtain ⟨p, c, rfl⟩ := row.form
  clear row
  by_cases h0 : tabE l = 0
  · have hl := (tabE_val h0).2.2
    obtain ⟨_, e2, e3⟩ := puts_run h0
    have C2 := Lib.hid (fun (W : World) (r : RowR W (.slice p l.length c) l) => puts_calls l _ (by omega) W r)
    have C3 := Lib.hid (fun (W : World) (u : Value) (r : RowA W u (putsL l)) => routes_calls (putsL l) u (by rw [putsL_len]; exact hlen) (putsL_words hw) W r)
    rw [e2, e3] at C3
    have E := Lib.hid (show sorL l = srt l by rw [sorL, if_pos h0])
    rw [h0] at C1 ⊢
    clear h0 e2 e3 hl
    go_enter Try.func33, Try.ntmps33
    go_wp2_with fail
    refine C1.out.mono ?_
    rintro e w1 ⟨rfl, hb1⟩
    have R1 := Lib.hid (R0.out.keep hb1)
    clear C1 R0
    go_wp2_with fail
    refine (C2.out _ R1.out).mono ?_
    rintro e w2 ⟨u, rfl, ho, hb2⟩
    have b2 := thenBelow hb1 hb2
    have R2 := Lib.hid (OwnA.row ho)
    clear C2 R1 ho hb2
    go_wp2_with fail
    refine (C3.out _ _ R2.out).mono ?_
    rintro e w3 ⟨u2, rfl, ho3, hb3⟩
    have O3 := Lib.hid (ownsLow ho3 b2.size)
    have b3 := thenBelow b2 hb3
    clear C3 R2 ho3 hb3
    go_wp2
    go_ret2
    exact ⟨u2, by simp, by rw [E.out]; exact O3.out, b3⟩
  · have E := Lib.hid (show sorL l = [] by rw [sorL, if_neg h0])
    generalize tabE l = t at C1 h0 ⊢
    have hz1 : (t == 0) = false := by simpa using h0
    have hz2 : (t != 0) = true := by simp [bne, hz1]
    go_enter Try.func33, Try.ntmps33
    go_wp2_with fail
    refine C1.out.mono ?_
    rintro e w1 ⟨rfl, hb1⟩
    go_wp2
    go_ret2
    exact ⟨.slice none 0 0, by simp, by rw [E.out]; exact World.ownsRow_nil _ _ _ _, hb1⟩
end Go.Proofs.Ytepfcphhgmmlhaa
/-
  slices.IndexFunc, slices.ContainsFunc over []api.Route: what the function says of each element decides.
-/
namespace Go.Proofs.Ytepfcphhgmmlhaa
open Go.RowKit
set_option linter.unusedVariables false
set_option linter.unusedSimpArgs false
set_option maxHeartbeats 2000000 in
theorem indexR_calls (l : List (RT)) (v : Value) (F : Nat) (fb : Array Value) (P : RT → Bool) (hlen : l.length ≤ 100000) (w : World) (row : RowR w v l) (eg : ∀ args W, (callFunc F args).run Try.prog W = .ok (.enter F args) W)
    (KF : Hid (∀ c ∈ l, ∀ W, Below w.heap.size w W → Calls Try.prog F (#[.agg #[.bool c.1.1, .int .u64 (aH c.1.2.1), .int .u64 (aL c.1.2.1), .int .i64 c.1.2.2, .int .i64 c.2]] ++ fb) W fun e w' => e = .returned (.bool (P c)) ∧ Below W.heap.size W w')) :
    Calls Try.prog 77 #[v, .func (.func F) #[] fb] w fun e w' => ∃ r : Int, e = .returned (.int .i64 r) ∧ (0 ≤ r ↔ l.any P = true) ∧ Below w.heap.size w w' := by
  obtain ⟨p, c, rfl, hcap, at_⟩ := row.at
  obtain ⟨n, hn⟩ : ∃ n, l.length = n := ⟨_, rfl⟩
  have HN := Lib.hid hn
  have AT := Lib.hid at_
  rw [hn] at hlen ⊢
  clear row at_ hn
  go_enter Try.func77, Try.ntmps77
  go_wp2
  go_loopw [8] (fun i wr => ∃ k : Nat, k ≤ n ∧ i = .int .i64 k ∧ Below w.heap.size w wr ∧ Hid (∀ c ∈ l.take k, P c = false)) (fun i _ => n - (intOf i).toNat)
  case atStart => exact ⟨0, by omega, rfl, Below.refl _ _, Lib.hid (fun c h => by simp at h)⟩
  case round =>
    obtain ⟨k, hk, rfl, hnk, HF⟩ := hrel
    by_cases hlt : k < n
    · have hkl : k < l.length := by rw [HN.out]; exact hlt
      obtain ⟨g, o, rfl, hg, hrec⟩ := AT.out k hkl
      obtain ⟨x0, x1, x2, x3, x4⟩ := routeCells (hrec.keep hnk hg)
      have C := KF.out l[k] (List.getElem_mem hkl) wr hnk
      have HA := Lib.hid (show P l[k] = true → l.any P = true from fun h => List.any_eq_true.2 ⟨_, List.getElem_mem hkl, h⟩)
      have HT := Lib.hid (show P l[k] = false → ∀ c ∈ l.take (k + 1), P c = false from fun h c hc => by
        rw [List.take_succ_eq_append_getElem hkl, List.mem_append, List.mem_singleton] at hc
        rcases hc with hc | rfl
        · exact HF.out c hc
        · exact h)
      have hlt' : (k : Int) < (n : Int) := by omega
      generalize l[k] = r at x0 x1 x2 x3 x4 C HA HT
      cases hP : P r with
      | true =>
        rw [hP] at C
        go_wp2_with (go_at_fn F; refine C.mono ?_; rintro e w1 ⟨rfl, hb1⟩)
        go_ret
        exact ⟨k, rfl, ⟨fun _ => HA.out hP, fun _ => by omega⟩, thenBelow hnk hb1⟩
      | false =>
        rw [hP] at C
        go_wp2_with (go_at_fn F; refine C.mono ?_; rintro e w1 ⟨rfl, hb1⟩)
        have hn1 := thenBelow hnk hb1
        go_roundw
        case rel => exact ⟨k + 1, by omega, by go_num, hn1, Lib.hid (HT.out hP)⟩
        case measure => simp [intOf]; omega
    · obtain rfl : k = n := by omega
      have e1 : l.take k = l := by rw [← HN.out]; exact List.take_length
      have HZ : Hid (l.any P = false) := Lib.hid (by rw [List.any_eq_false]; intro c hc; rw [e1] at HF; simp [HF.out c hc])
      go_wp2
      go_ret
      exact ⟨-1, rfl, ⟨fun h => by omega, fun h => by rw [HZ.out] at h; cases h⟩, hnk⟩
set_option maxHeartbeats 2000000 in
theorem containsR_calls (l : List (RT)) (v : Value) (F : Nat) (fb : Array Value) (P : RT → Bool) (hlen : l.length ≤ 100000) (w : World) (row : RowR w v l) (eg : ∀ args W, (callFunc F args).run Try.prog W = .ok (.enter F args) W)
    (KF : Hid (∀ c ∈ l, ∀ W, Below w.heap.size w W → Calls Try.prog F (#[.agg #[.bool c.1.1, .int .u64 (aH c.1.2.1), .int .u64 (aL c.1.2.1), .int .i64 c.1.2.2, .int .i64 c.2]] ++ fb) W fun e w' => e = .returned (.bool (P c)) ∧ Below W.heap.size W w')) :
    Calls Try.prog 57 #[v, .func (.func F) #[] fb] w fun e w' => e = .returned (.bool (l.any P)) ∧ Below w.heap.size w w' := by
  have C := Lib.hid (indexR_calls l v F fb P hlen w row eg KF)
  obtain ⟨p, c, rfl⟩ := row.form
  obtain ⟨b, hb⟩ : ∃ b, l.any P = b := ⟨_, rfl⟩
  rw [hb] at C ⊢
  clear row KF hb
  generalize l.length = n at C hlen ⊢
  go_enter Try.func57, Try.ntmps57
  go_wp2_with fail
  refine C.out.mono ?_
  rintro e w1 ⟨r, rfl, hr, hb1⟩
  cases b with
  | true =>
    have h0 : (0 : Int) ≤ r := hr.2 rfl
    go_wp2
    go_ret
    exact ⟨rfl, hb1⟩
  | false =>
    have h0 : ¬ (0 : Int) ≤ r := fun h => by have := hr.1 h; cases this
    go_wp2
    go_ret
    exact ⟨rfl, hb1⟩
end Go.Proofs.Ytepfcphhgmmlhaa
/-
  delta.cuts.
-/
namespace Go.Proofs.Ytepfcphhgmmlhaa
open Go.RowKit
set_option linter.unusedVariables false
set_option linter.unusedSimpArgs false
def cutAct (p : PK) : ActT := ⟨2, p, 0, false, 0⟩
/-- Has the list a route of this prefix? -/
def anyP (T : List RT) (r : RT) : Bool := T.any fun s => decide (s.1 = r.1)
def cutsL (S T : List RT) : List ActT := (S.filter fun r => !anyP T r).map fun r => cutAct r.1
theorem cutsL_len (S T : List RT) : (cutsL S T).length ≤ S.length := by unfold cutsL; rw [List.length_map]; exact List.length_filter_le _ _
theorem cuts_take {S T : List RT} {k : Nat} (hk : k < S.length) : cutsL (S.take (k + 1)) T = cutsL (S.take k) T ++ if anyP T S[k] then [] else [cutAct S[k].1] := by
  rw [cutsL, List.take_succ_eq_append_getElem hk, List.filter_append, List.map_append]
  congr 1
  cases h : anyP T S[k] <;> simp [h]
set_option maxHeartbeats 2000000 in
set_option maxRecDepth 100000 in
theorem cutF_calls (s r : RT) (b : Nat) (w : World) (b0 : w.cell? ⟨b, 0, none⟩ = some (.bool r.1.1)) (b1 : w.cell? ⟨b, 1, none⟩ = some (.int .u64 (aH r.1.2.1))) (b2 : w.cell? ⟨b, 2, none⟩ = some (.int .u64 (aL r.1.2.1))) (b3 : w.cell? ⟨b, 3, none⟩ = some (.int .i64 r.1.2.2)) (hb : b < w.heap.size) :
    Calls Try.prog 58 #[.agg #[.bool s.1.1, .int .u64 (aH s.1.2.1), .int .u64 (aL s.1.2.1), .int .i64 s.1.2.2, .int .i64 s.2], .pointer (some ⟨b, 0, none⟩)] w fun e w' => e = .returned (.bool (decide (s.1 = r.1))) ∧ Below w.heap.size w w' := by
  obtain ⟨rb, hrb⟩ : ∃ rb, decide (s.1 = r.1) = rb := ⟨_, rfl⟩
  rw [hrb]
  have hne : ¬ w.heap.size = b := by omega
  have hne2 : ¬ b = w.heap.size := by omega
  rcases pk_cases s.1 r.1 with e | e | ⟨e1, e⟩ | ⟨e1, e2, e⟩ | ⟨e1, e2, e3, e⟩
  · have H := Lib.hid (show true = rb by rw [← hrb, decide_eq_true e])
    rw [← e] at b0 b1 b2 b3
    clear e hrb
    go_enter Try.func58, Try.ntmps58
    go_wp2
    go_ret
    exact ⟨by rw [← H.out]; simp, by go_grown⟩
  all_goals
    have H := Lib.hid (show false = rb by
      rw [← hrb]
      refine (decide_eq_false fun h => ?_).symm
      rw [h] at e; simp at e)
    clear hrb
    try rw [← e1] at b0
    try rw [← e2] at b1
    try rw [← e3] at b2
    go_enter Try.func58, Try.ntmps58
    go_wp2
    go_ret
    exact ⟨by rw [← H.out]; simp, by go_grown⟩
set_option maxHeartbeats 4000000 in
set_option maxRecDepth 100000 in
theorem cuts_calls (S T : List RT) (v t : Value) (hlen : S.length ≤ 1000) (hlT : T.length ≤ 1000) (w : World) (row : RowR w v S) (rowT : RowR w t T) :
    Calls Try.prog 34 #[v, t] w fun e w' => ∃ u, e = .returned u ∧ OwnA w' w.heap.size u (cutsL S T) ∧ Below w.heap.size w w' := by
  obtain ⟨p, c, rfl, hcap, at_⟩ := row.at
  obtain ⟨n, hn⟩ : ∃ n, S.length = n := ⟨_, rfl⟩
  have HN := Lib.hid hn
  have AT := Lib.hid at_
  have RT_ := Lib.hid rowT
  obtain ⟨tp, tc, rfl⟩ := rowT.form
  rw [hn] at hlen ⊢
  obtain ⟨i0, hii, hz0, hz1, hz2⟩ := info_parts info_act
  have IN := Lib.hid (And.intro hii (And.intro hz0 (And.intro hz1 hz2)))
  clear row rowT at_ hn hii hz0 hz1 hz2
  obtain ⟨B, hB⟩ : ∃ B, w.heap.size = B := ⟨_, rfl⟩
  have HB := Lib.hid hB
  rw [hB]
  go_enter Try.func34, Try.ntmps34
  go_wp2
  go_loopw [5, 10] (fun u i wr => ∃ k : Nat, k ≤ n ∧ i = .int .i64 k ∧ Hid (OwnA wr B u (cutsL (S.take k) T)) ∧ Below B w wr ∧ B ≤ wr.heap.size) (fun _ i _ => n - (intOf i).toNat)
  case atStart => exact ⟨0, by omega, rfl, Lib.hid (World.ownsRow_nil _ _ _ _), Below.refl _ _, by omega⟩
  case round =>
    clear hB
    obtain ⟨k, hk, rfl, OD, hnk, hBs⟩ := hrel
    by_cases hlt : k < n
    · have hkl : k < S.length := by rw [HN.out]; exact hlt
      obtain ⟨g, o, rfl, hg, hrec⟩ := AT.out k hkl
      rw [HB.out] at hg
      obtain ⟨x0, x1, x2, x3, x4⟩ := routeCells (hrec.keep hnk hg)
      have HT := Lib.hid (cuts_take (T := T) hkl)
      have hcll : (cutsL (S.take k) T).length ≤ 1000 := by have := cutsL_len (S.take k) T; rw [List.length_take] at this; omega
      generalize S[k] = r at x0 x1 x2 x3 x4 HT
      obtain ⟨cl, hcl⟩ : ∃ cl, cutsL (S.take k) T = cl := ⟨_, rfl⟩
      rw [hcl] at OD HT hcll
      have hlt' : (k : Int) < (n : Int) := by omega
      have bR := (Below.refl wr.heap.size wr).alloc (Nat.le_refl _) (.cells #[.bool r.1.1, .int .u64 (aH r.1.2.1), .int .u64 (aL r.1.2.1), .int .i64 r.1.2.2, .int .i64 r.2] 53)
      have hnR := hnk.alloc hBs (.cells #[.bool r.1.1, .int .u64 (aH r.1.2.1), .int .u64 (aL r.1.2.1), .int .i64 r.1.2.2, .int .i64 r.2] 53)
      have ODR := Lib.hid (OD.out.alloc (.cells #[.bool r.1.1, .int .u64 (aH r.1.2.1), .int .u64 (aL r.1.2.1), .int .i64 r.1.2.2, .int .i64 r.2] 53))
      have RTR := Lib.hid ((RT_.out.keep (by rw [HB.out]; exact hnk)).keep bR)
      have KF : Hid (∀ c ∈ T, ∀ W, Below (wr.alloc (.cells #[.bool r.1.1, .int .u64 (aH r.1.2.1), .int .u64 (aL r.1.2.1), .int .i64 r.1.2.2, .int .i64 r.2] 53)).heap.size (wr.alloc (.cells #[.bool r.1.1, .int .u64 (aH r.1.2.1), .int .u64 (aL r.1.2.1), .int .i64 r.1.2.2, .int .i64 r.2] 53)) W → Calls Try.prog 58 (#[.agg #[.bool c.1.1, .int .u64 (aH c.1.2.1), .int .u64 (aL c.1.2.1), .int .i64 c.1.2.2, .int .i64 c.2]] ++ #[.pointer (some ⟨wr.heap.size, 0, none⟩)]) W fun e w' => e = .returned (.bool (decide (c.1 = r.1))) ∧ Below W.heap.size W w') := Lib.hid fun c _ W hW => by
        have h0 : wr.heap.size < (wr.alloc (.cells #[.bool r.1.1, .int .u64 (aH r.1.2.1), .int .u64 (aL r.1.2.1), .int .i64 r.1.2.2, .int .i64 r.2] 53)).heap.size := by simp
        exact cutF_calls c r wr.heap.size W ((hW.cell (p := ⟨wr.heap.size, 0, none⟩) h0).trans (by simp)) ((hW.cell (p := ⟨wr.heap.size, 1, none⟩) h0).trans (by simp)) ((hW.cell (p := ⟨wr.heap.size, 2, none⟩) h0).trans (by simp)) ((hW.cell (p := ⟨wr.heap.size, 3, none⟩) h0).trans (by simp)) (Nat.lt_of_lt_of_le h0 hW.size)
      have CF := Lib.hid (containsR_calls T (.slice tp T.length tc) 58 #[.pointer (some ⟨wr.heap.size, 0, none⟩)] (fun s => decide (s.1 = r.1)) (by omega) _ RTR.out (enters_of Try.func58 (by kernel_rfl) rfl) KF)
      obtain ⟨q, hq⟩ : ∃ q, anyP T r = q := ⟨_, rfl⟩
      have HQ := Lib.hid hq
      have CF2 : Hid (Calls Try.prog 57 #[.slice tp T.length tc, .func (.func 58) #[] #[.pointer (some ⟨wr.heap.size, 0, none⟩)]] (wr.alloc (.cells #[.bool r.1.1, .int .u64 (aH r.1.2.1), .int .u64 (aL r.1.2.1), .int .i64 r.1.2.2, .int .i64 r.2] 53)) fun e w' => e = .returned (.bool q) ∧ Below (wr.alloc (.cells #[.bool r.1.1, .int .u64 (aH r.1.2.1), .int .u64 (aL r.1.2.1), .int .i64 r.1.2.2, .int .i64 r.2] 53)).heap.size (wr.alloc (.cells #[.bool r.1.1, .int .u64 (aH r.1.2.1), .int .u64 (aL r.1.2.1), .int .i64 r.1.2.2, .int .i64 r.2] 53)) w') := Lib.hid (by
        have := CF.out; rw [show (T.any fun s => decide (s.1 = r.1)) = q from hq] at this; exact this)
      rw [HQ.out] at HT
      have P1 := PreAt.new wr r.1.1 (aH r.1.2.1) (aL r.1.2.1) r.1.2.2 53
      clear hcl hrec OD hnk CF KF RTR hq P1
      have y0 : (wr.alloc (.cells #[.bool r.1.1, .int .u64 (aH r.1.2.1), .int .u64 (aL r.1.2.1), .int .i64 r.1.2.2, .int .i64 r.2] 53)).cell? ⟨wr.heap.size, 0, none⟩ = some (.bool r.1.1) := by simp
      have y1 : (wr.alloc (.cells #[.bool r.1.1, .int .u64 (aH r.1.2.1), .int .u64 (aL r.1.2.1), .int .i64 r.1.2.2, .int .i64 r.2] 53)).cell? ⟨wr.heap.size, 1, none⟩ = some (.int .u64 (aH r.1.2.1)) := by simp
      have y2 : (wr.alloc (.cells #[.bool r.1.1, .int .u64 (aH r.1.2.1), .int .u64 (aL r.1.2.1), .int .i64 r.1.2.2, .int .i64 r.2] 53)).cell? ⟨wr.heap.size, 2, none⟩ = some (.int .u64 (aL r.1.2.1)) := by simp
      have y3 : (wr.alloc (.cells #[.bool r.1.1, .int .u64 (aH r.1.2.1), .int .u64 (aL r.1.2.1), .int .i64 r.1.2.2, .int .i64 r.2] 53)).cell? ⟨wr.heap.size, 3, none⟩ = some (.int .i64 r.1.2.2) := by simp
      have hb0 : wr.heap.size < (wr.alloc (.cells #[.bool r.1.1, .int .u64 (aH r.1.2.1), .int .u64 (aL r.1.2.1), .int .i64 r.1.2.2, .int .i64 r.2] 53)).heap.size := by simp
      have hsR : B ≤ (wr.alloc (.cells #[.bool r.1.1, .int .u64 (aH r.1.2.1), .int .u64 (aL r.1.2.1), .int .i64 r.1.2.2, .int .i64 r.2] 53)).heap.size := by simp; omega
      go_wp2_with fail
      refine CF2.out.mono ?_
      rintro e w1 ⟨rfl, hb1⟩
      have z0 := (hb1.cell (p := ⟨wr.heap.size, 0, none⟩) hb0).trans y0
      have z1 := (hb1.cell (p := ⟨wr.heap.size, 1, none⟩) hb0).trans y1
      have z2 := (hb1.cell (p := ⟨wr.heap.size, 2, none⟩) hb0).trans y2
      have z3 := (hb1.cell (p := ⟨wr.heap.size, 3, none⟩) hb0).trans y3
      have hs1 : B ≤ w1.heap.size := Nat.le_trans hsR hb1.size
      have hn1 : Below B w w1 := hnR.trans (hb1.mono hsR)
      have OD1 := Lib.hid (ownsKeep ODR.out hb1)
      clear CF2 x0 x1 x2 x3 x4 y0 y1 y2 y3 hb0 hsR hb1 hnR ODR bR
      cases q with
      | true =>
        have HT2 : Hid (cutsL (S.take (k + 1)) T = cl) := Lib.hid (by rw [HT.out]; simp)
        clear HT z0 z1 z2 z3
        go_wp2_with fail
        go_roundw
        case rel => exact ⟨k + 1, by omega, by go_num, Lib.hid (by rw [HT2.out]; exact OD1.out), hn1, hs1⟩
        case measure => simp [intOf]; omega
      | false =>
        have HT2 : Hid (cutsL (S.take (k + 1)) T = cl ++ [cutAct r.1]) := Lib.hid (by rw [HT.out]; simp)
        have OD3 := Lib.hid (OD1.out.alloc (.cells #[.int .i64 2, .bool r.1.1, .int .u64 (aH r.1.2.1), .int .u64 (aL r.1.2.1), .int .i64 r.1.2.2, .int .i64 0, .bool false, .int .u64 0, .int .u64 0] 55))
        have hCN : Hid (∀ j u, (acs (cutAct r.1))[j]? = some u → (w1.alloc (.cells #[.int .i64 2, .bool r.1.1, .int .u64 (aH r.1.2.1), .int .u64 (aL r.1.2.1), .int .i64 r.1.2.2, .int .i64 0, .bool false, .int .u64 0, .int .u64 0] 55)).cell? ⟨w1.heap.size, j, none⟩ = some u) := Lib.hid (by
          have := cell_new w1 (acs (cutAct r.1)) 55
          simp only [acs, cutAct, aH_zero, aL_zero] at this ⊢
          exact this)
        have hnA := hn1.alloc hs1 (.cells #[.int .i64 2, .bool r.1.1, .int .u64 (aH r.1.2.1), .int .u64 (aL r.1.2.1), .int .i64 r.1.2.2, .int .i64 0, .bool false, .int .u64 0, .int .u64 0] 55)
        clear HT OD1 hn1
        obtain ⟨hii, hz0, hz1, hz2⟩ := IN.out
        go_wp2_with (at_builtin; refine wpList_append_one rfl _ _ 22 rfl B 55 i0 _ 72 Try.underlying22 hii hz0 hz1 hz2 rfl (by decide) acs_len acs_one cl ⟨_, rfl, OD3.out⟩ (cutAct r.1) w1.heap.size 1 rfl hCN.out (by omega) (by decide) (by simp; omega) ?_; intro v2 w2 ho2 hg2 hb2)
        have hn4 := hnA.trans hb2
        have hs4 : B ≤ w2.heap.size := Nat.le_trans (by simp; omega) hb2.size
        have OD4 := Lib.hid ho2
        clear ho2 hg2 hb2 hnA OD3 hCN
        go_roundw
        case rel => exact ⟨k + 1, by omega, by go_num, Lib.hid (by rw [HT2.out]; exact OD4.out), hn4, hs4⟩
        case measure => simp [intOf]; omega
    · obtain rfl : k = n := by omega
      have e1 : S.take k = S := by rw [← HN.out]; exact List.take_length
      rw [e1] at OD
      go_wp2
      go_ret
      exact ⟨_, by simp, OD.out, hnk⟩
end Go.Proofs.Ytepfcphhgmmlhaa
/-
  slices.Index, slices.Contains of routes; delta.without.
-/
namespace Go.Proofs.Ytepfcphhgmmlhaa
open Go.RowKit
set_option linter.unusedVariables false
set_option linter.unusedSimpArgs false
theorem rt_cases (s r : RT) : s = r ∨ (s.1 ≠ r.1) ∨ (s.1 = r.1 ∧ (s.2 == r.2) = false) := by
  by_cases h : s.1 = r.1
  · by_cases h2 : s.2 = r.2
    · exact .inl (Prod.ext h h2)
    · exact .inr (.inr ⟨h, by simpa using h2⟩)
  · exact .inr (.inl h)
theorem RouteAt (w : World) (r : RT) (o : Nat) : (w.alloc (.cells #[.bool r.1.1, .int .u64 (aH r.1.2.1), .int .u64 (aL r.1.2.1), .int .i64 r.1.2.2, .int .i64 r.2] 53)).cell? ⟨w.heap.size, o, none⟩ = (rcs r)[o]? := by
  match o with
  | 0 => simp [rcs]
  | 1 => simp [rcs]
  | 2 => simp [rcs]
  | 3 => simp [rcs]
  | 4 => simp [rcs]
  | o + 5 => simp [rcs]
set_option maxHeartbeats 4000000 in
set_option maxRecDepth 100000 in
theorem indexV_calls (l : List RT) (v : Value) (q : RT) (hlen : l.length ≤ 100000) (w : World) (row : RowR w v l) :
    Calls Try.prog 78 #[v, .agg #[.bool q.1.1, .int .u64 (aH q.1.2.1), .int .u64 (aL q.1.2.1), .int .i64 q.1.2.2, .int .i64 q.2]] w fun e w' => ∃ r : Int, e = .returned (.int .i64 r) ∧ (0 ≤ r ↔ q ∈ l) ∧ Below w.heap.size w w' := by
  obtain ⟨p, c, rfl, hcap, at_⟩ := row.at
  obtain ⟨n, hn⟩ : ∃ n, l.length = n := ⟨_, rfl⟩
  have HN := Lib.hid hn
  have AT := Lib.hid at_
  rw [hn] at hlen ⊢
  clear row at_ hn
  have bA := (Below.refl w.heap.size w).alloc (Nat.le_refl _) (.cells #[.bool q.1.1, .int .u64 (aH q.1.2.1), .int .u64 (aL q.1.2.1), .int .i64 q.1.2.2, .int .i64 q.2] 53)
  have Q0 := Lib.hid (fun o => RouteAt w q o)
  go_enter Try.func78, Try.ntmps78
  go_wp2
  have hw1 : w.heap.size < (w.alloc (.cells #[.bool q.1.1, .int .u64 (aH q.1.2.1), .int .u64 (aL q.1.2.1), .int .i64 q.1.2.2, .int .i64 q.2] 53)).heap.size := by simp
  revert Q0 bA hw1
  generalize w.alloc (.cells #[.bool q.1.1, .int .u64 (aH q.1.2.1), .int .u64 (aL q.1.2.1), .int .i64 q.1.2.2, .int .i64 q.2] 53) = Y
  intro bA Q0 hw1
  have HBA := Lib.hid bA
  go_loopw [8] (fun i wr => ∃ k z : Nat, k ≤ n ∧ i = .int .i64 k ∧ wr = Y.drewN z ∧ Hid (∀ c ∈ l.take k, c ≠ q)) (fun i _ => n - (intOf i).toNat)
  case atStart => exact ⟨0, 0, by omega, rfl, rfl, Lib.hid (fun c h => by simp at h)⟩
  case round =>
    clear bA
    obtain ⟨k, z, hk, rfl, rfl, HF⟩ := hrel
    by_cases hlt : k < n
    · have hkl : k < l.length := by rw [HN.out]; exact hlt
      obtain ⟨g, o, rfl, hg, hrec⟩ := AT.out k hkl
      obtain ⟨x0, x1, x2, x3, x4⟩ := routeCells (hrec.keep HBA.out hg)
      have q0 := Q0.out 0
      have q1 := Q0.out 1
      have q2 := Q0.out 2
      have q3 := Q0.out 3
      have q4 := Q0.out 4
      simp only [rcs, List.getElem?_cons_zero, List.getElem?_cons_succ] at q0 q1 q2 q3 q4
      have HA := Lib.hid (show l[k] = q → q ∈ l from fun h => by rw [← h]; exact List.getElem_mem hkl)
      have HT := Lib.hid (show l[k] ≠ q → ∀ c ∈ l.take (k + 1), c ≠ q from fun h c hc => by
        rw [List.take_succ_eq_append_getElem hkl, List.mem_append, List.mem_singleton] at hc
        rcases hc with hc | rfl
        · exact HF.out c hc
        · exact h)
      have hlt' : (k : Int) < (n : Int) := by omega
      generalize l[k] = r at x0 x1 x2 x3 x4 HA HT
      clear hrec
      rcases rt_cases q r with e | e | ⟨e, e'⟩
      · have HM := Lib.hid (HA.out e.symm)
        subst e
        clear HA HT
        go_wp2_with fail
        go_quiet ((fail))
        go_wp2
        go_ret
        exact ⟨k, rfl, ⟨fun _ => HM.out, fun _ => by omega⟩, below_drewN (below_drewN HBA.out _) _⟩
      · have HT2 := Lib.hid (HT.out (fun h => e (by rw [h])))
        clear HA HT
        rcases pk_cases q.1 r.1 with f | f | ⟨e1, f⟩ | ⟨e1, e2, f⟩ | ⟨e1, e2, e3, f⟩
        · exact absurd f e
        all_goals
          clear e
          try rw [← e1] at x0
          try rw [← e2] at x1
          try rw [← e3] at x2
          go_wp2_with fail
          go_quiet ((fail))
          go_wp2
          go_roundw
          case rel => exact ⟨k + 1, _, by omega, by go_num, rfl, HT2⟩
          case measure => simp [intOf]; omega
      · have HT2 := Lib.hid (HT.out (fun h => by rw [h] at e'; simp at e'))
        clear HA HT
        rw [← e] at x0 x1 x2 x3
        clear e
        go_wp2_with fail
        go_quiet ((fail))
        go_wp2
        go_roundw
        case rel => exact ⟨k + 1, _, by omega, by go_num, rfl, HT2⟩
        case measure => simp [intOf]; omega
    · obtain rfl : k = n := by omega
      have e1 : l.take k = l := by rw [← HN.out]; exact List.take_length
      rw [e1] at HF
      go_wp2
      go_ret
      exact ⟨-1, rfl, ⟨fun h => by omega, fun h => absurd rfl (HF.out q h)⟩, below_drewN HBA.out _⟩
end Go.Proofs.Ytepfcphhgmmlhaa
/-
  slices.Contains of routes; delta.without.
-/
namespace Go.Proofs.Ytepfcphhgmmlhaa
open Go.RowKit
set_option linter.unusedVariables false
set_option linter.unusedSimpArgs false
set_option maxHeartbeats 2000000 in
theorem containsV_calls (l : List RT) (v : Value) (q : RT) (hlen : l.length ≤ 100000) (w : World) (row : RowR w v l) :
    Calls Try.prog 59 #[v, .agg #[.bool q.1.1, .int .u64 (aH q.1.2.1), .int .u64 (aL q.1.2.1), .int .i64 q.1.2.2, .int .i64 q.2]] w fun e w' => e = .returned (.bool (decide (q ∈ l))) ∧ Below w.heap.size w w' := by
  have bA := (Below.refl w.heap.size w).alloc (Nat.le_refl _) (.cells #[.bool q.1.1, .int .u64 (aH q.1.2.1), .int .u64 (aL q.1.2.1), .int .i64 q.1.2.2, .int .i64 q.2] 53)
  have C := Lib.hid (indexV_calls l v q hlen _ (row.keep bA))
  obtain ⟨p, c, rfl⟩ := row.form
  obtain ⟨b, hb⟩ : ∃ b, decide (q ∈ l) = b := ⟨_, rfl⟩
  have HB := Lib.hid hb
  rw [hb]
  clear row hb
  generalize l.length = n at C hlen ⊢
  go_enter Try.func59, Try.ntmps59
  go_wp2_with fail
  refine C.out.mono ?_
  rintro e w1 ⟨r, rfl, hr, hb1⟩
  have b1 := thenBelow bA hb1
  cases b with
  | true =>
    have h0 : (0 : Int) ≤ r := hr.2 (of_decide_eq_true HB.out)
    clear C hb1 bA hr
    go_wp2
    go_ret
    exact ⟨rfl, b1⟩
  | false =>
    have h0 : ¬ (0 : Int) ≤ r := fun h => of_decide_eq_false HB.out (hr.1 h)
    have h1 : decide ((0 : Int) ≤ r) = false := decide_eq_false h0
    clear C hb1 bA hr h0
    go_wp2
    go_ret
    exact ⟨rfl, b1⟩
/-- The routes of one list that the other one does not have. -/
def wiL (S T : List RT) : List RT := S.filter fun r => !decide (r ∈ T)
theorem wiL_len (S T : List RT) : (wiL S T).length ≤ S.length := List.length_filter_le _ _
theorem wi_take {S T : List RT} {k : Nat} (hk : k < S.length) : wiL (S.take (k + 1)) T = wiL (S.take k) T ++ if decide (S[k] ∈ T) then [] else [S[k]] := by
  rw [wiL, List.take_succ_eq_append_getElem hk, List.filter_append]
  congr 1
  by_cases h : S[k] ∈ T <;> simp [h]
set_option maxHeartbeats 4000000 in
set_option maxRecDepth 100000 in
theorem without_calls (S T : List RT) (v t : Value) (hlen : S.length ≤ 1000) (hlT : T.length ≤ 1000) (w : World) (row : RowR w v S) (rowT : RowR w t T) :
    Calls Try.prog 36 #[v, t] w fun e w' => ∃ u, e = .returned u ∧ OwnR w' w.heap.size u (wiL S T) ∧ Below w.heap.size w w' := by
  obtain ⟨p, c, rfl, hcap, at_⟩ := row.at
  obtain ⟨n, hn⟩ : ∃ n, S.length = n := ⟨_, rfl⟩
  have HN := Lib.hid hn
  have AT := Lib.hid at_
  have CV := Lib.hid (fun (W : World) (q : RT) (r : RowR W t T) => containsV_calls T t q (by omega) W r)
  have RT_ := Lib.hid rowT
  obtain ⟨tp, tc, rfl⟩ := rowT.form
  rw [hn] at hlen ⊢
  obtain ⟨i0, hii, hz0, hz1, hz2⟩ := info_parts info_route
  have IN := Lib.hid (And.intro hii (And.intro hz0 (And.intro hz1 hz2)))
  clear row rowT at_ hn hii hz0 hz1 hz2
  obtain ⟨B, hB⟩ : ∃ B, w.heap.size = B := ⟨_, rfl⟩
  have HB := Lib.hid hB
  rw [hB]
  go_enter Try.func36, Try.ntmps36
  go_wp2
  go_loopw [5, 10] (fun u i wr => ∃ k : Nat, k ≤ n ∧ i = .int .i64 k ∧ Hid (OwnR wr B u (wiL (S.take k) T)) ∧ Below B w wr ∧ B ≤ wr.heap.size) (fun _ i _ => n - (intOf i).toNat)
  case atStart => exact ⟨0, by omega, rfl, Lib.hid (World.ownsRow_nil _ _ _ _), Below.refl _ _, by omega⟩
  case round =>
    clear hB
    obtain ⟨k, hk, rfl, OD, hnk, hBs⟩ := hrel
    by_cases hlt : k < n
    · have hkl : k < S.length := by rw [HN.out]; exact hlt
      obtain ⟨g, o, rfl, hg, hrec⟩ := AT.out k hkl
      rw [HB.out] at hg
      obtain ⟨x0, x1, x2, x3, x4⟩ := routeCells (hrec.keep hnk hg)
      have HT := Lib.hid (wi_take (T := T) hkl)
      have hcll : (wiL (S.take k) T).length ≤ 1000 := by have := wiL_len (S.take k) T; rw [List.length_take] at this; omega
      generalize S[k] = r at x0 x1 x2 x3 x4 HT
      obtain ⟨cl, hcl⟩ : ∃ cl, wiL (S.take k) T = cl := ⟨_, rfl⟩
      rw [hcl] at OD HT hcll
      have hlt' : (k : Int) < (n : Int) := by omega
      have bR := (Below.refl wr.heap.size wr).alloc (Nat.le_refl _) (.cells #[.bool r.1.1, .int .u64 (aH r.1.2.1), .int .u64 (aL r.1.2.1), .int .i64 r.1.2.2, .int .i64 r.2] 53)
      have hnR := hnk.alloc hBs (.cells #[.bool r.1.1, .int .u64 (aH r.1.2.1), .int .u64 (aL r.1.2.1), .int .i64 r.1.2.2, .int .i64 r.2] 53)
      have ODR := Lib.hid (OD.out.alloc (.cells #[.bool r.1.1, .int .u64 (aH r.1.2.1), .int .u64 (aL r.1.2.1), .int .i64 r.1.2.2, .int .i64 r.2] 53))
      have CF := Lib.hid (CV.out _ r ((RT_.out.keep (by rw [HB.out]; exact hnk)).keep bR))
      obtain ⟨q, hq⟩ : ∃ q, decide (r ∈ T) = q := ⟨_, rfl⟩
      rw [hq] at CF HT
      clear hcl hrec OD hnk hq
      have y0 : (wr.alloc (.cells #[.bool r.1.1, .int .u64 (aH r.1.2.1), .int .u64 (aL r.1.2.1), .int .i64 r.1.2.2, .int .i64 r.2] 53)).cell? ⟨wr.heap.size, 0, none⟩ = some (.bool r.1.1) := by simp
      have y1 : (wr.alloc (.cells #[.bool r.1.1, .int .u64 (aH r.1.2.1), .int .u64 (aL r.1.2.1), .int .i64 r.1.2.2, .int .i64 r.2] 53)).cell? ⟨wr.heap.size, 1, none⟩ = some (.int .u64 (aH r.1.2.1)) := by simp
      have y2 : (wr.alloc (.cells #[.bool r.1.1, .int .u64 (aH r.1.2.1), .int .u64 (aL r.1.2.1), .int .i64 r.1.2.2, .int .i64 r.2] 53)).cell? ⟨wr.heap.size, 2, none⟩ = some (.int .u64 (aL r.1.2.1)) := by simp
      have y3 : (wr.alloc (.cells #[.bool r.1.1, .int .u64 (aH r.1.2.1), .int .u64 (aL r.1.2.1), .int .i64 r.1.2.2, .int .i64 r.2] 53)).cell? ⟨wr.heap.size, 3, none⟩ = some (.int .i64 r.1.2.2) := by simp
      have y4 : (wr.alloc (.cells #[.bool r.1.1, .int .u64 (aH r.1.2.1), .int .u64 (aL r.1.2.1), .int .i64 r.1.2.2, .int .i64 r.2] 53)).cell? ⟨wr.heap.size, 4, none⟩ = some (.int .i64 r.2) := by simp
      have hb0 : wr.heap.size < (wr.alloc (.cells #[.bool r.1.1, .int .u64 (aH r.1.2.1), .int .u64 (aL r.1.2.1), .int .i64 r.1.2.2, .int .i64 r.2] 53)).heap.size := by simp
      have hsR : B ≤ (wr.alloc (.cells #[.bool r.1.1, .int .u64 (aH r.1.2.1), .int .u64 (aL r.1.2.1), .int .i64 r.1.2.2, .int .i64 r.2] 53)).heap.size := by simp; omega
      go_wp2_with fail
      refine CF.out.mono ?_
      rintro e w1 ⟨rfl, hb1⟩
      have z0 := (hb1.cell (p := ⟨wr.heap.size, 0, none⟩) hb0).trans y0
      have z1 := (hb1.cell (p := ⟨wr.heap.size, 1, none⟩) hb0).trans y1
      have z2 := (hb1.cell (p := ⟨wr.heap.size, 2, none⟩) hb0).trans y2
      have z3 := (hb1.cell (p := ⟨wr.heap.size, 3, none⟩) hb0).trans y3
      have z4 := (hb1.cell (p := ⟨wr.heap.size, 4, none⟩) hb0).trans y4
      have hs1 : B ≤ w1.heap.size := Nat.le_trans hsR hb1.size
      have hn1 : Below B w w1 := hnR.trans (hb1.mono hsR)
      have OD1 := Lib.hid (ownsKeep ODR.out hb1)
      clear CF x0 x1 x2 x3 x4 y0 y1 y2 y3 y4 hb0 hsR hb1 hnR ODR bR
      cases q with
      | true =>
        have HT2 : Hid (wiL (S.take (k + 1)) T = cl) := Lib.hid (by rw [HT.out]; simp)
        clear HT z0 z1 z2 z3 z4
        go_wp2_with fail
        go_roundw
        case rel => exact ⟨k + 1, by omega, by go_num, Lib.hid (by rw [HT2.out]; exact OD1.out), hn1, hs1⟩
        case measure => simp [intOf]; omega
      | false =>
        have HT2 : Hid (wiL (S.take (k + 1)) T = cl ++ [r]) := Lib.hid (by rw [HT.out]; simp)
        have OD3 := Lib.hid (OD1.out.alloc (.cells #[.bool r.1.1, .int .u64 (aH r.1.2.1), .int .u64 (aL r.1.2.1), .int .i64 r.1.2.2, .int .i64 r.2] 53))
        have hCN := Lib.hid (cell_new w1 (rcs r) 53)
        have hnA := hn1.alloc hs1 (.cells #[.bool r.1.1, .int .u64 (aH r.1.2.1), .int .u64 (aL r.1.2.1), .int .i64 r.1.2.2, .int .i64 r.2] 53)
        clear HT OD1 hn1
        obtain ⟨hii, hz0, hz1, hz2⟩ := IN.out
        go_wp2_with (at_builtin; refine wpList_append_one rfl _ _ 27 rfl B 53 i0 _ 40 Try.underlying27 hii hz0 hz1 hz2 rfl (by decide) rcs_len rcs_one cl ⟨_, rfl, OD3.out⟩ r w1.heap.size 1 rfl hCN.out (by omega) (by decide) (by simp; omega) ?_; intro v2 w2 ho2 hg2 hb2)
        have hn4 := hnA.trans hb2
        have hs4 : B ≤ w2.heap.size := Nat.le_trans (by simp; omega) hb2.size
        have OD4 := Lib.hid ho2
        clear ho2 hg2 hb2 hnA OD3 hCN
        go_roundw
        case rel => exact ⟨k + 1, by omega, by go_num, Lib.hid (by rw [HT2.out]; exact OD4.out), hn4, hs4⟩
        case measure => simp [intOf]; omega
    · obtain rfl : k = n := by omega
      have e1 : S.take k = S := by rw [← HN.out]; exact List.take_length
      rw [e1] at OD
      go_wp2
      go_ret
      exact ⟨_, by simp, OD.out, hnk⟩
end Go.Proofs.Ytepfcphhgmmlhaa
