/-
  Laid together: DeltaA, AnyR, DeltaB, DeltaC, DeltaC2, AppRow, ConcatR, DeltaD.
-/
import Derived.Test.YtepfcphhgmmlhaaTabX
import Derived.Test.YtepfcphhgmmlhaaSrtInv
import Derived.Test.YtepfcphhgmmlhaaTabH
import Derived.Test.YtepfcphhgmmlhaaAppOne
import Derived.Deep.QuietTactic
import Derived.Test.YtepfcphhgmmlhaaAppTwo
import Derived.Test.YtepfcphhgmmlhaaTabE
import Derived.Lib.AppendZeros
/-
  delta.puts, delta.sorted.
-/
namespace Go.Proofs.Ytepfcphhgmmlhaa
open Go.RowKit
set_option linter.unusedVariables false
set_option linter.unusedSimpArgs false
theorem aH_zero : aH 0 = 0 := by simp [aH]
theorem aL_zero : aL 0 = 0 := by simp [aL]
theorem puts_take {l : List RT} {k : Nat} (hk : k < l.length) : putsL (l.take (k + 1)) = putsL (l.take k) ++ [putAct l[k]] := by
  rw [putsL, List.take_succ_eq_append_getElem hk, List.map_append]; rfl
set_option maxHeartbeats 4000000 in
set_option maxRecDepth 100000 in
theorem puts_calls (l : List RT) (v : Value) (hlen : l.length ≤ 1000) (w : World) (row : RowR w v l) :
    Calls Try.prog 35 #[v] w fun e w' => ∃ u, e = .returned u ∧ OwnA w' w.heap.size u (putsL l) ∧ Below w.heap.size w w' := by
  obtain ⟨p, c, rfl, hcap, at_⟩ := row.at
  obtain ⟨n, hn⟩ : ∃ n, l.length = n := ⟨_, rfl⟩
  have HN := Lib.hid hn
  have AT := Lib.hid at_
  rw [hn] at hlen ⊢
  obtain ⟨i0, hii, hz0, hz1, hz2⟩ := info_parts info_act
  have IN := Lib.hid (And.intro hii (And.intro hz0 (And.intro hz1 hz2)))
  clear row at_ hn hii hz0 hz1 hz2
  obtain ⟨B, hB⟩ : ∃ B, w.heap.size = B := ⟨_, rfl⟩
  have HB := Lib.hid hB
  rw [hB]
  go_enter Try.func35, Try.ntmps35
  go_wp2
  go_loopw [3, 8] (fun u i wr => ∃ k : Nat, k ≤ n ∧ i = .int .i64 k ∧ Hid (OwnA wr B u (putsL (l.take k))) ∧ Below B w wr ∧ B ≤ wr.heap.size) (fun _ i _ => n - (intOf i).toNat)
  case atStart => exact ⟨0, by omega, rfl, Lib.hid (World.ownsRow_nil _ _ _ _), Below.refl _ _, by omega⟩
  case round =>
    clear hB
    obtain ⟨k, hk, rfl, OD, hnk, hBs⟩ := hrel
    by_cases hlt : k < n
    · have hkl : k < l.length := by rw [HN.out]; exact hlt
      obtain ⟨g, o, rfl, hg, hrec⟩ := AT.out k hkl
      rw [HB.out] at hg
      obtain ⟨x0, x1, x2, x3, x4⟩ := routeCells (hrec.keep hnk hg)
      have HT := Lib.hid (puts_take hkl)
      have hcll : (putsL (l.take k)).length ≤ 1000 := by rw [putsL_len, List.length_take]; omega
      generalize l[k] = r at x0 x1 x2 x3 x4 HT
      obtain ⟨cl, hcl⟩ : ∃ cl, putsL (l.take k) = cl := ⟨_, rfl⟩
      rw [hcl] at OD HT hcll
      have hlt' : (k : Int) < (n : Int) := by omega
      have OD3 := Lib.hid ((OD.out.alloc (.cells #[.bool r.1.1, .int .u64 (aH r.1.2.1), .int .u64 (aL r.1.2.1), .int .i64 r.1.2.2, .int .i64 r.2] 53)).alloc (.cells #[.int .i64 1, .bool r.1.1, .int .u64 (aH r.1.2.1), .int .u64 (aL r.1.2.1), .int .i64 r.1.2.2, .int .i64 r.2, .bool false, .int .u64 0, .int .u64 0] 55))
      have hCN : Hid (∀ j u, (acs (putAct r))[j]? = some u → ((wr.alloc (.cells #[.bool r.1.1, .int .u64 (aH r.1.2.1), .int .u64 (aL r.1.2.1), .int .i64 r.1.2.2, .int .i64 r.2] 53)).alloc (.cells #[.int .i64 1, .bool r.1.1, .int .u64 (aH r.1.2.1), .int .u64 (aL r.1.2.1), .int .i64 r.1.2.2, .int .i64 r.2, .bool false, .int .u64 0, .int .u64 0] 55)).cell? ⟨wr.heap.size + 1, j, none⟩ = some u) := Lib.hid (by
        have := cell_new (wr.alloc (.cells #[.bool r.1.1, .int .u64 (aH r.1.2.1), .int .u64 (aL r.1.2.1), .int .i64 r.1.2.2, .int .i64 r.2] 53)) (acs (putAct r)) 55
        rw [World.size_alloc] at this
        simp only [acs, putAct, aH_zero, aL_zero] at this ⊢
        exact this)
      have hnA := (hnk.alloc hBs (.cells #[.bool r.1.1, .int .u64 (aH r.1.2.1), .int .u64 (aL r.1.2.1), .int .i64 r.1.2.2, .int .i64 r.2] 53)).alloc (by simp; omega) (.cells #[.int .i64 1, .bool r.1.1, .int .u64 (aH r.1.2.1), .int .u64 (aL r.1.2.1), .int .i64 r.1.2.2, .int .i64 r.2, .bool false, .int .u64 0, .int .u64 0] 55)
      clear hcl hrec OD hnk
      obtain ⟨hii, hz0, hz1, hz2⟩ := IN.out
      go_wp2_with (at_builtin; refine wpList_append_one rfl _ _ 22 rfl B 55 i0 _ 72 Try.underlying22 hii hz0 hz1 hz2 rfl (by decide) acs_len acs_one cl ⟨_, rfl, OD3.out⟩ (putAct r) (wr.heap.size + 1) 1 rfl hCN.out (by omega) (by decide) (by simp; omega) ?_; intro v2 w2 ho2 hg2 hb2)
      have hn4 := hnA.trans hb2
      have hs4 : B ≤ w2.heap.size := Nat.le_trans (by simp; omega) hb2.size
      have OD4 := Lib.hid ho2
      clear ho2 hg2 hb2 hnA OD3 hCN
      go_roundw
      case rel => exact ⟨k + 1, by omega, by go_num, Lib.hid (by rw [HT.out]; exact OD4.out), hn4, hs4⟩
      case measure => simp [intOf]; omega
    · obtain rfl : k = n := by omega
      have e1 : l.take k = l := by rw [← HN.out]; exact List.take_length
      rw [e1] at OD
      go_wp2
      go_ret
      exact ⟨_, by simp, OD.out, hnk⟩
theorem putsL_words {l : List RT} (h : WordsR l) : WordsA (putsL l) := fun a ha => by
  obtain ⟨r, hr, rfl⟩ := List.mem_map.1 ha
  exact ⟨h r hr, Nat.two_pow_pos 128⟩
/-- What sorted gives. -/
def sorL (l : List RT) : List RT := if tabE l = 0 then srt l else []
set_option maxHeartbeats 4000000 in
theorem sorted_calls (l : List RT) (v : Value) (hlen : l.length ≤ 9223372036854775807) (hw : WordsR l) (w : World) (row : RowR w v l) :
    Calls Try.prog 33 #[v] w fun e w' => ∃ u, e = .returned (.tuple #[u, .int .i64 (tabE l)]) ∧ OwnR w' w.heap.size u (sorL l) ∧ Below w.heap.size w w' := by
  have C1 := Lib.hid (tableCheck_calls l v hlen hw w row)
  have R0 := Lib.hid row
  obtain ⟨p, c, rfl⟩ := row.form
  clear row
  by_cases h0 : tabE l = 0
  · have hl := (tabE_val h0).2.2
    obtain ⟨_, e2, e3⟩ := puts_run h0
    have C2 := Lib.hid (fun (W : World) (r : RowR W (.slice p l.length c) l) => puts_calls l _ (by omega) W r)
    have C3 := Lib.hid (fun (W : World) (u : Value) (r : RowA W u (putsL l)) => routes_calls (putsL l) u (by rw [putsL_len]; exact hlen) (putsL_words hw) W r)
    rw [e2, e3] at C3
    have E := Lib.hid (show sorL l = srt l by rw [sorL, if_pos h0])
    rw [h0] at C1 ⊢
    clear h0 e2 e3 hl
    go_enter Try.func33, Try.ntmps33
    go_wp2_with fail
    refine C1.out.mono ?_
    rintro e w1 ⟨rfl, hb1⟩
    have R1 := Lib.hid (R0.out.keep hb1)
    clear C1 R0
    go_wp2_with fail
    refine (C2.out _ R1.out).mono ?_
    rintro e w2 ⟨u, rfl, ho, hb2⟩
    have b2 := thenBelow hb1 hb2
    have R2 := Lib.hid (OwnA.row ho)
    clear C2 R1 ho hb2
    go_wp2_with fail
    refine (C3.out _ _ R2.out).mono ?_
    rintro e w3 ⟨u2, rfl, ho3, hb3⟩
    have O3 := Lib.hid (ownsLow ho3 b2.size)
    have b3 := thenBelow b2 hb3
    clear C3 R2 ho3 hb3
    go_wp2
    go_ret2
    exact ⟨u2, by simp, by rw [E.out]; exact O3.out, b3⟩
  · have E := Lib.hid (show sorL l = [] by rw [sorL, if_neg h0])
    generalize tabE l = t at C1 h0 ⊢
    have hz1 : (t == 0) = false := by simpa using h0
    have hz2 : (t != 0) = true := by simp [bne, hz1]
    go_enter Try.func33, Try.ntmps33
    go_wp2_with fail
    refine C1.out.mono ?_
    rintro e w1 ⟨rfl, hb1⟩
    go_wp2
    go_ret2
    exact ⟨.slice none 0 0, by simp, by rw [E.out]; exact World.ownsRow_nil _ _ _ _, hb1⟩
end Go.Proofs.Ytepfcphhgmmlhaa
/-
  slices.IndexFunc, slices.ContainsFunc over []api.Route: what the function says of each element decides.
-/
namespace Go.Proofs.Ytepfcphhgmmlhaa
open Go.RowKit
set_option linter.unusedVariables false
set_option linter.unusedSimpArgs false
set_option maxHeartbeats 2000000 in
theorem indexR_calls (l : List (RT)) (v : Value) (F : Nat) (fb : Array Value) (P : RT → Bool) (hlen : l.length ≤ 100000) (w : World) (row : RowR w v l) (eg : ∀ args W, (callFunc F args).run Try.prog W = .ok (.enter F args) W)
    (KF : Hid (∀ c ∈ l, ∀ W, Below w.heap.size w W → Calls Try.prog F (#[.agg #[.bool c.1.1, .int .u64 (aH c.1.2.1), .int .u64 (aL c.1.2.1), .int .i64 c.1.2.2, .int .i64 c.2]] ++ fb) W fun e w' => e = .returned (.bool (P c)) ∧ Below W.heap.size W w')) :
    Calls Try.prog 77 #[v, .func (.func F) #[] fb] w fun e w' => ∃ r : Int, e = .returned (.int .i64 r) ∧ (0 ≤ r ↔ l.any P = true) ∧ Below w.heap.size w w' := by
  obtain ⟨p, c, rfl, hcap, at_⟩ := row.at
  obtain ⟨n, hn⟩ : ∃ n, l.length = n := ⟨_, rfl⟩
  have HN := Lib.hid hn
  have AT := Lib.hid at_
  rw [hn] at hlen ⊢
  clear row at_ hn
  go_enter Try.func77, Try.ntmps77
  go_wp2
  go_loopw [8] (fun i wr => ∃ k : Nat, k ≤ n ∧ i = .int .i64 k ∧ Below w.heap.size w wr ∧ Hid (∀ c ∈ l.take k, P c = false)) (fun i _ => n - (intOf i).toNat)
  case atStart => exact ⟨0, by omega, rfl, Below.refl _ _, Lib.hid (fun c h => by simp at h)⟩
  case round =>
    obtain ⟨k, hk, rfl, hnk, HF⟩ := hrel
    by_cases hlt : k < n
    · have hkl : k < l.length := by rw [HN.out]; exact hlt
      obtain ⟨g, o, rfl, hg, hrec⟩ := AT.out k hkl
      obtain ⟨x0, x1, x2, x3, x4⟩ := routeCells (hrec.keep hnk hg)
      have C := KF.out l[k] (List.getElem_mem hkl) wr hnk
      have HA := Lib.hid (show P l[k] = true → l.any P = true from fun h => List.any_eq_true.2 ⟨_, List.getElem_mem hkl, h⟩)
      have HT := Lib.hid (show P l[k] = false → ∀ c ∈ l.take (k + 1), P c = false from fun h c hc => by
        rw [List.take_succ_eq_append_getElem hkl, List.mem_append, List.mem_singleton] at hc
        rcases hc with hc | rfl
        · exact HF.out c hc
        · exact h)
      have hlt' : (k : Int) < (n : Int) := by omega
      generalize l[k] = r at x0 x1 x2 x3 x4 C HA HT
      cases hP : P r with
      | true =>
        rw [hP] at C
        go_wp2_with (go_at_fn F; refine C.mono ?_; rintro e w1 ⟨rfl, hb1⟩)
        go_ret
        exact ⟨k, rfl, ⟨fun _ => HA.out hP, fun _ => by omega⟩, thenBelow hnk hb1⟩
      | false =>
        rw [hP] at C
        go_wp2_with (go_at_fn F; refine C.mono ?_; rintro e w1 ⟨rfl, hb1⟩)
        have hn1 := thenBelow hnk hb1
        go_roundw
        case rel => exact ⟨k + 1, by omega, by go_num, hn1, Lib.hid (HT.out hP)⟩
        case measure => simp [intOf]; omega
    · obtain rfl : k = n := by omega
      have e1 : l.take k = l := by rw [← HN.out]; exact List.take_length
      have HZ : Hid (l.any P = false) := Lib.hid (by rw [List.any_eq_false]; intro c hc; rw [e1] at HF; simp [HF.out c hc])
      go_wp2
      go_ret
      exact ⟨-1, rfl, ⟨fun h => by omega, fun h => by rw [HZ.out] at h; cases h⟩, hnk⟩
set_option maxHeartbeats 2000000 in
theorem containsR_calls (l : List (RT)) (v : Value) (F : Nat) (fb : Array Value) (P : RT → Bool) (hlen : l.length ≤ 100000) (w : World) (row : RowR w v l) (eg : ∀ args W, (callFunc F args).run Try.prog W = .ok (.enter F args) W)
    (KF : Hid (∀ c ∈ l, ∀ W, Below w.heap.size w W → Calls Try.prog F (#[.agg #[.bool c.1.1, .int .u64 (aH c.1.2.1), .int .u64 (aL c.1.2.1), .int .i64 c.1.2.2, .int .i64 c.2]] ++ fb) W fun e w' => e = .returned (.bool (P c)) ∧ Below W.heap.size W w')) :
    Calls Try.prog 57 #[v, .func (.func F) #[] fb] w fun e w' => e = .returned (.bool (l.any P)) ∧ Below w.heap.size w w' := by
  have C := Lib.hid (indexR_calls l v F fb P hlen w row eg KF)
  obtain ⟨p, c, rfl⟩ := row.form
  obtain ⟨b, hb⟩ : ∃ b, l.any P = b := ⟨_, rfl⟩
  rw [hb] at C ⊢
  clear row KF hb
  generalize l.length = n at C hlen ⊢
  go_enter Try.func57, Try.ntmps57
  go_wp2_with fail
  refine C.out.mono ?_
  rintro e w1 ⟨r, rfl, hr, hb1⟩
  cases b with
  | true =>
    have h0 : (0 : Int) ≤ r := hr.2 rfl
    go_wp2
    go_ret
    exact ⟨rfl, hb1⟩
  | false =>
    have h0 : ¬ (0 : Int) ≤ r := fun h => by have := hr.1 h; cases this
    go_wp2
    go_ret
    exact ⟨rfl, hb1⟩
end Go.Proofs.Ytepfcphhgmmlhaa
/-
  delta.cuts.
-/
namespace Go.Proofs.Ytepfcphhgmmlhaa
open Go.RowKit
set_option linter.unusedVariables false
set_option linter.unusedSimpArgs false
def cutAct (p : PK) : ActT := ⟨2, p, 0, false, 0⟩
/-- Has the list a route of this prefix? -/
def anyP (T : List RT) (r : RT) : Bool := T.any fun s => decide (s.1 = r.1)
def cutsL (S T : List RT) : List ActT := (S.filter fun r => !anyP T r).map fun r => cutAct r.1
theorem cutsL_len (S T : List RT) : (cutsL S T).length ≤ S.length := by unfold cutsL; rw [List.length_map]; exact List.length_filter_le _ _
theorem cuts_take {S T : List RT} {k : Nat} (hk : k < S.length) : cutsL (S.take (k + 1)) T = cutsL (S.take k) T ++ if anyP T S[k] then [] else [cutAct S[k].1] := by
  rw [cutsL, List.take_succ_eq_append_getElem hk, List.filter_append, List.map_append]
  congr 1
  cases h : anyP T S[k] <;> simp [h]
set_option maxHeartbeats 2000000 in
set_option maxRecDepth 100000 in
theorem cutF_calls (s r : RT) (b : Nat) (w : World) (b0 : w.cell? ⟨b, 0, none⟩ = some (.bool r.1.1)) (b1 : w.cell? ⟨b, 1, none⟩ = some (.int .u64 (aH r.1.2.1))) (b2 : w.cell? ⟨b, 2, none⟩ = some (.int .u64 (aL r.1.2.1))) (b3 : w.cell? ⟨b, 3, none⟩ = some (.int .i64 r.1.2.2)) (hb : b < w.heap.size) :
    Calls Try.prog 58 #[.agg #[.bool s.1.1, .int .u64 (aH s.1.2.1), .int .u64 (aL s.1.2.1), .int .i64 s.1.2.2, .int .i64 s.2], .pointer (some ⟨b, 0, none⟩)] w fun e w' => e = .returned (.bool (decide (s.1 = r.1))) ∧ Below w.heap.size w w' := by
  obtain ⟨rb, hrb⟩ : ∃ rb, decide (s.1 = r.1) = rb := ⟨_, rfl⟩
  rw [hrb]
  have hne : ¬ w.heap.size = b := by omega
  have hne2 : ¬ b = w.heap.size := by omega
  rcases pk_cases s.1 r.1 with e | e | ⟨e1, e⟩ | ⟨e1, e2, e⟩ | ⟨e1, e2, e3, e⟩
  · have H := Lib.hid (show true = rb by rw [← hrb, decide_eq_true e])
    rw [← e] at b0 b1 b2 b3
    clear e hrb
    go_enter Try.func58, Try.ntmps58
    go_wp2
    go_ret
    exact ⟨by rw [← H.out]; simp, by go_grown⟩
  all_goals
    have H := Lib.hid (show false = rb by
      rw [← hrb]
      refine (decide_eq_false fun h => ?_).symm
      rw [h] at e; simp at e)
    clear hrb
    try rw [← e1] at b0
    try rw [← e2] at b1
    try rw [← e3] at b2
    go_enter Try.func58, Try.ntmps58
    go_wp2
    go_ret
    exact ⟨by rw [← H.out]; simp, by go_grown⟩
set_option maxHeartbeats 4000000 in
set_option maxRecDepth 100000 in
theorem cuts_calls (S T : List RT) (v t : Value) (hlen : S.length ≤ 1000) (hlT : T.length ≤ 1000) (w : World) (row : RowR w v S) (rowT : RowR w t T) :
    Calls Try.prog 34 #[v, t] w fun e w' => ∃ u, e = .returned u ∧ OwnA w' w.heap.size u (cutsL S T) ∧ Below w.heap.size w w' := by
  obtain ⟨p, c, rfl, hcap, at_⟩ := row.at
  obtain ⟨n, hn⟩ : ∃ n, S.length = n := ⟨_, rfl⟩
  have HN := Lib.hid hn
  have AT := Lib.hid at_
  have RT_ := Lib.hid rowT
  obtain ⟨tp, tc, rfl⟩ := rowT.form
  rw [hn] at hlen ⊢
  obtain ⟨i0, hii, hz0, hz1, hz2⟩ := info_parts info_act
  have IN := Lib.hid (And.intro hii (And.intro hz0 (And.intro hz1 hz2)))
  clear row rowT at_ hn hii hz0 hz1 hz2
  obtain ⟨B, hB⟩ : ∃ B, w.heap.size = B := ⟨_, rfl⟩
  have HB := Lib.hid hB
  rw [hB]
  go_enter Try.func34, Try.ntmps34
  go_wp2
  go_loopw [5, 10] (fun u i wr => ∃ k : Nat, k ≤ n ∧ i = .int .i64 k ∧ Hid (OwnA wr B u (cutsL (S.take k) T)) ∧ Below B w wr ∧ B ≤ wr.heap.size) (fun _ i _ => n - (intOf i).toNat)
  case atStart => exact ⟨0, by omega, rfl, Lib.hid (World.ownsRow_nil _ _ _ _), Below.refl _ _, by omega⟩
  case round =>
    clear hB
    obtain ⟨k, hk, rfl, OD, hnk, hBs⟩ := hrel
    by_cases hlt : k < n
    · have hkl : k < S.length := by rw [HN.out]; exact hlt
      obtain ⟨g, o, rfl, hg, hrec⟩ := AT.out k hkl
      rw [HB.out] at hg
      obtain ⟨x0, x1, x2, x3, x4⟩ := routeCells (hrec.keep hnk hg)
      have HT := Lib.hid (cuts_take (T := T) hkl)
      have hcll : (cutsL (S.take k) T).length ≤ 1000 := by have := cutsL_len (S.take k) T; rw [List.length_take] at this; omega
      generalize S[k] = r at x0 x1 x2 x3 x4 HT
      obtain ⟨cl, hcl⟩ : ∃ cl, cutsL (S.take k) T = cl := ⟨_, rfl⟩
      rw [hcl] at OD HT hcll
      have hlt' : (k : Int) < (n : Int) := by omega
      have bR := (Below.refl wr.heap.size wr).alloc (Nat.le_refl _) (.cells #[.bool r.1.1, .int .u64 (aH r.1.2.1), .int .u64 (aL r.1.2.1), .int .i64 r.1.2.2, .int .i64 r.2] 53)
      have hnR := hnk.alloc hBs (.cells #[.bool r.1.1, .int .u64 (aH r.1.2.1), .int .u64 (aL r.1.2.1), .int .i64 r.1.2.2, .int .i64 r.2] 53)
      have ODR := Lib.hid (OD.out.alloc (.cells #[.bool r.1.1, .int .u64 (aH r.1.2.1), .int .u64 (aL r.1.2.1), .int .i64 r.1.2.2, .int .i64 r.2] 53))
      have RTR := Lib.hid ((RT_.out.keep (by rw [HB.out]; exact hnk)).keep bR)
      have KF : Hid (∀ c ∈ T, ∀ W, Below (wr.alloc (.cells #[.bool r.1.1, .int .u64 (aH r.1.2.1), .int .u64 (aL r.1.2.1), .int .i64 r.1.2.2, .int .i64 r.2] 53)).heap.size (wr.alloc (.cells #[.bool r.1.1, .int .u64 (aH r.1.2.1), .int .u64 (aL r.1.2.1), .int .i64 r.1.2.2, .int .i64 r.2] 53)) W → Calls Try.prog 58 (#[.agg #[.bool c.1.1, .int .u64 (aH c.1.2.1), .int .u64 (aL c.1.2.1), .int .i64 c.1.2.2, .int .i64 c.2]] ++ #[.pointer (some ⟨wr.heap.size, 0, none⟩)]) W fun e w' => e = .returned (.bool (decide (c.1 = r.1))) ∧ Below W.heap.size W w') := Lib.hid fun c _ W hW => by
        have h0 : wr.heap.size < (wr.alloc (.cells #[.bool r.1.1, .int .u64 (aH r.1.2.1), .int .u64 (aL r.1.2.1), .int .i64 r.1.2.2, .int .i64 r.2] 53)).heap.size := by simp
        exact cutF_calls c r wr.heap.size W ((hW.cell (p := ⟨wr.heap.size, 0, none⟩) h0).trans (by simp)) ((hW.cell (p := ⟨wr.heap.size, 1, none⟩) h0).trans (by simp)) ((hW.cell (p := ⟨wr.heap.size, 2, none⟩) h0).trans (by simp)) ((hW.cell (p := ⟨wr.heap.size, 3, none⟩) h0).trans (by simp)) (Nat.lt_of_lt_of_le h0 hW.size)
      have CF := Lib.hid (containsR_calls T (.slice tp T.length tc) 58 #[.pointer (some ⟨wr.heap.size, 0, none⟩)] (fun s => decide (s.1 = r.1)) (by omega) _ RTR.out (enters_of Try.func58 (by kernel_rfl) rfl) KF)
      obtain ⟨q, hq⟩ : ∃ q, anyP T r = q := ⟨_, rfl⟩
      have HQ := Lib.hid hq
      have CF2 : Hid (Calls Try.prog 57 #[.slice tp T.length tc, .func (.func 58) #[] #[.pointer (some ⟨wr.heap.size, 0, none⟩)]] (wr.alloc (.cells #[.bool r.1.1, .int .u64 (aH r.1.2.1), .int .u64 (aL r.1.2.1), .int .i64 r.1.2.2, .int .i64 r.2] 53)) fun e w' => e = .returned (.bool q) ∧ Below (wr.alloc (.cells #[.bool r.1.1, .int .u64 (aH r.1.2.1), .int .u64 (aL r.1.2.1), .int .i64 r.1.2.2, .int .i64 r.2] 53)).heap.size (wr.alloc (.cells #[.bool r.1.1, .int .u64 (aH r.1.2.1), .int .u64 (aL r.1.2.1), .int .i64 r.1.2.2, .int .i64 r.2] 53)) w') := Lib.hid (by
        have := CF.out; rw [show (T.any fun s => decide (s.1 = r.1)) = q from hq] at this; exact this)
      rw [HQ.out] at HT
      have P1 := PreAt.new wr r.1.1 (aH r.1.2.1) (aL r.1.2.1) r.1.2.2 53
      clear hcl hrec OD hnk CF KF RTR hq P1
      have y0 : (wr.alloc (.cells #[.bool r.1.1, .int .u64 (aH r.1.2.1), .int .u64 (aL r.1.2.1), .int .i64 r.1.2.2, .int .i64 r.2] 53)).cell? ⟨wr.heap.size, 0, none⟩ = some (.bool r.1.1) := by simp
      have y1 : (wr.alloc (.cells #[.bool r.1.1, .int .u64 (aH r.1.2.1), .int .u64 (aL r.1.2.1), .int .i64 r.1.2.2, .int .i64 r.2] 53)).cell? ⟨wr.heap.size, 1, none⟩ = some (.int .u64 (aH r.1.2.1)) := by simp
      have y2 : (wr.alloc (.cells #[.bool r.1.1, .int .u64 (aH r.1.2.1), .int .u64 (aL r.1.2.1), .int .i64 r.1.2.2, .int .i64 r.2] 53)).cell? ⟨wr.heap.size, 2, none⟩ = some (.int .u64 (aL r.1.2.1)) := by simp
      have y3 : (wr.alloc (.cells #[.bool r.1.1, .int .u64 (aH r.1.2.1), .int .u64 (aL r.1.2.1), .int .i64 r.1.2.2, .int .i64 r.2] 53)).cell? ⟨wr.heap.size, 3, none⟩ = some (.int .i64 r.1.2.2) := by simp
      have hb0 : wr.heap.size < (wr.alloc (.cells #[.bool r.1.1, .int .u64 (aH r.1.2.1), .int .u64 (aL r.1.2.1), .int .i64 r.1.2.2, .int .i64 r.2] 53)).heap.size := by simp
      have hsR : B ≤ (wr.alloc (.cells #[.bool r.1.1, .int .u64 (aH r.1.2.1), .int .u64 (aL r.1.2.1), .int .i64 r.1.2.2, .int .i64 r.2] 53)).heap.size := by simp; omega
      go_wp2_with fail
      refine CF2.out.mono ?_
      rintro e w1 ⟨rfl, hb1⟩
      have z0 := (hb1.cell (p := ⟨wr.heap.size, 0, none⟩) hb0).trans y0
      have z1 := (hb1.cell (p := ⟨wr.heap.size, 1, none⟩) hb0).trans y1
      have z2 := (hb1.cell (p := ⟨wr.heap.size, 2, none⟩) hb0).trans y2
      have z3 := (hb1.cell (p := ⟨wr.heap.size, 3, none⟩) hb0).trans y3
      have hs1 : B ≤ w1.heap.size := Nat.le_trans hsR hb1.size
      have hn1 : Below B w w1 := hnR.trans (hb1.mono hsR)
      have OD1 := Lib.hid (ownsKeep ODR.out hb1)
      clear CF2 x0 x1 x2 x3 x4 y0 y1 y2 y3 hb0 hsR hb1 hnR ODR bR
      cases q with
      | true =>
        have HT2 : Hid (cutsL (S.take (k + 1)) T = cl) := Lib.hid (by rw [HT.out]; simp)
        clear HT z0 z1 z2 z3
        go_wp2_with fail
        go_roundw
        case rel => exact ⟨k + 1, by omega, by go_num, Lib.hid (by rw [HT2.out]; exact OD1.out), hn1, hs1⟩
        case measure => simp [intOf]; omega
      | false =>
        have HT2 : Hid (cutsL (S.take (k + 1)) T = cl ++ [cutAct r.1]) := Lib.hid (by rw [HT.out]; simp)
        have OD3 := Lib.hid (OD1.out.alloc (.cells #[.int .i64 2, .bool r.1.1, .int .u64 (aH r.1.2.1), .int .u64 (aL r.1.2.1), .int .i64 r.1.2.2, .int .i64 0, .bool false, .int .u64 0, .int .u64 0] 55))
        have hCN : Hid (∀ j u, (acs (cutAct r.1))[j]? = some u → (w1.alloc (.cells #[.int .i64 2, .bool r.1.1, .int .u64 (aH r.1.2.1), .int .u64 (aL r.1.2.1), .int .i64 r.1.2.2, .int .i64 0, .bool false, .int .u64 0, .int .u64 0] 55)).cell? ⟨w1.heap.size, j, none⟩ = some u) := Lib.hid (by
          have := cell_new w1 (acs (cutAct r.1)) 55
          simp only [acs, cutAct, aH_zero, aL_zero] at this ⊢
          exact this)
        have hnA := hn1.alloc hs1 (.cells #[.int .i64 2, .bool r.1.1, .int .u64 (aH r.1.2.1), .int .u64 (aL r.1.2.1), .int .i64 r.1.2.2, .int .i64 0, .bool false, .int .u64 0, .int .u64 0] 55)
        clear HT OD1 hn1
        obtain ⟨hii, hz0, hz1, hz2⟩ := IN.out
        go_wp2_with (at_builtin; refine wpList_append_one rfl _ _ 22 rfl B 55 i0 _ 72 Try.underlying22 hii hz0 hz1 hz2 rfl (by decide) acs_len acs_one cl ⟨_, rfl, OD3.out⟩ (cutAct r.1) w1.heap.size 1 rfl hCN.out (by omega) (by decide) (by simp; omega) ?_; intro v2 w2 ho2 hg2 hb2)
        have hn4 := hnA.trans hb2
        have hs4 : B ≤ w2.heap.size := Nat.le_trans (by simp; omega) hb2.size
        have OD4 := Lib.hid ho2
        clear ho2 hg2 hb2 hnA OD3 hCN
        go_roundw
        case rel => exact ⟨k + 1, by omega, by go_num, Lib.hid (by rw [HT2.out]; exact OD4.out), hn4, hs4⟩
        case measure => simp [intOf]; omega
    · obtain rfl : k = n := by omega
      have e1 : S.take k = S := by rw [← HN.out]; exact List.take_length
      rw [e1] at OD
      go_wp2
      go_ret
      exact ⟨_, by simp, OD.out, hnk⟩
end Go.Proofs.Ytepfcphhgmmlhaa
/-
  slices.Index, slices.Contains of routes; delta.without.
-/
namespace Go.Proofs.Ytepfcphhgmmlhaa
open Go.RowKit
set_option linter.unusedVariables false
set_option linter.unusedSimpArgs false
theorem rt_cases (s r : RT) : s = r ∨ (s.1 ≠ r.1) ∨ (s.1 = r.1 ∧ (s.2 == r.2) = false) := by
  by_cases h : s.1 = r.1
  · by_cases h2 : s.2 = r.2
    · exact .inl (Prod.ext h h2)
    · exact .inr (.inr ⟨h, by simpa using h2⟩)
  · exact .inr (.inl h)
theorem RouteAt (w : World) (r : RT) (o : Nat) : (w.alloc (.cells #[.bool r.1.1, .int .u64 (aH r.1.2.1), .int .u64 (aL r.1.2.1), .int .i64 r.1.2.2, .int .i64 r.2] 53)).cell? ⟨w.heap.size, o, none⟩ = (rcs r)[o]? := by
  match o with
  | 0 => simp [rcs]
  | 1 => simp [rcs]
  | 2 => simp [rcs]
  | 3 => simp [rcs]
  | 4 => simp [rcs]
  | o + 5 => simp [rcs]
set_option maxHeartbeats 4000000 in
set_option maxRecDepth 100000 in
theorem indexV_calls (l : List RT) (v : Value) (q : RT) (hlen : l.length ≤ 100000) (w : World) (row : RowR w v l) :
    Calls Try.prog 78 #[v, .agg #[.bool q.1.1, .int .u64 (aH q.1.2.1), .int .u64 (aL q.1.2.1), .int .i64 q.1.2.2, .int .i64 q.2]] w fun e w' => ∃ r : Int, e = .returned (.int .i64 r) ∧ (0 ≤ r ↔ q ∈ l) ∧ Below w.heap.size w w' := by
  obtain ⟨p, c, rfl, hcap, at_⟩ := row.at
  obtain ⟨n, hn⟩ : ∃ n, l.length = n := ⟨_, rfl⟩
  have HN := Lib.hid hn
  have AT := Lib.hid at_
  rw [hn] at hlen ⊢
  clear row at_ hn
  have bA := (Below.refl w.heap.size w).alloc (Nat.le_refl _) (.cells #[.bool q.1.1, .int .u64 (aH q.1.2.1), .int .u64 (aL q.1.2.1), .int .i64 q.1.2.2, .int .i64 q.2] 53)
  have Q0 := Lib.hid (fun o => RouteAt w q o)
  go_enter Try.func78, Try.ntmps78
  go_wp2
  have hw1 : w.heap.size < (w.alloc (.cells #[.bool q.1.1, .int .u64 (aH q.1.2.1), .int .u64 (aL q.1.2.1), .int .i64 q.1.2.2, .int .i64 q.2] 53)).heap.size := by simp
  revert Q0 bA hw1
  generalize w.alloc (.cells #[.bool q.1.1, .int .u64 (aH q.1.2.1), .int .u64 (aL q.1.2.1), .int .i64 q.1.2.2, .int .i64 q.2] 53) = Y
  intro bA Q0 hw1
  have HBA := Lib.hid bA
  go_loopw [8] (fun i wr => ∃ k z : Nat, k ≤ n ∧ i = .int .i64 k ∧ wr = Y.drewN z ∧ Hid (∀ c ∈ l.take k, c ≠ q)) (fun i _ => n - (intOf i).toNat)
  case atStart => exact ⟨0, 0, by omega, rfl, rfl, Lib.hid (fun c h => by simp at h)⟩
  case round =>
    clear bA
    obtain ⟨k, z, hk, rfl, rfl, HF⟩ := hrel
    by_cases hlt : k < n
    · have hkl : k < l.length := by rw [HN.out]; exact hlt
      obtain ⟨g, o, rfl, hg, hrec⟩ := AT.out k hkl
      obtain ⟨x0, x1, x2, x3, x4⟩ := routeCells (hrec.keep HBA.out hg)
      have q0 := Q0.out 0
      have q1 := Q0.out 1
      have q2 := Q0.out 2
      have q3 := Q0.out 3
      have q4 := Q0.out 4
      simp only [rcs, List.getElem?_cons_zero, List.getElem?_cons_succ] at q0 q1 q2 q3 q4
      have HA := Lib.hid (show l[k] = q → q ∈ l from fun h => by rw [← h]; exact List.getElem_mem hkl)
      have HT := Lib.hid (show l[k] ≠ q → ∀ c ∈ l.take (k + 1), c ≠ q from fun h c hc => by
        rw [List.take_succ_eq_append_getElem hkl, List.mem_append, List.mem_singleton] at hc
        rcases hc with hc | rfl
        · exact HF.out c hc
        · exact h)
      have hlt' : (k : Int) < (n : Int) := by omega
      generalize l[k] = r at x0 x1 x2 x3 x4 HA HT
      clear hrec
      rcases rt_cases q r with e | e | ⟨e, e'⟩
      · have HM := Lib.hid (HA.out e.symm)
        subst e
        clear HA HT
        go_wp2_with fail
        go_quiet ((fail))
        go_wp2
        go_ret
        exact ⟨k, rfl, ⟨fun _ => HM.out, fun _ => by omega⟩, below_drewN (below_drewN HBA.out _) _⟩
      · have HT2 := Lib.hid (HT.out (fun h => e (by rw [h])))
        clear HA HT
        rcases pk_cases q.1 r.1 with f | f | ⟨e1, f⟩ | ⟨e1, e2, f⟩ | ⟨e1, e2, e3, f⟩
        · exact absurd f e
        all_goals
          clear e
          try rw [← e1] at x0
          try rw [← e2] at x1
          try rw [← e3] at x2
          go_wp2_with fail
          go_quiet ((fail))
          go_wp2
          go_roundw
          case rel => exact ⟨k + 1, _, by omega, by go_num, rfl, HT2⟩
          case measure => simp [intOf]; omega
      · have HT2 := Lib.hid (HT.out (fun h => by rw [h] at e'; simp at e'))
        clear HA HT
        rw [← e] at x0 x1 x2 x3
        clear e
        go_wp2_with fail
        go_quiet ((fail))
        go_wp2
        go_roundw
        case rel => exact ⟨k + 1, _, by omega, by go_num, rfl, HT2⟩
        case measure => simp [intOf]; omega
    · obtain rfl : k = n := by omega
      have e1 : l.take k = l := by rw [← HN.out]; exact List.take_length
      rw [e1] at HF
      go_wp2
      go_ret
      exact ⟨-1, rfl, ⟨fun h => by omega, fun h => absurd rfl (HF.out q h)⟩, below_drewN HBA.out _⟩
end Go.Proofs.Ytepfcphhgmmlhaa
/-
  slices.Contains of routes; delta.without.
-/
namespace Go.Proofs.Ytepfcphhgmmlhaa
open Go.RowKit
set_option linter.unusedVariables false
set_option linter.unusedSimpArgs false
set_option maxHeartbeats 2000000 in
theorem containsV_calls (l : List RT) (v : Value) (q : RT) (hlen : l.length ≤ 100000) (w : World) (row : RowR w v l) :
    Calls Try.prog 59 #[v, .agg #[.bool q.1.1, .int .u64 (aH q.1.2.1), .int .u64 (aL q.1.2.1), .int .i64 q.1.2.2, .int .i64 q.2]] w fun e w' => e = .returned (.bool (decide (q ∈ l))) ∧ Below w.heap.size w w' := by
  have bA := (Below.refl w.heap.size w).alloc (Nat.le_refl _) (.cells #[.bool q.1.1, .int .u64 (aH q.1.2.1), .int .u64 (aL q.1.2.1), .int .i64 q.1.2.2, .int .i64 q.2] 53)
  have C := Lib.hid (indexV_calls l v q hlen _ (row.keep bA))
  obtain ⟨p, c, rfl⟩ := row.form
  obtain ⟨b, hb⟩ : ∃ b, decide (q ∈ l) = b := ⟨_, rfl⟩
  have HB := Lib.hid hb
  rw [hb]
  clear row hb
  generalize l.length = n at C hlen ⊢
  go_enter Try.func59, Try.ntmps59
  go_wp2_with fail
  refine C.out.mono ?_
  rintro e w1 ⟨r, rfl, hr, hb1⟩
  have b1 := thenBelow bA hb1
  cases b with
  | true =>
    have h0 : (0 : Int) ≤ r := hr.2 (of_decide_eq_true HB.out)
    clear C hb1 bA hr
    go_wp2
    go_ret
    exact ⟨rfl, b1⟩
  | false =>
    have h0 : ¬ (0 : Int) ≤ r := fun h => of_decide_eq_false HB.out (hr.1 h)
    have h1 : decide ((0 : Int) ≤ r) = false := decide_eq_false h0
    clear C hb1 bA hr h0
    go_wp2
    go_ret
    exact ⟨rfl, b1⟩
/-- The routes of one list that the other one does not have. -/
def wiL (S T : List RT) : List RT := S.filter fun r => !decide (r ∈ T)
theorem wiL_len (S T : List RT) : (wiL S T).length ≤ S.length := List.length_filter_le _ _
theorem wi_take {S T : List RT} {k : Nat} (hk : k < S.length) : wiL (S.take (k + 1)) T = wiL (S.take k) T ++ if decide (S[k] ∈ T) then [] else [S[k]] := by
  rw [wiL, List.take_succ_eq_append_getElem hk, List.filter_append]
  congr 1
  by_cases h : S[k] ∈ T <;> simp [h]
set_option maxHeartbeats 4000000 in
set_option maxRecDepth 100000 in
theorem without_calls (S T : List RT) (v t : Value) (hlen : S.length ≤ 1000) (hlT : T.length ≤ 1000) (w : World) (row : RowR w v S) (rowT : RowR w t T) :
    Calls Try.prog 36 #[v, t] w fun e w' => ∃ u, e = .returned u ∧ OwnR w' w.heap.size u (wiL S T) ∧ Below w.heap.size w w' := by
  obtain ⟨p, c, rfl, hcap, at_⟩ := row.at
  obtain ⟨n, hn⟩ : ∃ n, S.length = n := ⟨_, rfl⟩
  have HN := Lib.hid hn
  have AT := Lib.hid at_
  have CV := Lib.hid (fun (W : World) (q : RT) (r : RowR W t T) => containsV_calls T t q (by omega) W r)
  have RT_ := Lib.hid rowT
  obtain ⟨tp, tc, rfl⟩ := rowT.form
  rw [hn] at hlen ⊢
  obtain ⟨i0, hii, hz0, hz1, hz2⟩ := info_parts info_route
  have IN := Lib.hid (And.intro hii (And.intro hz0 (And.intro hz1 hz2)))
  clear row rowT at_ hn hii hz0 hz1 hz2
  obtain ⟨B, hB⟩ : ∃ B, w.heap.size = B := ⟨_, rfl⟩
  have HB := Lib.hid hB
  rw [hB]
  go_enter Try.func36, Try.ntmps36
  go_wp2
  go_loopw [5, 10] (fun u i wr => ∃ k : Nat, k ≤ n ∧ i = .int .i64 k ∧ Hid (OwnR wr B u (wiL (S.take k) T)) ∧ Below B w wr ∧ B ≤ wr.heap.size) (fun _ i _ => n - (intOf i).toNat)
  case atStart => exact ⟨0, by omega, rfl, Lib.hid (World.ownsRow_nil _ _ _ _), Below.refl _ _, by omega⟩
  case round =>
    clear hB
    obtain ⟨k, hk, rfl, OD, hnk, hBs⟩ := hrel
    by_cases hlt : k < n
    · have hkl : k < S.length := by rw [HN.out]; exact hlt
      obtain ⟨g, o, rfl, hg, hrec⟩ := AT.out k hkl
      rw [HB.out] at hg
      obtain ⟨x0, x1, x2, x3, x4⟩ := routeCells (hrec.keep hnk hg)
      have HT := Lib.hid (wi_take (T := T) hkl)
      have hcll : (wiL (S.take k) T).length ≤ 1000 := by have := wiL_len (S.take k) T; rw [List.length_take] at this; omega
      generalize S[k] = r at x0 x1 x2 x3 x4 HT
      obtain ⟨cl, hcl⟩ : ∃ cl, wiL (S.take k) T = cl := ⟨_, rfl⟩
      rw [hcl] at OD HT hcll
      have hlt' : (k : Int) < (n : Int) := by omega
      have bR := (Below.refl wr.heap.size wr).alloc (Nat.le_refl _) (.cells #[.bool r.1.1, .int .u64 (aH r.1.2.1), .int .u64 (aL r.1.2.1), .int .i64 r.1.2.2, .int .i64 r.2] 53)
      have hnR := hnk.alloc hBs (.cells #[.bool r.1.1, .int .u64 (aH r.1.2.1), .int .u64 (aL r.1.2.1), .int .i64 r.1.2.2, .int .i64 r.2] 53)
      have ODR := Lib.hid (OD.out.alloc (.cells #[.bool r.1.1, .int .u64 (aH r.1.2.1), .int .u64 (aL r.1.2.1), .int .i64 r.1.2.2, .int .i64 r.2] 53))
      have CF := Lib.hid (CV.out _ r ((RT_.out.keep (by rw [HB.out]; exact hnk)).keep bR))
      obtain ⟨q, hq⟩ : ∃ q, decide (r ∈ T) = q := ⟨_, rfl⟩
      rw [hq] at CF HT
      clear hcl hrec OD hnk hq
      have y0 : (wr.alloc (.cells #[.bool r.1.1, .int .u64 (aH r.1.2.1), .int .u64 (aL r.1.2.1), .int .i64 r.1.2.2, .int .i64 r.2] 53)).cell? ⟨wr.heap.size, 0, none⟩ = some (.bool r.1.1) := by simp
      have y1 : (wr.alloc (.cells #[.bool r.1.1, .int .u64 (aH r.1.2.1), .int .u64 (aL r.1.2.1), .int .i64 r.1.2.2, .int .i64 r.2] 53)).cell? ⟨wr.heap.size, 1, none⟩ = some (.int .u64 (aH r.1.2.1)) := by simp
      have y2 : (wr.alloc (.cells #[.bool r.1.1, .int .u64 (aH r.1.2.1), .int .u64 (aL r.1.2.1), .int .i64 r.1.2.2, .int .i64 r.2] 53)).cell? ⟨wr.heap.size, 2, none⟩ = some (.int .u64 (aL r.1.2.1)) := by simp
      have y3 : (wr.alloc (.cells #[.bool r.1.1, .int .u64 (aH r.1.2.1), .int .u64 (aL r.1.2.1), .int .i64 r.1.2.2, .int .i64 r.2] 53)).cell? ⟨wr.heap.size, 3, none⟩ = some (.int .i64 r.1.2.2) := by simp
      have y4 : (wr.alloc (.cells #[.bool r.1.1, .int .u64 (aH r.1.2.1), .int .u64 (aL r.1.2.1), .int .i64 r.1.2.2, .int .i64 r.2] 53)).cell? ⟨wr.heap.size, 4, none⟩ = some (.int .i64 r.2) := by simp
      have hb0 : wr.heap.size < (wr.alloc (.cells #[.bool r.1.1, .int .u64 (aH r.1.2.1), .int .u64 (aL r.1.2.1), .int .i64 r.1.2.2, .int .i64 r.2] 53)).heap.size := by simp
      have hsR : B ≤ (wr.alloc (.cells #[.bool r.1.1, .int .u64 (aH r.1.2.1), .int .u64 (aL r.1.2.1), .int .i64 r.1.2.2, .int .i64 r.2] 53)).heap.size := by simp; omega
      go_wp2_with fail
      refine CF.out.mono ?_
      rintro e w1 ⟨rfl, hb1⟩
      have z0 := (hb1.cell (p := ⟨wr.heap.size, 0, none⟩) hb0).trans y0
      have z1 := (hb1.cell (p := ⟨wr.heap.size, 1, none⟩) hb0).trans y1
      have z2 := (hb1.cell (p := ⟨wr.heap.size, 2, none⟩) hb0).trans y2
      have z3 := (hb1.cell (p := ⟨wr.heap.size, 3, none⟩) hb0).trans y3
      have z4 := (hb1.cell (p := ⟨wr.heap.size, 4, none⟩) hb0).trans y4
      have hs1 : B ≤ w1.heap.size := Nat.le_trans hsR hb1.size
      have hn1 : Below B w w1 := hnR.trans (hb1.mono hsR)
      have OD1 := Lib.hid (ownsKeep ODR.out hb1)
      clear CF x0 x1 x2 x3 x4 y0 y1 y2 y3 y4 hb0 hsR hb1 hnR ODR bR
      cases q with
      | true =>
        have HT2 : Hid (wiL (S.take (k + 1)) T = cl) := Lib.hid (by rw [HT.out]; simp)
        clear HT z0 z1 z2 z3 z4
        go_wp2_with fail
        go_roundw
        case rel => exact ⟨k + 1, by omega, by go_num, Lib.hid (by rw [HT2.out]; exact OD1.out), hn1, hs1⟩
        case measure => simp [intOf]; omega
      | false =>
        have HT2 : Hid (wiL (S.take (k + 1)) T = cl ++ [r]) := Lib.hid (by rw [HT.out]; simp)
        have OD3 := Lib.hid (OD1.out.alloc (.cells #[.bool r.1.1, .int .u64 (aH r.1.2.1), .int .u64 (aL r.1.2.1), .int .i64 r.1.2.2, .int .i64 r.2] 53))
        have hCN := Lib.hid (cell_new w1 (rcs r) 53)
        have hnA := hn1.alloc hs1 (.cells #[.bool r.1.1, .int .u64 (aH r.1.2.1), .int .u64 (aL r.1.2.1), .int .i64 r.1.2.2, .int .i64 r.2] 53)
        clear HT OD1 hn1
        obtain ⟨hii, hz0, hz1, hz2⟩ := IN.out
        go_wp2_with (at_builtin; refine wpList_append_one rfl _ _ 27 rfl B 53 i0 _ 40 Try.underlying27 hii hz0 hz1 hz2 rfl (by decide) rcs_len rcs_one cl ⟨_, rfl, OD3.out⟩ r w1.heap.size 1 rfl hCN.out (by omega) (by decide) (by simp; omega) ?_; intro v2 w2 ho2 hg2 hb2)
        have hn4 := hnA.trans hb2
        have hs4 : B ≤ w2.heap.size := Nat.le_trans (by simp; omega) hb2.size
        have OD4 := Lib.hid ho2
        clear ho2 hg2 hb2 hnA OD3 hCN
        go_roundw
        case rel => exact ⟨k + 1, by omega, by go_num, Lib.hid (by rw [HT2.out]; exact OD4.out), hn4, hs4⟩
        case measure => simp [intOf]; omega
    · obtain rfl : k = n := by omega
      have e1 : S.take k = S := by rw [← HN.out]; exact List.take_length
      rw [e1] at OD
      go_wp2
      go_ret
      exact ⟨_, by simp, OD.out, hnk⟩
end Go.Proofs.Ytepfcphhgmmlhaa
/-
  append(x, y...) of a row of one's own and any slice of records that can be read.
-/
namespace Go.Proofs.Ytepfcphhgmmlhaa
open Go.RowKit
set_option linter.unusedVariables false
set_option linter.unusedSimpArgs false
section
variable {P : Program} {w : World} {α : Type} {f : α → List Value} {k : Nat}
theorem run_append_row (base : Nat) (t ty e : TypeId) (i : TypeInfo) (z : Value) (bytes : Nat) (ht : P.underlying t = some (.slice e)) (hi : P.info? e = some i) (hz : i.zero = some z) (hsize : i.size = k) (hby : i.bytes = bytes) (hzs : z.cells.size = k) (hsz : 0 < k)
    (hf : ∀ a, (f a).length = k) (h1 : ∀ a, ∀ u ∈ f a, u.oneCell' = true) (s : Value) (n : Nat) (xs : List Value) (hown : w.ownsRow base e k s n xs) (v : Value) (l : List α) (row : RowK f k w v l) (hp : ∃ a m c, v = .slice (some a) m c) (hbytes : (n + l.length) * bytes ≤ 140737488355328) (h63 : n + l.length ≤ maxLen) (hbase : base ≤ w.heap.size) :
    ∃ v' w', (Builtin.append_ #[t, t] ty #[s, v]).run P w = .ok v' w' ∧ w'.ownsRow base e k v' (n + l.length) (xs ++ rowOf f l) ∧ Below base w w' := by
  rcases row with ⟨rfl, p, c, rfl⟩ | ⟨g, o, c, rfl, hg, _, hc⟩
  · cases p with
    | none => obtain ⟨a, m, c', e⟩ := hp; cases e
    | some a =>
      obtain ⟨v', w', h, ho, hgr, _⟩ := run_append_own (P := P) w base t ty e i z k bytes ht hi hz hsize hby hzs hsz s n xs hown a 0 c [] (by simp) (fun j u hj => (by simp at hj)) (fun u hu => (by cases hu)) (by simpa using h63) (by simpa using hbytes) hbase
      exact ⟨v', w', h, by simpa [rowOf] using ho, below_grown hown hgr hbase⟩
  · obtain ⟨v', w', h, ho, hgr, _⟩ := run_append_own (P := P) w base t ty e i z k bytes ht hi hz hsize hby hzs hsz s n xs hown ⟨g, o, none⟩ l.length c (rowOf f l) (rowOf_len f k hf l) (fun j u hj => by
        rw [Addr.add_lit]
        have hjl : j < l.length * k := by
          have := (List.getElem?_eq_some_iff.1 hj).1
          rwa [rowOf_len f k hf] at this
        have hdm := Nat.div_add_mod' j k
        have hml := Nat.mod_lt j hsz
        have hdl : j / k < l.length := (Nat.div_lt_iff_lt_mul hsz).2 hjl
        have hj2 : (f l[j / k])[j % k]? = some u := by rw [← rowOf_at f k hf l (j / k) hdl (j % k) hml, hdm]; exact hj
        have := hc (j / k) hdl (j % k) u hj2
        rw [show o + j = o + j / k * k + j % k by omega]
        exact this) (rowOf_one f h1 l) (by simpa using h63) (by simpa using hbytes) hbase
    exact ⟨v', w', h, by simpa using ho, below_grown hown hgr hbase⟩
theorem wp_append_row {o : Oper} {a : Act} {K : Act → World → Prop} {Q : Exit → Act → World → Prop} (s x : Operand) (t : TypeId)
    (ho : o.op = .call { callee := .builtin .append, args := #[s, x], argTypes := #[t, t] }) (base : Nat) (e : TypeId) (i : TypeInfo) (z : Value) (bytes : Nat) (ht : P.underlying t = some (.slice e)) (hi : P.info? e = some i) (hz : i.zero = some z) (hsize : i.size = k) (hby : i.bytes = bytes) (hzs : z.cells.size = k) (hsz : 0 < k)
    (hf : ∀ a, (f a).length = k) (h1 : ∀ a, ∀ u ∈ f a, u.oneCell' = true) (sv : Value) (n : Nat) (xs : List Value) (hs : a.eval s = sv) (hown : w.ownsRow base e k sv n xs) (v : Value) (l : List α) (hx : a.eval x = v) (row : RowK f k w v l) (hp : ∃ a m c, v = .slice (some a) m c) (hbytes : (n + l.length) * bytes ≤ 140737488355328) (h63 : n + l.length ≤ maxLen) (hbase : base ≤ w.heap.size)
    (h : ∀ v' w', w'.ownsRow base e k v' (n + l.length) (xs ++ rowOf f l) → Below base w w' → K (a.put o.dst v') w') : o.wp P a w K Q := by
  obtain ⟨v', w', hr, h2, h3⟩ := run_append_row (P := P) base t o.type e i z bytes ht hi hz hsize hby hzs hsz hf h1 sv n xs hown v l row hp hbytes h63 hbase
  unfold Oper.wp execOp
  simp only [ho, resolve, invoke, builtin, Sem.run_bind, Sem.run_pure, Result.andThen_ok, List.map_toArray, List.map_cons, List.map_nil, hs, hx, hr]
  exact h v' w' h2 h3
theorem step_append_row {ops : Array Oper} {o : Oper} {a : Act} {K : Act → World → Prop} {Q : Exit → Act → World → Prop} {E : Prop} (hgd : o.guard = none) (s x : Operand) (t : TypeId)
    (ho : o.op = .call { callee := .builtin .append, args := #[s, x], argTypes := #[t, t] }) (base : Nat) (e : TypeId) (i : TypeInfo) (z : Value) (bytes : Nat) (ht : P.underlying t = some (.slice e)) (hi : P.info? e = some i) (hz : i.zero = some z) (hsize : i.size = k) (hby : i.bytes = bytes) (hzs : z.cells.size = k) (hsz : 0 < k)
    (hf : ∀ a, (f a).length = k) (h1 : ∀ a, ∀ u ∈ f a, u.oneCell' = true) (sv : Value) (n : Nat) (xs : List Value) (hs : a.eval s = sv) (hown : w.ownsRow base e k sv n xs) (v : Value) (l : List α) (hx : a.eval x = v) (row : RowK f k w v l) (hp : ∃ a m c, v = .slice (some a) m c) (hbytes : (n + l.length) * bytes ≤ 140737488355328) (h63 : n + l.length ≤ maxLen) (hbase : base ≤ w.heap.size)
    (h : ∀ v' w', w'.ownsRow base e k v' (n + l.length) (xs ++ rowOf f l) → Below base w w' → K (a.put o.dst v') w') :
    if Region.wanted o (yielded ops a.tmps) = true then Oper.wp P o a w K Q else E := by
  have hw : Region.wanted o (yielded ops a.tmps) = true := by simp [Region.wanted, hgd]
  rw [if_pos hw]
  exact wp_append_row s x t ho base e i z bytes ht hi hz hsize hby hzs hsz hf h1 sv n xs hs hown v l hx row hp hbytes h63 hbase h
/-- The part of a slice of records from i to j. -/
theorem RowK.part {g o c : Nat} {l : List α} (hrow : RowK f k w (.slice (some ⟨g, o, none⟩) l.length c) l) (hne : l ≠ []) (i j : Nat) (hij : i ≤ j) (hj : j ≤ l.length) (hc : l.length ≤ c) : RowK f k w (.slice (some ⟨g, o + i * k, none⟩) (j - i) (c - i)) ((l.take j).drop i) := by
  rcases hrow with ⟨e, _⟩ | ⟨g', o', c', e, hg, hcc, hr⟩
  · exact absurd e hne
  · cases e
    refine .inr ⟨g, o + i * k, c - i, by rw [List.length_drop, List.length_take, Nat.min_eq_left hj], hg, by rw [List.length_drop, List.length_take]; omega, fun t ht => ?_⟩
    rw [List.length_drop, List.length_take] at ht
    have : ((l.take j).drop i)[t]'(by rw [List.length_drop, List.length_take]; exact ht) = l[i + t]'(by omega) := by rw [List.getElem_drop, List.getElem_take]
    rw [this, Nat.add_assoc, ← Nat.add_mul]
    exact hr (i + t) (by omega)
end
end Go.Proofs.Ytepfcphhgmmlhaa
/-
  slices.Grow of nil and slices.Concat of two slices of routes.
-/
namespace Go.Proofs.Ytepfcphhgmmlhaa
open Go.RowKit
set_option linter.unusedVariables false
set_option linter.unusedSimpArgs false
section
variable {P : Program} {w : World} {α : Type} {f : α → List Value} {k : Nat}
theorem run_append_any (base : Nat) (t ty e : TypeId) (i : TypeInfo) (z : Value) (bytes : Nat) (ht : P.underlying t = some (.slice e)) (hi : P.info? e = some i) (hz : i.zero = some z) (hsize : i.size = k) (hby : i.bytes = bytes) (hzs : z.cells.size = k) (hsz : 0 < k)
    (hf : ∀ a, (f a).length = k) (h1 : ∀ a, ∀ u ∈ f a, u.oneCell' = true) (s : Value) (n : Nat) (xs : List Value) (hown : w.ownsRow base e k s n xs) (v : Value) (l : List α) (row : RowK f k w v l) (hbytes : (n + l.length) * bytes ≤ 140737488355328) (h63 : n + l.length ≤ maxLen) (hbase : base ≤ w.heap.size) :
    ∃ v' w', (Builtin.append_ #[t, t] ty #[s, v]).run P w = .ok v' w' ∧ w'.ownsRow base e k v' (n + l.length) (xs ++ rowOf f l) ∧ Below base w w' := by
  by_cases hp : ∃ a m c, v = .slice (some a) m c
  · exact run_append_row base t ty e i z bytes ht hi hz hsize hby hzs hsz hf h1 s n xs hown v l row hp hbytes h63 hbase
  · rcases row with ⟨rfl, p, c, rfl⟩ | ⟨g, o, c, rfl, _⟩
    · cases p with
      | none =>
        refine ⟨s, w, ?_, by simpa [rowOf] using hown, Below.refl _ _⟩
        rcases hown.2 with ⟨hv, h0⟩ | ⟨g, cap, cur, hv, hb, hg, h1', h2, h3, h4⟩
        · rw [hv]
          simp [Builtin.append_, run_underlying ht, sizeOf, typeInfo, hi, Builtin.lenOf, Builtin.firstCells, loadCells, loadCellsFrom]
        · rw [hv]
          simp [Builtin.append_, run_underlying ht, sizeOf, typeInfo, hi, Builtin.lenOf, Builtin.firstCells, loadCells, loadCellsFrom, h1', storeCells]
      | some a => exact absurd ⟨_, _, _, rfl⟩ hp
    · exact absurd ⟨_, _, _, rfl⟩ hp
theorem wpList_append_any {ops : Array Oper} {rest : List Oper} {o : Oper} {a : Act} {Q : Exit → Act → World → Prop} (hgd : o.guard = none) (s x : Operand) (t : TypeId)
    (ho : o.op = .call { callee := .builtin .append, args := #[s, x], argTypes := #[t, t] }) (base : Nat) (e : TypeId) (i : TypeInfo) (z : Value) (bytes : Nat) (ht : P.underlying t = some (.slice e)) (hi : P.info? e = some i) (hz : i.zero = some z) (hsize : i.size = k) (hby : i.bytes = bytes) (hzs : z.cells.size = k) (hsz : 0 < k)
    (hf : ∀ a, (f a).length = k) (h1 : ∀ a, ∀ u ∈ f a, u.oneCell' = true) (sv : Value) (n : Nat) (xs : List Value) (hs : a.eval s = sv) (hown : w.ownsRow base e k sv n xs) (v : Value) (l : List α) (hx : a.eval x = v) (row : RowK f k w v l) (hbytes : (n + l.length) * bytes ≤ 140737488355328) (h63 : n + l.length ≤ maxLen) (hbase : base ≤ w.heap.size)
    (h : ∀ v' w', w'.ownsRow base e k v' (n + l.length) (xs ++ rowOf f l) → Below base w w' → wpList P ops Q rest (a.put o.dst v') w') : wpList P ops Q (o :: rest) a w :=
  wpList_plain hgd fun _ hK => by
    obtain ⟨v', w', hr, h2, h3⟩ := run_append_any (P := P) base t o.type e i z bytes ht hi hz hsize hby hzs hsz hf h1 sv n xs hown v l row hbytes h63 hbase
    unfold Oper.wp execOp
    simp only [ho, resolve, invoke, builtin, Sem.run_bind, Sem.run_pure, Result.andThen_ok, List.map_toArray, List.map_cons, List.map_nil, hs, hx, hr]
    exact hK _ _ (h v' w' h2 h3)
end
set_option maxHeartbeats 1000000 in
theorem growR_calls (n : Nat) (hn : n ≤ 1000) (w : World) :
    Calls Try.prog 66 #[.slice none 0 0, .int .i64 n] w fun e w' => ∃ v, e = .returned v ∧ w'.ownsRow w.heap.size 53 5 v 0 [] ∧ Below w.heap.size w w' := by
  obtain ⟨i0, hii, hz0, hz1, hz2⟩ := info_parts info_route
  by_cases h0 : n = 0
  · subst h0
    go_enter Try.func66, Try.ntmps66
    go_wp2
    go_returns
    exact ⟨_, rfl, World.ownsRow_nil _ _ _ _, Below.refl _ _⟩
  · have hpos : 0 < n := by omega
    have hp1 : (0 : Int) < (n : Int) := by omega
    have hp2 : ¬ (n : Int) < 0 := by omega
    have R := Lib.hid (fun (W : World) => Go.Lib.run_append_nil_zeros (P := Try.prog) W 27 3 27 53 i0 _ .i64 .i64 Try.underlying27 Try.underlying3 hii hz0 n hpos (by rw [hz1]; decide) (by omega) (by rw [hz2]; omega))
    have c1 := grownCap_ge w n 0 53
    have c2 := grownCap_le_maxLen w n 0 53 (by unfold maxLen; omega)
    obtain ⟨cap, hcap⟩ : ∃ cap, grownCap w n 0 53 = cap := ⟨_, rfl⟩
    have R1 := R.out w
    rw [hcap] at R1 c1 c2
    have hc3 : (0 : Int) ≤ (cap : Int) := by omega
    clear R hcap
    go_enter Try.func66, Try.ntmps66
    go_wp2_with (at_builtin; refine Go.Lib.wpList_append_run _ rfl _ _ _ _ rfl _ _ rfl rfl _ _ R1 ?_)
    go_returns
    refine ⟨_, rfl, ⟨rfl, .inr ⟨w.heap.size, cap, _, rfl, Nat.le_refl _, _root_.Go.heap_alloc_new w.drew _, Nat.zero_le _, c2, ?_, by simp⟩⟩, ((Below.refl _ w).drew).alloc (Nat.le_refl _) _⟩
    rw [Array.size_append, size_zeroCells, size_zeroCells, ← Nat.add_mul]
    simp
    omega
end Go.Proofs.Ytepfcphhgmmlhaa
/-
  delta.Diff.
-/
namespace Go.Proofs.Ytepfcphhgmmlhaa
open Go.RowKit
set_option linter.unusedVariables false
set_option linter.unusedSimpArgs false
/-- The acts that make one sorted table of another one. -/
def difL (S T : List RT) : List ActT := cutsL S T ++ putsL (wiL T S)
def dfE (l m : List RT) : Int := if tabE l = 0 then tabE m else tabE l
def dfL (l m : List RT) : List ActT := if dfE l m = 0 then difL (srt l) (srt m) else []
set_option maxHeartbeats 4000000 in
set_option maxRecDepth 100000 in
theorem diff_calls (l m : List RT) (v t : Value) (ll : l.length ≤ 9223372036854775807) (lm : m.length ≤ 9223372036854775807) (wl : WordsR l) (wm : WordsR m) (w : World) (r1 : RowR w v l) (r2 : RowR w t m) :
    Calls Try.prog 17 #[v, t] w fun e w' => ∃ u, e = .returned (.tuple #[u, .int .i64 (dfE l m)]) ∧ OwnA w' w.heap.size u (dfL l m) ∧ Below w.heap.size w w' := by
  have C1 := Lib.hid (sorted_calls l v ll wl w r1)
  have C2 := Lib.hid (fun (W : World) (r : RowR W t m) => sorted_calls m t lm wm W r)
  have R2 := Lib.hid r2
  obtain ⟨i0, hii, hz0, hz1, hz2⟩ := info_parts info_act
  have IN := Lib.hid (And.intro hii (And.intro hz0 (And.intro hz1 hz2)))
  obtain ⟨p1, c1, rfl⟩ := r1.form
  obtain ⟨p2, c2, rfl⟩ := r2.form
  clear r1 r2 hii hz0 hz1 hz2
  by_cases h1 : tabE l = 0
  · by_cases h2 : tabE m = 0
    · have E := Lib.hid (show dfE l m = 0 ∧ dfL l m = difL (srt l) (srt m) by
        have : dfE l m = 0 := by rw [dfE, if_pos h1, h2]
        exact ⟨this, by rw [dfL, if_pos this]⟩)
      have s1 := (srt_inv h1).size
      have s2 := (srt_inv h2).size
      rw [show sorL l = srt l by rw [sorL, if_pos h1], h1] at C1
      rw [show sorL m = srt m by rw [sorL, if_pos h2], h2] at C2
      generalize srt l = S at C1 E s1
      generalize srt m = T at C2 E s2
      have CU := Lib.hid (fun (W : World) (u1 u2 : Value) (r1 : RowR W u1 S) (r2 : RowR W u2 T) => cuts_calls S T u1 u2 (by omega) (by omega) W r1 r2)
      have WI := Lib.hid (fun (W : World) (u1 u2 : Value) (r1 : RowR W u1 T) (r2 : RowR W u2 S) => without_calls T S u1 u2 (by omega) (by omega) W r1 r2)
      have hwl := wiL_len T S
      have hcl := cutsL_len S T
      have PU := Lib.hid (fun (W : World) (u : Value) (r : RowR W u (wiL T S)) => puts_calls (wiL T S) u (by omega) W r)
      rw [E.out.1]
      clear h1 h2
      go_enter Try.func17, Try.ntmps17
      go_wp2_with fail
      refine C1.out.mono ?_
      rintro e w1 ⟨u1, rfl, ho1, hb1⟩
      have R2' := Lib.hid (R2.out.keep hb1)
      have O1 := Lib.hid ho1
      clear C1 R2 ho1
      go_wp2_with fail
      refine (C2.out _ R2'.out).mono ?_
      rintro e w2 ⟨u2, rfl, ho2, hb2⟩
      have b2 := thenBelow hb1 hb2
      have O1' := Lib.hid (ownsKeep O1.out hb2)
      have O2 := Lib.hid (ownsLow ho2 hb1.size)
      clear C2 R2' ho2 hb2 hb1 O1
      go_wp2_with fail
      refine (CU.out _ _ _ (OwnR.row O1'.out) (OwnR.row O2.out)).mono ?_
      rintro e w3 ⟨u3, rfl, ho3, hb3⟩
      have b3 := thenBelow b2 hb3
      have O13 := Lib.hid (ownsKeep O1'.out hb3)
      have O23 := Lib.hid (ownsKeep O2.out hb3)
      have O3 := Lib.hid (ownsLow ho3 b2.size)
      clear CU ho3 hb3 b2 O1' O2
      go_wp2_with fail
      refine (WI.out _ _ _ (OwnR.row O23.out) (OwnR.row O13.out)).mono ?_
      rintro e w4 ⟨u4, rfl, ho4, hb4⟩
      have b4 := thenBelow b3 hb4
      have O34 := Lib.hid (ownsKeep O3.out hb4)
      have R4 := Lib.hid (OwnR.row ho4)
      clear WI ho4 hb4 b3 O13 O23 O3
      go_wp2_with fail
      refine (PU.out _ _ R4.out).mono ?_
      rintro e w5 ⟨u5, rfl, ho5, hb5⟩
      have b5 := thenBelow b4 hb5
      have O35 := Lib.hid (ownsKeep O34.out hb5)
      have R5 := Lib.hid (OwnA.row ho5)
      have hpl := putsL_len (wiL T S)
      clear PU ho5 hb5 b4 O34 R4
      obtain ⟨hii, hz0, hz1, hz2⟩ := IN.out
      obtain ⟨X, hX⟩ : ∃ X, cutsL S T = X := ⟨_, rfl⟩
      obtain ⟨Y, hY⟩ : ∃ Y, putsL (wiL T S) = Y := ⟨_, rfl⟩
      rw [hX] at O35 hcl
      rw [hY] at R5 hpl
      have HXY := Lib.hid (show dfL l m = X ++ Y by rw [E.out.2, difL, hX, hY])
      clear hX hY E
      have hXl : X.length ≤ 60 := by omega
      have hYl : Y.length ≤ 60 := by omega
      have hby : (X.length + Y.length) * 72 ≤ 140737488355328 := by omega
      have h63 : X.length + Y.length ≤ maxLen := by unfold maxLen; omega
      have hbs := b5.size
      go_wp2_with (at_builtin; refine wpList_append_any rfl _ _ 22 rfl w.heap.size 55 i0 _ 72 Try.underlying22 hii hz0 hz1 hz2 rfl (by decide) acs_len acs_one _ X.length (rowOf acs X) rfl O35.out _ Y rfl R5.out hby h63 hbs ?_; intro v6 w6 ho6 hb6)
      have b6 := b5.trans hb6
      have O6 : Hid (OwnA w6 w.heap.size v6 (X ++ Y)) := Lib.hid (by unfold OwnA; rw [List.length_append, rowOf_app]; exact ho6)
      clear ho6 hb6
      go_wp2
      go_ret2
      exact ⟨v6, by simp, by rw [HXY.out]; exact O6.out, b6⟩
    · have E := Lib.hid (show dfE l m = tabE m ∧ dfL l m = [] by
        have : dfE l m = tabE m := by rw [dfE, if_pos h1]
        exact ⟨this, by rw [dfL, this, if_neg h2]⟩)
      rw [E.out.1]
      rw [h1] at C1
      generalize tabE m = t at C2 h2 ⊢
      have hz1 : (t == 0) = false := by simpa using h2
      have hz2 : (t != 0) = true := by simp [bne, hz1]
      clear h1
      go_enter Try.func17, Try.ntmps17
      go_wp2_with fail
      refine C1.out.mono ?_
      rintro e w1 ⟨u1, rfl, ho1, hb1⟩
      have R2' := Lib.hid (R2.out.keep hb1)
      clear C1 R2 ho1
      go_wp2_with fail
      refine (C2.out _ R2'.out).mono ?_
      rintro e w2 ⟨u2, rfl, ho2, hb2⟩
      have b2 := thenBelow hb1 hb2
      clear C2 R2' ho2 hb2 hb1
      go_wp2
      go_ret2
      exact ⟨.slice none 0 0, by simp, by rw [E.out.2]; exact World.ownsRow_nil _ _ _ _, b2⟩
  · have E := Lib.hid (show dfE l m = tabE l ∧ dfL l m = [] by
      have : dfE l m = tabE l := by rw [dfE, if_neg h1]
      exact ⟨this, by rw [dfL, this, if_neg h1]⟩)
    rw [E.out.1]
    generalize tabE l = t at C1 h1 ⊢
    have hz1 : (t == 0) = false := by simpa using h1
    have hz2 : (t != 0) = true := by simp [bne, hz1]
    go_enter Try.func17, Try.ntmps17
    go_wp2_with fail
    refine C1.out.mono ?_
    rintro e w1 ⟨u1, rfl, ho1, hb1⟩
    clear C1 C2
    go_wp2
    go_ret2
    exact ⟨.slice none 0 0, by simp, by rw [E.out.2]; exact World.ownsRow_nil _ _ _ _, hb1⟩
end Go.Proofs.Ytepfcphhgmmlhaa
