/-
  table.matches: the routes whose prefixes contain an address, one by one.
-/
import Derived.Test.YtepfcphhgmmlhaaTabG
import Derived.Test.YtepfcphhgmmlhaaPreHasC
import Derived.RangeFuncNested
import Derived.RangeFuncBound
import Derived.RangeFuncCalls
import Derived.RangeFuncLeaves
import Derived.Shelf.Abstract
import Derived.Shelf.RegionOpen
import Derived.WalkKit
import Derived.OwnWalkIn
import Derived.TacticsInMore
import Derived.LoopNIn
import Derived.LoopIn
namespace Go.Proofs.Ytepfcphhgmmlhaa
open Go.RowKit Go.Shelf
set_option linter.unusedVariables false
set_option linter.unusedSimpArgs false
attribute [local go_sem] Oper.semAt_some

/-- The prefix of a route contains an address. -/
def mB (s : Bool) (y : Nat) (r : RT) : Bool := (r.1.1 == s) && decide (lowN y (wideN s - r.1.2.2.toNat) = r.1.2.1)
theorem hasM_calls (r : RT) (s : Bool) (y : Nat) (hc : chkE r.1.1 r.1.2.1 r.1.2.2 = 0) (hy : y < 2 ^ wideN s) (w : World) :
    Calls Try.prog 115 #[.agg #[.bool r.1.1, .int .u64 (aH r.1.2.1), .int .u64 (aL r.1.2.1), .int .i64 r.1.2.2], .agg #[.bool s, .int .u64 (aH y), .int .u64 (aL y)]] w fun e w' => (∃ E : Int, e = .returned (.tuple #[.bool (mB s y r), .int .i64 E])) ∧ Below w.heap.size w w' := by
  obtain ⟨⟨t, x, n⟩, h⟩ := r
  obtain ⟨hx, k, rfl, hk, hl⟩ := chk0 hc
  simp only at hx hk hl hc ⊢
  by_cases e : t = s
  · subst e
    refine (has_ok t x y k _ _ (lt128 hx) (lt128 hy) hc hk hy rfl rfl w).mono ?_
    rintro e w' ⟨rfl, hb⟩
    exact ⟨⟨0, by simp [mB]⟩, hb⟩
  · have hne : (!t == s) = true := by cases t <;> cases s <;> simp_all
    refine (has_fam t s x y k hne (lt128 hx) (lt128 hy) hc hy w).mono ?_
    rintro e w' ⟨rfl, hb⟩
    exact ⟨⟨6, by rw [show mB s y ((t, x, (k : Int)), h) = false by simp [mB, e]]⟩, hb⟩
/-- What a round of a loop over the matches leaves: all blocks below M but A. -/
def KpA (M A : Nat) (W W' : World) : Prop := W.heap.size ≤ W'.heap.size ∧ ∀ k, k < M → k ≠ A → W'.heap[k]? = W.heap[k]?
theorem KpA.trans {M A : Nat} {X Y Z : World} (h : KpA M A X Y) (g : KpA M A Y Z) : KpA M A X Z := ⟨Nat.le_trans h.1 g.1, fun k hk hn => (g.2 k hk hn).trans (h.2 k hk hn)⟩
theorem KpA.below {M A n : Nat} {X Y : World} (h : Below n X Y) (hM : M ≤ n) : KpA M A X Y := ⟨h.size, fun k hk _ => h.block k (Nat.lt_of_lt_of_le hk hM)⟩
theorem KpA.cell {M A : Nat} {X Y : World} (h : KpA M A X Y) {p : Addr} (hp : p.block < M) (hA : p.block ≠ A) : Y.cell? p = X.cell? p := World.cell?_of_block (h.2 p.block hp hA)
theorem KpA.rec {M A g o : Nat} {X Y : World} {cs : List Value} (h : KpA M A X Y) (hg : g < M) (hA : g ≠ A) (r : RecAt X g o cs) : RecAt Y g o cs := fun j u hj => (h.cell (p := ⟨g, o + j, none⟩) hg hA).trans (r j u hj)
theorem below_grownNone {X Y : World} (h : Below X.heap.size X Y) : X.grownBy Y none := ⟨h.os, h.tape, h.output, h.size, fun k hk _ => h.block k hk⟩
abbrev encR (r : RT) : Array Value := #[.agg #[.bool r.1.1, .int .u64 (aH r.1.2.1), .int .u64 (aL r.1.2.1), .int .i64 r.1.2.2, .int .i64 r.2]]
set_option maxRecDepth 100000 in
set_option maxHeartbeats 4000000 in
theorem matches1_in (n : Nat) (l M A Bt Ba b : Nat) (v : Value) (L : List RT) (s : Bool) (y : Nat) (J Jx : List RT → World → Prop)
    (hY : ∀ pre x W, J pre W → pre.length < L.length → YieldAt Fence.wide (n - 1) Try.prog l (encR x) W fun e W' => (e = .returned (.bool true) ∧ J (pre ++ [x]) W' ∧ KpA M A W W') ∨ (e = .returned (.bool false) ∧ Jx (pre ++ [x]) W'))
    (W : World) (hJ : AbidesFrom W.heap.size J) (hM : M ≤ W.heap.size) (hv : ∀ r ∈ L, chkE r.1.1 r.1.2.1 r.1.2.2 = 0) (hy : y < 2 ^ wideN s) (hlen : L.length ≤ 1000)
    (hBt : Bt < M ∧ Bt ≠ A) (hBa : Ba < M ∧ Ba ≠ A) (hb : b < M ∧ b ≠ A) (cT : W.cell? ⟨Bt, 0, none⟩ = some (.pointer (some ⟨b, 0, none⟩))) (cA : AddrAt W Ba s (aH y) (aL y)) (cV : W.cell? ⟨b, 0, none⟩ = some v)
    (row : RowR W v L) (hrow : ∀ g o c, v = .slice (some ⟨g, o, none⟩) L.length c → L ≠ [] → g < M ∧ g ≠ A) (h0 : J [] W) :
    CallsIn Fence.wide n Try.prog 114 #[.func (.yield l) #[] #[], .pointer (some ⟨Bt, 0, none⟩), .pointer (some ⟨Ba, 0, none⟩)] W fun e W' => (∃ v, e = .returned v) ∧
      ((∃ ys, ys = L.filter (mB s y) ∧ J ys W') ∨ (∃ pre, True ∧ Jx pre W')) := by
  obtain ⟨p, c, rfl, hcap, at_⟩ := row.at
  obtain ⟨N, hN⟩ : ∃ N, L.length = N := ⟨_, rfl⟩
  have HN := Lib.hid hN
  have AT : Hid (∀ i (hi : i < L.length), ∃ g o, p = some ⟨g, o, none⟩ ∧ g < M ∧ g ≠ A ∧ RecAt W g (o + i * 5) (rcs L[i])) := Lib.hid fun i hi => by
    obtain ⟨g, o, rfl, _, hr⟩ := at_ i hi
    obtain ⟨h1, h2⟩ := hrow g o c rfl (fun e => by rw [e] at hi; simp at hi)
    exact ⟨g, o, rfl, h1, h2, hr⟩
  have HV := Lib.hid hv
  have HY := Lib.hid hY
  have HJ := Lib.hid hJ
  have CA := Lib.hid cA
  rw [hN] at hlen cV
  rw [hN] at hrow
  clear hrow row at_ hv hY hJ cA hN
  refine callsIn_of_wp Try.func114 rfl trivial ?_ rfl
  simp only [Try.ntmps114, List.size_toArray, List.length_cons, List.length_nil, Nat.reduceAdd, Nat.reduceSub, Array.replicate_succ, Array.replicate_zero, List.push_toArray, List.append_toArray, List.nil_append, List.cons_append]
  gi_wp2
  gi_loopw [13] (fun i wr => ∃ k : Nat, k ≤ N ∧ i = .int .i64 k ∧ Hid (J ((L.take k).filter (mB s y)) wr) ∧ KpA M A W wr ∧ W.heap.size ≤ wr.heap.size) (fun i _ => N - (intOf i).toNat)
  case atStart => exact ⟨0, by omega, rfl, Lib.hid h0, ⟨Nat.le_refl _, fun _ _ _ => rfl⟩, Nat.le_refl _⟩
  case round =>
    obtain ⟨k, hk, rfl, JS, hkp, hsz⟩ := hrel
    by_cases hlt : k < N
    · have hkl : k < L.length := by rw [HN.out]; exact hlt
      obtain ⟨g, o, rfl, hgM, hgA, hrec⟩ := AT.out k hkl
      obtain ⟨x0, x1, x2, x3, x4⟩ := routeCells (hkp.rec hgM hgA hrec)
      obtain ⟨a0, a1, a2, _⟩ := CA.out
      have a0 := (hkp.cell (p := ⟨Ba, 0, none⟩) hBa.1 hBa.2).trans a0
      have a1 := (hkp.cell (p := ⟨Ba, 1, none⟩) hBa.1 hBa.2).trans a1
      have a2 := (hkp.cell (p := ⟨Ba, 2, none⟩) hBa.1 hBa.2).trans a2
      have hva := HV.out _ (List.getElem_mem hkl)
      have FT : Hid ((L.take (k + 1)).filter (mB s y) = (L.take k).filter (mB s y) ++ [L[k]].filter (mB s y)) := Lib.hid (by
        rw [List.take_add_one, List.getElem?_eq_getElem hkl, List.filter_append]; rfl)
      have FL : Hid (((L.take k).filter (mB s y)).length < L.length) := Lib.hid (Nat.lt_of_le_of_lt (List.length_filter_le _ _) (by rw [List.length_take]; omega))
      generalize hr : L[k] = r at x0 x1 x2 x3 x4 hva FT
      clear hr
      have hklt : (k : Int) < (N : Int) := by omega
      have C := Lib.hid (fun X => hasM_calls r s y hva hy X)
      have hgw : g < wr.heap.size := by omega
      have haw : Ba < wr.heap.size := by omega
      have hane : ¬ Ba = wr.heap.size := by omega
      gi_wp2_with (fail)
      refine ⟨trivial, fun h => by simp [Fence.wide] at h, (callsIn_wide.2 (C.out _)).mono ?_⟩
      rintro e w1 ⟨⟨E, rfl⟩, hb1⟩
      have hA : Below wr.heap.size wr (wr.alloc (.cells #[.bool r.1.1, .int .u64 (aH r.1.2.1), .int .u64 (aL r.1.2.1), .int .i64 r.1.2.2, .int .i64 r.2] 53)) := (Below.refl wr.heap.size wr).alloc (Nat.le_refl _) _
      have ba := thenBelow hA hb1
      have hal : wr.heap.size < (wr.alloc (.cells #[.bool r.1.1, .int .u64 (aH r.1.2.1), .int .u64 (aL r.1.2.1), .int .i64 r.1.2.2, .int .i64 r.2] 53)).heap.size := by simp
      have RR : RecAt w1 wr.heap.size 0 (rcs r) := by
        refine RecAt.keep ?_ hb1 hal
        intro j v hj
        match j, hj with
        | 0, hj => simp [rcs] at hj; simp [← hj]
        | 1, hj => simp [rcs] at hj; simp [← hj]
        | 2, hj => simp [rcs] at hj; simp [← hj]
        | 3, hj => simp [rcs] at hj; simp [← hj]
        | 4, hj => simp [rcs] at hj; simp [← hj]
        | j + 5, hj => simp [rcs] at hj
      have J1 := Lib.hid (HJ.out _ _ _ none JS.out (below_grownNone ba) (fun _ h => by cases h))
      have hkp1 := hkp.trans (KpA.below (A := A) ba (show M ≤ wr.heap.size by omega))
      have hs1 := Nat.le_trans hsz ba.size
      clear x0 x1 x2 x3 x4 a0 a1 a2 hb1 hA hal ba JS C
      obtain ⟨y0, y1, y2, y3, y4⟩ := routeCells RR
      simp only [Nat.zero_add] at y0 y1 y2 y3 y4
      by_cases hm : mB s y r = true
      · obtain ⟨fn, tmps, assign, body, hy', hR⟩ := HY.out _ r w1 J1.out FL.out
        rw [hm]
        have FE : Hid ((L.take (k + 1)).filter (mB s y) = (L.take k).filter (mB s y) ++ [r]) := Lib.hid (by rw [FT.out]; simp [hm])
        clear FT
        gi_wp2
        refine ⟨fun h => by simp [Fence.wide] at h, hR.mono ?_⟩
        rintro e W3 (⟨rfl, hJ3, hk3⟩ | ⟨rfl, hJx3⟩)
        · gi_wp2
          go_roundw
          case rel => exact ⟨k + 1, by omega, by go_num, Lib.hid (by rw [FE.out]; exact hJ3), hkp1.trans hk3, Nat.le_trans hs1 hk3.1⟩
          case measure => simp [intOf]; omega
        · gi_wp2
          refine bodyPost_ret (results_none rfl _ _ _) rfl ?_
          exact ⟨⟨_, rfl⟩, .inr ⟨_, trivial, hJx3⟩⟩
      · have hm' : mB s y r = false := by simpa using hm
        rw [hm']
        have FE : Hid ((L.take (k + 1)).filter (mB s y) = (L.take k).filter (mB s y)) := Lib.hid (by rw [FT.out]; simp [hm'])
        clear FT
        gi_wp2
        refine ⟨fun _ h => (by cases h), ?_⟩
        gi_wp2
        go_roundw
        case rel => exact ⟨k + 1, by omega, by go_num, Lib.hid (by rw [FE.out]; exact J1.out), hkp1, hs1⟩
        case measure => simp [intOf]; omega
    · obtain rfl : k = N := by omega
      have e1 : L.take k = L := by rw [← HN.out]; exact List.take_length
      rw [e1] at JS
      gi_wp2
      go_end0
      exact ⟨⟨_, rfl⟩, .inl ⟨_, rfl, JS.out⟩⟩
end Go.Proofs.Ytepfcphhgmmlhaa
