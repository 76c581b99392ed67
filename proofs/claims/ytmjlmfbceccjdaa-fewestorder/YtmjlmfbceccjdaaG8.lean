/-
  Laid together: TabI, TabJ, TabR.
-/
import Derived.Test.YtmjlmfbceccjdaaTabG
import Derived.Test.YtmjlmfbceccjdaaG4
import Derived.RangeFuncNested
import Derived.RangeFuncBound
import Derived.RangeFuncCalls
import Derived.RangeFuncLeaves
import Derived.Shelf.Abstract
import Derived.Shelf.RegionOpen
import Derived.WalkKit
import Derived.OwnWalkIn
import Derived.TacticsInMore
import Derived.LoopNIn
import Derived.LoopIn
import Derived.Test.YtmjlmfbceccjdaaG7
/-
  table.matches: the routes whose prefixes contain an address, one by one.
-/
namespace Go.Proofs.Ytmjlmfbceccjdaa
open Go.RowKit Go.Shelf
set_option linter.unusedVariables false
set_option linter.unusedSimpArgs false
attribute [local go_sem] Oper.semAt_some

/-- The prefix of a route contains an address. -/
def mB (s : Bool) (y : Nat) (r : RT) : Bool := (r.1.1 == s) && decide (lowN y (wideN s - r.1.2.2.toNat) = r.1.2.1)
theorem hasM_calls (r : RT) (s : Bool) (y : Nat) (hc : chkE r.1.1 r.1.2.1 r.1.2.2 = 0) (hy : y < 2 ^ wideN s) (w : World) :
    Calls Try.prog 52 #[.agg #[.bool r.1.1, .int .u64 (aH r.1.2.1), .int .u64 (aL r.1.2.1), .int .i64 r.1.2.2], .agg #[.bool s, .int .u64 (aH y), .int .u64 (aL y)]] w fun e w' => (∃ E : Int, e = .returned (.tuple #[.bool (mB s y r), .int .i64 E])) ∧ Below w.heap.size w w' := by
  obtain ⟨⟨t, x, n⟩, h⟩ := r
  obtain ⟨hx, k, rfl, hk, hl⟩ := chk0 hc
  simp only at hx hk hl hc ⊢
  by_cases e : t = s
  · subst e
    refine (has_ok t x y k _ _ (lt128 hx) (lt128 hy) hc hk hy rfl rfl w).mono ?_
    rintro e w' ⟨rfl, hb⟩
    exact ⟨⟨0, by simp [mB]⟩, hb⟩
  · have hne : (!t == s) = true := by cases t <;> cases s <;> simp_all
    refine (has_fam t s x y k hne (lt128 hx) (lt128 hy) hc hy w).mono ?_
    rintro e w' ⟨rfl, hb⟩
    exact ⟨⟨6, by rw [show mB s y ((t, x, (k : Int)), h) = false by simp [mB, e]]⟩, hb⟩
/-- What a round of a loop over the matches leaves: all blocks below M but A. -/
def KpA (M A : Nat) (W W' : World) : Prop := W.heap.size ≤ W'.heap.size ∧ ∀ k, k < M → k ≠ A → W'.heap[k]? = W.heap[k]?
theorem KpA.trans {M A : Nat} {X Y Z : World} (h : KpA M A X Y) (g : KpA M A Y Z) : KpA M A X Z := ⟨Nat.le_trans h.1 g.1, fun k hk hn => (g.2 k hk hn).trans (h.2 k hk hn)⟩
theorem KpA.below {M A n : Nat} {X Y : World} (h : Below n X Y) (hM : M ≤ n) : KpA M A X Y := ⟨h.size, fun k hk _ => h.block k (Nat.lt_of_lt_of_le hk hM)⟩
theorem KpA.cell {M A : Nat} {X Y : World} (h : KpA M A X Y) {p : Addr} (hp : p.block < M) (hA : p.block ≠ A) : Y.cell? p = X.cell? p := World.cell?_of_block (h.2 p.block hp hA)
theorem KpA.rec {M A g o : Nat} {X Y : World} {cs : List Value} (h : KpA M A X Y) (hg : g < M) (hA : g ≠ A) (r : RecAt X g o cs) : RecAt Y g o cs := fun j u hj => (h.cell (p := ⟨g, o + j, none⟩) hg hA).trans (r j u hj)
theorem below_grownNone {X Y : World} (h : Below X.heap.size X Y) : X.grownBy Y none := ⟨h.os, h.tape, h.output, h.size, fun k hk _ => h.block k hk⟩
abbrev encR (r : RT) : Array Value := #[.agg #[.bool r.1.1, .int .u64 (aH r.1.2.1), .int .u64 (aL r.1.2.1), .int .i64 r.1.2.2, .int .i64 r.2]]
set_option maxRecDepth 100000 in
set_option maxHeartbeats 4000000 in
theorem matches1_in (n : Nat) (l M A Bt Ba b : Nat) (v : Value) (L : List RT) (s : Bool) (y : Nat) (J Jx : List RT → World → Prop)
    (hY : ∀ pre x W, J pre W → pre.length < L.length → YieldAt Fence.wide (n - 1) Try.prog l (encR x) W fun e W' => (e = .returned (.bool true) ∧ J (pre ++ [x]) W' ∧ KpA M A W W') ∨ (e = .returned (.bool false) ∧ Jx (pre ++ [x]) W'))
    (W : World) (hJ : AbidesFrom W.heap.size J) (hM : M ≤ W.heap.size) (hv : ∀ r ∈ L, chkE r.1.1 r.1.2.1 r.1.2.2 = 0) (hy : y < 2 ^ wideN s) (hlen : L.length ≤ 1000)
    (hBt : Bt < M ∧ Bt ≠ A) (hBa : Ba < M ∧ Ba ≠ A) (hb : b < M ∧ b ≠ A) (cT : W.cell? ⟨Bt, 0, none⟩ = some (.pointer (some ⟨b, 0, none⟩))) (cA : AddrAt W Ba s (aH y) (aL y)) (cV : W.cell? ⟨b, 0, none⟩ = some v)
    (row : RowR W v L) (hrow : ∀ g o c, v = .slice (some ⟨g, o, none⟩) L.length c → L ≠ [] → g < M ∧ g ≠ A) (h0 : J [] W) :
    CallsIn Fence.wide n Try.prog 105 #[.func (.yield l) #[] #[], .pointer (some ⟨Bt, 0, none⟩), .pointer (some ⟨Ba, 0, none⟩)] W fun e W' => (∃ v, e = .returned v) ∧
      ((∃ ys, ys = L.filter (mB s y) ∧ J ys W') ∨ (∃ pre, True ∧ Jx pre W')) := by
  obtain ⟨p, c, rfl, hcap, at_⟩ := row.at
  obtain ⟨N, hN⟩ : ∃ N, L.length = N := ⟨_, rfl⟩
  have HN := Lib.hid hN
  have AT : Hid (∀ i (hi : i < L.length), ∃ g o, p = some ⟨g, o, none⟩ ∧ g < M ∧ g ≠ A ∧ RecAt W g (o + i * 5) (rcs L[i])) := Lib.hid fun i hi => by
    obtain ⟨g, o, rfl, _, hr⟩ := at_ i hi
    obtain ⟨h1, h2⟩ := hrow g o c rfl (fun e => by rw [e] at hi; simp at hi)
    exact ⟨g, o, rfl, h1, h2, hr⟩
  have HV := Lib.hid hv
  have HY := Lib.hid hY
  have HJ := Lib.hid hJ
  have CA := Lib.hid cA
  rw [hN] at hlen cV
  rw [hN] at hrow
  clear hrow row at_ hv hY hJ cA hN
  refine callsIn_of_wp Try.func105 rfl trivial ?_ rfl
  simp only [Try.ntmps105, List.size_toArray, List.length_cons, List.length_nil, Nat.reduceAdd, Nat.reduceSub, Array.replicate_succ, Array.replicate_zero, List.push_toArray, List.append_toArray, List.nil_append, List.cons_append]
  gi_wp2
  gi_loopw [13] (fun i wr => ∃ k : Nat, k ≤ N ∧ i = .int .i64 k ∧ Hid (J ((L.take k).filter (mB s y)) wr) ∧ KpA M A W wr ∧ W.heap.size ≤ wr.heap.size) (fun i _ => N - (intOf i).toNat)
  case atStart => exact ⟨0, by omega, rfl, Lib.hid h0, ⟨Nat.le_refl _, fun _ _ _ => rfl⟩, Nat.le_refl _⟩
  case round =>
    obtain ⟨k, hk, rfl, JS, hkp, hsz⟩ := hrel
    by_cases hlt : k < N
    · have hkl : k < L.length := by rw [HN.out]; exact hlt
      obtain ⟨g, o, rfl, hgM, hgA, hrec⟩ := AT.out k hkl
      obtain ⟨x0, x1, x2, x3, x4⟩ := routeCells (hkp.rec hgM hgA hrec)
      obtain ⟨a0, a1, a2, _⟩ := CA.out
      have a0 := (hkp.cell (p := ⟨Ba, 0, none⟩) hBa.1 hBa.2).trans a0
      have a1 := (hkp.cell (p := ⟨Ba, 1, none⟩) hBa.1 hBa.2).trans a1
      have a2 := (hkp.cell (p := ⟨Ba, 2, none⟩) hBa.1 hBa.2).trans a2
      have hva := HV.out _ (List.getElem_mem hkl)
      have FT : Hid ((L.take (k + 1)).filter (mB s y) = (L.take k).filter (mB s y) ++ [L[k]].filter (mB s y)) := Lib.hid (by
        rw [List.take_add_one, List.getElem?_eq_getElem hkl, List.filter_append]; rfl)
      have FL : Hid (((L.take k).filter (mB s y)).length < L.length) := Lib.hid (Nat.lt_of_le_of_lt (List.length_filter_le _ _) (by rw [List.length_take]; omega))
      generalize hr : L[k] = r at x0 x1 x2 x3 x4 hva FT
      clear hr
      have hklt : (k : Int) < (N : Int) := by omega
      have C := Lib.hid (fun X => hasM_calls r s y hva hy X)
      have hgw : g < wr.heap.size := by omega
      have haw : Ba < wr.heap.size := by omega
      have hane : ¬ Ba = wr.heap.size := by omega
      gi_wp2_with (fail)
      refine ⟨trivial, fun h => by simp [Fence.wide] at h, (callsIn_wide.2 (C.out _)).mono ?_⟩
      rintro e w1 ⟨⟨E, rfl⟩, hb1⟩
      have hA : Below wr.heap.size wr (wr.alloc (.cells #[.bool r.1.1, .int .u64 (aH r.1.2.1), .int .u64 (aL r.1.2.1), .int .i64 r.1.2.2, .int .i64 r.2] 51)) := (Below.refl wr.heap.size wr).alloc (Nat.le_refl _) _
      have ba := thenBelow hA hb1
      have hal : wr.heap.size < (wr.alloc (.cells #[.bool r.1.1, .int .u64 (aH r.1.2.1), .int .u64 (aL r.1.2.1), .int .i64 r.1.2.2, .int .i64 r.2] 51)).heap.size := by simp
      have RR : RecAt w1 wr.heap.size 0 (rcs r) := by
        refine RecAt.keep ?_ hb1 hal
        intro j v hj
        match j, hj with
        | 0, hj => simp [rcs] at hj; simp [← hj]
        | 1, hj => simp [rcs] at hj; simp [← hj]
        | 2, hj => simp [rcs] at hj; simp [← hj]
        | 3, hj => simp [rcs] at hj; simp [← hj]
        | 4, hj => simp [rcs] at hj; simp [← hj]
        | j + 5, hj => simp [rcs] at hj
      have J1 := Lib.hid (HJ.out _ _ _ none JS.out (below_grownNone ba) (fun _ h => by cases h))
      have hkp1 := hkp.trans (KpA.below (A := A) ba (show M ≤ wr.heap.size by omega))
      have hs1 := Nat.le_trans hsz ba.size
      clear x0 x1 x2 x3 x4 a0 a1 a2 hb1 hA hal ba JS C
      obtain ⟨y0, y1, y2, y3, y4⟩ := routeCells RR
      simp only [Nat.zero_add] at y0 y1 y2 y3 y4
      by_cases hm : mB s y r = true
      · obtain ⟨fn, tmps, assign, body, hy', hR⟩ := HY.out _ r w1 J1.out FL.out
        rw [hm]
        have FE : Hid ((L.take (k + 1)).filter (mB s y) = (L.take k).filter (mB s y) ++ [r]) := Lib.hid (by rw [FT.out]; simp [hm])
        clear FT
        gi_wp2
        refine ⟨fun h => by simp [Fence.wide] at h, hR.mono ?_⟩
        rintro e W3 (⟨rfl, hJ3, hk3⟩ | ⟨rfl, hJx3⟩)
        · gi_wp2
          go_roundw
          case rel => exact ⟨k + 1, by omega, by go_num, Lib.hid (by rw [FE.out]; exact hJ3), hkp1.trans hk3, Nat.le_trans hs1 hk3.1⟩
          case measure => simp [intOf]; omega
        · gi_wp2
          refine bodyPost_ret (results_none rfl _ _ _) rfl ?_
          exact ⟨⟨_, rfl⟩, .inr ⟨_, trivial, hJx3⟩⟩
      · have hm' : mB s y r = false := by simpa using hm
        rw [hm']
        have FE : Hid ((L.take (k + 1)).filter (mB s y) = (L.take k).filter (mB s y)) := Lib.hid (by rw [FT.out]; simp [hm'])
        clear FT
        gi_wp2
        refine ⟨fun _ h => (by cases h), ?_⟩
        gi_wp2
        go_roundw
        case rel => exact ⟨k + 1, by omega, by go_num, Lib.hid (by rw [FE.out]; exact J1.out), hkp1, hs1⟩
        case measure => simp [intOf]; omega
    · obtain rfl : k = N := by omega
      have e1 : L.take k = L := by rw [← HN.out]; exact List.take_length
      rw [e1] at JS
      gi_wp2
      go_end0
      exact ⟨⟨_, rfl⟩, .inl ⟨_, rfl, JS.out⟩⟩
end Go.Proofs.Ytmjlmfbceccjdaa
/-
  table.look: where an address goes.
-/
namespace Go.Proofs.Ytmjlmfbceccjdaa
open Go.RowKit Go.Shelf
set_option linter.unusedVariables false
set_option linter.unusedSimpArgs false
attribute [local go_sem] Oper.semAt_some

theorem matches_calls (b : Nat) (s : Bool) (h l : Int) (w : World) :
    Calls Try.prog 89 #[.pointer (some ⟨b, 0, none⟩), .agg #[.bool s, .int .u64 h, .int .u64 l]] w fun e w' => e = .returned (.func (.func 105) #[] #[.pointer (some ⟨w.heap.size, 0, none⟩), .pointer (some ⟨w.heap.size + 1, 0, none⟩)]) ∧ (w.alloc (.cells #[.pointer (some ⟨b, 0, none⟩)] 136)).alloc (.cells #[.bool s, .int .u64 h, .int .u64 l] 30) = w' := by
  go_enter Try.func89, Try.ntmps89
  go_wp2
  go_ret
  exact ⟨by simp, rfl⟩
/-- An answer in a block of its own. -/
def AnsV (w : World) (b : Nat) (c h l : Int) : Prop := w.cell? ⟨b, 0, none⟩ = some (.int .i64 c) ∧ w.cell? ⟨b, 1, none⟩ = some (.int .i64 h) ∧ w.cell? ⟨b, 2, none⟩ = some (.int .i64 l) ∧ (∀ o, w.frozen? ⟨b, o, none⟩ = false) ∧ b < w.heap.size
theorem AnsV.keep {w w' : World} {b : Nat} {c h l : Int} (a : AnsV w b c h l) {n : Nat} (hb : Below n w w') (hn : b < n) : AnsV w' b c h l :=
  ⟨(hb.cell (p := ⟨b, 0, none⟩) hn).trans a.1, (hb.cell (p := ⟨b, 1, none⟩) hn).trans a.2.1, (hb.cell (p := ⟨b, 2, none⟩) hn).trans a.2.2.1, fun o => (hb.frozen (p := ⟨b, o, none⟩) hn).trans (a.2.2.2.1 o), Nat.lt_of_lt_of_le a.2.2.2.2 hb.size⟩
theorem AnsV.new (w : World) (c h l : Int) (t : TypeId) : AnsV (w.alloc (.cells #[.int .i64 c, .int .i64 h, .int .i64 l] t)) w.heap.size c h l := ⟨by simp, by simp, by simp, fun o => by simp [go_sem], by simp⟩
theorem AnsV.alloc {w : World} {b : Nat} {c h l : Int} (a : AnsV w b c h l) (o : Obj) : AnsV (w.alloc o) b c h l := a.keep ((Below.refl _ w).alloc (Nat.le_refl _) o) a.2.2.2.2
theorem AnsV.of_block {w w' : World} {b : Nat} {c h l : Int} (a : AnsV w b c h l) (e : w'.heap[b]? = w.heap[b]?) (hs : w.heap.size ≤ w'.heap.size) : AnsV w' b c h l :=
  ⟨(World.cell?_of_block (a := ⟨b, 0, none⟩) e).trans a.1, (World.cell?_of_block (a := ⟨b, 1, none⟩) e).trans a.2.1, (World.cell?_of_block (a := ⟨b, 2, none⟩) e).trans a.2.2.1, fun o => (World.frozen?_of_block (a := ⟨b, o, none⟩) e).trans (a.2.2.2.1 o), Nat.lt_of_lt_of_le a.2.2.2.2 hs⟩
theorem block_kept {W W' : World} {row : Option Nat} {b o : Nat} {v : Value} (h : W.cell? ⟨b, o, none⟩ = some v) (hg : W.grownBy W' row) (hr : ∀ r, row = some r → ∃ o : Obj, W.heap[r]? = some o ∧ o.isCells = false) : W'.heap[b]? = W.heap[b]? := by
  refine hg.block b (World.block_lt_of_cell? W _ h) fun e => ?_
  obtain ⟨ob, h1, h2⟩ := hr b e.symm
  unfold World.cell? at h
  rw [h1] at h
  cases ob <;> simp [Obj.isCells] at h h2
theorem AnsV.store {w : World} {b : Nat} {c h l : Int} (a : AnsV w b c h l) (c2 h2 l2 : Int) : AnsV (((w.setCell ⟨b, 0, none⟩ (.int .i64 c2)).setCell ⟨b, 1, none⟩ (.int .i64 h2)).setCell ⟨b, 2, none⟩ (.int .i64 l2)) b c2 h2 l2 := by
  obtain ⟨a0, a1, a2, af, az⟩ := a
  exact ⟨by simp [go_sem, a0, a1, a2], by simp [go_sem, a0, a1, a2], by simp [go_sem, a0, a1, a2], fun o => by simp only [World.frozen?_setCell]; exact af o, by simpa using az⟩
theorem AnsV.far {w : World} {b : Nat} {c h l : Int} (a : AnsV w b c h l) {p : Addr} (hp : b ≠ p.block) (u : Value) : AnsV (w.setCell p u) b c h l := by
  have ne : ∀ o, p ≠ ⟨b, o, none⟩ := fun o e => hp (by rw [e])
  exact ⟨(World.cell?_setCell_other w p _ u (ne 0)).trans a.1, (World.cell?_setCell_other w p _ u (ne 1)).trans a.2.1, (World.cell?_setCell_other w p _ u (ne 2)).trans a.2.2.1, fun o => by rw [World.frozen?_setCell]; exact a.2.2.2.1 o, by simpa using a.2.2.2.2⟩
/-- The hop and the length of the last of some routes. -/
def lastM (l : List RT) : Int × Int := match l.getLast? with | none => (0, 0) | some r => (r.2, r.1.2.2)
theorem lastM_snoc (l : List RT) (r : RT) : lastM (l ++ [r]) = (r.2, r.1.2.2) := by simp [lastM]
theorem look_form (b : Nat) (s : Bool) (y : Nat) (hy : y < 2 ^ 128) (hv : ¬ y < 2 ^ wideN s) (w : World) :
    Calls Try.prog 68 #[.pointer (some ⟨b, 0, none⟩), .agg #[.bool s, .int .u64 (aH y), .int .u64 (aL y)]] w fun e w' => e = .returned (.tuple #[.agg #[.int .i64 0, .int .i64 0, .int .i64 0], .int .i64 4]) ∧ Below w.heap.size w w' := by
  have C := Lib.hid (fun W => may_num s y hy false (decide_eq_false hv) W)
  have bY := ((Below.refl w.heap.size w).alloc (Nat.le_refl _) (.cells #[.bool s, .int .u64 (aH y), .int .u64 (aL y)] 30)).alloc (by simp) (.cells #[.int .i64 0, .int .i64 0, .int .i64 0] 79)
  have A1 := AnsV.new (w.alloc (.cells #[.bool s, .int .u64 (aH y), .int .u64 (aL y)] 30)) 0 0 0 79
  simp only [World.size_alloc] at A1
  go_enter Try.func68, Try.ntmps68
  go_wp2_with fail
  refine (C.out _).mono ?_
  rintro e w1 ⟨rfl, hw1⟩
  have A2 := A1.alloc (.cells #[.bool s, .int .u64 (aH y), .int .u64 (aL y)] 30)
  have b2 := bY.alloc bY.size (.cells #[.bool s, .int .u64 (aH y), .int .u64 (aL y)] 30)
  rw [hw1] at A2 b2
  clear hw1 A1 bY C
  have AZ := A2.store 0 0 0
  obtain ⟨c0, c1, c2, f0, fl⟩ := A2
  have f1 := f0 0
  have f2 := f0 1
  have f3 := f0 2
  have bZ := ((b2.setCell (p := ⟨w.heap.size + 1, 0, none⟩) (Nat.le_succ _) (.int .i64 0)).setCell (p := ⟨w.heap.size + 1, 1, none⟩) (Nat.le_succ _) (.int .i64 0)).setCell (p := ⟨w.heap.size + 1, 2, none⟩) (Nat.le_succ _) (.int .i64 0)
  obtain ⟨z0, z1, z2, _⟩ := AZ
  go_wp2
  refine bodyPost_ret (by simp [results, Try.results68, go_sem, z0, z1, z2]; try rfl) rfl ?_
  exact ⟨by simp, bZ⟩
theorem KpA.set {M A : Nat} (W : World) (j : Nat) (u : Value) : KpA M A W (W.setCell ⟨A, j, none⟩ u) := ⟨by simp, fun k _ hk => Below.heap_setCell _ _ _ k hk⟩
theorem recNew (W : World) (r : RT) (t : TypeId) : RecAt (W.alloc (.cells #[.bool r.1.1, .int .u64 (aH r.1.2.1), .int .u64 (aL r.1.2.1), .int .i64 r.1.2.2, .int .i64 r.2] t)) W.heap.size 0 (rcs r) := by
  intro j v hj
  match j, hj with
  | 0, hj => simp [rcs] at hj; simp [← hj]
  | 1, hj => simp [rcs] at hj; simp [← hj]
  | 2, hj => simp [rcs] at hj; simp [← hj]
  | 3, hj => simp [rcs] at hj; simp [← hj]
  | 4, hj => simp [rcs] at hj; simp [← hj]
  | j + 5, hj => simp [rcs] at hj
set_option maxRecDepth 100000 in
set_option maxHeartbeats 4000000 in
theorem look_ok (b : Nat) (v : Value) (L : List RT) (s : Bool) (y : Nat) (hy : y < 2 ^ wideN s) (hv : ∀ r ∈ L, chkE r.1.1 r.1.2.1 r.1.2.2 = 0) (hlen : L.length ≤ 1000) (w : World) (hc : w.cell? ⟨b, 0, none⟩ = some v) (row : RowR w v L) :
    Calls Try.prog 68 #[.pointer (some ⟨b, 0, none⟩), .agg #[.bool s, .int .u64 (aH y), .int .u64 (aL y)]] w fun e w' => e = .returned (.tuple #[.agg #[.int .i64 0, .int .i64 (lastM (L.filter (mB s y))).1, .int .i64 (lastM (L.filter (mB s y))).2], .int .i64 0]) ∧ Below w.heap.size w w' := by
  have hbw : b < w.heap.size := World.block_lt_of_cell? w _ hc
  have C := Lib.hid (fun W => may_num s y (lt128 hy) true (decide_eq_true hy) W)
  have M := Lib.hid (fun W => matches_calls b s (aH y) (aL y) W)
  refine (callsIn_wide (n := 3)).1 ?_
  refine callsIn_of_wp_marks Try.func68 rfl trivial ?_ rfl
  simp only [Try.ntmps68, List.size_toArray, List.length_cons, List.length_nil, Nat.reduceAdd, Nat.reduceSub, Array.replicate_succ, Array.replicate_zero, List.push_toArray, List.append_toArray, List.nil_append, List.cons_append]
  gi_wp2_with (fail)
  refine ⟨trivial, (callsIn_wide.2 (C.out _)).mono ?_⟩
  rintro e w1 ⟨rfl, rfl⟩
  gi_wp2_with (fail)
  refine ⟨trivial, (callsIn_wide.2 (M.out _)).mono ?_⟩
  rintro e w1 ⟨rfl, rfl⟩
  gi_wp2
  have A1 := ((((AnsV.new (w.alloc (.cells #[.bool s, .int .u64 (aH y), .int .u64 (aL y)] 30)) 0 0 0 79).alloc (.cells #[.bool s, .int .u64 (aH y), .int .u64 (aL y)] 30)).alloc (.cells #[.int .i64 0, .int .i64 0, .int .i64 0] 79)).alloc (.cells #[.pointer (some ⟨b, 0, none⟩)] 136)).alloc (.cells #[.bool s, .int .u64 (aH y), .int .u64 (aL y)] 30)
  have A3 := ((AnsV.new (((w.alloc (.cells #[.bool s, .int .u64 (aH y), .int .u64 (aL y)] 30)).alloc (.cells #[.int .i64 0, .int .i64 0, .int .i64 0] 79)).alloc (.cells #[.bool s, .int .u64 (aH y), .int .u64 (aL y)] 30)) 0 0 0 79).alloc (.cells #[.pointer (some ⟨b, 0, none⟩)] 136)).alloc (.cells #[.bool s, .int .u64 (aH y), .int .u64 (aL y)] 30)
  have B4 := (Box.new ((((w.alloc (.cells #[.bool s, .int .u64 (aH y), .int .u64 (aL y)] 30)).alloc (.cells #[.int .i64 0, .int .i64 0, .int .i64 0] 79)).alloc (.cells #[.bool s, .int .u64 (aH y), .int .u64 (aL y)] 30)).alloc (.cells #[.int .i64 0, .int .i64 0, .int .i64 0] 79)) (.pointer (some ⟨b, 0, none⟩)) 136).alloc (.cells #[.bool s, .int .u64 (aH y), .int .u64 (aL y)] 30)
  have B5 := AddrAt.new (((((w.alloc (.cells #[.bool s, .int .u64 (aH y), .int .u64 (aL y)] 30)).alloc (.cells #[.int .i64 0, .int .i64 0, .int .i64 0] 79)).alloc (.cells #[.bool s, .int .u64 (aH y), .int .u64 (aL y)] 30)).alloc (.cells #[.int .i64 0, .int .i64 0, .int .i64 0] 79)).alloc (.cells #[.pointer (some ⟨b, 0, none⟩)] 136)) s (aH y) (aL y) 30
  simp only [World.size_alloc] at A1 A3 B4 B5
  have hB0 : Below w.heap.size w ((((((w.alloc (.cells #[.bool s, .int .u64 (aH y), .int .u64 (aL y)] 30)).alloc (.cells #[.int .i64 0, .int .i64 0, .int .i64 0] 79)).alloc (.cells #[.bool s, .int .u64 (aH y), .int .u64 (aL y)] 30)).alloc (.cells #[.int .i64 0, .int .i64 0, .int .i64 0] 79)).alloc (.cells #[.pointer (some ⟨b, 0, none⟩)] 136)).alloc (.cells #[.bool s, .int .u64 (aH y), .int .u64 (aL y)] 30)) := by go_grown
  have hsz : ((((((w.alloc (.cells #[.bool s, .int .u64 (aH y), .int .u64 (aL y)] 30)).alloc (.cells #[.int .i64 0, .int .i64 0, .int .i64 0] 79)).alloc (.cells #[.bool s, .int .u64 (aH y), .int .u64 (aL y)] 30)).alloc (.cells #[.int .i64 0, .int .i64 0, .int .i64 0] 79)).alloc (.cells #[.pointer (some ⟨b, 0, none⟩)] 136)).alloc (.cells #[.bool s, .int .u64 (aH y), .int .u64 (aL y)] 30)).heap.size = w.heap.size + 6 := by simp
  obtain ⟨W0, hW0⟩ : ∃ W0, ((((((w.alloc (.cells #[.bool s, .int .u64 (aH y), .int .u64 (aL y)] 30)).alloc (.cells #[.int .i64 0, .int .i64 0, .int .i64 0] 79)).alloc (.cells #[.bool s, .int .u64 (aH y), .int .u64 (aL y)] 30)).alloc (.cells #[.int .i64 0, .int .i64 0, .int .i64 0] 79)).alloc (.cells #[.pointer (some ⟨b, 0, none⟩)] 136)).alloc (.cells #[.bool s, .int .u64 (aH y), .int .u64 (aL y)] 30)) = W0 := ⟨_, rfl⟩
  rw [hW0] at A1 A3 B4 B5 hB0 hsz ⊢
  clear hW0 C M
  have hc0 := (hB0.cell (p := ⟨b, 0, none⟩) hbw).trans hc
  have row0 := row.keep hB0
  have hrow : ∀ g o c, v = .slice (some ⟨g, o, none⟩) L.length c → L ≠ [] → g < w.heap.size := fun g o c e hne => by
    rcases row with ⟨e0, _⟩ | ⟨g', o', c', e', hg', _⟩
    · exact absurd e0 hne
    · rw [e] at e'; cases e'; exact hg'
  have stops : SeqStopsK Fence.wide 2 Try.prog 105 #[.pointer (some ⟨w.heap.size + 1 + 1 + 1 + 1, 0, none⟩), .pointer (some ⟨w.heap.size + 1 + 1 + 1 + 1 + 1, 0, none⟩)] encR (KpA (w.heap.size + 6) (w.heap.size + 1 + 1 + 1)) (fun ys => ys = L.filter (mB s y)) (fun _ => True) L.length W0 := fun l J Jx W hW hJ _ hY h0 =>
    matches1_in 2 l (w.heap.size + 6) (w.heap.size + 1 + 1 + 1) (w.heap.size + 1 + 1 + 1 + 1) (w.heap.size + 1 + 1 + 1 + 1 + 1) b v L s y J Jx hY W hJ (by have := hW.size; omega) hv hy hlen ⟨by omega, by omega⟩ ⟨by omega, by omega⟩ ⟨by omega, by omega⟩
      (B4.keep hW B4.2.2).1 (B5.keep hW) ((hW.cell (p := ⟨b, 0, none⟩) (by rw [hsz]; show b < _; omega)).trans hc0) (row0.keep hW) (fun g o c e hne => by have := hrow g o c e hne; exact ⟨by omega, by omega⟩) h0
  have ST := Lib.hid stops
  clear stops
  refine wpIn_rangeFunc_ownH rfl (by omega) (gf := 105) (lb := #[.pointer (some ⟨w.heap.size + 1 + 1 + 1 + 1, 0, none⟩), .pointer (some ⟨w.heap.size + 1 + 1 + 1 + 1 + 1, 0, none⟩)]) rfl trivial (enters_of Try.func105 (by kernel_rfl) rfl)
    ST.out (fun h g => h.trans g) (fun W l o o' hl ho _ _ => ⟨by simp, fun k hk _ => World.putObj_heap_other (by rw [hsz] at hl; omega)⟩) (Below.refl _ _) (fun _ => rfl)
    (fun pre W => (AnsV W (w.heap.size + 1 + 1 + 1) 0 (lastM pre).1 (lastM pre).2 ∧ AnsV W (w.heap.size + 1) 0 0 0 ∧ w.heap.size + 6 ≤ W.heap.size) ∧ Below w.heap.size w W)
    (fun _ _ _ => False)
    (OwnFrom.and (Own.from (fun s X Y row hs hg hr => ⟨hs.1.of_block (block_kept hs.1.1 hg hr) hg.size, hs.2.1.of_block (block_kept hs.2.1.1 hg hr) hg.size, Nat.le_trans hs.2.2 hg.size⟩) _) (ownFrom_below (Nat.le_refl _) (by omega)))
    (fun _ _ _ _ _ hs _ _ => hs)
    ⟨⟨A3, A1, by omega⟩, hB0⟩
    (fun x a' W => ∃ Bx, w.heap.size + 5 < Bx ∧ RecAt W Bx 0 (rcs x) ∧ a' = { tmps := #[.pointer (some ⟨b, 0, none⟩), .agg #[.bool s, .int .u64 (aH y), .int .u64 (aL y)], undef, .pointer (some ⟨w.heap.size, 0, none⟩), .pointer (some ⟨w.heap.size + 1, 0, none⟩), .int .i64 0, .pointer (some ⟨w.heap.size + 1 + 1 + 1, 0, none⟩), .pointer (some ⟨Bx, 0, none⟩), .agg #[.bool s, .int .u64 (aH y), .int .u64 (aL y)], .bool true, .bool false, undef, .pointer (some ⟨b, 0, none⟩), .agg #[.bool s, .int .u64 (aH y), .int .u64 (aL y)], .func (.func 105) #[] #[.pointer (some ⟨w.heap.size + 1 + 1 + 1 + 1, 0, none⟩), .pointer (some ⟨w.heap.size + 1 + 1 + 1 + 1 + 1, 0, none⟩)], .agg #[.bool x.1.1, .int .u64 (aH x.1.2.1), .int .u64 (aL x.1.2.1), .int .i64 x.1.2.2, .int .i64 x.2], undef, undef, undef, undef, undef, undef, undef], defers := [] })
    (fun x a' _ X Y row hs hg hr => by obtain ⟨Bx, h1, h2, h3⟩ := hs; exact ⟨Bx, h1, fun j u hj => cell_kept (h2 j u hj) hg (fun r e => (hr r e).2), h3⟩)
    ?assign ?body ?done ?stop
  case assign =>
    rintro l pre x W K ⟨⟨hA, hA1, hM⟩, hB⟩ hK
    gi_wp2
    exact hK _ _ ((KeepsOthers.alloc _ _).from _) (KpA.below ((Below.refl W.heap.size W).alloc (Nat.le_refl _) _) hM) ⟨⟨hA.alloc _, hA1.alloc _, by simp; omega⟩, hB.alloc hB.size _⟩ ⟨W.heap.size, by omega, recNew W x 51, rfl⟩
  case body =>
    rintro l pre x a' W hl ⟨r, hr⟩ ⟨⟨hA, hA1, hM⟩, hB⟩ ⟨Bx, hBx, hR, rfl⟩ hlt
    obtain ⟨y0, y1, y2, y3, y4⟩ := routeCells hR
    simp only [Nat.zero_add] at y0 y1 y2 y3 y4
    have AS := Lib.hid (hA.store 0 x.2 x.1.2.2)
    have A1S := Lib.hid (((hA1.far (p := ⟨w.heap.size + 1 + 1 + 1, 0, none⟩) (by simp) (.int .i64 0)).far (p := ⟨w.heap.size + 1 + 1 + 1, 1, none⟩) (by simp) (.int .i64 x.2)).far (p := ⟨w.heap.size + 1 + 1 + 1, 2, none⟩) (by simp) (.int .i64 x.1.2.2))
    have bS := Lib.hid (((hB.setCell (p := ⟨w.heap.size + 1 + 1 + 1, 0, none⟩) (by simp; omega) (.int .i64 0)).setCell (p := ⟨w.heap.size + 1 + 1 + 1, 1, none⟩) (by simp; omega) (.int .i64 x.2)).setCell (p := ⟨w.heap.size + 1 + 1 + 1, 2, none⟩) (by simp; omega) (.int .i64 x.1.2.2))
    obtain ⟨c0, c1, c2, f0, fl⟩ := hA
    have f1 := f0 0
    have f2 := f0 1
    have f3 := f0 2
    gi_wp2
    exact ⟨((((KeepsOthers.setCell _ _ _).from _).trans ((KeepsOthers.setCell _ _ _).from _)).trans ((KeepsOthers.setCell _ _ _).from _)), ((KpA.set _ _ _).trans (KpA.set _ _ _)).trans (KpA.set _ _ _), ⟨by rw [lastM_snoc]; exact AS.out, A1S.out, by simp; omega⟩, bS.out⟩
  case done =>
    rintro D zs W hD rfl ⟨⟨hA, hA1, hM⟩, hB⟩ hK
    obtain ⟨c0, c1, c2, _⟩ := hA
    have AS := hA1.store 0 (lastM (L.filter (mB s y))).1 (lastM (L.filter (mB s y))).2
    have bS := Lib.hid (((hB.setCell (p := ⟨w.heap.size + 1, 0, none⟩) (by simp) (.int .i64 0)).setCell (p := ⟨w.heap.size + 1, 1, none⟩) (by simp) (.int .i64 (lastM (L.filter (mB s y))).1)).setCell (p := ⟨w.heap.size + 1, 2, none⟩) (by simp) (.int .i64 (lastM (L.filter (mB s y))).2))
    obtain ⟨d0, d1, d2, f0, fl⟩ := hA1
    have f1 := f0 0
    have f2 := f0 1
    have f3 := f0 2
    gi_wp2
    have hK' := (KeepsOthers.setCell _ ⟨w.heap.size + 1, 2, none⟩ (.int .i64 (lastM (L.filter (mB s y))).2)).same D _ ((KeepsOthers.setCell _ ⟨w.heap.size + 1, 1, none⟩ (.int .i64 (lastM (L.filter (mB s y))).1)).same D _ ((KeepsOthers.setCell W ⟨w.heap.size + 1, 0, none⟩ (.int .i64 0)).same D _ hK rfl) rfl) rfl
    refine ⟨by simp, .inl ⟨_, _, rfl, run_takeDeferred hK', ?_⟩⟩
    have kc : ∀ (a : Addr) (u : Value), (((W.setCell ⟨w.heap.size + 1, 0, none⟩ (.int .i64 0)).setCell ⟨w.heap.size + 1, 1, none⟩ (.int .i64 (lastM (L.filter (mB s y))).1)).setCell ⟨w.heap.size + 1, 2, none⟩ (.int .i64 (lastM (L.filter (mB s y))).2)).cell? a = some u → ((((W.setCell ⟨w.heap.size + 1, 0, none⟩ (.int .i64 0)).setCell ⟨w.heap.size + 1, 1, none⟩ (.int .i64 (lastM (L.filter (mB s y))).1)).setCell ⟨w.heap.size + 1, 2, none⟩ (.int .i64 (lastM (L.filter (mB s y))).2)).putObj D (.deferred none)).cell? a = some u :=
      fun a u h => cell_kept h (grownBy_putObj' _ D (.deferred none)) (fun r e => by cases e; exact ⟨_, hK', rfl⟩)
    have e0 := kc _ _ AS.1
    have e1 := kc _ _ AS.2.1
    have e2 := kc _ _ AS.2.2.1
    refine ⟨_, ?_, rfl, bS.out.trans (belowK_b (w := w) (Nat.le_refl _) _ D _ _ (by rw [hsz] at hD; omega) hK' rfl rfl)⟩
    simp [results, Try.results68, Try.f68, go_sem, e0, e1, e2]
  case stop =>
    rintro D c pre W _ _ h _
    exact h.elim
end Go.Proofs.Ytmjlmfbceccjdaa
/-
  A table in memory; table.find, table.get.
-/
namespace Go.Proofs.Ytmjlmfbceccjdaa
open Go.RowKit
set_option linter.unusedVariables false
set_option linter.unusedSimpArgs false

/-- All blocks but those of S are as they were. -/
structure But (S : Nat → Prop) (w w' : World) : Prop where
  os : w'.os = w.os
  tape : w'.tape = w.tape
  output : w'.output = w.output
  size : w.heap.size ≤ w'.heap.size
  block : ∀ k, k < w.heap.size → ¬ S k → w'.heap[k]? = w.heap[k]?
theorem But.of_below {S : Nat → Prop} {w w' : World} (h : Below w.heap.size w w') : But S w w' := ⟨h.os, h.tape, h.output, h.size, fun k hk _ => h.block k hk⟩
theorem But.of_grown {S : Nat → Prop} {w w' : World} {row : Option Nat} (h : w.grownBy w' row) (hS : ∀ k, row = some k → S k) : But S w w' := ⟨h.os, h.tape, h.output, h.size, fun k hk hn => h.block k hk (fun e => hn (hS k e.symm))⟩
theorem But.trans {S S' : Nat → Prop} {w w1 w2 : World} (h : But S w w1) (g : But S' w1 w2) (hS : ∀ k, k < w.heap.size → S' k → S k) : But S w w2 :=
  ⟨g.os.trans h.os, g.tape.trans h.tape, g.output.trans h.output, Nat.le_trans h.size g.size, fun k hk hn => (g.block k (Nat.lt_of_lt_of_le hk h.size) (fun e => hn (hS k hk e))).trans (h.block k hk hn)⟩
theorem But.below {S : Nat → Prop} {w w' : World} {n : Nat} (h : But S w w') (hS : ∀ k, S k → n ≤ k) (hn : n ≤ w.heap.size) : Below n w w' :=
  ⟨h.os, h.tape, h.output, h.size, fun k hk => h.block k (Nat.lt_of_lt_of_le hk hn) (fun e => by have := hS k e; omega)⟩
theorem But.setCell {S : Nat → Prop} {w w' : World} (h : But S w w') {p : Addr} (hp : p.block < w.heap.size → S p.block) (u : Value) : But S w (w'.setCell p u) :=
  ⟨h.os, h.tape, h.output, Nat.le_trans h.size (by simp), fun k hk hn => (Below.heap_setCell _ _ _ k (fun e => hn (by rw [e] at hk ⊢; exact hp hk))).trans (h.block k hk hn)⟩
theorem But.drew {S : Nat → Prop} {w w' : World} (h : But S w w') : But S w w'.drew := ⟨h.os, h.tape, h.output, h.size, h.block⟩
theorem But.box {S : Nat → Prop} {w w' : World} {b : Nat} {v : Value} (h : But S w w') (x : Box w b v) (hn : ¬ S b) : Box w' b v := by
  have e := h.block b x.2.2 hn
  exact ⟨(World.cell?_of_block (a := ⟨b, 0, none⟩) e).trans x.1, fun o => (World.frozen?_of_block (a := ⟨b, o, none⟩) e).trans (x.2.1 o), Nat.lt_of_lt_of_le x.2.2 h.size⟩
theorem But.ans {S : Nat → Prop} {w w' : World} {b : Nat} {c p q : Int} (h : But S w w') (x : AnsV w b c p q) (hn : ¬ S b) : AnsV w' b c p q := x.of_block (h.block b x.2.2.2.2 hn) h.size
theorem But.owns {S : Nat → Prop} {w w' : World} {base n size : Nat} {e : TypeId} {v : Value} {xs : List Value} (h : But S w w') (x : w.ownsRow base e size v n xs) (hn : ∀ k, v.ownBlock = some k → ¬ S k) : w'.ownsRow base e size v n xs := by
  refine ⟨x.1, ?_⟩
  rcases x.2 with h2 | ⟨g, cap, cur, a, b, c, d⟩
  · exact .inl h2
  · have hg : g < w.heap.size := (Array.getElem?_eq_some_iff.1 c).1
    exact .inr ⟨g, cap, cur, a, b, (h.block g hg (hn g (by rw [a]; rfl))).trans c, d⟩
/-- A table: its variable in block b holds these routes. -/
def Tab (w : World) (b base : Nat) (v : Value) (L : List RT) : Prop := Box w b v ∧ OwnR w base v L ∧ b < base
theorem Tab.keep {w w' : World} {b base : Nat} {v : Value} {L : List RT} (h : Tab w b base v L) (hb : Below w.heap.size w w') : Tab w' b base v L := ⟨h.1.keep hb h.1.2.2, ownsKeep h.2.1 hb, h.2.2⟩
theorem Tab.alloc {w : World} {b base : Nat} {v : Value} {L : List RT} (h : Tab w b base v L) (o : Obj) : Tab (w.alloc o) b base v L := h.keep ((Below.refl _ w).alloc (Nat.le_refl _) o)
theorem Tab.form {w : World} {b base : Nat} {v : Value} {L : List RT} (h : Tab w b base v L) : ∃ p c, v = .slice p L.length c := h.2.1.row.form
/-- No row of routes lies in this block. -/
def NotR (w : World) (k : Nat) : Prop := ∀ cur, w.heap[k]? ≠ some (.cells cur 51 (0, 0))
theorem NotR.of {w w' : World} {k : Nat} (h : NotR w k) (e : w'.heap[k]? = w.heap[k]?) : NotR w' k := fun cur he => h cur (e.symm.trans he)
theorem NotR.new (w : World) (cs : Array Value) (t : TypeId) (ht : t ≠ 51) : NotR (w.alloc (.cells cs t)) w.heap.size := fun cur he => by
  rw [_root_.Go.heap_alloc_new] at he
  simp only [Option.some.injEq, Obj.cells.injEq] at he
  exact ht he.2.1
theorem NotR.ne {w : World} {k base : Nat} {v : Value} {L : List RT} (h : NotR w k) (o : OwnR w base v L) : v.ownBlock ≠ some k := by
  rcases o.2 with ⟨rfl, _⟩ | ⟨g, cap, cur, rfl, _, hg, _⟩
  · simp [Value.ownBlock]
  · intro e
    simp only [Value.ownBlock, Option.some.injEq] at e
    subst e
    exact h cur hg
/-- The error of find. -/
def finE (L : List RT) (p : PK) : Int := if chkE p.1 p.2.1 p.2.2 = 0 then (if hasR L p then 0 else 7) else chkE p.1 p.2.1 p.2.2
def finI (L : List RT) (p : PK) : Nat := if finE L p = 0 then posR L p else 0
set_option maxHeartbeats 1000000 in
theorem find_calls (b base : Nat) (v : Value) (L : List RT) (p : PK) (hp : p.2.1 < 2 ^ 128) (hs : SortedR L) (hlen : L.length ≤ 1000) (w : World) (T : Tab w b base v L) :
    Calls Try.prog 108 #[.pointer (some ⟨b, 0, none⟩), .agg #[.bool p.1, .int .u64 (aH p.2.1), .int .u64 (aL p.2.1), .int .i64 p.2.2]] w fun e w' => e = .returned (.tuple #[.int .i64 (finI L p : Nat), .int .i64 (finE L p)]) ∧ Below w.heap.size w w' := by
  have CK := Lib.hid (fun W => check_calls p.1 p.2.1 p.2.2 hp W)
  have PL := Lib.hid (fun (W : World) (t : Tab W b base v L) => place_calls b L p v hs hlen W t.1.1 t.2.1.row)
  have P1 := PreAt.new w p.1 (aH p.2.1) (aL p.2.1) p.2.2 32
  have TY := Lib.hid (T.alloc (.cells #[.bool p.1, .int .u64 (aH p.2.1), .int .u64 (aL p.2.1), .int .i64 p.2.2] 32))
  have bY := (Below.refl w.heap.size w).alloc (Nat.le_refl _) (.cells #[.bool p.1, .int .u64 (aH p.2.1), .int .u64 (aL p.2.1), .int .i64 p.2.2] 32)
  clear T
  go_enter Try.func108, Try.ntmps108
  go_wp2_with fail
  refine (CK.out _).mono ?_
  rintro e w1 ⟨rfl, hb1⟩
  have Q1 := P1.keep hb1
  have T1 := Lib.hid (TY.out.keep hb1)
  have b1 := thenBelow bY hb1
  clear P1 TY bY hb1 CK
  obtain ⟨p0, p1, p2, p3, pl⟩ := Q1
  by_cases hc : chkE p.1 p.2.1 p.2.2 = 0
  · rw [hc]
    go_wp2_with fail
    refine (PL.out _ T1.out).mono ?_
    rintro e w2 ⟨rfl, hb2⟩
    have b2 := thenBelow b1 hb2
    clear p0 p1 p2 p3 pl T1 PL b1 hb2
    by_cases hh : hasR L p = true
    · have E1 := Lib.hid (show finE L p = 0 by simp [finE, hc, hh])
      have E2 := Lib.hid (show finI L p = posR L p by simp [finI, E1.out])
      rw [hh]
      go_wp2
      go_ret2
      exact ⟨by rw [E1.out, E2.out]; rfl, b2⟩
    · have hh' : hasR L p = false := by simpa using hh
      have E1 := Lib.hid (show finE L p = 7 by simp [finE, hc, hh'])
      have E2 := Lib.hid (show finI L p = 0 by simp [finI, E1.out])
      rw [hh']
      go_wp2
      go_ret2
      exact ⟨by rw [E1.out, E2.out]; rfl, b2⟩
  · have hz1 : (chkE p.1 p.2.1 p.2.2 == 0) = false := by simpa using hc
    have hz2 : (chkE p.1 p.2.1 p.2.2 != 0) = true := by simp [bne, hz1]
    have E1 := Lib.hid (show finE L p = chkE p.1 p.2.1 p.2.2 by simp [finE, hc])
    have E2 := Lib.hid (show finI L p = 0 by rw [finI, E1.out, if_neg hc])
    go_wp2
    go_ret2
    exact ⟨by rw [E1.out, E2.out]; rfl, b1⟩
/-- The hop of a prefix that is there. -/
def hopR (L : List RT) (p : PK) : Int := match L[posR L p]? with | some r => r.2 | none => 0
theorem finE_0 {L : List RT} {p : PK} (hs : SortedR L) (h : finE L p = 0) : chkE p.1 p.2.1 p.2.2 = 0 ∧ hasR L p = true ∧ finI L p = posR L p ∧ ∃ ht : posR L p < L.length, (L[posR L p]'ht).1 = p ∧ (L[posR L p]'ht).2 = hopR L p := by
  have h2 : finI L p = posR L p := by simp [finI, h]
  unfold finE at h
  split at h
  · rename_i hc
    split at h
    · rename_i hh
      obtain ⟨ht, e⟩ := hs.found.1 hh
      exact ⟨hc, hh, h2, ht, e, by simp [hopR, List.getElem?_eq_getElem ht]⟩
    · cases h
  · rename_i hc; exact absurd h hc
/-- What Get answers. -/
def getR (L : List RT) (p : PK) : Int × Int := if finE L p = 0 then (hopR L p, p.2.2) else (0, 0)
set_option maxHeartbeats 2000000 in
theorem get_calls (b base : Nat) (v : Value) (L : List RT) (p : PK) (hp : p.2.1 < 2 ^ 128) (hs : SortedR L) (hlen : L.length ≤ 1000) (w : World) (T : Tab w b base v L) :
    Calls Try.prog 97 #[.pointer (some ⟨b, 0, none⟩), .agg #[.bool p.1, .int .u64 (aH p.2.1), .int .u64 (aL p.2.1), .int .i64 p.2.2]] w fun e w' => e = .returned (.tuple #[.agg #[.int .i64 0, .int .i64 (getR L p).1, .int .i64 (getR L p).2], .int .i64 (finE L p)]) ∧ Below w.heap.size w w' := by
  have FC := Lib.hid (fun (W : World) (t : Tab W b base v L) => find_calls b base v L p hp hs hlen W t)
  have P1 := (PreAt.new w p.1 (aH p.2.1) (aL p.2.1) p.2.2 32).alloc (.cells #[.int .i64 0, .int .i64 0, .int .i64 0] 79)
  have A1 := AnsV.new (w.alloc (.cells #[.bool p.1, .int .u64 (aH p.2.1), .int .u64 (aL p.2.1), .int .i64 p.2.2] 32)) 0 0 0 79
  simp only [World.size_alloc] at A1
  have TY := Lib.hid ((T.alloc (.cells #[.bool p.1, .int .u64 (aH p.2.1), .int .u64 (aL p.2.1), .int .i64 p.2.2] 32)).alloc (.cells #[.int .i64 0, .int .i64 0, .int .i64 0] 79))
  have bY : Below w.heap.size w ((w.alloc (.cells #[.bool p.1, .int .u64 (aH p.2.1), .int .u64 (aL p.2.1), .int .i64 p.2.2] 32)).alloc (.cells #[.int .i64 0, .int .i64 0, .int .i64 0] 79)) := by go_grown
  have hbw := T.1.2.2
  clear T
  go_enter Try.func97, Try.ntmps97
  go_wp2_with fail
  refine (FC.out _ TY.out).mono ?_
  rintro e w1 ⟨rfl, hb1⟩
  have Q1 := P1.keep hb1
  have A2 := A1.keep hb1 A1.2.2.2.2
  have T1 := Lib.hid (TY.out.keep hb1)
  have b1 := thenBelow bY hb1
  clear P1 TY bY hb1 FC A1
  by_cases hz : finE L p = 0
  · obtain ⟨_, _, e2, ht, e3, e4⟩ := finE_0 hs hz
    obtain ⟨q, c, rfl, hcap, at_⟩ := T1.out.2.1.row.at
    obtain ⟨g, o, rfl, hg, hrec⟩ := at_ _ ht
    obtain ⟨x0, x1, x2, x3, x4⟩ := routeCells hrec
    rw [e4] at x4
    have G := Lib.hid (show getR L p = (hopR L p, p.2.2) by simp [getR, hz])
    obtain ⟨p0, p1, p2, p3, pl⟩ := Q1
    have cb := T1.out.1.1
    have AS := A2.store 0 (hopR L p) p.2.2
    have bS := ((b1.setCell (p := ⟨w.heap.size + 1, 0, none⟩) (by simp) (.int .i64 0)).setCell (p := ⟨w.heap.size + 1, 1, none⟩) (by simp) (.int .i64 (hopR L p))).setCell (p := ⟨w.heap.size + 1, 2, none⟩) (by simp) (.int .i64 p.2.2)
    obtain ⟨z0, z1, z2, _⟩ := AS
    obtain ⟨k0, k1, k2, g0, gl⟩ := A2
    have g1 := g0 0
    have g2 := g0 1
    have g3 := g0 2
    have hti : ((posR L p : Nat) : Int) < (L.length : Int) := by omega
    rw [hz, e2]
    clear e2 e3 e4 at_ hrec x0 x1 x2 x3 T1
    generalize L.length = n at ht hti cb hcap
    generalize posR L p = i at ht hti x4
    go_wp2_with fail
    go_region
    go_wp2
    refine bodyPost_ret (by simp [results, Try.results97, go_sem, k0, k1, k2]; try rfl) rfl ?_
    exact ⟨by rw [G.out, hz], bS.drew⟩
  · have hz1 : (finE L p == 0) = false := by simpa using hz
    have hz2 : (finE L p != 0) = true := by simp [bne, hz1]
    have G := Lib.hid (show getR L p = (0, 0) by simp [getR, hz])
    have AS := A2.store 0 0 0
    have bS := ((b1.setCell (p := ⟨w.heap.size + 1, 0, none⟩) (by simp) (.int .i64 0)).setCell (p := ⟨w.heap.size + 1, 1, none⟩) (by simp) (.int .i64 0)).setCell (p := ⟨w.heap.size + 1, 2, none⟩) (by simp) (.int .i64 0)
    obtain ⟨z0, z1, z2, _⟩ := AS
    obtain ⟨k0, k1, k2, g0, gl⟩ := A2
    have g1 := g0 0
    have g2 := g0 1
    have g3 := g0 2
    go_wp2
    refine bodyPost_ret (by simp [results, Try.results97, go_sem, z0, z1, z2]; try rfl) rfl ?_
    exact ⟨by rw [G.out], bS⟩
end Go.Proofs.Ytmjlmfbceccjdaa
