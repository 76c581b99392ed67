/-
  table.look: where an address goes.
-/
import Derived.Test.YtepfcphhgmmlhaaTabI
namespace Go.Proofs.Ytepfcphhgmmlhaa
open Go.RowKit Go.Shelf
set_option linter.unusedVariables false
set_option linter.unusedSimpArgs false
attribute [local go_sem] Oper.semAt_some

theorem matches_calls (b : Nat) (s : Bool) (h l : Int) (w : World) :
    Calls Try.prog 83 #[.pointer (some ⟨b, 0, none⟩), .agg #[.bool s, .int .u64 h, .int .u64 l]] w fun e w' => e = .returned (.func (.func 114) #[] #[.pointer (some ⟨w.heap.size, 0, none⟩), .pointer (some ⟨w.heap.size + 1, 0, none⟩)]) ∧ (w.alloc (.cells #[.pointer (some ⟨b, 0, none⟩)] 113)).alloc (.cells #[.bool s, .int .u64 h, .int .u64 l] 49) = w' := by
  go_enter Try.func83, Try.ntmps83
  go_wp2
  go_ret
  exact ⟨by simp, rfl⟩
/-- An answer in a block of its own. -/
def AnsV (w : World) (b : Nat) (c h l : Int) : Prop := w.cell? ⟨b, 0, none⟩ = some (.int .i64 c) ∧ w.cell? ⟨b, 1, none⟩ = some (.int .i64 h) ∧ w.cell? ⟨b, 2, none⟩ = some (.int .i64 l) ∧ (∀ o, w.frozen? ⟨b, o, none⟩ = false) ∧ b < w.heap.size
theorem AnsV.keep {w w' : World} {b : Nat} {c h l : Int} (a : AnsV w b c h l) {n : Nat} (hb : Below n w w') (hn : b < n) : AnsV w' b c h l :=
  ⟨(hb.cell (p := ⟨b, 0, none⟩) hn).trans a.1, (hb.cell (p := ⟨b, 1, none⟩) hn).trans a.2.1, (hb.cell (p := ⟨b, 2, none⟩) hn).trans a.2.2.1, fun o => (hb.frozen (p := ⟨b, o, none⟩) hn).trans (a.2.2.2.1 o), Nat.lt_of_lt_of_le a.2.2.2.2 hb.size⟩
theorem AnsV.new (w : World) (c h l : Int) (t : TypeId) : AnsV (w.alloc (.cells #[.int .i64 c, .int .i64 h, .int .i64 l] t)) w.heap.size c h l := ⟨by simp, by simp, by simp, fun o => by simp [go_sem], by simp⟩
theorem AnsV.alloc {w : World} {b : Nat} {c h l : Int} (a : AnsV w b c h l) (o : Obj) : AnsV (w.alloc o) b c h l := a.keep ((Below.refl _ w).alloc (Nat.le_refl _) o) a.2.2.2.2
theorem AnsV.of_block {w w' : World} {b : Nat} {c h l : Int} (a : AnsV w b c h l) (e : w'.heap[b]? = w.heap[b]?) (hs : w.heap.size ≤ w'.heap.size) : AnsV w' b c h l :=
  ⟨(World.cell?_of_block (a := ⟨b, 0, none⟩) e).trans a.1, (World.cell?_of_block (a := ⟨b, 1, none⟩) e).trans a.2.1, (World.cell?_of_block (a := ⟨b, 2, none⟩) e).trans a.2.2.1, fun o => (World.frozen?_of_block (a := ⟨b, o, none⟩) e).trans (a.2.2.2.1 o), Nat.lt_of_lt_of_le a.2.2.2.2 hs⟩
theorem block_kept {W W' : World} {row : Option Nat} {b o : Nat} {v : Value} (h : W.cell? ⟨b, o, none⟩ = some v) (hg : W.grownBy W' row) (hr : ∀ r, row = some r → ∃ o : Obj, W.heap[r]? = some o ∧ o.isCells = false) : W'.heap[b]? = W.heap[b]? := by
  refine hg.block b (World.block_lt_of_cell? W _ h) fun e => ?_
  obtain ⟨ob, h1, h2⟩ := hr b e.symm
  unfold World.cell? at h
  rw [h1] at h
  cases ob <;> simp [Obj.isCells] at h h2
theorem AnsV.store {w : World} {b : Nat} {c h l : Int} (a : AnsV w b c h l) (c2 h2 l2 : Int) : AnsV (((w.setCell ⟨b, 0, none⟩ (.int .i64 c2)).setCell ⟨b, 1, none⟩ (.int .i64 h2)).setCell ⟨b, 2, none⟩ (.int .i64 l2)) b c2 h2 l2 := by
  obtain ⟨a0, a1, a2, af, az⟩ := a
  exact ⟨by simp [go_sem, a0, a1, a2], by simp [go_sem, a0, a1, a2], by simp [go_sem, a0, a1, a2], fun o => by simp only [World.frozen?_setCell]; exact af o, by simpa using az⟩
theorem AnsV.far {w : World} {b : Nat} {c h l : Int} (a : AnsV w b c h l) {p : Addr} (hp : b ≠ p.block) (u : Value) : AnsV (w.setCell p u) b c h l := by
  have ne : ∀ o, p ≠ ⟨b, o, none⟩ := fun o e => hp (by rw [e])
  exact ⟨(World.cell?_setCell_other w p _ u (ne 0)).trans a.1, (World.cell?_setCell_other w p _ u (ne 1)).trans a.2.1, (World.cell?_setCell_other w p _ u (ne 2)).trans a.2.2.1, fun o => by rw [World.frozen?_setCell]; exact a.2.2.2.1 o, by simpa using a.2.2.2.2⟩
/-- The hop and the length of the last of some routes. -/
def lastM (l : List RT) : Int × Int := match l.getLast? with | none => (0, 0) | some r => (r.2, r.1.2.2)
theorem lastM_snoc (l : List RT) (r : RT) : lastM (l ++ [r]) = (r.2, r.1.2.2) := by simp [lastM]
theorem look_form (b : Nat) (s : Bool) (y : Nat) (hy : y < 2 ^ 128) (hv : ¬ y < 2 ^ wideN s) (w : World) :
    Calls Try.prog 62 #[.pointer (some ⟨b, 0, none⟩), .agg #[.bool s, .int .u64 (aH y), .int .u64 (aL y)]] w fun e w' => e = .returned (.tuple #[.agg #[.int .i64 0, .int .i64 0, .int .i64 0], .int .i64 4]) ∧ Below w.heap.size w w' := by
  have C := Lib.hid (fun W => may_num s y hy false (decide_eq_false hv) W)
  have bY := ((Below.refl w.heap.size w).alloc (Nat.le_refl _) (.cells #[.bool s, .int .u64 (aH y), .int .u64 (aL y)] 49)).alloc (by simp) (.cells #[.int .i64 0, .int .i64 0, .int .i64 0] 63)
  have A1 := AnsV.new (w.alloc (.cells #[.bool s, .int .u64 (aH y), .int .u64 (aL y)] 49)) 0 0 0 63
  simp only [World.size_alloc] at A1
  go_enter Try.func62, Try.ntmps62
  go_wp2_with fail
  refine (C.out _).mono ?_
  rintro e w1 ⟨rfl, hw1⟩
  have A2 := A1.alloc (.cells #[.bool s, .int .u64 (aH y), .int .u64 (aL y)] 49)
  have b2 := bY.alloc bY.size (.cells #[.bool s, .int .u64 (aH y), .int .u64 (aL y)] 49)
  rw [hw1] at A2 b2
  clear hw1 A1 bY C
  have AZ := A2.store 0 0 0
  obtain ⟨c0, c1, c2, f0, fl⟩ := A2
  have f1 := f0 0
  have f2 := f0 1
  have f3 := f0 2
  have bZ := ((b2.setCell (p := ⟨w.heap.size + 1, 0, none⟩) (Nat.le_succ _) (.int .i64 0)).setCell (p := ⟨w.heap.size + 1, 1, none⟩) (Nat.le_succ _) (.int .i64 0)).setCell (p := ⟨w.heap.size + 1, 2, none⟩) (Nat.le_succ _) (.int .i64 0)
  obtain ⟨z0, z1, z2, _⟩ := AZ
  go_wp2
  refine bodyPost_ret (by simp [results, Try.results62, go_sem, z0, z1, z2]; try rfl) rfl ?_
  exact ⟨by simp, bZ⟩
theorem KpA.set {M A : Nat} (W : World) (j : Nat) (u : Value) : KpA M A W (W.setCell ⟨A, j, none⟩ u) := ⟨by simp, fun k _ hk => Below.heap_setCell _ _ _ k hk⟩
theorem recNew (W : World) (r : RT) (t : TypeId) : RecAt (W.alloc (.cells #[.bool r.1.1, .int .u64 (aH r.1.2.1), .int .u64 (aL r.1.2.1), .int .i64 r.1.2.2, .int .i64 r.2] t)) W.heap.size 0 (rcs r) := by
  intro j v hj
  match j, hj with
  | 0, hj => simp [rcs] at hj; simp [← hj]
  | 1, hj => simp [rcs] at hj; simp [← hj]
  | 2, hj => simp [rcs] at hj; simp [← hj]
  | 3, hj => simp [rcs] at hj; simp [← hj]
  | 4, hj => simp [rcs] at hj; simp [← hj]
  | j + 5, hj => simp [rcs] at hj
set_option maxRecDepth 100000 in
set_option maxHeartbeats 4000000 in
theorem look_ok (b : Nat) (v : Value) (L : List RT) (s : Bool) (y : Nat) (hy : y < 2 ^ wideN s) (hv : ∀ r ∈ L, chkE r.1.1 r.1.2.1 r.1.2.2 = 0) (hlen : L.length ≤ 1000) (w : World) (hc : w.cell? ⟨b, 0, none⟩ = some v) (row : RowR w v L) :
    Calls Try.prog 62 #[.pointer (some ⟨b, 0, none⟩), .agg #[.bool s, .int .u64 (aH y), .int .u64 (aL y)]] w fun e w' => e = .returned (.tuple #[.agg #[.int .i64 0, .int .i64 (lastM (L.filter (mB s y))).1, .int .i64 (lastM (L.filter (mB s y))).2], .int .i64 0]) ∧ Below w.heap.size w w' := by
  have hbw : b < w.heap.size := World.block_lt_of_cell? w _ hc
  have C := Lib.hid (fun W => may_num s y (lt128 hy) true (decide_eq_true hy) W)
  have M := Lib.hid (fun W => matches_calls b s (aH y) (aL y) W)
  refine (callsIn_wide (n := 3)).1 ?_
  refine callsIn_of_wp_marks Try.func62 rfl trivial ?_ rfl
  simp only [Try.ntmps62, List.size_toArray, List.length_cons, List.length_nil, Nat.reduceAdd, Nat.reduceSub, Array.replicate_succ, Array.replicate_zero, List.push_toArray, List.append_toArray, List.nil_append, List.cons_append]
  gi_wp2_with (fail)
  refine ⟨trivial, (callsIn_wide.2 (C.out _)).mono ?_⟩
  rintro e w1 ⟨rfl, rfl⟩
  gi_wp2_with (fail)
  refine ⟨trivial, (callsIn_wide.2 (M.out _)).mono ?_⟩
  rintro e w1 ⟨rfl, rfl⟩
  gi_wp2
  have A1 := ((((AnsV.new (w.alloc (.cells #[.bool s, .int .u64 (aH y), .int .u64 (aL y)] 49)) 0 0 0 63).alloc (.cells #[.bool s, .int .u64 (aH y), .int .u64 (aL y)] 49)).alloc (.cells #[.int .i64 0, .int .i64 0, .int .i64 0] 63)).alloc (.cells #[.pointer (some ⟨b, 0, none⟩)] 113)).alloc (.cells #[.bool s, .int .u64 (aH y), .int .u64 (aL y)] 49)
  have A3 := ((AnsV.new (((w.alloc (.cells #[.bool s, .int .u64 (aH y), .int .u64 (aL y)] 49)).alloc (.cells #[.int .i64 0, .int .i64 0, .int .i64 0] 63)).alloc (.cells #[.bool s, .int .u64 (aH y), .int .u64 (aL y)] 49)) 0 0 0 63).alloc (.cells #[.pointer (some ⟨b, 0, none⟩)] 113)).alloc (.cells #[.bool s, .int .u64 (aH y), .int .u64 (aL y)] 49)
  have B4 := (Box.new ((((w.alloc (.cells #[.bool s, .int .u64 (aH y), .int .u64 (aL y)] 49)).alloc (.cells #[.int .i64 0, .int .i64 0, .int .i64 0] 63)).alloc (.cells #[.bool s, .int .u64 (aH y), .int .u64 (aL y)] 49)).alloc (.cells #[.int .i64 0, .int .i64 0, .int .i64 0] 63)) (.pointer (some ⟨b, 0, none⟩)) 113).alloc (.cells #[.bool s, .int .u64 (aH y), .int .u64 (aL y)] 49)
  have B5 := AddrAt.new (((((w.alloc (.cells #[.bool s, .int .u64 (aH y), .int .u64 (aL y)] 49)).alloc (.cells #[.int .i64 0, .int .i64 0, .int .i64 0] 63)).alloc (.cells #[.bool s, .int .u64 (aH y), .int .u64 (aL y)] 49)).alloc (.cells #[.int .i64 0, .int .i64 0, .int .i64 0] 63)).alloc (.cells #[.pointer (some ⟨b, 0, none⟩)] 113)) s (aH y) (aL y) 49
  simp only [World.size_alloc] at A1 A3 B4 B5
  have hB0 : Below w.heap.size w ((((((w.alloc (.cells #[.bool s, .int .u64 (aH y), .int .u64 (aL y)] 49)).alloc (.cells #[.int .i64 0, .int .i64 0, .int .i64 0] 63)).alloc (.cells #[.bool s, .int .u64 (aH y), .int .u64 (aL y)] 49)).alloc (.cells #[.int .i64 0, .int .i64 0, .int .i64 0] 63)).alloc (.cells #[.pointer (some ⟨b, 0, none⟩)] 113)).alloc (.cells #[.bool s, .int .u64 (aH y), .int .u64 (aL y)] 49)) := by go_grown
  have hsz : ((((((w.alloc (.cells #[.bool s, .int .u64 (aH y), .int .u64 (aL y)] 49)).alloc (.cells #[.int .i64 0, .int .i64 0, .int .i64 0] 63)).alloc (.cells #[.bool s, .int .u64 (aH y), .int .u64 (aL y)] 49)).alloc (.cells #[.int .i64 0, .int .i64 0, .int .i64 0] 63)).alloc (.cells #[.pointer (some ⟨b, 0, none⟩)] 113)).alloc (.cells #[.bool s, .int .u64 (aH y), .int .u64 (aL y)] 49)).heap.size = w.heap.size + 6 := by simp
  obtain ⟨W0, hW0⟩ : ∃ W0, ((((((w.alloc (.cells #[.bool s, .int .u64 (aH y), .int .u64 (aL y)] 49)).alloc (.cells #[.int .i64 0, .int .i64 0, .int .i64 0] 63)).alloc (.cells #[.bool s, .int .u64 (aH y), .int .u64 (aL y)] 49)).alloc (.cells #[.int .i64 0, .int .i64 0, .int .i64 0] 63)).alloc (.cells #[.pointer (some ⟨b, 0, none⟩)] 113)).alloc (.cells #[.bool s, .int .u64 (aH y), .int .u64 (aL y)] 49)) = W0 := ⟨_, rfl⟩
  rw [hW0] at A1 A3 B4 B5 hB0 hsz ⊢
  clear hW0 C M
  have hc0 := (hB0.cell (p := ⟨b, 0, none⟩) hbw).trans hc
  have row0 := row.keep hB0
  have hrow : ∀ g o c, v = .slice (some ⟨g, o, none⟩) L.length c → L ≠ [] → g < w.heap.size := fun g o c e hne => by
    rcases row with ⟨e0, _⟩ | ⟨g', o', c', e', hg', _⟩
    · exact absurd e0 hne
    · rw [e] at e'; cases e'; exact hg'
  have stops : SeqStopsK Fence.wide 2 Try.prog 114 #[.pointer (some ⟨w.heap.size + 1 + 1 + 1 + 1, 0, none⟩), .pointer (some ⟨w.heap.size + 1 + 1 + 1 + 1 + 1, 0, none⟩)] encR (KpA (w.heap.size + 6) (w.heap.size + 1 + 1 + 1)) (fun ys => ys = L.filter (mB s y)) (fun _ => True) L.length W0 := fun l J Jx W hW hJ _ hY h0 =>
    matches1_in 2 l (w.heap.size + 6) (w.heap.size + 1 + 1 + 1) (w.heap.size + 1 + 1 + 1 + 1) (w.heap.size + 1 + 1 + 1 + 1 + 1) b v L s y J Jx hY W hJ (by have := hW.size; omega) hv hy hlen ⟨by omega, by omega⟩ ⟨by omega, by omega⟩ ⟨by omega, by omega⟩
      (B4.keep hW B4.2.2).1 (B5.keep hW) ((hW.cell (p := ⟨b, 0, none⟩) (by rw [hsz]; show b < _; omega)).trans hc0) (row0.keep hW) (fun g o c e hne => by have := hrow g o c e hne; exact ⟨by omega, by omega⟩) h0
  have ST := Lib.hid stops
  clear stops
  refine wpIn_rangeFunc_ownH rfl (by omega) (gf := 114) (lb := #[.pointer (some ⟨w.heap.size + 1 + 1 + 1 + 1, 0, none⟩), .pointer (some ⟨w.heap.size + 1 + 1 + 1 + 1 + 1, 0, none⟩)]) rfl trivial (enters_of Try.func114 (by kernel_rfl) rfl)
    ST.out (fun h g => h.trans g) (fun W l o o' hl ho _ _ => ⟨by simp, fun k hk _ => World.putObj_heap_other (by rw [hsz] at hl; omega)⟩) (Below.refl _ _) (fun _ => rfl)
    (fun pre W => (AnsV W (w.heap.size + 1 + 1 + 1) 0 (lastM pre).1 (lastM pre).2 ∧ AnsV W (w.heap.size + 1) 0 0 0 ∧ w.heap.size + 6 ≤ W.heap.size) ∧ Below w.heap.size w W)
    (fun _ _ _ => False)
    (OwnFrom.and (Own.from (fun s X Y row hs hg hr => ⟨hs.1.of_block (block_kept hs.1.1 hg hr) hg.size, hs.2.1.of_block (block_kept hs.2.1.1 hg hr) hg.size, Nat.le_trans hs.2.2 hg.size⟩) _) (ownFrom_below (Nat.le_refl _) (by omega)))
    (fun _ _ _ _ _ hs _ _ => hs)
    ⟨⟨A3, A1, by omega⟩, hB0⟩
    (fun x a' W => ∃ Bx, w.heap.size + 5 < Bx ∧ RecAt W Bx 0 (rcs x) ∧ a' = { tmps := #[.pointer (some ⟨b, 0, none⟩), .agg #[.bool s, .int .u64 (aH y), .int .u64 (aL y)], undef, .pointer (some ⟨w.heap.size, 0, none⟩), .pointer (some ⟨w.heap.size + 1, 0, none⟩), .int .i64 0, .pointer (some ⟨w.heap.size + 1 + 1 + 1, 0, none⟩), .pointer (some ⟨Bx, 0, none⟩), .agg #[.bool s, .int .u64 (aH y), .int .u64 (aL y)], .bool true, .bool false, undef, .pointer (some ⟨b, 0, none⟩), .agg #[.bool s, .int .u64 (aH y), .int .u64 (aL y)], .func (.func 114) #[] #[.pointer (some ⟨w.heap.size + 1 + 1 + 1 + 1, 0, none⟩), .pointer (some ⟨w.heap.size + 1 + 1 + 1 + 1 + 1, 0, none⟩)], .agg #[.bool x.1.1, .int .u64 (aH x.1.2.1), .int .u64 (aL x.1.2.1), .int .i64 x.1.2.2, .int .i64 x.2], undef, undef, undef, undef, undef, undef, undef], defers := [] })
    (fun x a' _ X Y row hs hg hr => by obtain ⟨Bx, h1, h2, h3⟩ := hs; exact ⟨Bx, h1, fun j u hj => cell_kept (h2 j u hj) hg (fun r e => (hr r e).2), h3⟩)
    ?assign ?body ?done ?stop
  case assign =>
    rintro l pre x W K ⟨⟨hA, hA1, hM⟩, hB⟩ hK
    gi_wp2
    exact hK _ _ ((KeepsOthers.alloc _ _).from _) (KpA.below ((Below.refl W.heap.size W).alloc (Nat.le_refl _) _) hM) ⟨⟨hA.alloc _, hA1.alloc _, by simp; omega⟩, hB.alloc hB.size _⟩ ⟨W.heap.size, by omega, recNew W x 53, rfl⟩
  case body =>
    rintro l pre x a' W hl ⟨r, hr⟩ ⟨⟨hA, hA1, hM⟩, hB⟩ ⟨Bx, hBx, hR, rfl⟩ hlt
    obtain ⟨y0, y1, y2, y3, y4⟩ := routeCells hR
    simp only [Nat.zero_add] at y0 y1 y2 y3 y4
    have AS := Lib.hid (hA.store 0 x.2 x.1.2.2)
    have A1S := Lib.hid (((hA1.far (p := ⟨w.heap.size + 1 + 1 + 1, 0, none⟩) (by simp) (.int .i64 0)).far (p := ⟨w.heap.size + 1 + 1 + 1, 1, none⟩) (by simp) (.int .i64 x.2)).far (p := ⟨w.heap.size + 1 + 1 + 1, 2, none⟩) (by simp) (.int .i64 x.1.2.2))
    have bS := Lib.hid (((hB.setCell (p := ⟨w.heap.size + 1 + 1 + 1, 0, none⟩) (by simp; omega) (.int .i64 0)).setCell (p := ⟨w.heap.size + 1 + 1 + 1, 1, none⟩) (by simp; omega) (.int .i64 x.2)).setCell (p := ⟨w.heap.size + 1 + 1 + 1, 2, none⟩) (by simp; omega) (.int .i64 x.1.2.2))
    obtain ⟨c0, c1, c2, f0, fl⟩ := hA
    have f1 := f0 0
    have f2 := f0 1
    have f3 := f0 2
    gi_wp2
    exact ⟨((((KeepsOthers.setCell _ _ _).from _).trans ((KeepsOthers.setCell _ _ _).from _)).trans ((KeepsOthers.setCell _ _ _).from _)), ((KpA.set _ _ _).trans (KpA.set _ _ _)).trans (KpA.set _ _ _), ⟨by rw [lastM_snoc]; exact AS.out, A1S.out, by simp; omega⟩, bS.out⟩
  case done =>
    rintro D zs W hD rfl ⟨⟨hA, hA1, hM⟩, hB⟩ hK
    obtain ⟨c0, c1, c2, _⟩ := hA
    have AS := hA1.store 0 (lastM (L.filter (mB s y))).1 (lastM (L.filter (mB s y))).2
    have bS := Lib.hid (((hB.setCell (p := ⟨w.heap.size + 1, 0, none⟩) (by simp) (.int .i64 0)).setCell (p := ⟨w.heap.size + 1, 1, none⟩) (by simp) (.int .i64 (lastM (L.filter (mB s y))).1)).setCell (p := ⟨w.heap.size + 1, 2, none⟩) (by simp) (.int .i64 (lastM (L.filter (mB s y))).2))
    obtain ⟨d0, d1, d2, f0, fl⟩ := hA1
    have f1 := f0 0
    have f2 := f0 1
    have f3 := f0 2
    gi_wp2
    have hK' := (KeepsOthers.setCell _ ⟨w.heap.size + 1, 2, none⟩ (.int .i64 (lastM (L.filter (mB s y))).2)).same D _ ((KeepsOthers.setCell _ ⟨w.heap.size + 1, 1, none⟩ (.int .i64 (lastM (L.filter (mB s y))).1)).same D _ ((KeepsOthers.setCell W ⟨w.heap.size + 1, 0, none⟩ (.int .i64 0)).same D _ hK rfl) rfl) rfl
    refine ⟨by simp, .inl ⟨_, _, rfl, run_takeDeferred hK', ?_⟩⟩
    have kc : ∀ (a : Addr) (u : Value), (((W.setCell ⟨w.heap.size + 1, 0, none⟩ (.int .i64 0)).setCell ⟨w.heap.size + 1, 1, none⟩ (.int .i64 (lastM (L.filter (mB s y))).1)).setCell ⟨w.heap.size + 1, 2, none⟩ (.int .i64 (lastM (L.filter (mB s y))).2)).cell? a = some u → ((((W.setCell ⟨w.heap.size + 1, 0, none⟩ (.int .i64 0)).setCell ⟨w.heap.size + 1, 1, none⟩ (.int .i64 (lastM (L.filter (mB s y))).1)).setCell ⟨w.heap.size + 1, 2, none⟩ (.int .i64 (lastM (L.filter (mB s y))).2)).putObj D (.deferred none)).cell? a = some u :=
      fun a u h => cell_kept h (grownBy_putObj' _ D (.deferred none)) (fun r e => by cases e; exact ⟨_, hK', rfl⟩)
    have e0 := kc _ _ AS.1
    have e1 := kc _ _ AS.2.1
    have e2 := kc _ _ AS.2.2.1
    refine ⟨_, ?_, rfl, bS.out.trans (belowK_b (w := w) (Nat.le_refl _) _ D _ _ (by rw [hsz] at hD; omega) hK' rfl rfl)⟩
    simp [results, Try.results62, Try.f62, go_sem, e0, e1, e2]
  case stop =>
    rintro D c pre W _ _ h _
    exact h.elim
end Go.Proofs.Ytepfcphhgmmlhaa
