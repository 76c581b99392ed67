/-
  Laid together: TabE, TabF, TabQ.
-/
import Derived.Test.YtgajepmnklbmpaaG7
import Derived.Test.YtgajepmnklbmpaaCopyK
import Derived.Shelf.RegionOpenPlain
import Derived.Laws.Externs
import Derived.Laws.NewBlocks
import Derived.Lib.AppendZerosOnto
/-
  slices.Insert of one route.
-/
namespace Go.Proofs.Ytgajepmnklbmpaa
open Go.RowKit Go.Lib
set_option linter.unusedVariables false
set_option linter.unusedSimpArgs false

theorem info_route : (Try.prog.info? 66).map (fun i => (i.zero, i.size, i.bytes)) = some (some (.agg #[.bool false, .int .u64 0, .int .u64 0, .int .i64 0, .int .i64 0]), 5, 40) := by kernel_rfl
theorem size_route : (Try.prog.info? 66).map (·.size) = some 5 := by kernel_rfl
/-- What slices.Insert of one element says: a row that this call's caller owns holds it now. -/
abbrev InsOut (base : Nat) (v : Value) (n i : Nat) (xs ys : List Value) (w : World) (e : Ending) (w' : World) : Prop :=
  ∃ v', e = .returned v' ∧ w'.ownsRow base 66 5 v' (n + 1) (xs.take (i * 5) ++ ys ++ xs.drop (i * 5)) ∧ w.grownBy w' v.ownBlock

set_option maxHeartbeats 4000000 in
set_option maxRecDepth 100000 in
theorem insert_end (base vb n : Nat) (tV : TypeId) (v : Value) (xs ys : List Value) (hn : n ≤ 1000) (hy : ys.length = 5) (h1 : ∀ u ∈ ys, u.oneCell' = true) (w : World) (hb : base ≤ w.heap.size)
    (hown : w.ownsRow base 66 5 v n xs) (hv : w.heap[vb]? = some (.cells ys.toArray tV (0, 0))) :
    Calls Try.prog 86 #[v, .int .i64 (n : Nat), .slice (some ⟨vb, 0, none⟩) 1 1] w (InsOut base v n n xs ys w) := by
  obtain ⟨i0, hii, hz0, hz1, hz2⟩ := info_parts info_route
  have hxl : xs.length = n * 5 := hown.1
  have hnews : ∀ j u, ys[j]? = some u → w.cell? ((⟨vb, 0, none⟩ : Addr).add j) = some u := fun j u hj => World.news_of_block hv j u (by simpa using hj)
  have HO : Hid (∀ (v' : Value) (w' : World), w'.ownsRow base 66 5 v' (n + 1) (xs ++ ys) → w'.ownsRow base 66 5 v' (n + 1) (xs.take (n * 5) ++ ys ++ xs.drop (n * 5))) := Lib.hid fun v' w' h => by
    rw [List.take_of_length_le (by omega), List.drop_eq_nil_of_le (by omega), List.append_nil]; exact h
  have hl5 : ys.length = 1 * 5 := by omega
  rcases hown.2 with ⟨rfl, rfl⟩ | ⟨g, cap, cur, rfl, hbg, hg, hnc, hcm, hcs, htake⟩
  · go_enter Try.func86, Try.ntmps86
    go_wp2_with (at_builtin; refine wpList_append_own _ rfl _ _ 33 rfl base 66 i0 _ 5 40 Try.underlying33 hii hz0 hz1 hz2 rfl (by decide) _ _ _ rfl hown ⟨vb, 0, none⟩ 1 1 ys rfl hl5 hnews h1 (by unfold maxLen; omega) (by omega) hb ?_; intro v' w1 ho hgr hnl)
    go_ret
    exact ⟨_, rfl, HO.out _ _ ho, hgr⟩
  · have hcap : cap ≤ 9223372036854775807 := hcm
    have hcn : (n : Int) ≤ (cap : Int) := by omega
    go_enter Try.func86, Try.ntmps86
    by_cases hc : cap = n
    · subst hc
      go_wp2_with (at_builtin; refine wpList_append_own _ rfl _ _ 33 rfl base 66 i0 _ 5 40 Try.underlying33 hii hz0 hz1 hz2 rfl (by decide) _ _ _ rfl hown ⟨vb, 0, none⟩ 1 1 ys rfl hl5 hnews h1 (by unfold maxLen; omega) (by omega) hb ?_; intro v' w1 ho hgr hnl)
      go_ret
      exact ⟨_, rfl, HO.out _ _ ho, hgr⟩
    · go_wp2_with (at_builtin; refine wpList_append_own _ rfl _ _ 33 rfl base 66 i0 _ 5 40 Try.underlying33 hii hz0 hz1 hz2 rfl (by decide) _ _ _ rfl hown ⟨vb, 0, none⟩ 1 1 ys rfl hl5 hnews h1 (by unfold maxLen; omega) (by omega) hb ?_; intro v' w1 ho hgr hnl)
      go_ret
      exact ⟨_, rfl, HO.out _ _ ho, hgr⟩

set_option maxHeartbeats 4000000 in
set_option maxRecDepth 100000 in
theorem insert_shift (base vb n i g cap : Nat) (tV : TypeId) (cur : Array Value) (xs ys : List Value) (hn : n ≤ 1000) (hi : i < n) (hy : ys.length = 5) (h1 : ∀ u ∈ ys, u.oneCell' = true) (h1x : ∀ u ∈ xs, u.oneCell' = true) (w : World)
    (hbg : base ≤ g) (hg : w.heap[g]? = some (.cells cur 66 (0, 0))) (hcm : cap ≤ maxLen) (hcs : cur.size = cap * 5) (htake : cur.toList.take (n * 5) = xs) (hroom : n + 1 ≤ cap)
    (hv : w.heap[vb]? = some (.cells ys.toArray tV (0, 0))) (hne : vb ≠ g) :
    Calls Try.prog 86 #[.slice (some ⟨g, 0, none⟩) n cap, .int .i64 (i : Nat), .slice (some ⟨vb, 0, none⟩) 1 1] w (InsOut base (.slice (some ⟨g, 0, none⟩) n cap) n i xs ys w) := by
  obtain ⟨i0, hii, hz0, hz1, hz2⟩ := info_parts info_route
  have hcap : cap ≤ 9223372036854775807 := hcm
  have hxl : xs.length = n * 5 := by rw [← htake, List.length_take, Array.length_toList]; omega
  have hdl : (xs.drop (i * 5)).length = (n - i) * 5 := by rw [List.length_drop, hxl]; omega
  have hcl : cur.toList.length = cap * 5 := by rw [Array.length_toList, hcs]
  have hgw : g < w.heap.size := (Array.getElem?_eq_some_iff.1 hg).1
  have hov : ∀ lb cb, (callFunc 100 #[.slice (some ⟨vb, 0, none⟩) 1 1, .slice (some ⟨g, (i + 1) * 5, none⟩) lb cb]).run Try.prog w = .ok (.value (.bool false)) w := fun lb cb => by
    rw [run_callFunc_extern Try.func100 (by kernel_rfl) (by kernel_rfl) (by kernel_rfl) (e := Extern.SlicesOverlaps.overlaps #[33, 33] #[4]) (by kernel_rfl),
      Lib.run_overlaps_apart w 33 4 66 Try.underlying33 5 (fun W => by simp [sizeOf, typeInfo, hii, hz1]) ⟨vb, 0, none⟩ ⟨g, (i + 1) * 5, none⟩ 1 1 lb cb hne tV 66 5 (cap * 5) (by simp [World.shape?, hv, hy]) (by simp [World.shape?, hg, hcs]) (by omega) (by simp [World.frozen?, hv]) (by simp [World.frozen?, hv])]
    rfl
  have hcp1 : ∀ ty dc sc, (Builtin.copy_ #[33, 33] ty #[.slice (some ⟨g, (i + 1) * 5, none⟩) (n - i) dc, .slice (some ⟨g, i * 5, none⟩) (n + 1 - i) sc]).run Try.prog w.drew = _ := fun ty dc sc =>
    run_copy_rowK w.drew _ _ ty 66 5 g ((i + 1) * 5) (n - i) dc ⟨g, i * 5, none⟩ (n + 1 - i) sc cur 66 (xs.drop (i * 5)) Try.underlying33 size_route hg
      (by rw [hdl]; simp only [Nat.min_def]; split <;> omega)
      (fun j u hj => by
        rw [List.getElem?_drop, ← htake, List.getElem?_take] at hj
        split at hj
        · rw [Addr.add_lit]
          have := cell_of_row w.drew g (i * 5 + j) cur 66 (0, 0) hg
          rw [this]; simpa using hj
        · cases hj)
      (by rw [hdl, hcs]; omega) (fun u hu => h1x u (List.mem_of_mem_drop hu))
  obtain ⟨C1, hC1⟩ : ∃ C1, C1 = cur.toList.take ((i + 1) * 5) ++ xs.drop (i * 5) ++ cur.toList.drop ((i + 1) * 5 + (xs.drop (i * 5)).length) := ⟨_, rfl⟩
  rw [← hC1] at hcp1
  have key := cells_shift cur.toList xs ys (i * 5) (n * 5) 5 htake (by rw [hcl]; omega) (by omega) hy
  rw [show i * 5 + 5 = (i + 1) * 5 by omega] at key
  simp only [← hC1] at key
  obtain ⟨k1, k2, k3⟩ := key
  have hW1 : (w.drew.setRow g C1.toArray).heap[g]? = some (.cells C1.toArray 66 (0, 0)) := setRow_heap w.drew g cur _ 66 _ hg
  have hcp2 : ∀ ty dc, (Builtin.copy_ #[33, 33] ty #[.slice (some ⟨g, i * 5, none⟩) (n + 1 - i) dc, .slice (some ⟨vb, 0, none⟩) 1 1]).run Try.prog (w.drew.setRow g C1.toArray) = _ := fun ty dc =>
    run_copy_rowK _ _ _ ty 66 5 g (i * 5) (n + 1 - i) dc ⟨vb, 0, none⟩ 1 1 C1.toArray 66 ys Try.underlying33 size_route hW1
      (by rw [hy]; simp only [Nat.min_def]; split <;> omega)
      (fun j u hj => by
        have hb : (w.drew.setRow g C1.toArray).heap[vb]? = some (.cells ys.toArray tV (0, 0)) := (setRow_other w.drew g vb _ hne).trans hv
        exact World.news_of_block hb j u (by simpa using hj))
      (by simp only [List.size_toArray, k2, hcl, hy]; omega) h1
  simp only [List.toList_toArray] at hcp2
  obtain ⟨C2, hC2⟩ : ∃ C2, C2 = C1.take (i * 5) ++ ys ++ C1.drop (i * 5 + ys.length) := ⟨_, rfl⟩
  rw [← hC2] at hcp2 k1 k3
  clear hC1 hC2
  have hz2' : ¬ ((i : Int) = (n : Int)) := by omega
  have mixed : Try.prog.follows Departure.mixedOrders = true := by kernel_rfl
  have hin : i ≤ n := by omega
  have hin' : (i : Int) ≤ (n : Int) := by omega
  have hin2 : (i : Int) ≤ (n : Int) + 1 := by omega
  have hin3 : i ≤ n + 1 := by omega
  have hin4 : i + 1 ≤ cap := by omega
  have hb3 : ¬ ((n : Int) + 1 > (cap : Int)) := by omega
  have hw1 : IntKind.i64.wrap ((i : Int) + 1) = (i : Int) + 1 := by rw [IntKind.wrap_i64]; omega
  have hb1 : (0 : Int) ≤ (i : Int) + 1 := by omega
  have htn : ((i : Int) + 1).toNat = i + 1 := by omega
  have hb2 : ¬ (cap = i + 1) := by omega
  have hb4 : ¬ (cap = i) := by omega
  go_enter Try.func86, Try.ntmps86
  go_wp2_with (simp only [hov])
  go_region_law_o (refine step_copy_runK rfl _ _ 33 33 rfl _ _ (by simp [Act.eval, Act.put]) (by simp [Act.eval, Act.put]) (hcp1 _ _ _) ?_)
  go_wp2_with (at_builtin; refine wpList_copy_runK _ rfl _ _ 33 33 rfl _ _ rfl rfl (hcp2 _ _) ?_)
  go_ret
  refine ⟨_, rfl, ⟨?_, .inr ⟨g, cap, C2.toArray, rfl, hbg, ?_, hroom, hcm, ?_, ?_⟩⟩, ?_⟩
  · rw [List.length_append, List.length_append, List.length_take, List.length_drop, hxl, hy]; omega
  · rw [setRow_heap _ g C1.toArray _ 66 _ hW1]
  · rw [List.size_toArray, k3, hcl]
  · rw [List.toList_toArray, show (n + 1) * 5 = n * 5 + 5 by omega, k1]
  · exact ⟨rfl, rfl, rfl, by simp, fun k _ hk => ((setRow_other _ g k _ (fun e => hk (by simp [Value.ownBlock, e]))).trans (setRow_other _ g k _ (fun e => hk (by simp [Value.ownBlock, e]))))⟩
set_option maxHeartbeats 4000000 in
set_option maxRecDepth 100000 in
theorem insert_grow (base vb n i g : Nat) (tV : TypeId) (cur : Array Value) (xs ys : List Value) (hn : n ≤ 1000) (hi : i < n) (hy : ys.length = 5) (h1 : ∀ u ∈ ys, u.oneCell' = true) (h1x : ∀ u ∈ xs, u.oneCell' = true) (w : World) (hb : base ≤ w.heap.size)
    (hg : w.heap[g]? = some (.cells cur 66 (0, 0))) (hcs : cur.size = n * 5) (htake : cur.toList.take (n * 5) = xs)
    (hv : w.heap[vb]? = some (.cells ys.toArray tV (0, 0))) :
    Calls Try.prog 86 #[.slice (some ⟨g, 0, none⟩) n n, .int .i64 (i : Nat), .slice (some ⟨vb, 0, none⟩) 1 1] w (InsOut base (.slice (some ⟨g, 0, none⟩) n n) n i xs ys w) := by
  obtain ⟨i0, hii, hz0, hz1, hz2⟩ := info_parts info_route
  have hxl : xs.length = n * 5 := by rw [← htake, List.length_take, Array.length_toList]; omega
  have hdl : (xs.drop (i * 5)).length = (n - i) * 5 := by rw [List.length_drop, hxl]; omega
  have hgw : g < w.heap.size := (Array.getElem?_eq_some_iff.1 hg).1
  have hvw : vb < w.heap.size := (Array.getElem?_eq_some_iff.1 hv).1
  have hcell : ∀ (W : World), W.heap[g]? = w.heap[g]? → ∀ j u, xs[j]? = some u → W.cell? ⟨g, j, none⟩ = some u := fun W hW j u hj => by
    rw [← htake, List.getElem?_take] at hj
    split at hj
    · rw [cell_of_row W g j cur 66 (0, 0) (hW.trans hg)]; simpa using hj
    · cases hj
  have happ : ∃ (W1 : World) (G : Nat) (ROW : List Value), (∀ ty, (Builtin.append_ #[33, 3] ty #[.slice (some ⟨g, 0, none⟩) i n, .int .i64 ((n : Int) + 1 - (i : Int))]).run Try.prog w = .ok (.slice (some ⟨w.heap.size, 0, none⟩) (n + 1) G) W1) ∧
      W1.heap[w.heap.size]? = some (.cells ROW.toArray 66 (0, 0)) ∧ (∀ k, k < w.heap.size → W1.heap[k]? = w.heap[k]?) ∧ W1.os = w.os ∧ W1.tape = w.tape ∧ W1.output = w.output ∧ W1.heap.size = w.heap.size + 1 ∧ ROW.length = G * 5 ∧ ROW.take (i * 5) = xs.take (i * 5) ∧ n + 1 ≤ G ∧ G ≤ maxLen := by
    have hold : (Builtin.firstCells i0.size i (.slice (some ⟨g, 0, none⟩) i n)).run Try.prog w.drew = .ok (xs.take (i * 5)).toArray w.drew := by
      rw [hz1]
      exact run_firstCells_some w.drew 5 i ⟨g, 0, none⟩ i n (xs.take (i * 5)) (by rw [List.length_take]; omega) (fun j u hj => by
        rw [Addr.add_lit]
        rw [List.getElem?_take] at hj
        split at hj
        · simpa using hcell w.drew rfl j u hj
        · cases hj)
    have h := fun ty => Lib.run_append_grow_zeros w 33 3 ty 66 i0 _ .i64 .i64 Try.underlying33 Try.underlying3 hii hz0 (some ⟨g, 0, none⟩) i n (xs.take (i * 5)) hold (n + 1 - i) (by omega) (by omega) (by omega) (by omega) (by rw [hz2]; omega) (by rw [hz2, show i + (n + 1 - i) = n + 1 by omega]; exact growslice_fits (by omega) (by omega))
    rw [show i + (n + 1 - i) = n + 1 by omega, show ((n + 1 - i : Nat) : Int) = (n : Int) + 1 - (i : Int) by omega] at h
    refine ⟨_, _, ((xs.take (i * 5)).toArray ++ Builtin.zeroCells _ (n + 1 - i) ++ Builtin.zeroCells _ _).toList, h, _root_.Go.heap_alloc_new w.drew _, fun k hk => _root_.Go.heap_alloc_old w.drew _ hk, rfl, rfl, rfl, by simp, ?_, ?_, grownCap_ge _ _ _ _, grownCap_le_maxLen _ _ _ _ (by unfold maxLen; omega)⟩
    · have := grownCap_ge w (n + 1) n 66
      simp only [Array.length_toList, Array.size_append, List.size_toArray, size_zeroCells, List.length_take, hxl]
      show min (i * 5) (n * 5) + (n + 1 - i) * 5 + (grownCap w (n + 1) n 66 - (n + 1)) * 5 = _
      omega
    · have hl : (xs.take (i * 5)).length = i * 5 := by rw [List.length_take]; omega
      simp only [Array.toList_append, List.append_assoc]
      conv => lhs; arg 1; rw [← hl]
      exact List.take_left
  obtain ⟨W1, G, ROW, hrz, hWg, hOld, hos, htp, hou, hsz, hRl, hRt, hG1, hG2⟩ := happ
  have hG63 : G ≤ 9223372036854775807 := hG2
  obtain ⟨N, hN⟩ : ∃ N, N = w.heap.size := ⟨_, rfl⟩
  rw [← hN] at hrz hWg hOld hgw hvw hb hsz
  have HN := Lib.hid hN
  clear hN
  have hvN : vb ≠ N := by omega
  have hgN : g ≠ N := by omega
  have key := cells_fresh ROW xs ys (i * 5) (n * 5) 5 hxl hRt (by omega) (by omega) hy
  rw [show i * 5 + 5 = (i + 1) * 5 by omega] at key
  obtain ⟨C1, hC1⟩ : ∃ C1, C1 = ROW.take (i * 5) ++ ys ++ ROW.drop (i * 5 + ys.length) := ⟨_, rfl⟩
  have hcpA : ∀ ty dc, (Builtin.copy_ #[33, 33] ty #[.slice (some ⟨N, i * 5, none⟩) (n + 1 - i) dc, .slice (some ⟨vb, 0, none⟩) 1 1]).run Try.prog W1 = _ := fun ty dc =>
    run_copy_rowK _ _ _ ty 66 5 N (i * 5) (n + 1 - i) dc ⟨vb, 0, none⟩ 1 1 ROW.toArray 66 ys Try.underlying33 size_route hWg
      (by rw [hy]; simp only [Nat.min_def]; split <;> omega)
      (fun j u hj => World.news_of_block ((hOld vb hvw).trans hv) j u (by simpa using hj))
      (by simp only [List.size_toArray, hRl, hy]; omega) h1
  simp only [List.toList_toArray] at hcpA
  rw [← hC1] at hcpA
  simp only [← hC1] at key
  obtain ⟨C2, hC2⟩ : ∃ C2, C2 = C1.take ((i + 1) * 5) ++ xs.drop (i * 5) ++ C1.drop ((i + 1) * 5 + (xs.drop (i * 5)).length) := ⟨_, rfl⟩
  rw [← hC2] at key
  obtain ⟨k1, k2, k3⟩ := key
  have hWA : (W1.setRow N C1.toArray).drew.heap[N]? = some (.cells C1.toArray 66 (0, 0)) := setRow_heap W1 N _ _ 66 _ hWg
  have hcpB : ∀ ty dc sc, (Builtin.copy_ #[33, 33] ty #[.slice (some ⟨N, (i + 1) * 5, none⟩) (n - i) dc, .slice (some ⟨g, i * 5, none⟩) (n - i) sc]).run Try.prog (W1.setRow N C1.toArray).drew = _ := fun ty dc sc =>
    run_copy_rowK _ _ _ ty 66 5 N ((i + 1) * 5) (n - i) dc ⟨g, i * 5, none⟩ (n - i) sc C1.toArray 66 (xs.drop (i * 5)) Try.underlying33 size_route hWA
      (by rw [hdl]; simp only [Nat.min_def]; split <;> omega)
      (fun j u hj => by
        rw [List.getElem?_drop] at hj
        rw [Addr.add_lit]
        exact hcell _ ((setRow_other W1 N g _ hgN).trans (hOld g hgw)) _ u hj)
      (by rw [hdl]; simp only [List.size_toArray, k2, hRl]; omega) (fun u hu => h1x u (List.mem_of_mem_drop hu))
  simp only [List.toList_toArray] at hcpB
  rw [← hC2] at hcpB
  clear hC1 hC2
  have mixed : Try.prog.follows Departure.mixedOrders = true := by kernel_rfl
  have hz2' : ¬ ((i : Int) = (n : Int)) := by omega
  have hin : i ≤ n := by omega
  have hin' : (i : Int) ≤ (n : Int) := by omega
  have hin2 : (i : Int) ≤ (n : Int) + 1 := by omega
  have hin3 : i ≤ n + 1 := by omega
  have hin4 : i + 1 ≤ G := by omega
  have hw1 : IntKind.i64.wrap ((i : Int) + 1) = (i : Int) + 1 := by rw [IntKind.wrap_i64]; omega
  have hb1 : (0 : Int) ≤ (i : Int) + 1 := by omega
  have htn : ((i : Int) + 1).toNat = i + 1 := by omega
  have hb2 : ¬ (G = i + 1) := by omega
  have hb4 : ¬ (G = i) := by omega
  have hb5 : ¬ (n = i) := by omega
  have hb6 : (n : Int) < (n : Int) + 1 := by omega
  go_enter Try.func86, Try.ntmps86
  go_wp2_with (first
    | (at_builtin; refine Lib.wpList_append_run _ rfl _ _ _ _ rfl _ _ rfl rfl _ _ (hrz _) ?_)
    | (at_builtin; refine wpList_copy_runK _ rfl _ _ 33 33 rfl _ _ rfl rfl (hcpA _ _) ?_))
  go_region_law_o (refine step_copy_runK rfl _ _ 33 33 rfl _ _ (by simp [Act.eval, Act.put]) (by simp [Act.eval, Act.put]) (hcpB _ _ _) ?_)
  go_wp2
  go_ret
  refine ⟨_, rfl, ⟨?_, .inr ⟨N, G, C2.toArray, rfl, hb, ?_, hG1, hG2, ?_, ?_⟩⟩, ?_⟩
  · rw [List.length_append, List.length_append, List.length_take, List.length_drop, hxl, hy]; omega
  · rw [setRow_heap _ N C1.toArray _ 66 _ hWA]
  · rw [List.size_toArray, k3, hRl]
  · rw [List.toList_toArray, show (n + 1) * 5 = n * 5 + 5 by omega, k1]
  · refine ⟨hos, htp, hou, by rw [← HN.out]; simp [hsz], fun k hk _ => ?_⟩
    rw [← HN.out] at hk
    exact (setRow_other _ N k _ (by omega)).trans ((setRow_other _ N k _ (by omega)).trans (hOld k hk))
end Go.Proofs.Ytgajepmnklbmpaa
/-
  slices.Insert into a table's routes; table.checkRoute.
-/
namespace Go.Proofs.Ytgajepmnklbmpaa
open Go.RowKit
set_option linter.unusedVariables false
set_option linter.unusedSimpArgs false

/-- A slice of routes that a call has made, its blocks from 'base' on. -/
abbrev OwnR (w : World) (base : Nat) (v : Value) (l : List RT) : Prop := w.ownsRow base 66 5 v l.length (rowOf rcs l)
theorem OwnR.row {w : World} {base : Nat} {v : Value} {l : List RT} (h : OwnR w base v l) : RowR w v l := RowK.owned rcs_len h
theorem insert_calls (base vb i : Nat) (tV : TypeId) (v : Value) (l : List RT) (r : RT) (hn : l.length ≤ 1000) (hi : i ≤ l.length) (w : World) (hb : base ≤ w.heap.size)
    (hown : OwnR w base v l) (hv : w.heap[vb]? = some (.cells (rcs r).toArray tV (0, 0))) (hne : v.ownBlock ≠ some vb) :
    Calls Try.prog 86 #[v, .int .i64 (i : Nat), .slice (some ⟨vb, 0, none⟩) 1 1] w fun e w' => ∃ v', e = .returned v' ∧ OwnR w' base v' (l.take i ++ r :: l.drop i) ∧ w.grownBy w' v.ownBlock := by
  have fin : ∀ e w', InsOut base v l.length i (rowOf rcs l) (rcs r) w e w' → ∃ v', e = .returned v' ∧ OwnR w' base v' (l.take i ++ r :: l.drop i) ∧ w.grownBy w' v.ownBlock := by
    rintro e w' ⟨v', he, ho, hg⟩
    refine ⟨v', he, ?_, hg⟩
    unfold OwnR
    rw [show (l.take i ++ r :: l.drop i).length = l.length + 1 by rw [List.length_append, List.length_cons, List.length_take, List.length_drop]; omega]
    rw [rowOf_take rcs 5 rcs_len l i hi, rowOf_drop rcs 5 rcs_len l i hi] at ho
    rw [show rowOf rcs (l.take i ++ r :: l.drop i) = rowOf rcs (l.take i) ++ rcs r ++ rowOf rcs (l.drop i) by rw [rowOf_app, List.append_assoc]; rfl]
    exact ho
  by_cases h : i = l.length
  · subst h
    exact (insert_end base vb _ tV v _ _ hn rfl (rcs_one r) w hb hown hv).mono fin
  · have hown' := hown
    rcases hown.2 with ⟨rfl, h0⟩ | ⟨g, cap, cur, rfl, hbg, hg, hnc, hcm, hcs, htake⟩
    · omega
    · by_cases hroom : l.length + 1 ≤ cap
      · exact (insert_shift base vb _ i g cap tV cur _ _ hn (by omega) rfl (rcs_one r) (rowOf_one rcs rcs_one l) w hbg hg hcm hcs htake hroom hv (fun e => hne (by rw [e]; rfl))).mono fin
      · obtain rfl : cap = l.length := by omega
        exact (insert_grow base vb _ i g tV cur _ _ hn (by omega) rfl (rcs_one r) (rowOf_one rcs rcs_one l) w hb hg hcs htake hv).mono fin
/-- The error of a route on its own. -/
def rtE (r : RT) : Int := if chkE r.1.1 r.1.2.1 r.1.2.2 = 0 then (if 1 ≤ r.2 ∧ r.2 ≤ 999 then 0 else 2) else chkE r.1.1 r.1.2.1 r.1.2.2
theorem checkRoute_calls (r : RT) (hx : r.1.2.1 < 2 ^ 128) (w : World) :
    Calls Try.prog 84 #[.agg #[.bool r.1.1, .int .u64 (aH r.1.2.1), .int .u64 (aL r.1.2.1), .int .i64 r.1.2.2, .int .i64 r.2]] w fun e w' => e = .returned (.int .i64 (rtE r)) ∧ Below w.heap.size w w' := by
  obtain ⟨⟨s, x, n⟩, h⟩ := r
  simp only at hx ⊢
  have C := Lib.hid (fun W => check_calls s x n hx W)
  have b0 := (Below.refl w.heap.size w).alloc (Nat.le_refl _) (.cells #[.bool s, .int .u64 (aH x), .int .u64 (aL x), .int .i64 n, .int .i64 h] 66)
  have h4 : (w.alloc (.cells #[.bool s, .int .u64 (aH x), .int .u64 (aL x), .int .i64 n, .int .i64 h] 66)).cell? ⟨w.heap.size, 4, none⟩ = some (.int .i64 h) := by simp
  have hl : w.heap.size < (w.alloc (.cells #[.bool s, .int .u64 (aH x), .int .u64 (aL x), .int .i64 n, .int .i64 h] 66)).heap.size := by simp
  by_cases hc : chkE s x n = 0
  · by_cases h1 : 1 ≤ h
    · by_cases h2 : h ≤ 999
      · rw [show rtE ((s, x, n), h) = 0 by simp [rtE, hc, h1, h2]]
        have d1 : ¬ h < 1 := by omega
        have d2 : ¬ h > 999 := by omega
        go_enter Try.func84, Try.ntmps84
        go_wp2_with fail
        refine (C.out _).mono ?_
        rw [hc]
        rintro e w1 ⟨rfl, hb1⟩
        have c4 := (hb1.cell (p := ⟨w.heap.size, 4, none⟩) hl).trans h4
        have b1 := thenBelow b0 hb1
        go_wp2
        go_ret
        exact ⟨rfl, b1⟩
      · rw [show rtE ((s, x, n), h) = 2 by simp [rtE, hc, h2]]
        have d1 : ¬ h < 1 := by omega
        have d2 : h > 999 := by omega
        go_enter Try.func84, Try.ntmps84
        go_wp2_with fail
        refine (C.out _).mono ?_
        rw [hc]
        rintro e w1 ⟨rfl, hb1⟩
        have c4 := (hb1.cell (p := ⟨w.heap.size, 4, none⟩) hl).trans h4
        have b1 := thenBelow b0 hb1
        go_wp2
        go_ret
        exact ⟨rfl, b1⟩
    · rw [show rtE ((s, x, n), h) = 2 by simp [rtE, hc, h1]]
      have d1 : h < 1 := by omega
      go_enter Try.func84, Try.ntmps84
      go_wp2_with fail
      refine (C.out _).mono ?_
      rw [hc]
      rintro e w1 ⟨rfl, hb1⟩
      have c4 := (hb1.cell (p := ⟨w.heap.size, 4, none⟩) hl).trans h4
      have b1 := thenBelow b0 hb1
      go_wp2
      go_ret
      exact ⟨rfl, b1⟩
  · rw [show rtE ((s, x, n), h) = chkE s x n by simp [rtE, hc]]
    have hz1 : (chkE s x n == 0) = false := by simpa using hc
    have hz2 : (chkE s x n != 0) = true := by simp [bne, hz1]
    go_enter Try.func84, Try.ntmps84
    go_wp2_with fail
    refine (C.out _).mono ?_
    rintro e w1 ⟨rfl, hb1⟩
    have b1 := thenBelow b0 hb1
    go_wp2
    go_ret
    exact ⟨rfl, b1⟩
end Go.Proofs.Ytgajepmnklbmpaa
/-
  slices.Delete of one route.
-/
namespace Go.Proofs.Ytgajepmnklbmpaa
open Go.RowKit Go.Lib
set_option linter.unusedVariables false
set_option linter.unusedSimpArgs false

theorem run_clear_rowK {P : Program} (w : World) (t ty elem : TypeId) (z : Value) (g o n c : Nat) (cur : Array Value) (tt : TypeId)
    (hu : P.underlying t = some (.slice elem)) (hz : ∀ w, (zeroValue elem).run P w = .ok z w) (hg : w.heap[g]? = some (.cells cur tt (0, 0))) (hn : 0 < n)
    (hfit : o + (Builtin.zeroCells z.cells n).toList.length ≤ cur.size) (h1 : ∀ v ∈ (Builtin.zeroCells z.cells n).toList, v.oneCell' = true) :
    (Builtin.clear_ #[t] ty #[.slice (some ⟨g, o, none⟩) n c]).run P w = .ok (.tuple #[]) (w.setRow g (cur.toList.take o ++ (Builtin.zeroCells z.cells n).toList ++ cur.toList.drop (o + (Builtin.zeroCells z.cells n).toList.length)).toArray) := by
  have hst := run_storeCells_at P g o tt (Builtin.zeroCells z.cells n).toList 0 cur w hg (by simpa using hfit) h1
  obtain ⟨m, rfl⟩ : ∃ m, n = m + 1 := ⟨n - 1, by omega⟩
  simp [Builtin.clear_, run_underlying hu, hz, hst]
theorem wpList_clear_runK {P : Program} (w : World) {ops : Array Oper} {rest : List Oper} {o : Oper} {a : Act} {Q : Exit → Act → World → Prop} (hgd : o.guard = none) (d : Operand) (t : TypeId)
    (ho : o.op = .call { callee := .builtin .clear, args := #[d], argTypes := #[t] }) (v : Value) (hd : a.eval d = v) {v' : Value} {w' : World}
    (hr : (Builtin.clear_ #[t] o.type #[v]).run P w = .ok v' w') (h : wpList P ops Q rest (a.put o.dst v') w') : wpList P ops Q (o :: rest) a w :=
  wpList_plain hgd fun _ hK => by
    unfold Oper.wp execOp
    simp only [ho, resolve, invoke, builtin, Sem.run_bind, Sem.run_pure, Result.andThen_ok, List.map_toArray, List.map_cons, List.map_nil, hd, hr]
    exact hK _ _ h
theorem step_append_runK {P : Program} {ops : Array Oper} {o : Oper} {a : Act} {w : World} {K : Act → World → Prop} {Q : Exit → Act → World → Prop} {E : Prop}
    (hg : o.guard = none) (d x : Operand) (dT sT : TypeId) (hop : o.op = Op.call { callee := Callee.builtin Builtin.append, args := #[d, x], argTypes := #[dT, sT] })
    (v u : Value) (hd : a.eval d = v) (hx : a.eval x = u) {v' : Value} {w' : World} (hr : (Builtin.append_ #[dT, sT] o.type #[v, u]).run P w = .ok v' w') (hK : K (a.put o.dst v') w') :
    if Region.wanted o (yielded ops a.tmps) = true then Oper.wp P o a w K Q else E := by
  have hw : Region.wanted o (yielded ops a.tmps) = true := by simp [Region.wanted, hg]
  rw [if_pos hw]
  unfold Oper.wp execOp
  simp only [hop, resolve, invoke, builtin, Sem.run_bind, Sem.run_pure, Result.andThen_ok, List.map_toArray, List.map_cons, List.map_nil, hd, hx, hr]
  exact hK
theorem cells_cut (C xs zs : List Value) (I N k : Nat) (hx : C.take N = xs) (hN : N ≤ C.length) (hI : I + k ≤ N) (hz : zs.length = k) :
    let C1 := C.take I ++ xs.drop (I + k) ++ C.drop (I + (xs.drop (I + k)).length)
    let C2 := C1.take (N - k) ++ zs ++ C1.drop (N - k + zs.length)
    C2.take (N - k) = xs.take I ++ xs.drop (I + k) ∧ C1.length = C.length ∧ C2.length = C.length := by
  have hxl : xs.length = N := by rw [← hx, List.length_take]; omega
  have hdl : (xs.drop (I + k)).length = N - (I + k) := by rw [List.length_drop, hxl]
  intro C1 C2
  have e1 : C1.length = C.length := by
    show (C.take I ++ xs.drop (I + k) ++ C.drop (I + (xs.drop (I + k)).length)).length = _
    simp only [List.length_append, List.length_take, List.length_drop, hxl]; omega
  have a0 : C.take I = xs.take I := by rw [← hx, List.take_take, Nat.min_eq_left (by omega)]
  have hl : (xs.take I ++ xs.drop (I + k)).length = N - k := by simp only [List.length_append, List.length_take, List.length_drop, hxl]; omega
  have a1 : C1.take (N - k) = xs.take I ++ xs.drop (I + k) := by
    show (C.take I ++ xs.drop (I + k) ++ C.drop (I + (xs.drop (I + k)).length)).take (N - k) = _
    rw [a0]
    conv => lhs; rw [← hl]
    exact List.take_left
  refine ⟨?_, e1, ?_⟩
  · show (C1.take (N - k) ++ zs ++ C1.drop (N - k + zs.length)).take (N - k) = _
    rw [a1, List.append_assoc]
    conv => lhs; rw [← hl]
    exact List.take_left
  · show (C1.take (N - k) ++ zs ++ C1.drop (N - k + zs.length)).length = _
    simp only [List.length_append, List.length_take, List.length_drop, e1, hz]; omega
theorem zero_route (w : World) : (zeroValue 66).run Try.prog w = .ok (.agg #[.bool false, .int .u64 0, .int .u64 0, .int .i64 0, .int .i64 0]) w := Try.zeroValue66 w
end Go.Proofs.Ytgajepmnklbmpaa
