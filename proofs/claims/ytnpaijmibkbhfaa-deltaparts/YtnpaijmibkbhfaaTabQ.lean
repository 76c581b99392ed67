/-
  slices.Delete of one route.
-/
import Derived.Test.YtnpaijmibkbhfaaTabF
namespace Go.Proofs.Ytnpaijmibkbhfaa
open Go.RowKit Go.Lib
set_option linter.unusedVariables false
set_option linter.unusedSimpArgs false

theorem run_clear_rowK {P : Program} (w : World) (t ty elem : TypeId) (z : Value) (g o n c : Nat) (cur : Array Value) (tt : TypeId)
    (hu : P.underlying t = some (.slice elem)) (hz : ∀ w, (zeroValue elem).run P w = .ok z w) (hg : w.heap[g]? = some (.cells cur tt (0, 0))) (hn : 0 < n)
    (hfit : o + (Builtin.zeroCells z.cells n).toList.length ≤ cur.size) (h1 : ∀ v ∈ (Builtin.zeroCells z.cells n).toList, v.oneCell' = true) :
    (Builtin.clear_ #[t] ty #[.slice (some ⟨g, o, none⟩) n c]).run P w = .ok (.tuple #[]) (w.setRow g (cur.toList.take o ++ (Builtin.zeroCells z.cells n).toList ++ cur.toList.drop (o + (Builtin.zeroCells z.cells n).toList.length)).toArray) := by
  have hst := run_storeCells_at P g o tt (Builtin.zeroCells z.cells n).toList 0 cur w hg (by simpa using hfit) h1
  obtain ⟨m, rfl⟩ : ∃ m, n = m + 1 := ⟨n - 1, by omega⟩
  simp [Builtin.clear_, run_underlying hu, hz, hst]
theorem wpList_clear_runK {P : Program} (w : World) {ops : Array Oper} {rest : List Oper} {o : Oper} {a : Act} {Q : Exit → Act → World → Prop} (hgd : o.guard = none) (d : Operand) (t : TypeId)
    (ho : o.op = .call { callee := .builtin .clear, args := #[d], argTypes := #[t] }) (v : Value) (hd : a.eval d = v) {v' : Value} {w' : World}
    (hr : (Builtin.clear_ #[t] o.type #[v]).run P w = .ok v' w') (h : wpList P ops Q rest (a.put o.dst v') w') : wpList P ops Q (o :: rest) a w :=
  wpList_plain hgd fun _ hK => by
    unfold Oper.wp execOp
    simp only [ho, resolve, invoke, builtin, Sem.run_bind, Sem.run_pure, Result.andThen_ok, List.map_toArray, List.map_cons, List.map_nil, hd, hr]
    exact hK _ _ h
theorem step_append_runK {P : Program} {ops : Array Oper} {o : Oper} {a : Act} {w : World} {K : Act → World → Prop} {Q : Exit → Act → World → Prop} {E : Prop}
    (hg : o.guard = none) (d x : Operand) (dT sT : TypeId) (hop : o.op = Op.call { callee := Callee.builtin Builtin.append, args := #[d, x], argTypes := #[dT, sT] })
    (v u : Value) (hd : a.eval d = v) (hx : a.eval x = u) {v' : Value} {w' : World} (hr : (Builtin.append_ #[dT, sT] o.type #[v, u]).run P w = .ok v' w') (hK : K (a.put o.dst v') w') :
    if Region.wanted o (yielded ops a.tmps) = true then Oper.wp P o a w K Q else E := by
  have hw : Region.wanted o (yielded ops a.tmps) = true := by simp [Region.wanted, hg]
  rw [if_pos hw]
  unfold Oper.wp execOp
  simp only [hop, resolve, invoke, builtin, Sem.run_bind, Sem.run_pure, Result.andThen_ok, List.map_toArray, List.map_cons, List.map_nil, hd, hx, hr]
  exact hK
theorem cells_cut (C xs zs : List Value) (I N k : Nat) (hx : C.take N = xs) (hN : N ≤ C.length) (hI : I + k ≤ N) (hz : zs.length = k) :
    let C1 := C.take I ++ xs.drop (I + k) ++ C.drop (I + (xs.drop (I + k)).length)
    let C2 := C1.take (N - k) ++ zs ++ C1.drop (N - k + zs.length)
    C2.take (N - k) = xs.take I ++ xs.drop (I + k) ∧ C1.length = C.length ∧ C2.length = C.length := by
  have hxl : xs.length = N := by rw [← hx, List.length_take]; omega
  have hdl : (xs.drop (I + k)).length = N - (I + k) := by rw [List.length_drop, hxl]
  intro C1 C2
  have e1 : C1.length = C.length := by
    show (C.take I ++ xs.drop (I + k) ++ C.drop (I + (xs.drop (I + k)).length)).length = _
    simp only [List.length_append, List.length_take, List.length_drop, hxl]; omega
  have a0 : C.take I = xs.take I := by rw [← hx, List.take_take, Nat.min_eq_left (by omega)]
  have hl : (xs.take I ++ xs.drop (I + k)).length = N - k := by simp only [List.length_append, List.length_take, List.length_drop, hxl]; omega
  have a1 : C1.take (N - k) = xs.take I ++ xs.drop (I + k) := by
    show (C.take I ++ xs.drop (I + k) ++ C.drop (I + (xs.drop (I + k)).length)).take (N - k) = _
    rw [a0]
    conv => lhs; rw [← hl]
    exact List.take_left
  refine ⟨?_, e1, ?_⟩
  · show (C1.take (N - k) ++ zs ++ C1.drop (N - k + zs.length)).take (N - k) = _
    rw [a1, List.append_assoc]
    conv => lhs; rw [← hl]
    exact List.take_left
  · show (C1.take (N - k) ++ zs ++ C1.drop (N - k + zs.length)).length = _
    simp only [List.length_append, List.length_take, List.length_drop, e1, hz]; omega
theorem zero_route (w : World) : (zeroValue 57).run Try.prog w = .ok (.agg #[.bool false, .int .u64 0, .int .u64 0, .int .i64 0, .int .i64 0]) w := Try.zeroValue57 w
set_option maxHeartbeats 4000000 in
set_option maxRecDepth 100000 in
theorem delete_walk (base n i g cap : Nat) (cur : Array Value) (xs : List Value) (hn : n ≤ 1000) (hi : i < n) (h1x : ∀ u ∈ xs, u.oneCell' = true) (w : World)
    (hbg : base ≤ g) (hg : w.heap[g]? = some (.cells cur 57 (0, 0))) (hnc : n ≤ cap) (hcm : cap ≤ maxLen) (hcs : cur.size = cap * 5) (htake : cur.toList.take (n * 5) = xs) :
    Calls Try.prog 153 #[.slice (some ⟨g, 0, none⟩) n cap, .int .i64 (i : Nat), .int .i64 ((i : Int) + 1)] w fun e w' => ∃ v', e = .returned v' ∧ w'.ownsRow base 57 5 v' (n - 1) (xs.take (i * 5) ++ xs.drop ((i + 1) * 5)) ∧ w.grownBy w' (some g) := by
  obtain ⟨i0, hii, hz0, hz1, hz2⟩ := info_parts info_route
  have hcap : cap ≤ 9223372036854775807 := hcm
  have hcl : cur.toList.length = cap * 5 := by rw [Array.length_toList, hcs]
  have hxl : xs.length = n * 5 := by rw [← htake, List.length_take, hcl]; omega
  have hdl : (xs.drop ((i + 1) * 5)).length = (n - (i + 1)) * 5 := by rw [List.length_drop, hxl]; omega
  have hz5 : (Builtin.zeroCells (Value.agg #[.bool false, .int .u64 0, .int .u64 0, .int .i64 0, .int .i64 0]).cells 1).toList = [.bool false, .int .u64 0, .int .u64 0, .int .i64 0, .int .i64 0] := by kernel_rfl
  have key := cells_cut cur.toList xs [.bool false, .int .u64 0, .int .u64 0, .int .i64 0, .int .i64 0] (i * 5) (n * 5) 5 htake (by rw [hcl]; omega) (by omega) rfl
  rw [show i * 5 + 5 = (i + 1) * 5 by omega] at key
  obtain ⟨C1, hC1⟩ : ∃ C1, C1 = cur.toList.take (i * 5) ++ xs.drop ((i + 1) * 5) ++ cur.toList.drop (i * 5 + (xs.drop ((i + 1) * 5)).length) := ⟨_, rfl⟩
  simp only [← hC1] at key
  obtain ⟨C2, hC2⟩ : ∃ C2, C2 = C1.take (n * 5 - 5) ++ [.bool false, .int .u64 0, .int .u64 0, .int .i64 0, .int .i64 0] ++ C1.drop (n * 5 - 5 + [Value.bool false, .int .u64 0, .int .u64 0, .int .i64 0, .int .i64 0].length) := ⟨_, rfl⟩
  rw [← hC2] at key
  obtain ⟨k1, k2, k3⟩ := key
  have mixed : Try.prog.follows Departure.mixedOrders = true := by kernel_rfl
  have hin : (i : Int) + 1 ≤ (n : Int) := by omega
  have hw1 : ((i : Int) + 1).toNat = i + 1 := by omega
  have hb1 : (0 : Int) ≤ (i : Int) + 1 := by omega
  have hie : ¬ ((i : Int) = (i : Int) + 1) := by omega
  have hic : i ≤ cap := by omega
  have hic2 : i + 1 ≤ n := by omega
  have hin5 : (i : Int) ≤ (n : Int) := by omega
  obtain ⟨A, hA, hsrc⟩ : ∃ A : Addr, (if cap = i + 1 then some (⟨g, 0, none⟩ : Addr) else some ⟨g, (i + 1) * 5, none⟩) = some A ∧ Hid (∀ j u, (xs.drop ((i + 1) * 5))[j]? = some u → w.drew.cell? (A.add j) = some u) := by
    by_cases h : cap = i + 1
    · refine ⟨⟨g, 0, none⟩, by simp [h], Lib.hid fun t u hu => ?_⟩
      have h0 : (xs.drop ((i + 1) * 5)).length = 0 := by rw [hdl]; omega
      rw [List.length_eq_zero_iff.1 h0] at hu
      simp at hu
    · refine ⟨⟨g, (i + 1) * 5, none⟩, by simp [h], Lib.hid fun j u hj => ?_⟩
      rw [List.getElem?_drop, ← htake, List.getElem?_take] at hj
      split at hj
      · rw [Addr.add_lit, cell_of_row w.drew g ((i + 1) * 5 + j) cur 57 (0, 0) hg]; simpa using hj
      · cases hj
  have happ : ∀ ty dc, (Builtin.append_ #[32, 32] ty #[.slice (some ⟨g, 0, none⟩) i cap, .slice (some A) (n - (i + 1)) dc]).run Try.prog w.drew = .ok (.slice (some ⟨g, 0, none⟩) (n - 1) cap) (w.drew.setRow g C1.toArray) := fun ty dc => by
    have h := run_append_room (P := Try.prog) w.drew 32 ty 57 i0 Try.underlying32 hii g i cap cur hg A (n - (i + 1)) dc (xs.drop ((i + 1) * 5)) (by rw [hdl, hz1]) hsrc.out (fun u hu => h1x u (List.mem_of_mem_drop hu)) (by omega) (by rw [hdl, hz1, hcs]; omega)
    rw [hz1, ← hC1, show i + (n - (i + 1)) = n - 1 by omega] at h
    exact h
  have hW1 : (w.drew.setRow g C1.toArray).heap[g]? = some (.cells C1.toArray 57 (0, 0)) := setRow_heap w.drew g cur _ 57 _ hg
  have hclr : ∀ ty dc, (Builtin.clear_ #[32] ty #[.slice (some ⟨g, (n - 1) * 5, none⟩) 1 dc]).run Try.prog (w.drew.setRow g C1.toArray) = .ok (.tuple #[]) ((w.drew.setRow g C1.toArray).setRow g C2.toArray) := fun ty dc => by
    have h := run_clear_rowK (P := Try.prog) (w.drew.setRow g C1.toArray) 32 ty 57 _ g ((n - 1) * 5) 1 dc C1.toArray 57 Try.underlying32 zero_route hW1 (by omega) (by rw [hz5]; simp only [List.size_toArray, k2, hcl]; simp; omega) (by rw [hz5]; intro u hu; simp only [List.mem_cons, List.not_mem_nil, or_false] at hu; rcases hu with e | e | e | e | e <;> subst e <;> rfl)
    rw [hz5] at h
    simp only [List.toList_toArray] at h
    rw [show (n - 1) * 5 = n * 5 - 5 by omega, ← hC2] at h
    rw [show (n - 1) * 5 = n * 5 - 5 by omega]
    exact h
  clear hC1 hC2
  have hnn : ((n - 1 : Nat) : Int) ≤ (n : Int) := by omega
  have hnn2 : n - (n - 1) = 1 := by omega
  have hnn3 : n - 1 ≤ n := by omega
  have hnn4 : ¬ (cap = n - 1) := by omega
  go_enter Try.func153, Try.ntmps153
  have hic3 : i + 1 ≤ cap := by omega
  have HAP := Lib.hid happ
  clear happ
  go_wp2_with (fail)
  go_region_law_o (refine step_append_runK rfl (.tmp 22) (.tmp 25) 32 32 rfl (.slice (some ⟨g, 0, none⟩) i cap) (.slice (some A) (n - (i + 1)) (cap - (i + 1))) (by simp [Act.eval, Act.put]) (by simp [Act.eval, Act.put]) (HAP.out 32 _) ?_)
  go_wp2_with (at_builtin; refine wpList_clear_runK _ rfl _ 32 rfl _ rfl (hclr _ _) ?_)
  go_ret
  refine ⟨_, rfl, ⟨?_, .inr ⟨g, cap, C2.toArray, rfl, hbg, ?_, by omega, hcm, ?_, ?_⟩⟩, ?_⟩
  · rw [List.length_append, List.length_take, List.length_drop, hxl]; omega
  · rw [setRow_heap _ g C1.toArray _ 57 _ hW1]
  · rw [List.size_toArray, k3, hcl]
  · rw [List.toList_toArray, show (n - 1) * 5 = n * 5 - 5 by omega, k1]
  · exact ⟨rfl, rfl, rfl, by simp, fun k _ hk => ((setRow_other _ g k _ (fun e => hk (by rw [e]))).trans (setRow_other _ g k _ (fun e => hk (by rw [e]))))⟩
theorem delete_calls (base i : Nat) (v : Value) (l : List RT) (hn : l.length ≤ 1000) (hi : i < l.length) (w : World) (hown : OwnR w base v l) :
    Calls Try.prog 153 #[v, .int .i64 (i : Nat), .int .i64 ((i : Int) + 1)] w fun e w' => ∃ v', e = .returned v' ∧ OwnR w' base v' (l.take i ++ l.drop (i + 1)) ∧ w.grownBy w' v.ownBlock := by
  rcases hown.2 with ⟨rfl, h0⟩ | ⟨g, cap, cur, rfl, hbg, hg, hnc, hcm, hcs, htake⟩
  · omega
  · refine (delete_walk base l.length i g cap cur _ hn hi (rowOf_one rcs rcs_one l) w hbg hg hnc hcm hcs htake).mono ?_
    rintro e w' ⟨v', he, ho, hgr⟩
    refine ⟨v', he, ?_, hgr⟩
    unfold OwnR
    rw [show (l.take i ++ l.drop (i + 1)).length = l.length - 1 by rw [List.length_append, List.length_take, List.length_drop]; omega]
    rw [rowOf_take rcs 5 rcs_len l i (by omega), rowOf_drop rcs 5 rcs_len l (i + 1) (by omega)] at ho
    rw [rowOf_app]
    exact ho
end Go.Proofs.Ytnpaijmibkbhfaa
