/-
  Laid together: ConcatR, DeltaC.
-/
import Derived.Test.YtmjlmfbceccjdaaG15
import Derived.Test.YtmjlmfbceccjdaaG7
import Derived.Lib.AppendZeros
import Derived.Deep.QuietTactic
/-
  slices.Grow of nil and slices.Concat of two slices of routes.
-/
namespace Go.Proofs.Ytmjlmfbceccjdaa
open Go.RowKit
set_option linter.unusedVariables false
set_option linter.unusedSimpArgs false
section
variable {P : Program} {w : World} {α : Type} {f : α → List Value} {k : Nat}
theorem run_append_any (base : Nat) (t ty e : TypeId) (i : TypeInfo) (z : Value) (bytes : Nat) (ht : P.underlying t = some (.slice e)) (hi : P.info? e = some i) (hz : i.zero = some z) (hsize : i.size = k) (hby : i.bytes = bytes) (hzs : z.cells.size = k) (hsz : 0 < k)
    (hf : ∀ a, (f a).length = k) (h1 : ∀ a, ∀ u ∈ f a, u.oneCell' = true) (s : Value) (n : Nat) (xs : List Value) (hown : w.ownsRow base e k s n xs) (v : Value) (l : List α) (row : RowK f k w v l) (hbytes : (n + l.length) * bytes ≤ 140737488355328) (h63 : n + l.length ≤ maxLen) (hbase : base ≤ w.heap.size) :
    ∃ v' w', (Builtin.append_ #[t, t] ty #[s, v]).run P w = .ok v' w' ∧ w'.ownsRow base e k v' (n + l.length) (xs ++ rowOf f l) ∧ Below base w w' := by
  by_cases hp : ∃ a m c, v = .slice (some a) m c
  · exact run_append_row base t ty e i z bytes ht hi hz hsize hby hzs hsz hf h1 s n xs hown v l row hp hbytes h63 hbase
  · rcases row with ⟨rfl, p, c, rfl⟩ | ⟨g, o, c, rfl, _⟩
    · cases p with
      | none =>
        refine ⟨s, w, ?_, by simpa [rowOf] using hown, Below.refl _ _⟩
        rcases hown.2 with ⟨hv, h0⟩ | ⟨g, cap, cur, hv, hb, hg, h1', h2, h3, h4⟩
        · rw [hv]
          simp [Builtin.append_, run_underlying ht, sizeOf, typeInfo, hi, Builtin.lenOf, Builtin.firstCells, loadCells, loadCellsFrom]
        · rw [hv]
          simp [Builtin.append_, run_underlying ht, sizeOf, typeInfo, hi, Builtin.lenOf, Builtin.firstCells, loadCells, loadCellsFrom, h1', storeCells]
      | some a => exact absurd ⟨_, _, _, rfl⟩ hp
    · exact absurd ⟨_, _, _, rfl⟩ hp
theorem wpList_append_any {ops : Array Oper} {rest : List Oper} {o : Oper} {a : Act} {Q : Exit → Act → World → Prop} (hgd : o.guard = none) (s x : Operand) (t : TypeId)
    (ho : o.op = .call { callee := .builtin .append, args := #[s, x], argTypes := #[t, t] }) (base : Nat) (e : TypeId) (i : TypeInfo) (z : Value) (bytes : Nat) (ht : P.underlying t = some (.slice e)) (hi : P.info? e = some i) (hz : i.zero = some z) (hsize : i.size = k) (hby : i.bytes = bytes) (hzs : z.cells.size = k) (hsz : 0 < k)
    (hf : ∀ a, (f a).length = k) (h1 : ∀ a, ∀ u ∈ f a, u.oneCell' = true) (sv : Value) (n : Nat) (xs : List Value) (hs : a.eval s = sv) (hown : w.ownsRow base e k sv n xs) (v : Value) (l : List α) (hx : a.eval x = v) (row : RowK f k w v l) (hbytes : (n + l.length) * bytes ≤ 140737488355328) (h63 : n + l.length ≤ maxLen) (hbase : base ≤ w.heap.size)
    (h : ∀ v' w', w'.ownsRow base e k v' (n + l.length) (xs ++ rowOf f l) → Below base w w' → wpList P ops Q rest (a.put o.dst v') w') : wpList P ops Q (o :: rest) a w :=
  wpList_plain hgd fun _ hK => by
    obtain ⟨v', w', hr, h2, h3⟩ := run_append_any (P := P) base t o.type e i z bytes ht hi hz hsize hby hzs hsz hf h1 sv n xs hown v l row hbytes h63 hbase
    unfold Oper.wp execOp
    simp only [ho, resolve, invoke, builtin, Sem.run_bind, Sem.run_pure, Result.andThen_ok, List.map_toArray, List.map_cons, List.map_nil, hs, hx, hr]
    exact hK _ _ (h v' w' h2 h3)
end
set_option maxHeartbeats 1000000 in
theorem growR_calls (n : Nat) (hn : n ≤ 1000) (w : World) :
    Calls Try.prog 72 #[.slice none 0 0, .int .i64 n] w fun e w' => ∃ v, e = .returned v ∧ w'.ownsRow w.heap.size 51 5 v 0 [] ∧ Below w.heap.size w w' := by
  obtain ⟨i0, hii, hz0, hz1, hz2⟩ := info_parts info_route
  by_cases h0 : n = 0
  · subst h0
    go_enter Try.func72, Try.ntmps72
    go_wp2
    go_returns
    exact ⟨_, rfl, World.ownsRow_nil _ _ _ _, Below.refl _ _⟩
  · have hpos : 0 < n := by omega
    have hp1 : (0 : Int) < (n : Int) := by omega
    have hp2 : ¬ (n : Int) < 0 := by omega
    have R := Lib.hid (fun (W : World) => Go.Lib.run_append_nil_zeros (P := Try.prog) W 23 3 23 51 i0 _ .i64 .i64 Try.underlying23 Try.underlying3 hii hz0 n hpos (by rw [hz1]; decide) (by omega) (by rw [hz2]; omega))
    have c1 := grownCap_ge w n 0 51
    have c2 := grownCap_le_maxLen w n 0 51 (by unfold maxLen; omega)
    obtain ⟨cap, hcap⟩ : ∃ cap, grownCap w n 0 51 = cap := ⟨_, rfl⟩
    have R1 := R.out w
    rw [hcap] at R1 c1 c2
    have hc3 : (0 : Int) ≤ (cap : Int) := by omega
    clear R hcap
    go_enter Try.func72, Try.ntmps72
    go_wp2_with (at_builtin; refine Go.Lib.wpList_append_run _ rfl _ _ _ _ rfl _ _ rfl rfl _ _ R1 ?_)
    go_returns
    refine ⟨_, rfl, ⟨rfl, .inr ⟨w.heap.size, cap, _, rfl, Nat.le_refl _, _root_.Go.heap_alloc_new w.drew _, Nat.zero_le _, c2, ?_, by simp⟩⟩, ((Below.refl _ w).drew).alloc (Nat.le_refl _) _⟩
    rw [Array.size_append, size_zeroCells, size_zeroCells, ← Nat.add_mul]
    simp
    omega
end Go.Proofs.Ytmjlmfbceccjdaa
/-
  slices.Index, slices.Contains of routes; delta.without.
-/
namespace Go.Proofs.Ytmjlmfbceccjdaa
open Go.RowKit
set_option linter.unusedVariables false
set_option linter.unusedSimpArgs false
theorem rt_cases (s r : RT) : s = r ∨ (s.1 ≠ r.1) ∨ (s.1 = r.1 ∧ (s.2 == r.2) = false) := by
  by_cases h : s.1 = r.1
  · by_cases h2 : s.2 = r.2
    · exact .inl (Prod.ext h h2)
    · exact .inr (.inr ⟨h, by simpa using h2⟩)
  · exact .inr (.inl h)
theorem RouteAt (w : World) (r : RT) (o : Nat) : (w.alloc (.cells #[.bool r.1.1, .int .u64 (aH r.1.2.1), .int .u64 (aL r.1.2.1), .int .i64 r.1.2.2, .int .i64 r.2] 51)).cell? ⟨w.heap.size, o, none⟩ = (rcs r)[o]? := by
  match o with
  | 0 => simp [rcs]
  | 1 => simp [rcs]
  | 2 => simp [rcs]
  | 3 => simp [rcs]
  | 4 => simp [rcs]
  | o + 5 => simp [rcs]
set_option maxHeartbeats 4000000 in
set_option maxRecDepth 100000 in
theorem indexV_calls (l : List RT) (v : Value) (q : RT) (hlen : l.length ≤ 100000) (w : World) (row : RowR w v l) :
    Calls Try.prog 85 #[v, .agg #[.bool q.1.1, .int .u64 (aH q.1.2.1), .int .u64 (aL q.1.2.1), .int .i64 q.1.2.2, .int .i64 q.2]] w fun e w' => ∃ r : Int, e = .returned (.int .i64 r) ∧ (0 ≤ r ↔ q ∈ l) ∧ Below w.heap.size w w' := by
  obtain ⟨p, c, rfl, hcap, at_⟩ := row.at
  obtain ⟨n, hn⟩ : ∃ n, l.length = n := ⟨_, rfl⟩
  have HN := Lib.hid hn
  have AT := Lib.hid at_
  rw [hn] at hlen ⊢
  clear row at_ hn
  have bA := (Below.refl w.heap.size w).alloc (Nat.le_refl _) (.cells #[.bool q.1.1, .int .u64 (aH q.1.2.1), .int .u64 (aL q.1.2.1), .int .i64 q.1.2.2, .int .i64 q.2] 51)
  have Q0 := Lib.hid (fun o => RouteAt w q o)
  go_enter Try.func85, Try.ntmps85
  go_wp2
  have hw1 : w.heap.size < (w.alloc (.cells #[.bool q.1.1, .int .u64 (aH q.1.2.1), .int .u64 (aL q.1.2.1), .int .i64 q.1.2.2, .int .i64 q.2] 51)).heap.size := by simp
  revert Q0 bA hw1
  generalize w.alloc (.cells #[.bool q.1.1, .int .u64 (aH q.1.2.1), .int .u64 (aL q.1.2.1), .int .i64 q.1.2.2, .int .i64 q.2] 51) = Y
  intro bA Q0 hw1
  have HBA := Lib.hid bA
  go_loopw [8] (fun i wr => ∃ k z : Nat, k ≤ n ∧ i = .int .i64 k ∧ wr = Y.drewN z ∧ Hid (∀ c ∈ l.take k, c ≠ q)) (fun i _ => n - (intOf i).toNat)
  case atStart => exact ⟨0, 0, by omega, rfl, rfl, Lib.hid (fun c h => by simp at h)⟩
  case round =>
    clear bA
    obtain ⟨k, z, hk, rfl, rfl, HF⟩ := hrel
    by_cases hlt : k < n
    · have hkl : k < l.length := by rw [HN.out]; exact hlt
      obtain ⟨g, o, rfl, hg, hrec⟩ := AT.out k hkl
      obtain ⟨x0, x1, x2, x3, x4⟩ := routeCells (hrec.keep HBA.out hg)
      have q0 := Q0.out 0
      have q1 := Q0.out 1
      have q2 := Q0.out 2
      have q3 := Q0.out 3
      have q4 := Q0.out 4
      simp only [rcs, List.getElem?_cons_zero, List.getElem?_cons_succ] at q0 q1 q2 q3 q4
      have HA := Lib.hid (show l[k] = q → q ∈ l from fun h => by rw [← h]; exact List.getElem_mem hkl)
      have HT := Lib.hid (show l[k] ≠ q → ∀ c ∈ l.take (k + 1), c ≠ q from fun h c hc => by
        rw [List.take_succ_eq_append_getElem hkl, List.mem_append, List.mem_singleton] at hc
        rcases hc with hc | rfl
        · exact HF.out c hc
        · exact h)
      have hlt' : (k : Int) < (n : Int) := by omega
      generalize l[k] = r at x0 x1 x2 x3 x4 HA HT
      clear hrec
      rcases rt_cases q r with e | e | ⟨e, e'⟩
      · have HM := Lib.hid (HA.out e.symm)
        subst e
        clear HA HT
        go_wp2_with fail
        go_quiet ((fail))
        go_wp2
        go_ret
        exact ⟨k, rfl, ⟨fun _ => HM.out, fun _ => by omega⟩, below_drewN (below_drewN HBA.out _) _⟩
      · have HT2 := Lib.hid (HT.out (fun h => e (by rw [h])))
        clear HA HT
        rcases pk_cases q.1 r.1 with f | f | ⟨e1, f⟩ | ⟨e1, e2, f⟩ | ⟨e1, e2, e3, f⟩
        · exact absurd f e
        all_goals
          clear e
          try rw [← e1] at x0
          try rw [← e2] at x1
          try rw [← e3] at x2
          go_wp2_with fail
          go_quiet ((fail))
          go_wp2
          go_roundw
          case rel => exact ⟨k + 1, _, by omega, by go_num, rfl, HT2⟩
          case measure => simp [intOf]; omega
      · have HT2 := Lib.hid (HT.out (fun h => by rw [h] at e'; simp at e'))
        clear HA HT
        rw [← e] at x0 x1 x2 x3
        clear e
        go_wp2_with fail
        go_quiet ((fail))
        go_wp2
        go_roundw
        case rel => exact ⟨k + 1, _, by omega, by go_num, rfl, HT2⟩
        case measure => simp [intOf]; omega
    · obtain rfl : k = n := by omega
      have e1 : l.take k = l := by rw [← HN.out]; exact List.take_length
      rw [e1] at HF
      go_wp2
      go_ret
      exact ⟨-1, rfl, ⟨fun h => by omega, fun h => absurd rfl (HF.out q h)⟩, below_drewN HBA.out _⟩
end Go.Proofs.Ytmjlmfbceccjdaa
