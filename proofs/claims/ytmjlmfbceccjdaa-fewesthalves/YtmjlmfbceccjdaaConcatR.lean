/-
  slices.Grow of nil and slices.Concat of two slices of routes.
-/
import Derived.Test.YtmjlmfbceccjdaaAppRow
import Derived.Test.YtmjlmfbceccjdaaG7
import Derived.Lib.AppendZeros
namespace Go.Proofs.Ytmjlmfbceccjdaa
open Go.RowKit
set_option linter.unusedVariables false
set_option linter.unusedSimpArgs false
section
variable {P : Program} {w : World} {α : Type} {f : α → List Value} {k : Nat}
theorem run_append_any (base : Nat) (t ty e : TypeId) (i : TypeInfo) (z : Value) (bytes : Nat) (ht : P.underlying t = some (.slice e)) (hi : P.info? e = some i) (hz : i.zero = some z) (hsize : i.size = k) (hby : i.bytes = bytes) (hzs : z.cells.size = k) (hsz : 0 < k)
    (hf : ∀ a, (f a).length = k) (h1 : ∀ a, ∀ u ∈ f a, u.oneCell' = true) (s : Value) (n : Nat) (xs : List Value) (hown : w.ownsRow base e k s n xs) (v : Value) (l : List α) (row : RowK f k w v l) (hbytes : (n + l.length) * bytes ≤ 140737488355328) (h63 : n + l.length ≤ maxLen) (hbase : base ≤ w.heap.size) :
    ∃ v' w', (Builtin.append_ #[t, t] ty #[s, v]).run P w = .ok v' w' ∧ w'.ownsRow base e k v' (n + l.length) (xs ++ rowOf f l) ∧ Below base w w' := by
  by_cases hp : ∃ a m c, v = .slice (some a) m c
  · exact run_append_row base t ty e i z bytes ht hi hz hsize hby hzs hsz hf h1 s n xs hown v l row hp hbytes h63 hbase
  · rcases row with ⟨rfl, p, c, rfl⟩ | ⟨g, o, c, rfl, _⟩
    · cases p with
      | none =>
        refine ⟨s, w, ?_, by simpa [rowOf] using hown, Below.refl _ _⟩
        rcases hown.2 with ⟨hv, h0⟩ | ⟨g, cap, cur, hv, hb, hg, h1', h2, h3, h4⟩
        · rw [hv]
          simp [Builtin.append_, run_underlying ht, sizeOf, typeInfo, hi, Builtin.lenOf, Builtin.firstCells, loadCells, loadCellsFrom]
        · rw [hv]
          simp [Builtin.append_, run_underlying ht, sizeOf, typeInfo, hi, Builtin.lenOf, Builtin.firstCells, loadCells, loadCellsFrom, h1', storeCells]
      | some a => exact absurd ⟨_, _, _, rfl⟩ hp
    · exact absurd ⟨_, _, _, rfl⟩ hp
theorem wpList_append_any {ops : Array Oper} {rest : List Oper} {o : Oper} {a : Act} {Q : Exit → Act → World → Prop} (hgd : o.guard = none) (s x : Operand) (t : TypeId)
    (ho : o.op = .call { callee := .builtin .append, args := #[s, x], argTypes := #[t, t] }) (base : Nat) (e : TypeId) (i : TypeInfo) (z : Value) (bytes : Nat) (ht : P.underlying t = some (.slice e)) (hi : P.info? e = some i) (hz : i.zero = some z) (hsize : i.size = k) (hby : i.bytes = bytes) (hzs : z.cells.size = k) (hsz : 0 < k)
    (hf : ∀ a, (f a).length = k) (h1 : ∀ a, ∀ u ∈ f a, u.oneCell' = true) (sv : Value) (n : Nat) (xs : List Value) (hs : a.eval s = sv) (hown : w.ownsRow base e k sv n xs) (v : Value) (l : List α) (hx : a.eval x = v) (row : RowK f k w v l) (hbytes : (n + l.length) * bytes ≤ 140737488355328) (h63 : n + l.length ≤ maxLen) (hbase : base ≤ w.heap.size)
    (h : ∀ v' w', w'.ownsRow base e k v' (n + l.length) (xs ++ rowOf f l) → Below base w w' → wpList P ops Q rest (a.put o.dst v') w') : wpList P ops Q (o :: rest) a w :=
  wpList_plain hgd fun _ hK => by
    obtain ⟨v', w', hr, h2, h3⟩ := run_append_any (P := P) base t o.type e i z bytes ht hi hz hsize hby hzs hsz hf h1 sv n xs hown v l row hbytes h63 hbase
    unfold Oper.wp execOp
    simp only [ho, resolve, invoke, builtin, Sem.run_bind, Sem.run_pure, Result.andThen_ok, List.map_toArray, List.map_cons, List.map_nil, hs, hx, hr]
    exact hK _ _ (h v' w' h2 h3)
end
set_option maxHeartbeats 1000000 in
theorem growR_calls (n : Nat) (hn : n ≤ 1000) (w : World) :
    Calls Try.prog 72 #[.slice none 0 0, .int .i64 n] w fun e w' => ∃ v, e = .returned v ∧ w'.ownsRow w.heap.size 51 5 v 0 [] ∧ Below w.heap.size w w' := by
  obtain ⟨i0, hii, hz0, hz1, hz2⟩ := info_parts info_route
  by_cases h0 : n = 0
  · subst h0
    go_enter Try.func72, Try.ntmps72
    go_wp2
    go_returns
    exact ⟨_, rfl, World.ownsRow_nil _ _ _ _, Below.refl _ _⟩
  · have hpos : 0 < n := by omega
    have hp1 : (0 : Int) < (n : Int) := by omega
    have hp2 : ¬ (n : Int) < 0 := by omega
    have R := Lib.hid (fun (W : World) => Go.Lib.run_append_nil_zeros (P := Try.prog) W 23 3 23 51 i0 _ .i64 .i64 Try.underlying23 Try.underlying3 hii hz0 n hpos (by rw [hz1]; decide) (by omega) (by rw [hz2]; omega))
    have c1 := grownCap_ge w n 0 51
    have c2 := grownCap_le_maxLen w n 0 51 (by unfold maxLen; omega)
    obtain ⟨cap, hcap⟩ : ∃ cap, grownCap w n 0 51 = cap := ⟨_, rfl⟩
    have R1 := R.out w
    rw [hcap] at R1 c1 c2
    have hc3 : (0 : Int) ≤ (cap : Int) := by omega
    clear R hcap
    go_enter Try.func72, Try.ntmps72
    go_wp2_with (at_builtin; refine Go.Lib.wpList_append_run _ rfl _ _ _ _ rfl _ _ rfl rfl _ _ R1 ?_)
    go_returns
    refine ⟨_, rfl, ⟨rfl, .inr ⟨w.heap.size, cap, _, rfl, Nat.le_refl _, _root_.Go.heap_alloc_new w.drew _, Nat.zero_le _, c2, ?_, by simp⟩⟩, ((Below.refl _ w).drew).alloc (Nat.le_refl _) _⟩
    rw [Array.size_append, size_zeroCells, size_zeroCells, ← Nat.add_mul]
    simp
    omega
end Go.Proofs.Ytmjlmfbceccjdaa
