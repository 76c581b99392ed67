/-
  Laid together: ConcatR, ConcatS.
-/
import Derived.Test.YtmjlmfbceccjdaaG15
import Derived.Test.YtmjlmfbceccjdaaG7
import Derived.Lib.AppendZeros
/-
  slices.Grow of nil and slices.Concat of two slices of routes.
-/
namespace Go.Proofs.Ytmjlmfbceccjdaa
open Go.RowKit
set_option linter.unusedVariables false
set_option linter.unusedSimpArgs false
section
variable {P : Program} {w : World} {α : Type} {f : α → List Value} {k : Nat}
theorem run_append_any (base : Nat) (t ty e : TypeId) (i : TypeInfo) (z : Value) (bytes : Nat) (ht : P.underlying t = some (.slice e)) (hi : P.info? e = some i) (hz : i.zero = some z) (hsize : i.size = k) (hby : i.bytes = bytes) (hzs : z.cells.size = k) (hsz : 0 < k)
    (hf : ∀ a, (f a).length = k) (h1 : ∀ a, ∀ u ∈ f a, u.oneCell' = true) (s : Value) (n : Nat) (xs : List Value) (hown : w.ownsRow base e k s n xs) (v : Value) (l : List α) (row : RowK f k w v l) (hbytes : (n + l.length) * bytes ≤ 140737488355328) (h63 : n + l.length ≤ maxLen) (hbase : base ≤ w.heap.size) :
    ∃ v' w', (Builtin.append_ #[t, t] ty #[s, v]).run P w = .ok v' w' ∧ w'.ownsRow base e k v' (n + l.length) (xs ++ rowOf f l) ∧ Below base w w' := by
  by_cases hp : ∃ a m c, v = .slice (some a) m c
  · exact run_append_row base t ty e i z bytes ht hi hz hsize hby hzs hsz hf h1 s n xs hown v l row hp hbytes h63 hbase
  · rcases row with ⟨rfl, p, c, rfl⟩ | ⟨g, o, c, rfl, _⟩
    · cases p with
      | none =>
        refine ⟨s, w, ?_, by simpa [rowOf] using hown, Below.refl _ _⟩
        rcases hown.2 with ⟨hv, h0⟩ | ⟨g, cap, cur, hv, hb, hg, h1', h2, h3, h4⟩
        · rw [hv]
          simp [Builtin.append_, run_underlying ht, sizeOf, typeInfo, hi, Builtin.lenOf, Builtin.firstCells, loadCells, loadCellsFrom]
        · rw [hv]
          simp [Builtin.append_, run_underlying ht, sizeOf, typeInfo, hi, Builtin.lenOf, Builtin.firstCells, loadCells, loadCellsFrom, h1', storeCells]
      | some a => exact absurd ⟨_, _, _, rfl⟩ hp
    · exact absurd ⟨_, _, _, rfl⟩ hp
theorem wpList_append_any {ops : Array Oper} {rest : List Oper} {o : Oper} {a : Act} {Q : Exit → Act → World → Prop} (hgd : o.guard = none) (s x : Operand) (t : TypeId)
    (ho : o.op = .call { callee := .builtin .append, args := #[s, x], argTypes := #[t, t] }) (base : Nat) (e : TypeId) (i : TypeInfo) (z : Value) (bytes : Nat) (ht : P.underlying t = some (.slice e)) (hi : P.info? e = some i) (hz : i.zero = some z) (hsize : i.size = k) (hby : i.bytes = bytes) (hzs : z.cells.size = k) (hsz : 0 < k)
    (hf : ∀ a, (f a).length = k) (h1 : ∀ a, ∀ u ∈ f a, u.oneCell' = true) (sv : Value) (n : Nat) (xs : List Value) (hs : a.eval s = sv) (hown : w.ownsRow base e k sv n xs) (v : Value) (l : List α) (hx : a.eval x = v) (row : RowK f k w v l) (hbytes : (n + l.length) * bytes ≤ 140737488355328) (h63 : n + l.length ≤ maxLen) (hbase : base ≤ w.heap.size)
    (h : ∀ v' w', w'.ownsRow base e k v' (n + l.length) (xs ++ rowOf f l) → Below base w w' → wpList P ops Q rest (a.put o.dst v') w') : wpList P ops Q (o :: rest) a w :=
  wpList_plain hgd fun _ hK => by
    obtain ⟨v', w', hr, h2, h3⟩ := run_append_any (P := P) base t o.type e i z bytes ht hi hz hsize hby hzs hsz hf h1 sv n xs hown v l row hbytes h63 hbase
    unfold Oper.wp execOp
    simp only [ho, resolve, invoke, builtin, Sem.run_bind, Sem.run_pure, Result.andThen_ok, List.map_toArray, List.map_cons, List.map_nil, hs, hx, hr]
    exact hK _ _ (h v' w' h2 h3)
end
set_option maxHeartbeats 1000000 in
theorem growR_calls (n : Nat) (hn : n ≤ 1000) (w : World) :
    Calls Try.prog 72 #[.slice none 0 0, .int .i64 n] w fun e w' => ∃ v, e = .returned v ∧ w'.ownsRow w.heap.size 51 5 v 0 [] ∧ Below w.heap.size w w' := by
  obtain ⟨i0, hii, hz0, hz1, hz2⟩ := info_parts info_route
  by_cases h0 : n = 0
  · subst h0
    go_enter Try.func72, Try.ntmps72
    go_wp2
    go_returns
    exact ⟨_, rfl, World.ownsRow_nil _ _ _ _, Below.refl _ _⟩
  · have hpos : 0 < n := by omega
    have hp1 : (0 : Int) < (n : Int) := by omega
    have hp2 : ¬ (n : Int) < 0 := by omega
    have R := Lib.hid (fun (W : World) => Go.Lib.run_append_nil_zeros (P := Try.prog) W 23 3 23 51 i0 _ .i64 .i64 Try.underlying23 Try.underlying3 hii hz0 n hpos (by rw [hz1]; decide) (by omega) (by rw [hz2]; omega))
    have c1 := grownCap_ge w n 0 51
    have c2 := grownCap_le_maxLen w n 0 51 (by unfold maxLen; omega)
    obtain ⟨cap, hcap⟩ : ∃ cap, grownCap w n 0 51 = cap := ⟨_, rfl⟩
    have R1 := R.out w
    rw [hcap] at R1 c1 c2
    have hc3 : (0 : Int) ≤ (cap : Int) := by omega
    clear R hcap
    go_enter Try.func72, Try.ntmps72
    go_wp2_with (at_builtin; refine Go.Lib.wpList_append_run _ rfl _ _ _ _ rfl _ _ rfl rfl _ _ R1 ?_)
    go_returns
    refine ⟨_, rfl, ⟨rfl, .inr ⟨w.heap.size, cap, _, rfl, Nat.le_refl _, _root_.Go.heap_alloc_new w.drew _, Nat.zero_le _, c2, ?_, by simp⟩⟩, ((Below.refl _ w).drew).alloc (Nat.le_refl _) _⟩
    rw [Array.size_append, size_zeroCells, size_zeroCells, ← Nat.add_mul]
    simp
    omega
end Go.Proofs.Ytmjlmfbceccjdaa
/-
  slices.Concat of two lists of routes.
-/
namespace Go.Proofs.Ytmjlmfbceccjdaa
open Go.RowKit
set_option linter.unusedVariables false
set_option linter.unusedSimpArgs false
set_option maxHeartbeats 4000000 in
set_option maxRecDepth 100000 in
theorem concatR_calls (l m : List RT) (v1 v2 : Value) (b : Nat) (hl : l.length ≤ 100) (hm : m.length ≤ 100) (w : World) (r1 : RowR w v1 l) (r2 : RowR w v2 m) (c0 : w.cell? ⟨b, 0, none⟩ = some v1) (c1 : w.cell? ⟨b, 1, none⟩ = some v2) (hb : b < w.heap.size) :
    Calls Try.prog 44 #[.slice (some ⟨b, 0, none⟩) 2 2] w fun e w' => ∃ v, e = .returned v ∧ OwnR w' w.heap.size v (l ++ m) ∧ Below w.heap.size w w' := by
  obtain ⟨i0, hii, hz0, hz1, hz2⟩ := info_parts info_route
  have IN := Lib.hid (And.intro hii (And.intro hz0 (And.intro hz1 hz2)))
  have R1 := Lib.hid r1
  have R2 := Lib.hid r2
  obtain ⟨p1, q1, rfl⟩ := r1.form
  obtain ⟨p2, q2, rfl⟩ := r2.form
  obtain ⟨n1, hn1⟩ : ∃ n, l.length = n := ⟨_, rfl⟩
  obtain ⟨n2, hn2⟩ : ∃ n, m.length = n := ⟨_, rfl⟩
  have HN1 := Lib.hid hn1
  have HN2 := Lib.hid hn2
  rw [hn1] at hl R1 c0
  rw [hn2] at hm R2 c1
  have GC := Lib.hid (fun W => growR_calls (n1 + n2) (by omega) W)
  have e1 : ((n1 + n2 : Nat) : Int) = (n1 : Int) + (n2 : Int) := by omega
  rw [e1] at GC
  have hz1' : ¬ (n1 : Int) < 0 := by omega
  have hz2' : ¬ (n1 : Int) + (n2 : Int) < 0 := by omega
  clear r1 r2 e1 hn1 hn2 hii hz0 hz1 hz2
  obtain ⟨B, hB⟩ : ∃ B, w.heap.size = B := ⟨_, rfl⟩
  have HB := Lib.hid hB
  have HBB : Hid (b < B) := Lib.hid (by omega)
  rw [hB]
  go_enter Try.func44, Try.ntmps44
  go_wp2_with fail
  go_loopw [3, 11] (fun u i wr => wr = w ∧ ((u = .int .i64 0 ∧ i = .int .i64 0) ∨ (u = .int .i64 n1 ∧ i = .int .i64 1) ∨ (u = .int .i64 ((n1 : Int) + (n2 : Int)) ∧ i = .int .i64 2))) (fun _ i _ => 2 - (intOf i).toNat)
  case atStart => exact ⟨rfl, .inl ⟨rfl, rfl⟩⟩
  case round =>
    obtain ⟨rfl, h | h | h⟩ := hrel
    · obtain ⟨rfl, rfl⟩ := h
      go_wp2
      go_roundw
      case rel => exact ⟨by first | rfl | trivial, .inr (.inl ⟨rfl, rfl⟩)⟩
      case measure => simp [intOf]
    · obtain ⟨rfl, rfl⟩ := h
      go_wp2
      go_roundw
      case rel => exact ⟨by first | rfl | trivial, .inr (.inr ⟨rfl, rfl⟩)⟩
      case measure => simp [intOf]
    · obtain ⟨rfl, rfl⟩ := h
      go_wp2_with fail
      refine (GC.out _).mono ?_
      rintro e w1 ⟨v, rfl, ho, hb1⟩
      have O1 : Hid (OwnR w1 B v []) := Lib.hid (by rw [← HB.out]; exact ho)
      have b1 : Below B wr w1 := by rw [← HB.out]; exact hb1
      have s1 : B ≤ w1.heap.size := by rw [← HB.out]; exact hb1.size
      clear ho hb1 GC
      go_wp2_with fail
      go_loopw [6, 27] (fun u i wx => Below B wr wx ∧ B ≤ wx.heap.size ∧ ((Hid (OwnR wx B u []) ∧ i = .int .i64 0) ∨ (Hid (OwnR wx B u l) ∧ i = .int .i64 1) ∨ (Hid (OwnR wx B u (l ++ m)) ∧ i = .int .i64 2))) (fun _ i _ => 2 - (intOf i).toNat)
      case atStart => exact ⟨b1, s1, .inl ⟨O1, rfl⟩⟩
      case round =>
        clear b1 s1 O1
        obtain ⟨b1, s1, h | h | h⟩ := hrel
        · obtain ⟨O, rfl⟩ := h
          have d0 := (b1.cell (p := ⟨b, 0, none⟩) HBB.out).trans c0
          have RR := Lib.hid (R1.out.keep (by rw [HB.out]; exact b1))
          obtain ⟨hii, hz0, hz1, hz2⟩ := IN.out
          have hby : (0 + l.length) * 40 ≤ 140737488355328 := by rw [HN1.out]; omega
          have h63 : 0 + l.length ≤ maxLen := by rw [HN1.out]; unfold maxLen; omega
          go_wp2_with (at_builtin; refine wpList_append_any rfl _ _ 23 rfl B 51 i0 _ 40 Try.underlying23 hii hz0 hz1 hz2 rfl (by decide) rcs_len rcs_one _ 0 [] rfl O.out _ l rfl RR.out hby h63 s1 ?_; intro v6 w6 ho6 hb6)
          have O6 : Hid (OwnR w6 B v6 l) := Lib.hid (by have := ho6; rw [Nat.zero_add, List.nil_append] at this; exact this)
          have b6 := b1.trans hb6
          have s6 : B ≤ w6.heap.size := Nat.le_trans s1 hb6.size
          clear ho6 hb6 hii hz0 hz1 hz2
          go_roundw
          case rel => exact ⟨b6, s6, .inr (.inl ⟨O6, rfl⟩)⟩
          case measure => simp [intOf]
        · obtain ⟨O, rfl⟩ := h
          have d1 := (b1.cell (p := ⟨b, 1, none⟩) HBB.out).trans c1
          have RR := Lib.hid (R2.out.keep (by rw [HB.out]; exact b1))
          obtain ⟨hii, hz0, hz1, hz2⟩ := IN.out
          have hby : (l.length + m.length) * 40 ≤ 140737488355328 := by rw [HN1.out, HN2.out]; omega
          have h63 : l.length + m.length ≤ maxLen := by rw [HN1.out, HN2.out]; unfold maxLen; omega
          go_wp2_with (at_builtin; refine wpList_append_any rfl _ _ 23 rfl B 51 i0 _ 40 Try.underlying23 hii hz0 hz1 hz2 rfl (by decide) rcs_len rcs_one _ l.length (rowOf rcs l) rfl O.out _ m rfl RR.out hby h63 s1 ?_; intro v6 w6 ho6 hb6)
          have O6 : Hid (OwnR w6 B v6 (l ++ m)) := Lib.hid (by unfold OwnR; rw [List.length_append, rowOf_app]; exact ho6)
          have b6 := b1.trans hb6
          have s6 : B ≤ w6.heap.size := Nat.le_trans s1 hb6.size
          clear ho6 hb6 hii hz0 hz1 hz2
          go_roundw
          case rel => exact ⟨b6, s6, .inr (.inr ⟨O6, rfl⟩)⟩
          case measure => simp [intOf]
        · obtain ⟨O, rfl⟩ := h
          go_wp2
          go_ret
          exact ⟨_, by simp, O.out, b1⟩
end Go.Proofs.Ytmjlmfbceccjdaa
