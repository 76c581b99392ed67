/-
  Laid together: AppRow, DeltaA.
-/
import Derived.Test.YtmjlmfbceccjdaaG13
import Derived.Test.YtmjlmfbceccjdaaG5
import Derived.Test.YtmjlmfbceccjdaaG11
import Derived.Test.YtmjlmfbceccjdaaTabH
/-
  append(x, y...) of a row of one's own and any slice of records that can be read.
-/
namespace Go.Proofs.Ytmjlmfbceccjdaa
open Go.RowKit
set_option linter.unusedVariables false
set_option linter.unusedSimpArgs false
section
variable {P : Program} {w : World} {α : Type} {f : α → List Value} {k : Nat}
theorem run_append_row (base : Nat) (t ty e : TypeId) (i : TypeInfo) (z : Value) (bytes : Nat) (ht : P.underlying t = some (.slice e)) (hi : P.info? e = some i) (hz : i.zero = some z) (hsize : i.size = k) (hby : i.bytes = bytes) (hzs : z.cells.size = k) (hsz : 0 < k)
    (hf : ∀ a, (f a).length = k) (h1 : ∀ a, ∀ u ∈ f a, u.oneCell' = true) (s : Value) (n : Nat) (xs : List Value) (hown : w.ownsRow base e k s n xs) (v : Value) (l : List α) (row : RowK f k w v l) (hp : ∃ a m c, v = .slice (some a) m c) (hbytes : (n + l.length) * bytes ≤ 140737488355328) (h63 : n + l.length ≤ maxLen) (hbase : base ≤ w.heap.size) :
    ∃ v' w', (Builtin.append_ #[t, t] ty #[s, v]).run P w = .ok v' w' ∧ w'.ownsRow base e k v' (n + l.length) (xs ++ rowOf f l) ∧ Below base w w' := by
  rcases row with ⟨rfl, p, c, rfl⟩ | ⟨g, o, c, rfl, hg, _, hc⟩
  · cases p with
    | none => obtain ⟨a, m, c', e⟩ := hp; cases e
    | some a =>
      obtain ⟨v', w', h, ho, hgr, _⟩ := run_append_own (P := P) w base t ty e i z k bytes ht hi hz hsize hby hzs hsz s n xs hown a 0 c [] (by simp) (fun j u hj => (by simp at hj)) (fun u hu => (by cases hu)) (by simpa using h63) (by simpa using hbytes) hbase
      exact ⟨v', w', h, by simpa [rowOf] using ho, below_grown hown hgr hbase⟩
  · obtain ⟨v', w', h, ho, hgr, _⟩ := run_append_own (P := P) w base t ty e i z k bytes ht hi hz hsize hby hzs hsz s n xs hown ⟨g, o, none⟩ l.length c (rowOf f l) (rowOf_len f k hf l) (fun j u hj => by
        rw [Addr.add_lit]
        have hjl : j < l.length * k := by
          have := (List.getElem?_eq_some_iff.1 hj).1
          rwa [rowOf_len f k hf] at this
        have hdm := Nat.div_add_mod' j k
        have hml := Nat.mod_lt j hsz
        have hdl : j / k < l.length := (Nat.div_lt_iff_lt_mul hsz).2 hjl
        have hj2 : (f l[j / k])[j % k]? = some u := by rw [← rowOf_at f k hf l (j / k) hdl (j % k) hml, hdm]; exact hj
        have := hc (j / k) hdl (j % k) u hj2
        rw [show o + j = o + j / k * k + j % k by omega]
        exact this) (rowOf_one f h1 l) (by simpa using h63) (by simpa using hbytes) hbase
    exact ⟨v', w', h, by simpa using ho, below_grown hown hgr hbase⟩
theorem wp_append_row {o : Oper} {a : Act} {K : Act → World → Prop} {Q : Exit → Act → World → Prop} (s x : Operand) (t : TypeId)
    (ho : o.op = .call { callee := .builtin .append, args := #[s, x], argTypes := #[t, t] }) (base : Nat) (e : TypeId) (i : TypeInfo) (z : Value) (bytes : Nat) (ht : P.underlying t = some (.slice e)) (hi : P.info? e = some i) (hz : i.zero = some z) (hsize : i.size = k) (hby : i.bytes = bytes) (hzs : z.cells.size = k) (hsz : 0 < k)
    (hf : ∀ a, (f a).length = k) (h1 : ∀ a, ∀ u ∈ f a, u.oneCell' = true) (sv : Value) (n : Nat) (xs : List Value) (hs : a.eval s = sv) (hown : w.ownsRow base e k sv n xs) (v : Value) (l : List α) (hx : a.eval x = v) (row : RowK f k w v l) (hp : ∃ a m c, v = .slice (some a) m c) (hbytes : (n + l.length) * bytes ≤ 140737488355328) (h63 : n + l.length ≤ maxLen) (hbase : base ≤ w.heap.size)
    (h : ∀ v' w', w'.ownsRow base e k v' (n + l.length) (xs ++ rowOf f l) → Below base w w' → K (a.put o.dst v') w') : o.wp P a w K Q := by
  obtain ⟨v', w', hr, h2, h3⟩ := run_append_row (P := P) base t o.type e i z bytes ht hi hz hsize hby hzs hsz hf h1 sv n xs hown v l row hp hbytes h63 hbase
  unfold Oper.wp execOp
  simp only [ho, resolve, invoke, builtin, Sem.run_bind, Sem.run_pure, Result.andThen_ok, List.map_toArray, List.map_cons, List.map_nil, hs, hx, hr]
  exact h v' w' h2 h3
theorem step_append_row {ops : Array Oper} {o : Oper} {a : Act} {K : Act → World → Prop} {Q : Exit → Act → World → Prop} {E : Prop} (hgd : o.guard = none) (s x : Operand) (t : TypeId)
    (ho : o.op = .call { callee := .builtin .append, args := #[s, x], argTypes := #[t, t] }) (base : Nat) (e : TypeId) (i : TypeInfo) (z : Value) (bytes : Nat) (ht : P.underlying t = some (.slice e)) (hi : P.info? e = some i) (hz : i.zero = some z) (hsize : i.size = k) (hby : i.bytes = bytes) (hzs : z.cells.size = k) (hsz : 0 < k)
    (hf : ∀ a, (f a).length = k) (h1 : ∀ a, ∀ u ∈ f a, u.oneCell' = true) (sv : Value) (n : Nat) (xs : List Value) (hs : a.eval s = sv) (hown : w.ownsRow base e k sv n xs) (v : Value) (l : List α) (hx : a.eval x = v) (row : RowK f k w v l) (hp : ∃ a m c, v = .slice (some a) m c) (hbytes : (n + l.length) * bytes ≤ 140737488355328) (h63 : n + l.length ≤ maxLen) (hbase : base ≤ w.heap.size)
    (h : ∀ v' w', w'.ownsRow base e k v' (n + l.length) (xs ++ rowOf f l) → Below base w w' → K (a.put o.dst v') w') :
    if Region.wanted o (yielded ops a.tmps) = true then Oper.wp P o a w K Q else E := by
  have hw : Region.wanted o (yielded ops a.tmps) = true := by simp [Region.wanted, hgd]
  rw [if_pos hw]
  exact wp_append_row s x t ho base e i z bytes ht hi hz hsize hby hzs hsz hf h1 sv n xs hs hown v l hx row hp hbytes h63 hbase h
/-- The part of a slice of records from i to j. -/
theorem RowK.part {g o c : Nat} {l : List α} (hrow : RowK f k w (.slice (some ⟨g, o, none⟩) l.length c) l) (hne : l ≠ []) (i j : Nat) (hij : i ≤ j) (hj : j ≤ l.length) (hc : l.length ≤ c) : RowK f k w (.slice (some ⟨g, o + i * k, none⟩) (j - i) (c - i)) ((l.take j).drop i) := by
  rcases hrow with ⟨e, _⟩ | ⟨g', o', c', e, hg, hcc, hr⟩
  · exact absurd e hne
  · cases e
    refine .inr ⟨g, o + i * k, c - i, by rw [List.length_drop, List.length_take, Nat.min_eq_left hj], hg, by rw [List.length_drop, List.length_take]; omega, fun t ht => ?_⟩
    rw [List.length_drop, List.length_take] at ht
    have : ((l.take j).drop i)[t]'(by rw [List.length_drop, List.length_take]; exact ht) = l[i + t]'(by omega) := by rw [List.getElem_drop, List.getElem_take]
    rw [this, Nat.add_assoc, ← Nat.add_mul]
    exact hr (i + t) (by omega)
end
end Go.Proofs.Ytmjlmfbceccjdaa
/-
  delta.puts, delta.sorted.
-/
namespace Go.Proofs.Ytmjlmfbceccjdaa
open Go.RowKit
set_option linter.unusedVariables false
set_option linter.unusedSimpArgs false
theorem aH_zero : aH 0 = 0 := by simp [aH]
theorem aL_zero : aL 0 = 0 := by simp [aL]
theorem puts_take {l : List RT} {k : Nat} (hk : k < l.length) : putsL (l.take (k + 1)) = putsL (l.take k) ++ [putAct l[k]] := by
  rw [putsL, List.take_succ_eq_append_getElem hk, List.map_append]; rfl
set_option maxHeartbeats 4000000 in
set_option maxRecDepth 100000 in
theorem puts_calls (l : List RT) (v : Value) (hlen : l.length ≤ 1000) (w : World) (row : RowR w v l) :
    Calls Try.prog 35 #[v] w fun e w' => ∃ u, e = .returned u ∧ OwnA w' w.heap.size u (putsL l) ∧ Below w.heap.size w w' := by
  obtain ⟨p, c, rfl, hcap, at_⟩ := row.at
  obtain ⟨n, hn⟩ : ∃ n, l.length = n := ⟨_, rfl⟩
  have HN := Lib.hid hn
  have AT := Lib.hid at_
  rw [hn] at hlen ⊢
  obtain ⟨i0, hii, hz0, hz1, hz2⟩ := info_parts info_act
  have IN := Lib.hid (And.intro hii (And.intro hz0 (And.intro hz1 hz2)))
  clear row at_ hn hii hz0 hz1 hz2
  obtain ⟨B, hB⟩ : ∃ B, w.heap.size = B := ⟨_, rfl⟩
  have HB := Lib.hid hB
  rw [hB]
  go_enter Try.func35, Try.ntmps35
  go_wp2
  go_loopw [3, 8] (fun u i wr => ∃ k : Nat, k ≤ n ∧ i = .int .i64 k ∧ Hid (OwnA wr B u (putsL (l.take k))) ∧ Below B w wr ∧ B ≤ wr.heap.size) (fun _ i _ => n - (intOf i).toNat)
  case atStart => exact ⟨0, by omega, rfl, Lib.hid (World.ownsRow_nil _ _ _ _), Below.refl _ _, by omega⟩
  case round =>
    clear hB
    obtain ⟨k, hk, rfl, OD, hnk, hBs⟩ := hrel
    by_cases hlt : k < n
    · have hkl : k < l.length := by rw [HN.out]; exact hlt
      obtain ⟨g, o, rfl, hg, hrec⟩ := AT.out k hkl
      rw [HB.out] at hg
      obtain ⟨x0, x1, x2, x3, x4⟩ := routeCells (hrec.keep hnk hg)
      have HT := Lib.hid (puts_take hkl)
      have hcll : (putsL (l.take k)).length ≤ 1000 := by rw [putsL_len, List.length_take]; omega
      generalize l[k] = r at x0 x1 x2 x3 x4 HT
      obtain ⟨cl, hcl⟩ : ∃ cl, putsL (l.take k) = cl := ⟨_, rfl⟩
      rw [hcl] at OD HT hcll
      have hlt' : (k : Int) < (n : Int) := by omega
      have OD3 := Lib.hid ((OD.out.alloc (.cells #[.bool r.1.1, .int .u64 (aH r.1.2.1), .int .u64 (aL r.1.2.1), .int .i64 r.1.2.2, .int .i64 r.2] 51)).alloc (.cells #[.int .i64 1, .bool r.1.1, .int .u64 (aH r.1.2.1), .int .u64 (aL r.1.2.1), .int .i64 r.1.2.2, .int .i64 r.2, .bool false, .int .u64 0, .int .u64 0] 34))
      have hCN : Hid (∀ j u, (acs (putAct r))[j]? = some u → ((wr.alloc (.cells #[.bool r.1.1, .int .u64 (aH r.1.2.1), .int .u64 (aL r.1.2.1), .int .i64 r.1.2.2, .int .i64 r.2] 51)).alloc (.cells #[.int .i64 1, .bool r.1.1, .int .u64 (aH r.1.2.1), .int .u64 (aL r.1.2.1), .int .i64 r.1.2.2, .int .i64 r.2, .bool false, .int .u64 0, .int .u64 0] 34)).cell? ⟨wr.heap.size + 1, j, none⟩ = some u) := Lib.hid (by
        have := cell_new (wr.alloc (.cells #[.bool r.1.1, .int .u64 (aH r.1.2.1), .int .u64 (aL r.1.2.1), .int .i64 r.1.2.2, .int .i64 r.2] 51)) (acs (putAct r)) 34
        rw [World.size_alloc] at this
        simp only [acs, putAct, aH_zero, aL_zero] at this ⊢
        exact this)
      have hnA := (hnk.alloc hBs (.cells #[.bool r.1.1, .int .u64 (aH r.1.2.1), .int .u64 (aL r.1.2.1), .int .i64 r.1.2.2, .int .i64 r.2] 51)).alloc (by simp; omega) (.cells #[.int .i64 1, .bool r.1.1, .int .u64 (aH r.1.2.1), .int .u64 (aL r.1.2.1), .int .i64 r.1.2.2, .int .i64 r.2, .bool false, .int .u64 0, .int .u64 0] 34)
      clear hcl hrec OD hnk
      obtain ⟨hii, hz0, hz1, hz2⟩ := IN.out
      go_wp2_with (at_builtin; refine wpList_append_one rfl _ _ 26 rfl B 34 i0 _ 72 Try.underlying26 hii hz0 hz1 hz2 rfl (by decide) acs_len acs_one cl ⟨_, rfl, OD3.out⟩ (putAct r) (wr.heap.size + 1) 1 rfl hCN.out (by omega) (by decide) (by simp; omega) ?_; intro v2 w2 ho2 hg2 hb2)
      have hn4 := hnA.trans hb2
      have hs4 : B ≤ w2.heap.size := Nat.le_trans (by simp; omega) hb2.size
      have OD4 := Lib.hid ho2
      clear ho2 hg2 hb2 hnA OD3 hCN
      go_roundw
      case rel => exact ⟨k + 1, by omega, by go_num, Lib.hid (by rw [HT.out]; exact OD4.out), hn4, hs4⟩
      case measure => simp [intOf]; omega
    · obtain rfl : k = n := by omega
      have e1 : l.take k = l := by rw [← HN.out]; exact List.take_length
      rw [e1] at OD
      go_wp2
      go_ret
      exact ⟨_, by simp, OD.out, hnk⟩
theorem putsL_words {l : List RT} (h : WordsR l) : WordsA (putsL l) := fun a ha => by
  obtain ⟨r, hr, rfl⟩ := List.mem_map.1 ha
  exact ⟨h r hr, Nat.two_pow_pos 128⟩
/-- What sorted gives. -/
def sorL (l : List RT) : List RT := if tabE l = 0 then srt l else []
set_option maxHeartbeats 4000000 in
theorem sorted_calls (l : List RT) (v : Value) (hlen : l.length ≤ 9223372036854775807) (hw : WordsR l) (w : World) (row : RowR w v l) :
    Calls Try.prog 33 #[v] w fun e w' => ∃ u, e = .returned (.tuple #[u, .int .i64 (tabE l)]) ∧ OwnR w' w.heap.size u (sorL l) ∧ Below w.heap.size w w' := by
  have C1 := Lib.hid (tableCheck_calls l v hlen hw w row)
  have R0 := Lib.hid row
  obtain ⟨p, c, rfl⟩ := row.form
  clear row
  by_cases h0 : tabE l = 0
  · have hl := (tabE_val h0).2.2
    obtain ⟨_, e2, e3⟩ := puts_run h0
    have C2 := Lib.hid (fun (W : World) (r : RowR W (.slice p l.length c) l) => puts_calls l _ (by omega) W r)
    have C3 := Lib.hid (fun (W : World) (u : Value) (r : RowA W u (putsL l)) => routes_calls (putsL l) u (by rw [putsL_len]; exact hlen) (putsL_words hw) W r)
    rw [e2, e3] at C3
    have E := Lib.hid (show sorL l = srt l by rw [sorL, if_pos h0])
    rw [h0] at C1 ⊢
    clear h0 e2 e3 hl
    go_enter Try.func33, Try.ntmps33
    go_wp2_with fail
    refine C1.out.mono ?_
    rintro e w1 ⟨rfl, hb1⟩
    have R1 := Lib.hid (R0.out.keep hb1)
    clear C1 R0
    go_wp2_with fail
    refine (C2.out _ R1.out).mono ?_
    rintro e w2 ⟨u, rfl, ho, hb2⟩
    have b2 := thenBelow hb1 hb2
    have R2 := Lib.hid (OwnA.row ho)
    clear C2 R1 ho hb2
    go_wp2_with fail
    refine (C3.out _ _ R2.out).mono ?_
    rintro e w3 ⟨u2, rfl, ho3, hb3⟩
    have O3 := Lib.hid (ownsLow ho3 b2.size)
    have b3 := thenBelow b2 hb3
    clear C3 R2 ho3 hb3
    go_wp2
    go_ret2
    exact ⟨u2, by simp, by rw [E.out]; exact O3.out, b3⟩
  · have E := Lib.hid (show sorL l = [] by rw [sorL, if_neg h0])
    generalize tabE l = t at C1 h0 ⊢
    have hz1 : (t == 0) = false := by simpa using h0
    have hz2 : (t != 0) = true := by simp [bne, hz1]
    go_enter Try.func33, Try.ntmps33
    go_wp2_with fail
    refine C1.out.mono ?_
    rintro e w1 ⟨rfl, hb1⟩
    go_wp2
    go_ret2
    exact ⟨.slice none 0 0, by simp, by rw [E.out]; exact World.ownsRow_nil _ _ _ _, hb1⟩
end Go.Proofs.Ytmjlmfbceccjdaa
