/-
  A slice copied by append; whipcordkeep.sameRoutes, goesTo, routesOf.
-/
import Derived.Test.YtepfcphhgmmlhaaTabW
namespace Go.Proofs.Ytepfcphhgmmlhaa
open Go.RowKit
set_option linter.unusedVariables false
set_option linter.unusedSimpArgs false

section
variable {P : Program} {w : World} {α : Type} {f : α → List Value} {k : Nat}
theorem run_append_copy (t ty e : TypeId) (i : TypeInfo) (z : Value) (bytes : Nat) (ht : P.underlying t = some (.slice e)) (hi : P.info? e = some i) (hz : i.zero = some z) (hsize : i.size = k) (hby : i.bytes = bytes) (hzs : z.cells.size = k) (hsz : 0 < k)
    (hf : ∀ a, (f a).length = k) (h1 : ∀ a, ∀ u ∈ f a, u.oneCell' = true) (v : Value) (l : List α) (row : RowK f k w v l) (hbytes : l.length * bytes ≤ 140737488355328) (h63 : l.length ≤ maxLen) :
    ∃ v' w', (Builtin.append_ #[t, t] ty #[.slice none 0 0, v]).run P w = .ok v' w' ∧ w'.ownsRow w.heap.size e k v' l.length (rowOf f l) ∧ Below w.heap.size w w' := by
  rcases row with ⟨rfl, p, c, rfl⟩ | ⟨g, o, c, rfl, hg, _, hc⟩
  · cases p with
    | none =>
      refine ⟨.slice none 0 0, w, ?_, World.ownsRow_nil _ _ _ _, Below.refl _ _⟩
      simp [Builtin.append_, run_underlying ht, sizeOf, typeInfo, hi, Builtin.lenOf, Builtin.firstCells, loadCells, loadCellsFrom]
    | some a =>
      obtain ⟨v', w', h, ho, hgr, _⟩ := run_append_own (P := P) w w.heap.size t ty e i z k bytes ht hi hz hsize hby hzs hsz (.slice none 0 0) 0 [] (World.ownsRow_nil _ _ _ _) a 0 c [] (by simp) (fun j u hj => (by simp at hj)) (fun u hu => (by cases hu)) (by simp [maxLen]) (by simp) (Nat.le_refl _)
      exact ⟨v', w', h, by simpa [rowOf] using ho, (Below.refl _ w).grown hgr (Nat.le_refl _) (fun q hq => by simp [Value.ownBlock] at hq)⟩
  · obtain ⟨v', w', h, ho, hgr, _⟩ := run_append_own (P := P) w w.heap.size t ty e i z k bytes ht hi hz hsize hby hzs hsz (.slice none 0 0) 0 [] (World.ownsRow_nil _ _ _ _) ⟨g, o, none⟩ l.length c (rowOf f l) (rowOf_len f k hf l) (fun j u hj => by
        rw [Addr.add_lit]
        have hjl : j < l.length * k := by
          have := (List.getElem?_eq_some_iff.1 hj).1
          rwa [rowOf_len f k hf] at this
        have hdm := Nat.div_add_mod' j k
        have hml := Nat.mod_lt j hsz
        have hdl : j / k < l.length := (Nat.div_lt_iff_lt_mul hsz).2 hjl
        have hj2 : (f l[j / k])[j % k]? = some u := by rw [← rowOf_at f k hf l (j / k) hdl (j % k) hml, hdm]; exact hj
        have := hc (j / k) hdl (j % k) u hj2
        rw [show o + j = o + j / k * k + j % k by omega]
        exact this) (rowOf_one f h1 l) (by simpa using h63) (by simpa using hbytes) (Nat.le_refl _)
    exact ⟨v', w', h, by simpa using ho, (Below.refl _ w).grown hgr (Nat.le_refl _) (fun q hq => by simp [Value.ownBlock] at hq)⟩
theorem wp_append_copy {o : Oper} {a : Act} {K : Act → World → Prop} {Q : Exit → Act → World → Prop} (s x : Operand) (t : TypeId)
    (ho : o.op = .call { callee := .builtin .append, args := #[s, x], argTypes := #[t, t] }) (e : TypeId) (i : TypeInfo) (z : Value) (bytes : Nat) (ht : P.underlying t = some (.slice e)) (hi : P.info? e = some i) (hz : i.zero = some z) (hsize : i.size = k) (hby : i.bytes = bytes) (hzs : z.cells.size = k) (hsz : 0 < k)
    (hf : ∀ a, (f a).length = k) (h1 : ∀ a, ∀ u ∈ f a, u.oneCell' = true) (hs : a.eval s = .slice none 0 0) (v : Value) (l : List α) (hx : a.eval x = v) (row : RowK f k w v l) (hbytes : l.length * bytes ≤ 140737488355328) (h63 : l.length ≤ maxLen)
    (h : ∀ v' w', w'.ownsRow w.heap.size e k v' l.length (rowOf f l) → Below w.heap.size w w' → K (a.put o.dst v') w') : o.wp P a w K Q := by
  obtain ⟨v', w', hr, h2, h3⟩ := run_append_copy (P := P) t o.type e i z bytes ht hi hz hsize hby hzs hsz hf h1 v l row hbytes h63
  unfold Oper.wp execOp
  simp only [ho, resolve, invoke, builtin, Sem.run_bind, Sem.run_pure, Result.andThen_ok, List.map_toArray, List.map_cons, List.map_nil, hs, hx, hr]
  exact h v' w' h2 h3
theorem wpList_append_copy {ops : Array Oper} {rest : List Oper} {o : Oper} {a : Act} {Q : Exit → Act → World → Prop} (hgd : o.guard = none) (s x : Operand) (t : TypeId)
    (ho : o.op = .call { callee := .builtin .append, args := #[s, x], argTypes := #[t, t] }) (e : TypeId) (i : TypeInfo) (z : Value) (bytes : Nat) (ht : P.underlying t = some (.slice e)) (hi : P.info? e = some i) (hz : i.zero = some z) (hsize : i.size = k) (hby : i.bytes = bytes) (hzs : z.cells.size = k) (hsz : 0 < k)
    (hf : ∀ a, (f a).length = k) (h1 : ∀ a, ∀ u ∈ f a, u.oneCell' = true) (hs : a.eval s = .slice none 0 0) (v : Value) (l : List α) (hx : a.eval x = v) (row : RowK f k w v l) (hbytes : l.length * bytes ≤ 140737488355328) (h63 : l.length ≤ maxLen)
    (h : ∀ v' w', w'.ownsRow w.heap.size e k v' l.length (rowOf f l) → Below w.heap.size w w' → wpList P ops Q rest (a.put o.dst v') w') : wpList P ops Q (o :: rest) a w :=
  wpList_plain hgd fun _ hK => wp_append_copy s x t ho e i z bytes ht hi hz hsize hby hzs hsz hf h1 hs v l hx row hbytes h63 fun v' w' h2 h3 => hK _ _ (h v' w' h2 h3)
theorem step_append_copy {ops : Array Oper} {o : Oper} {a : Act} {K : Act → World → Prop} {Q : Exit → Act → World → Prop} {E : Prop} (hgd : o.guard = none) (s x : Operand) (t : TypeId)
    (ho : o.op = .call { callee := .builtin .append, args := #[s, x], argTypes := #[t, t] }) (e : TypeId) (i : TypeInfo) (z : Value) (bytes : Nat) (ht : P.underlying t = some (.slice e)) (hi : P.info? e = some i) (hz : i.zero = some z) (hsize : i.size = k) (hby : i.bytes = bytes) (hzs : z.cells.size = k) (hsz : 0 < k)
    (hf : ∀ a, (f a).length = k) (h1 : ∀ a, ∀ u ∈ f a, u.oneCell' = true) (hs : a.eval s = .slice none 0 0) (v : Value) (l : List α) (hx : a.eval x = v) (row : RowK f k w v l) (hbytes : l.length * bytes ≤ 140737488355328) (h63 : l.length ≤ maxLen)
    (h : ∀ v' w', w'.ownsRow w.heap.size e k v' l.length (rowOf f l) → Below w.heap.size w w' → K (a.put o.dst v') w') :
    if Region.wanted o (yielded ops a.tmps) = true then Oper.wp P o a w K Q else E := by
  have hw : Region.wanted o (yielded ops a.tmps) = true := by simp [Region.wanted, hgd]
  rw [if_pos hw]
  exact wp_append_copy s x t ho e i z bytes ht hi hz hsize hby hzs hsz hf h1 hs v l hx row hbytes h63 h
end
abbrev OwnA (w : World) (base : Nat) (v : Value) (l : List ActT) : Prop := w.ownsRow base 55 9 v l.length (rowOf acs l)
theorem OwnA.row {w : World} {base : Nat} {v : Value} {l : List ActT} (h : OwnA w base v l) : RowA w v l := RowK.owned acs_len h
theorem info_act : (Try.prog.info? 55).map (fun i => (i.zero, i.size, i.bytes)) = some (some (.agg #[.int .i64 0, .bool false, .int .u64 0, .int .u64 0, .int .i64 0, .int .i64 0, .bool false, .int .u64 0, .int .u64 0]), 9, 72) := by kernel_rfl
set_option maxHeartbeats 2000000 in
theorem sameRoutes_calls (v1 v2 : Value) (l : List RT) (hlen : l.length ≤ 1000) (w : World) (r1 : RowR w v1 l) (r2 : RowR w v2 l) :
    Calls Try.prog 24 #[v1, v2] w fun e w' => e = .returned (.bool true) ∧ Below w.heap.size w w' := by
  obtain ⟨p1, c1, rfl, _, a1⟩ := r1.at
  obtain ⟨p2, c2, rfl, _, a2⟩ := r2.at
  obtain ⟨n, hn⟩ : ∃ n, l.length = n := ⟨_, rfl⟩
  have H1 := Lib.hid a1
  have H2 := Lib.hid a2
  have HN := Lib.hid hn
  rw [hn] at hlen ⊢
  clear a1 a2 hn r1 r2
  go_enter Try.func24, Try.ntmps24
  go_wp2
  go_loopw [5] (fun i wr => ∃ k q : Nat, k ≤ n ∧ i = .int .i64 k ∧ wr = w.drewN q) (fun i _ => n - (intOf i).toNat)
  case atStart => exact ⟨0, 0, Nat.zero_le _, rfl, rfl⟩
  case round =>
    obtain ⟨k, q, hk, rfl, rfl⟩ := hrel
    by_cases hlt : k < n
    · have hkl : k < l.length := by rw [HN.out]; exact hlt
      obtain ⟨g, o, rfl, _, h1⟩ := H1.out k hkl
      obtain ⟨g', o', rfl, _, h2⟩ := H2.out k hkl
      obtain ⟨x0, x1, x2, x3, x4⟩ := routeCells h1
      obtain ⟨y0, y1, y2, y3, y4⟩ := routeCells h2
      generalize l[k] = r at x0 x1 x2 x3 x4 y0 y1 y2 y3 y4
      go_wp2_with fail
      go_quiet ((fail))
      go_wp2
      go_roundw
      case rel => exact ⟨k + 1, _, by omega, by go_num, rfl⟩
      case measure => simp [intOf]; omega
    · go_wp2
      go_returns
      exact ⟨rfl, below_drewN (Below.refl _ _) _⟩
def oneA : ActT := ⟨1, (false, 0, 0), 7, false, 0⟩
theorem one_run : runL [oneA] = [((false, 0, 0), 7)] := by
  have h1 : rtE (oneA.p, oneA.h) = 0 := by
    show rtE ((false, 0, 0), 7) = 0
    have : chkE false 0 0 = 0 := chk_mk false 0 0 (by decide) (by decide) (by unfold lowN; simp)
    simp [rtE, this]
  have h2 : hasR [] oneA.p = false := rfl
  show doL [] oneA = _
  rw [doL, if_pos (show oneA.k = 1 from rfl), putL, if_pos h1, h2]
  rfl
set_option maxHeartbeats 4000000 in
set_option maxRecDepth 100000 in
theorem routesOf_calls (l : List ActT) (v : Value) (hlen : l.length ≤ 100) (hw : WordsA l) (w : World) (row : RowA w v l) :
    Calls Try.prog 22 #[v] w fun e w' => ∃ u, e = .returned (.tuple #[u, .bool true]) ∧ OwnR w' w.heap.size u (runL l) ∧ Below w.heap.size w w' := by
  obtain ⟨i0, hii, hz0, hz1, hz2⟩ := info_parts info_act
  have RC := Lib.hid (fun (W : World) (u : Value) (r : RowA W u l) => routes_calls l u (by omega) hw W r)
  have RO := Lib.hid (fun (W : World) (u : Value) (r : RowA W u [oneA]) => routes_calls [oneA] u (by decide) (fun a ha => by simp at ha; subst ha; exact ⟨by decide, by decide⟩) W r)
  have E1 := Lib.hid (show playE l = 0 ∧ playL l = runL l by simp [playE, playL]; omega)
  have E2 := Lib.hid (show playE [oneA] = 0 ∧ playL [oneA] = [((false, 0, 0), 7)] by rw [← one_run]; exact ⟨rfl, rfl⟩)
  have RW := Lib.hid row
  have hby : l.length * 72 ≤ 140737488355328 := by omega
  have h63 : l.length ≤ maxLen := by unfold maxLen; omega
  obtain ⟨p, c, rfl⟩ := row.form
  clear row
  go_enter Try.func22, Try.ntmps22
  go_wp2_with (at_builtin; refine wpList_append_copy rfl _ _ _ rfl 55 i0 _ 72 Try.underlying22 hii hz0 hz1 hz2 rfl (by decide) acs_len acs_one rfl _ _ rfl RW.out hby h63 ?_; intro v1 w1 ho1 hb1)
  refine (RC.out _ _ (OwnA.row ho1)).mono ?_
  rw [E1.out.1, E1.out.2]
  rintro e w2 ⟨u, rfl, ho2, hb2⟩
  have b2 := thenBelow hb1 hb2
  have O2 := Lib.hid (ownsLow ho2 hb1.size)
  clear ho1 hb1 ho2 hb2 RC RW
  go_wp2_with fail
  have bA := (Below.refl w2.heap.size w2).alloc (Nat.le_refl _) (objA oneA)
  have R1 : RowA (w2.alloc (objA oneA)) (.slice (some ⟨w2.heap.size, 0, none⟩) 1 1) [oneA] := .inr ⟨w2.heap.size, 0, 1, rfl, by simp, by simp, fun i hi j u hj => by
    have hi0 : i = 0 := by simp at hi; omega
    subst hi0
    exact actNew w2 oneA j u (by simpa using hj)⟩
  refine (RO.out _ _ R1).mono ?_
  rw [E2.out.1, E2.out.2]
  rintro e w3 ⟨u2, rfl, ho3, hb3⟩
  have b3 := thenBelow (thenBelow b2 bA) hb3
  have O3 := Lib.hid (ownsKeep (ownsKeep O2.out bA) hb3)
  obtain ⟨q, d, hq, hcap, at_⟩ := ho3.row.at
  subst hq
  obtain ⟨g, o, rfl, _, hrec⟩ := at_ 0 (by simp)
  obtain ⟨x0, x1, x2, x3, x4⟩ := routeCells hrec
  simp only [List.getElem_cons_zero, Nat.zero_mul, Nat.add_zero] at x0 x1 x2 x3 x4
  clear O2 ho3 hb3 bA R1 RO hrec at_ b2 x0 x1 x2 x3
  simp only [List.length_cons, List.length_nil, Nat.zero_add]
  go_wp2_with fail
  go_quiet ((fail))
  go_wp2
  go_ret2
  exact ⟨_, by simp, O3.out, below_drewN b3 _⟩
end Go.Proofs.Ytepfcphhgmmlhaa
