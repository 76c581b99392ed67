/-
  Laid together: TabW, TabX.
-/
import Derived.Test.YtmjlmfbceccjdaaG11
import Derived.Test.YtmjlmfbceccjdaaG12
/-
  whipcordkeep.Pres of one number, Near, sameRoutes.
-/
namespace Go.Proofs.Ytmjlmfbceccjdaa
open Go.RowKit
set_option linter.unusedVariables false
set_option linter.unusedSimpArgs false

/-- The prefix that Pres makes of a number. -/
def kZ (z : Int) : Nat := (z % 9).toNat
def dZ (z : Int) : Nat := (z.tdiv 9 % 512).toNat
def xZ (z : Int) : Nat := lowN (167772160 + dZ z) (32 - (24 + kZ z))
def preZ (z : Int) : PK := (false, xZ z, ((24 + kZ z : Nat) : Int))
theorem kZ_lt (z : Int) : kZ z ≤ 8 := by unfold kZ; have := Int.emod_lt_of_pos z (show (0 : Int) < 9 by decide); omega
theorem dZ_lt (z : Int) : dZ z < 512 := by unfold dZ; have := Int.emod_lt_of_pos (z.tdiv 9) (show (0 : Int) < 512 by decide); omega
theorem xZ_lt (z : Int) : xZ z < 4294967296 := Nat.lt_of_le_of_lt (lowN_le _ _) (by have := dZ_lt z; omega)
theorem preZ_ok (z : Int) : chkE (preZ z).1 (preZ z).2.1 (preZ z).2.2 = 0 := by
  have hk := kZ_lt z
  refine chk_mk false _ (24 + kZ z) ?_ (by show 24 + kZ z ≤ 32; omega) ?_
  · exact xZ_lt z
  · show lowN (xZ z) (32 - (24 + kZ z)) = xZ z
    unfold xZ
    generalize 167772160 + dZ z = A
    generalize 32 - (24 + kZ z) = k
    unfold lowN
    rw [Nat.mul_div_cancel _ (Nat.two_pow_pos _)]
theorem wrapZ (x : Nat) (h : x < 18446744073709551616) : IntKind.u64.wrap (x : Int) = x := by rw [IntKind.wrap_u64]; omega
theorem wordZ (z : Int) : IntKind.u64.wrap ((167772160 + (dZ z : Int)) / 2 ^ (32 - (24 + kZ z)) * 2 ^ (32 - (24 + kZ z))) = (xZ z : Int) := by
  have e : (167772160 + (dZ z : Int)) / 2 ^ (32 - (24 + kZ z)) * 2 ^ (32 - (24 + kZ z)) = ((xZ z : Nat) : Int) := by unfold xZ lowN; simp
  rw [e, wrapZ _ (by have := xZ_lt z; omega)]
theorem tdivZ (z : Int) (v0 : -9223372036854775808 ≤ z) (v1 : z ≤ 9223372036854775807) : -9223372036854775808 ≤ z.tdiv 9 ∧ z.tdiv 9 ≤ 9223372036854775807 := by
  by_cases h : 0 ≤ z
  · rw [Int.tdiv_eq_ediv_of_nonneg h]; omega
  · have e : z.tdiv 9 = -((-z).tdiv 9) := by rw [Int.neg_tdiv, Int.neg_neg]
    rw [e, Int.tdiv_eq_ediv_of_nonneg (by omega)]; omega
def pkc (p : PK) : List Value := [.bool p.1, .int .u64 (aH p.2.1), .int .u64 (aL p.2.1), .int .i64 p.2.2]
theorem aXZ (z : Int) : aH (xZ z) = 0 ∧ aL (xZ z) = (xZ z : Int) := by have := xZ_lt z; unfold aH aL; omega
theorem info_pfx : (Try.prog.info? 32).map (fun i => (i.zero, i.size, i.bytes)) = some (some (.agg #[.bool false, .int .u64 0, .int .u64 0, .int .i64 0]), 4, 32) := by kernel_rfl
set_option maxHeartbeats 4000000 in
set_option maxRecDepth 100000 in
theorem pres1_calls (z : Int) (v0 : -9223372036854775808 ≤ z) (v1 : z ≤ 9223372036854775807) (g : Nat) (w : World) (hc : w.cell? ⟨g, 0, none⟩ = some (.int .i64 z)) :
    Calls Try.prog 21 #[.slice (some ⟨g, 0, none⟩) 1 1, .int .i64 1] w fun e w' => ∃ v, e = .returned v ∧ w'.ownsRow w.heap.size 32 4 v 1 (pkc (preZ z)) ∧ Below w.heap.size w w' := by
  obtain ⟨i0, hii, hz0, hz1, hz2⟩ := info_parts info_pfx
  have d2 := tdivZ z v0 v1
  have PA : Hid (∀ W : World, Calls Try.prog 11 #[.int .i64 z, .int .i64 9] W fun e w' => e = .returned (.int .i64 (kZ z)) ∧ W = w') := Lib.hid fun W => by
    have := picked_calls z 9 (by decide) (by decide) v0 v1 W
    rw [show z % 9 = (kZ z : Int) by unfold kZ; have := Int.emod_nonneg z (show (9 : Int) ≠ 0 by decide); omega] at this; exact this
  have PB : Hid (∀ W : World, Calls Try.prog 11 #[.int .i64 (z.tdiv 9), .int .i64 512] W fun e w' => e = .returned (.int .i64 (dZ z)) ∧ W = w') := Lib.hid fun W => by
    have := picked_calls (z.tdiv 9) 512 (by decide) (by decide) d2.1 d2.2 W
    rw [show z.tdiv 9 % 512 = (dZ z : Int) by unfold dZ; have := Int.emod_nonneg (z.tdiv 9) (show (512 : Int) ≠ 0 by decide); omega] at this; exact this
  have hK8 := kZ_lt z
  have hD5 := dZ_lt z
  have hXb := xZ_lt z
  have hXw := wordZ z
  have hRow : Hid (pkc (preZ z) = [.bool false, .int .u64 0, .int .u64 (xZ z : Int), .int .i64 (24 + (kZ z : Int))]) := Lib.hid (by
    show [Value.bool false, .int .u64 (aH (xZ z)), .int .u64 (aL (xZ z)), .int .i64 ((24 + kZ z : Nat) : Int)] = _
    rw [(aXZ z).1, (aXZ z).2]; simp)
  have hgw := World.block_lt_of_cell? w _ hc
  obtain ⟨t, ht⟩ : ∃ t, z.tdiv 9 = t := ⟨_, rfl⟩
  rw [ht] at PB d2
  generalize kZ z = K at *
  generalize dZ z = D at *
  generalize xZ z = X at *
  go_enter Try.func21, Try.ntmps21
  go_wp2
  go_loopw [5, 6] (fun u i wr => (i = .int .i64 0 ∧ u = .slice none 0 0 ∧ wr = w) ∨ (i = .int .i64 1 ∧ wr.ownsRow w.heap.size 32 4 u 1 (pkc (preZ z)) ∧ Below w.heap.size w wr)) (fun _ i _ => 1 - (intOf i).toNat)
  case atStart => exact .inl ⟨rfl, rfl, rfl⟩
  case round =>
    rcases hrel with ⟨rfl, rfl, rfl⟩ | ⟨rfl, ho, hb⟩
    · go_wp2_with fail
      refine (PA.out _).mono ?_
      rintro e w' ⟨rfl, rfl⟩
      go_wp2_with fail
      refine (PB.out _).mono ?_
      rintro e w' ⟨rfl, rfl⟩
      go_wp2_with (first
        | (at_builtin; refine wpList_append_own _ rfl _ _ 52 rfl wr.heap.size 32 i0 _ 4 32 Try.underlying52 hii hz0 hz1 hz2 rfl (by decide) _ 0 [] rfl (World.ownsRow_nil _ _ _ _) ⟨wr.heap.size, 0, none⟩ 1 1 [.bool false, .int .u64 0, .int .u64 (X : Int), .int .i64 (24 + (K : Int))] rfl rfl ?c1 ?c2 ?c3 ?c4 ?c5 ?_))
      case c1 => exact World.news_of_block (_root_.Go.heap_alloc_new wr _)
      case c2 => intro u hu; simp only [List.mem_cons, List.not_mem_nil, or_false] at hu; rcases hu with h | h | h | h <;> subst h <;> rfl
      case c3 => unfold maxLen; omega
      case c4 => omega
      case c5 => simp
      intro v' w4 hown' hgrow _
      have hb4 := ((Below.refl wr.heap.size wr).alloc (Nat.le_refl _) _).grown hgrow (by simp) (fun q hq => by simp [Value.ownBlock] at hq)
      go_wp2
      go_roundw
      case rel => exact .inr ⟨by go_num, by rw [hRow.out]; simpa using hown', hb4⟩
      case measure => simp [intOf]
    · go_wp2
      go_returns
      exact ⟨_, rfl, ho, hb⟩
/-- The address that Near makes of a number. -/
def nearZ (n : Int) : Nat := 167772152 + (n % 540).toNat
theorem nearZ_lt (n : Int) : nearZ n < 4294967296 := by unfold nearZ; have := Int.emod_lt_of_pos n (show (0 : Int) < 540 by decide); omega
theorem near_calls (n : Int) (v0 : -9223372036854775808 ≤ n) (v1 : n ≤ 9223372036854775807) (w : World) :
    Calls Try.prog 19 #[.int .i64 n] w fun e w' => e = .returned (.agg #[.bool false, .int .u64 (aH (nearZ n)), .int .u64 (aL (nearZ n))]) ∧ Below w.heap.size w w' := by
  have PA := Lib.hid (fun W => picked_calls n 540 (by decide) (by decide) v0 v1 W)
  have k0 := Int.emod_nonneg n (show (540 : Int) ≠ 0 by decide)
  have k1 := Int.emod_lt_of_pos n (show (0 : Int) < 540 by decide)
  have e1 := Lib.hid (show aH (nearZ n) = 0 ∧ aL (nearZ n) = 167772152 + n % 540 by unfold nearZ aH aL; omega)
  generalize n % 540 = t at *
  have hw1 : IntKind.i64.wrap (167772152 + t) = 167772152 + t := by rw [IntKind.wrap_i64]; omega
  have hw2 : IntKind.u64.wrap (167772152 + t) = 167772152 + t := by rw [IntKind.wrap_u64]; omega
  rw [e1.out.1, e1.out.2]
  go_enter Try.func19, Try.ntmps19
  go_wp2_with fail
  refine (PA.out _).mono ?_
  rintro e w' ⟨rfl, rfl⟩
  go_wp2
  go_returns
  exact ⟨by simp, by go_grown⟩
end Go.Proofs.Ytmjlmfbceccjdaa
/-
  A slice copied by append; whipcordkeep.sameRoutes, goesTo, routesOf.
-/
namespace Go.Proofs.Ytmjlmfbceccjdaa
open Go.RowKit
set_option linter.unusedVariables false
set_option linter.unusedSimpArgs false

section
variable {P : Program} {w : World} {α : Type} {f : α → List Value} {k : Nat}
theorem run_append_copy (t ty e : TypeId) (i : TypeInfo) (z : Value) (bytes : Nat) (ht : P.underlying t = some (.slice e)) (hi : P.info? e = some i) (hz : i.zero = some z) (hsize : i.size = k) (hby : i.bytes = bytes) (hzs : z.cells.size = k) (hsz : 0 < k)
    (hf : ∀ a, (f a).length = k) (h1 : ∀ a, ∀ u ∈ f a, u.oneCell' = true) (v : Value) (l : List α) (row : RowK f k w v l) (hbytes : l.length * bytes ≤ 140737488355328) (h63 : l.length ≤ maxLen) :
    ∃ v' w', (Builtin.append_ #[t, t] ty #[.slice none 0 0, v]).run P w = .ok v' w' ∧ w'.ownsRow w.heap.size e k v' l.length (rowOf f l) ∧ Below w.heap.size w w' := by
  rcases row with ⟨rfl, p, c, rfl⟩ | ⟨g, o, c, rfl, hg, _, hc⟩
  · cases p with
    | none =>
      refine ⟨.slice none 0 0, w, ?_, World.ownsRow_nil _ _ _ _, Below.refl _ _⟩
      simp [Builtin.append_, run_underlying ht, sizeOf, typeInfo, hi, Builtin.lenOf, Builtin.firstCells, loadCells, loadCellsFrom]
    | some a =>
      obtain ⟨v', w', h, ho, hgr, _⟩ := run_append_own (P := P) w w.heap.size t ty e i z k bytes ht hi hz hsize hby hzs hsz (.slice none 0 0) 0 [] (World.ownsRow_nil _ _ _ _) a 0 c [] (by simp) (fun j u hj => (by simp at hj)) (fun u hu => (by cases hu)) (by simp [maxLen]) (by simp) (Nat.le_refl _)
      exact ⟨v', w', h, by simpa [rowOf] using ho, (Below.refl _ w).grown hgr (Nat.le_refl _) (fun q hq => by simp [Value.ownBlock] at hq)⟩
  · obtain ⟨v', w', h, ho, hgr, _⟩ := run_append_own (P := P) w w.heap.size t ty e i z k bytes ht hi hz hsize hby hzs hsz (.slice none 0 0) 0 [] (World.ownsRow_nil _ _ _ _) ⟨g, o, none⟩ l.length c (rowOf f l) (rowOf_len f k hf l) (fun j u hj => by
        rw [Addr.add_lit]
        have hjl : j < l.length * k := by
          have := (List.getElem?_eq_some_iff.1 hj).1
          rwa [rowOf_len f k hf] at this
        have hdm := Nat.div_add_mod' j k
        have hml := Nat.mod_lt j hsz
        have hdl : j / k < l.length := (Nat.div_lt_iff_lt_mul hsz).2 hjl
        have hj2 : (f l[j / k])[j % k]? = some u := by rw [← rowOf_at f k hf l (j / k) hdl (j % k) hml, hdm]; exact hj
        have := hc (j / k) hdl (j % k) u hj2
        rw [show o + j = o + j / k * k + j % k by omega]
        exact this) (rowOf_one f h1 l) (by simpa using h63) (by simpa using hbytes) (Nat.le_refl _)
    exact ⟨v', w', h, by simpa using ho, (Below.refl _ w).grown hgr (Nat.le_refl _) (fun q hq => by simp [Value.ownBlock] at hq)⟩
theorem wp_append_copy {o : Oper} {a : Act} {K : Act → World → Prop} {Q : Exit → Act → World → Prop} (s x : Operand) (t : TypeId)
    (ho : o.op = .call { callee := .builtin .append, args := #[s, x], argTypes := #[t, t] }) (e : TypeId) (i : TypeInfo) (z : Value) (bytes : Nat) (ht : P.underlying t = some (.slice e)) (hi : P.info? e = some i) (hz : i.zero = some z) (hsize : i.size = k) (hby : i.bytes = bytes) (hzs : z.cells.size = k) (hsz : 0 < k)
    (hf : ∀ a, (f a).length = k) (h1 : ∀ a, ∀ u ∈ f a, u.oneCell' = true) (hs : a.eval s = .slice none 0 0) (v : Value) (l : List α) (hx : a.eval x = v) (row : RowK f k w v l) (hbytes : l.length * bytes ≤ 140737488355328) (h63 : l.length ≤ maxLen)
    (h : ∀ v' w', w'.ownsRow w.heap.size e k v' l.length (rowOf f l) → Below w.heap.size w w' → K (a.put o.dst v') w') : o.wp P a w K Q := by
  obtain ⟨v', w', hr, h2, h3⟩ := run_append_copy (P := P) t o.type e i z bytes ht hi hz hsize hby hzs hsz hf h1 v l row hbytes h63
  unfold Oper.wp execOp
  simp only [ho, resolve, invoke, builtin, Sem.run_bind, Sem.run_pure, Result.andThen_ok, List.map_toArray, List.map_cons, List.map_nil, hs, hx, hr]
  exact h v' w' h2 h3
theorem wpList_append_copy {ops : Array Oper} {rest : List Oper} {o : Oper} {a : Act} {Q : Exit → Act → World → Prop} (hgd : o.guard = none) (s x : Operand) (t : TypeId)
    (ho : o.op = .call { callee := .builtin .append, args := #[s, x], argTypes := #[t, t] }) (e : TypeId) (i : TypeInfo) (z : Value) (bytes : Nat) (ht : P.underlying t = some (.slice e)) (hi : P.info? e = some i) (hz : i.zero = some z) (hsize : i.size = k) (hby : i.bytes = bytes) (hzs : z.cells.size = k) (hsz : 0 < k)
    (hf : ∀ a, (f a).length = k) (h1 : ∀ a, ∀ u ∈ f a, u.oneCell' = true) (hs : a.eval s = .slice none 0 0) (v : Value) (l : List α) (hx : a.eval x = v) (row : RowK f k w v l) (hbytes : l.length * bytes ≤ 140737488355328) (h63 : l.length ≤ maxLen)
    (h : ∀ v' w', w'.ownsRow w.heap.size e k v' l.length (rowOf f l) → Below w.heap.size w w' → wpList P ops Q rest (a.put o.dst v') w') : wpList P ops Q (o :: rest) a w :=
  wpList_plain hgd fun _ hK => wp_append_copy s x t ho e i z bytes ht hi hz hsize hby hzs hsz hf h1 hs v l hx row hbytes h63 fun v' w' h2 h3 => hK _ _ (h v' w' h2 h3)
theorem step_append_copy {ops : Array Oper} {o : Oper} {a : Act} {K : Act → World → Prop} {Q : Exit → Act → World → Prop} {E : Prop} (hgd : o.guard = none) (s x : Operand) (t : TypeId)
    (ho : o.op = .call { callee := .builtin .append, args := #[s, x], argTypes := #[t, t] }) (e : TypeId) (i : TypeInfo) (z : Value) (bytes : Nat) (ht : P.underlying t = some (.slice e)) (hi : P.info? e = some i) (hz : i.zero = some z) (hsize : i.size = k) (hby : i.bytes = bytes) (hzs : z.cells.size = k) (hsz : 0 < k)
    (hf : ∀ a, (f a).length = k) (h1 : ∀ a, ∀ u ∈ f a, u.oneCell' = true) (hs : a.eval s = .slice none 0 0) (v : Value) (l : List α) (hx : a.eval x = v) (row : RowK f k w v l) (hbytes : l.length * bytes ≤ 140737488355328) (h63 : l.length ≤ maxLen)
    (h : ∀ v' w', w'.ownsRow w.heap.size e k v' l.length (rowOf f l) → Below w.heap.size w w' → K (a.put o.dst v') w') :
    if Region.wanted o (yielded ops a.tmps) = true then Oper.wp P o a w K Q else E := by
  have hw : Region.wanted o (yielded ops a.tmps) = true := by simp [Region.wanted, hgd]
  rw [if_pos hw]
  exact wp_append_copy s x t ho e i z bytes ht hi hz hsize hby hzs hsz hf h1 hs v l hx row hbytes h63 h
end
abbrev OwnA (w : World) (base : Nat) (v : Value) (l : List ActT) : Prop := w.ownsRow base 34 9 v l.length (rowOf acs l)
theorem OwnA.row {w : World} {base : Nat} {v : Value} {l : List ActT} (h : OwnA w base v l) : RowA w v l := RowK.owned acs_len h
theorem info_act : (Try.prog.info? 34).map (fun i => (i.zero, i.size, i.bytes)) = some (some (.agg #[.int .i64 0, .bool false, .int .u64 0, .int .u64 0, .int .i64 0, .int .i64 0, .bool false, .int .u64 0, .int .u64 0]), 9, 72) := by kernel_rfl
def oneA : ActT := ⟨1, (false, 0, 0), 7, false, 0⟩
theorem one_run : runL [oneA] = [((false, 0, 0), 7)] := by
  have h1 : rtE (oneA.p, oneA.h) = 0 := by
    show rtE ((false, 0, 0), 7) = 0
    have : chkE false 0 0 = 0 := chk_mk false 0 0 (by decide) (by decide) (by unfold lowN; simp)
    simp [rtE, this]
  have h2 : hasR [] oneA.p = false := rfl
  show doL [] oneA = _
  rw [doL, if_pos (show oneA.k = 1 from rfl), putL, if_pos h1, h2]
  rfl
set_option maxHeartbeats 4000000 in
set_option maxRecDepth 100000 in
theorem routesOf_calls (l : List ActT) (v : Value) (hlen : l.length ≤ 100) (hw : WordsA l) (w : World) (row : RowA w v l) :
    Calls Try.prog 45 #[v] w fun e w' => ∃ u, e = .returned (.tuple #[u, .bool true]) ∧ OwnR w' w.heap.size u (runL l) ∧ Below w.heap.size w w' := by
  obtain ⟨i0, hii, hz0, hz1, hz2⟩ := info_parts info_act
  have RC := Lib.hid (fun (W : World) (u : Value) (r : RowA W u l) => routes_calls l u (by omega) hw W r)
  have RO := Lib.hid (fun (W : World) (u : Value) (r : RowA W u [oneA]) => routes_calls [oneA] u (by decide) (fun a ha => by simp at ha; subst ha; exact ⟨by decide, by decide⟩) W r)
  have E1 := Lib.hid (show playE l = 0 ∧ playL l = runL l by simp [playE, playL]; omega)
  have E2 := Lib.hid (show playE [oneA] = 0 ∧ playL [oneA] = [((false, 0, 0), 7)] by rw [← one_run]; exact ⟨rfl, rfl⟩)
  have RW := Lib.hid row
  have hby : l.length * 72 ≤ 140737488355328 := by omega
  have h63 : l.length ≤ maxLen := by unfold maxLen; omega
  obtain ⟨p, c, rfl⟩ := row.form
  clear row
  go_enter Try.func45, Try.ntmps45
  go_wp2_with (at_builtin; refine wpList_append_copy rfl _ _ _ rfl 34 i0 _ 72 Try.underlying26 hii hz0 hz1 hz2 rfl (by decide) acs_len acs_one rfl _ _ rfl RW.out hby h63 ?_; intro v1 w1 ho1 hb1)
  refine (RC.out _ _ (OwnA.row ho1)).mono ?_
  rw [E1.out.1, E1.out.2]
  rintro e w2 ⟨u, rfl, ho2, hb2⟩
  have b2 := thenBelow hb1 hb2
  have O2 := Lib.hid (ownsLow ho2 hb1.size)
  clear ho1 hb1 ho2 hb2 RC RW
  go_wp2_with fail
  have bA := (Below.refl w2.heap.size w2).alloc (Nat.le_refl _) (objA oneA)
  have R1 : RowA (w2.alloc (objA oneA)) (.slice (some ⟨w2.heap.size, 0, none⟩) 1 1) [oneA] := .inr ⟨w2.heap.size, 0, 1, rfl, by simp, by simp, fun i hi j u hj => by
    have hi0 : i = 0 := by simp at hi; omega
    subst hi0
    exact actNew w2 oneA j u (by simpa using hj)⟩
  refine (RO.out _ _ R1).mono ?_
  rw [E2.out.1, E2.out.2]
  rintro e w3 ⟨u2, rfl, ho3, hb3⟩
  have b3 := thenBelow (thenBelow b2 bA) hb3
  have O3 := Lib.hid (ownsKeep (ownsKeep O2.out bA) hb3)
  obtain ⟨q, d, hq, hcap, at_⟩ := ho3.row.at
  subst hq
  obtain ⟨g, o, rfl, _, hrec⟩ := at_ 0 (by simp)
  obtain ⟨x0, x1, x2, x3, x4⟩ := routeCells hrec
  simp only [List.getElem_cons_zero, Nat.zero_mul, Nat.add_zero] at x0 x1 x2 x3 x4
  clear O2 ho3 hb3 bA R1 RO hrec at_ b2 x0 x1 x2 x3
  simp only [List.length_cons, List.length_nil, Nat.zero_add]
  go_wp2_with fail
  go_quiet ((fail))
  go_wp2
  go_ret2
  exact ⟨_, by simp, O3.out, below_drewN b3 _⟩
end Go.Proofs.Ytmjlmfbceccjdaa
