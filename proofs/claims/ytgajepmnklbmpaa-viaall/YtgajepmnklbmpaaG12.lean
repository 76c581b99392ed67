/-
  Laid together: TabW, TabX.
-/
import Derived.Test.YtgajepmnklbmpaaG11
import Derived.Test.YtgajepmnklbmpaaPicked
/-
  whipcordkeep.Pres of one number, Near, sameRoutes.
-/
namespace Go.Proofs.Ytgajepmnklbmpaa
open Go.RowKit
set_option linter.unusedVariables false
set_option linter.unusedSimpArgs false

/-- The prefix that Pres makes of a number. -/
def kZ (z : Int) : Nat := (z % 9).toNat
def dZ (z : Int) : Nat := (z.tdiv 9 % 512).toNat
def xZ (z : Int) : Nat := lowN (167772160 + dZ z) (32 - (24 + kZ z))
def preZ (z : Int) : PK := (false, xZ z, ((24 + kZ z : Nat) : Int))
theorem kZ_lt (z : Int) : kZ z ≤ 8 := by unfold kZ; have := Int.emod_lt_of_pos z (show (0 : Int) < 9 by decide); omega
theorem dZ_lt (z : Int) : dZ z < 512 := by unfold dZ; have := Int.emod_lt_of_pos (z.tdiv 9) (show (0 : Int) < 512 by decide); omega
theorem xZ_lt (z : Int) : xZ z < 4294967296 := Nat.lt_of_le_of_lt (lowN_le _ _) (by have := dZ_lt z; omega)
theorem preZ_ok (z : Int) : chkE (preZ z).1 (preZ z).2.1 (preZ z).2.2 = 0 := by
  have hk := kZ_lt z
  refine chk_mk false _ (24 + kZ z) ?_ (by show 24 + kZ z ≤ 32; omega) ?_
  · exact xZ_lt z
  · show lowN (xZ z) (32 - (24 + kZ z)) = xZ z
    unfold xZ
    generalize 167772160 + dZ z = A
    generalize 32 - (24 + kZ z) = k
    unfold lowN
    rw [Nat.mul_div_cancel _ (Nat.two_pow_pos _)]
theorem wrapZ (x : Nat) (h : x < 18446744073709551616) : IntKind.u64.wrap (x : Int) = x := by rw [IntKind.wrap_u64]; omega
theorem wordZ (z : Int) : IntKind.u64.wrap ((167772160 + (dZ z : Int)) / 2 ^ (32 - (24 + kZ z)) * 2 ^ (32 - (24 + kZ z))) = (xZ z : Int) := by
  have e : (167772160 + (dZ z : Int)) / 2 ^ (32 - (24 + kZ z)) * 2 ^ (32 - (24 + kZ z)) = ((xZ z : Nat) : Int) := by unfold xZ lowN; simp
  rw [e, wrapZ _ (by have := xZ_lt z; omega)]
theorem tdivZ (z : Int) (v0 : -9223372036854775808 ≤ z) (v1 : z ≤ 9223372036854775807) : -9223372036854775808 ≤ z.tdiv 9 ∧ z.tdiv 9 ≤ 9223372036854775807 := by
  by_cases h : 0 ≤ z
  · rw [Int.tdiv_eq_ediv_of_nonneg h]; omega
  · have e : z.tdiv 9 = -((-z).tdiv 9) := by rw [Int.neg_tdiv, Int.neg_neg]
    rw [e, Int.tdiv_eq_ediv_of_nonneg (by omega)]; omega
def pkc (p : PK) : List Value := [.bool p.1, .int .u64 (aH p.2.1), .int .u64 (aL p.2.1), .int .i64 p.2.2]
theorem aXZ (z : Int) : aH (xZ z) = 0 ∧ aL (xZ z) = (xZ z : Int) := by have := xZ_lt z; unfold aH aL; omega
theorem info_pfx : (Try.prog.info? 63).map (fun i => (i.zero, i.size, i.bytes)) = some (some (.agg #[.bool false, .int .u64 0, .int .u64 0, .int .i64 0]), 4, 32) := by kernel_rfl
/-- The address that Near makes of a number. -/
def nearZ (n : Int) : Nat := 167772152 + (n % 540).toNat
theorem nearZ_lt (n : Int) : nearZ n < 4294967296 := by unfold nearZ; have := Int.emod_lt_of_pos n (show (0 : Int) < 540 by decide); omega
end Go.Proofs.Ytgajepmnklbmpaa
/-
  A slice copied by append; whipcordkeep.sameRoutes, goesTo, routesOf.
-/
namespace Go.Proofs.Ytgajepmnklbmpaa
open Go.RowKit
set_option linter.unusedVariables false
set_option linter.unusedSimpArgs false

section
variable {P : Program} {w : World} {α : Type} {f : α → List Value} {k : Nat}
theorem run_append_copy (t ty e : TypeId) (i : TypeInfo) (z : Value) (bytes : Nat) (ht : P.underlying t = some (.slice e)) (hi : P.info? e = some i) (hz : i.zero = some z) (hsize : i.size = k) (hby : i.bytes = bytes) (hzs : z.cells.size = k) (hsz : 0 < k)
    (hf : ∀ a, (f a).length = k) (h1 : ∀ a, ∀ u ∈ f a, u.oneCell' = true) (v : Value) (l : List α) (row : RowK f k w v l) (hbytes : l.length * bytes ≤ 140737488355328) (h63 : l.length ≤ maxLen) :
    ∃ v' w', (Builtin.append_ #[t, t] ty #[.slice none 0 0, v]).run P w = .ok v' w' ∧ w'.ownsRow w.heap.size e k v' l.length (rowOf f l) ∧ Below w.heap.size w w' := by
  rcases row with ⟨rfl, p, c, rfl⟩ | ⟨g, o, c, rfl, hg, _, hc⟩
  · cases p with
    | none =>
      refine ⟨.slice none 0 0, w, ?_, World.ownsRow_nil _ _ _ _, Below.refl _ _⟩
      simp [Builtin.append_, run_underlying ht, sizeOf, typeInfo, hi, Builtin.lenOf, Builtin.firstCells, loadCells, loadCellsFrom]
    | some a =>
      obtain ⟨v', w', h, ho, hgr, _⟩ := run_append_own (P := P) w w.heap.size t ty e i z k bytes ht hi hz hsize hby hzs hsz (.slice none 0 0) 0 [] (World.ownsRow_nil _ _ _ _) a 0 c [] (by simp) (fun j u hj => (by simp at hj)) (fun u hu => (by cases hu)) (by simp [maxLen]) (by simp) (Nat.le_refl _)
      exact ⟨v', w', h, by simpa [rowOf] using ho, (Below.refl _ w).grown hgr (Nat.le_refl _) (fun q hq => by simp [Value.ownBlock] at hq)⟩
  · obtain ⟨v', w', h, ho, hgr, _⟩ := run_append_own (P := P) w w.heap.size t ty e i z k bytes ht hi hz hsize hby hzs hsz (.slice none 0 0) 0 [] (World.ownsRow_nil _ _ _ _) ⟨g, o, none⟩ l.length c (rowOf f l) (rowOf_len f k hf l) (fun j u hj => by
        rw [Addr.add_lit]
        have hjl : j < l.length * k := by
          have := (List.getElem?_eq_some_iff.1 hj).1
          rwa [rowOf_len f k hf] at this
        have hdm := Nat.div_add_mod' j k
        have hml := Nat.mod_lt j hsz
        have hdl : j / k < l.length := (Nat.div_lt_iff_lt_mul hsz).2 hjl
        have hj2 : (f l[j / k])[j % k]? = some u := by rw [← rowOf_at f k hf l (j / k) hdl (j % k) hml, hdm]; exact hj
        have := hc (j / k) hdl (j % k) u hj2
        rw [show o + j = o + j / k * k + j % k by omega]
        exact this) (rowOf_one f h1 l) (by simpa using h63) (by simpa using hbytes) (Nat.le_refl _)
    exact ⟨v', w', h, by simpa using ho, (Below.refl _ w).grown hgr (Nat.le_refl _) (fun q hq => by simp [Value.ownBlock] at hq)⟩
theorem wp_append_copy {o : Oper} {a : Act} {K : Act → World → Prop} {Q : Exit → Act → World → Prop} (s x : Operand) (t : TypeId)
    (ho : o.op = .call { callee := .builtin .append, args := #[s, x], argTypes := #[t, t] }) (e : TypeId) (i : TypeInfo) (z : Value) (bytes : Nat) (ht : P.underlying t = some (.slice e)) (hi : P.info? e = some i) (hz : i.zero = some z) (hsize : i.size = k) (hby : i.bytes = bytes) (hzs : z.cells.size = k) (hsz : 0 < k)
    (hf : ∀ a, (f a).length = k) (h1 : ∀ a, ∀ u ∈ f a, u.oneCell' = true) (hs : a.eval s = .slice none 0 0) (v : Value) (l : List α) (hx : a.eval x = v) (row : RowK f k w v l) (hbytes : l.length * bytes ≤ 140737488355328) (h63 : l.length ≤ maxLen)
    (h : ∀ v' w', w'.ownsRow w.heap.size e k v' l.length (rowOf f l) → Below w.heap.size w w' → K (a.put o.dst v') w') : o.wp P a w K Q := by
  obtain ⟨v', w', hr, h2, h3⟩ := run_append_copy (P := P) t o.type e i z bytes ht hi hz hsize hby hzs hsz hf h1 v l row hbytes h63
  unfold Oper.wp execOp
  simp only [ho, resolve, invoke, builtin, Sem.run_bind, Sem.run_pure, Result.andThen_ok, List.map_toArray, List.map_cons, List.map_nil, hs, hx, hr]
  exact h v' w' h2 h3
theorem wpList_append_copy {ops : Array Oper} {rest : List Oper} {o : Oper} {a : Act} {Q : Exit → Act → World → Prop} (hgd : o.guard = none) (s x : Operand) (t : TypeId)
    (ho : o.op = .call { callee := .builtin .append, args := #[s, x], argTypes := #[t, t] }) (e : TypeId) (i : TypeInfo) (z : Value) (bytes : Nat) (ht : P.underlying t = some (.slice e)) (hi : P.info? e = some i) (hz : i.zero = some z) (hsize : i.size = k) (hby : i.bytes = bytes) (hzs : z.cells.size = k) (hsz : 0 < k)
    (hf : ∀ a, (f a).length = k) (h1 : ∀ a, ∀ u ∈ f a, u.oneCell' = true) (hs : a.eval s = .slice none 0 0) (v : Value) (l : List α) (hx : a.eval x = v) (row : RowK f k w v l) (hbytes : l.length * bytes ≤ 140737488355328) (h63 : l.length ≤ maxLen)
    (h : ∀ v' w', w'.ownsRow w.heap.size e k v' l.length (rowOf f l) → Below w.heap.size w w' → wpList P ops Q rest (a.put o.dst v') w') : wpList P ops Q (o :: rest) a w :=
  wpList_plain hgd fun _ hK => wp_append_copy s x t ho e i z bytes ht hi hz hsize hby hzs hsz hf h1 hs v l hx row hbytes h63 fun v' w' h2 h3 => hK _ _ (h v' w' h2 h3)
theorem step_append_copy {ops : Array Oper} {o : Oper} {a : Act} {K : Act → World → Prop} {Q : Exit → Act → World → Prop} {E : Prop} (hgd : o.guard = none) (s x : Operand) (t : TypeId)
    (ho : o.op = .call { callee := .builtin .append, args := #[s, x], argTypes := #[t, t] }) (e : TypeId) (i : TypeInfo) (z : Value) (bytes : Nat) (ht : P.underlying t = some (.slice e)) (hi : P.info? e = some i) (hz : i.zero = some z) (hsize : i.size = k) (hby : i.bytes = bytes) (hzs : z.cells.size = k) (hsz : 0 < k)
    (hf : ∀ a, (f a).length = k) (h1 : ∀ a, ∀ u ∈ f a, u.oneCell' = true) (hs : a.eval s = .slice none 0 0) (v : Value) (l : List α) (hx : a.eval x = v) (row : RowK f k w v l) (hbytes : l.length * bytes ≤ 140737488355328) (h63 : l.length ≤ maxLen)
    (h : ∀ v' w', w'.ownsRow w.heap.size e k v' l.length (rowOf f l) → Below w.heap.size w w' → K (a.put o.dst v') w') :
    if Region.wanted o (yielded ops a.tmps) = true then Oper.wp P o a w K Q else E := by
  have hw : Region.wanted o (yielded ops a.tmps) = true := by simp [Region.wanted, hgd]
  rw [if_pos hw]
  exact wp_append_copy s x t ho e i z bytes ht hi hz hsize hby hzs hsz hf h1 hs v l hx row hbytes h63 h
end
def oneA : ActT := ⟨1, (false, 0, 0), 7, false, 0⟩
theorem one_run : runL [oneA] = [((false, 0, 0), 7)] := by
  have h1 : rtE (oneA.p, oneA.h) = 0 := by
    show rtE ((false, 0, 0), 7) = 0
    have : chkE false 0 0 = 0 := chk_mk false 0 0 (by decide) (by decide) (by unfold lowN; simp)
    simp [rtE, this]
  have h2 : hasR [] oneA.p = false := rfl
  show doL [] oneA = _
  rw [doL, if_pos (show oneA.k = 1 from rfl), putL, if_pos h1, h2]
  rfl
end Go.Proofs.Ytgajepmnklbmpaa
