/-
  The document's AddrParse where two colons stand side by side.
-/
import Derived.Test.YtojdlhiibffnfabDoorRefParseC
import Derived.Test.YtojdlhiibffnfabDoorAppTwo
namespace Go.Proofs.YtojdlhiibffnfabDoor
open Go.RowKit Go.Sort
set_option linter.unusedVariables false
set_option linter.unusedSimpArgs false

/-- What stands ahead of the two colons, and behind them, read. -/
def sideL (s : List UInt8) : Option (List Int) := if s = [] then some [] else rn 16 65535 58 [] (-1) s
theorem nums_none (B : Nat) (M : Int) (hB : B ≤ 16) (hB0 : 1 ≤ B) (hM0 : 0 ≤ M) (hM : M ≤ 65535) (c : UInt8) (s : List UInt8) (hl : s.length ≤ 600) (h : rn B M c [] (-1) s = none) (w : World) :
    Calls Tryd.prog 14 #[.string ⟨s.toArray⟩, .int .u8 (c.toNat : Int), .int .i64 B, .int .i64 M] w fun e w' => e = .returned (.tuple #[.slice none 0 0, .bool false]) ∧ Below w.heap.size w w' := by
  have := refNums_calls B M hB hB0 hM0 hM c s hl w
  rw [h] at this
  exact this
/-- A reading of one side: whether it is one, and then its numbers. -/
theorem nums_side (s : List UInt8) (hl : s.length ≤ 600) (w : World) :
    Calls Tryd.prog 14 #[.string ⟨s.toArray⟩, .int .u8 58, .int .i64 16, .int .i64 65535] w fun e w' => (∃ v, e = .returned (.tuple #[v, .bool (rn 16 65535 58 [] (-1) s).isSome]) ∧ w'.ownsRow w.heap.size 3 1 v ((rn 16 65535 58 [] (-1) s).getD []).length (((rn 16 65535 58 [] (-1) s).getD []).map (Value.int .i64))) ∧ Below w.heap.size w w' := by
  refine (refNums_calls 16 65535 (by decide) (by decide) (by decide) (by decide) 58 s hl w).mono ?_
  rintro e w' ⟨ho, hb⟩
  refine ⟨?_, hb⟩
  cases hr : rn 16 65535 58 [] (-1) s with
  | none => rw [hr] at ho; exact ⟨_, ho, World.ownsRow_nil _ _ _ _⟩
  | some ns => rw [hr] at ho; exact ho
theorem ext_to (T : List UInt8) (k : Nat) : (⟨T.toArray⟩ : ByteArray).extract 0 k = ⟨(T.take k).toArray⟩ := by
  rw [Lib.extract_eq]; simp
theorem ext_from (T : List UInt8) (k : Nat) : (⟨T.toArray⟩ : ByteArray).extract k T.length = ⟨(T.drop k).toArray⟩ := by
  rw [Lib.extract_eq]
  show (⟨((T.drop k).take (T.length - k)).toArray⟩ : ByteArray) = _
  rw [List.take_of_length_le (by rw [List.length_drop]; exact Nat.le_refl _)]
/-- A row stays where another one grows. -/
theorem ownsFar {w w' : World} {base : Nat} {e : TypeId} {size : Nat} {v : Value} {n : Nat} {xs : List Value} {row : Option Nat} (h : w.ownsRow base e size v n xs) (hg : w.grownBy w' row) (hne : ∀ k, v.ownBlock = some k → some k ≠ row) : w'.ownsRow base e size v n xs := by
  refine ⟨h.1, ?_⟩
  rcases h.2 with h2 | ⟨g, cap, cur, a, b, c, d⟩
  · exact .inl h2
  · have hl := h.lt g (by rw [a]; rfl)
    exact .inr ⟨g, cap, cur, a, b, (hg.block g hl.2 (hne g (by rw [a]; rfl))).trans c, d⟩
def errAns : Value := .tuple #[.agg #[.bool false, .int .u64 0, .int .u64 0], .int .i64 4]
/-- What AddrParse answers of two sides. -/
def twoOf (l r : Option (List Int)) (s : List UInt8) : Value := match l, r with
  | some l, some r => if 6 < l.length + r.length then errAns else tryAns true (l ++ List.replicate (8 - (l.length + r.length)) 0 ++ r) s
  | _, _ => errAns
theorem two_no1 {l r : Option (List Int)} {s : List UInt8} (h : l.isSome = false) : twoOf l r s = errAns := by
  cases l with
  | none => cases r <;> rfl
  | some l => cases h
theorem two_no2 {l r : Option (List Int)} {s : List UInt8} (h : r.isSome = false) : twoOf l r s = errAns := by
  cases r with
  | none => cases l <;> rfl
  | some l => cases h
theorem two_long {l r : Option (List Int)} {s : List UInt8} {ln rn : List Int} (hl : l.isSome = true) (hr : r.isSome = true) (el : l.getD [] = ln) (er : r.getD [] = rn) (h : 6 < ln.length + rn.length) : twoOf l r s = errAns := by
  cases l with
  | none => cases hl
  | some l => cases r with
    | none => cases hr
    | some r => cases el; cases er; exact if_pos h
theorem two_ok {l r : Option (List Int)} {s : List UInt8} {ln rn : List Int} (hl : l.isSome = true) (hr : r.isSome = true) (el : l.getD [] = ln) (er : r.getD [] = rn) (h : ¬ 6 < ln.length + rn.length) :
    twoOf l r s = tryAns true (ln ++ List.replicate (8 - (ln.length + rn.length)) 0 ++ rn) s := by
  cases l with
  | none => cases hl
  | some l => cases r with
    | none => cases hr
    | some r => cases el; cases er; exact if_neg h
theorem two_some {l : Option (List Int)} {ln : List Int} (hl : l.isSome = true) (el : l.getD [] = ln) : l = some ln := by
  cases l with
  | none => cases hl
  | some l => cases el; rfl
def sliceLen : Value → Nat
  | .slice _ n _ => n
  | _ => 0
theorem owns_slice {w : World} {base : Nat} {e : TypeId} {size : Nat} {v : Value} {n : Nat} {xs : List Value} (h : w.ownsRow base e size v n xs) : ∃ p cap, v = .slice p n cap := by
  rcases h.2 with ⟨a, b⟩ | ⟨g, cap, cur, a, _⟩
  · exact ⟨none, 0, by rw [a, b]⟩
  · exact ⟨_, _, a⟩
theorem map_one (l : List Int) : ∀ u ∈ l.map (Value.int .i64), u.oneCell' = true := by
  intro u hu
  obtain ⟨z, _, rfl⟩ := List.mem_map.1 hu
  rfl
end Go.Proofs.YtojdlhiibffnfabDoor
