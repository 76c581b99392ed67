/-
  The contract of the document's AddrText at an IPv6 address.
-/
import Derived.Test.YtojdlhiibffnfabDoorRefFour
namespace Go.Proofs.YtojdlhiibffnfabDoor
open Go.RowKit Go.Sort
set_option linter.unusedVariables false
set_option linter.unusedSimpArgs false

/-- How many zeros there are from here on. -/
def runLen : List Bool → Nat
  | true :: r => runLen r + 1
  | _ => 0
def runFrom (zs : List Bool) (i : Nat) : Nat := runLen (zs.drop i)
theorem runLen_le (l : List Bool) : runLen l ≤ l.length := by
  induction l with
  | nil => simp [runLen]
  | cons b r ih => cases b <;> simp [runLen]; exact ih
theorem runLen_in (l : List Bool) : ∀ m, m < runLen l → l.getD m false = true := by
  induction l with
  | nil => intro m hm; simp [runLen] at hm
  | cons b r ih =>
    intro m hm
    cases b
    · simp [runLen] at hm
    · cases m with
      | zero => rfl
      | succ m => simp [runLen] at hm; exact ih m hm
theorem runLen_end (l : List Bool) : l.getD (runLen l) false = false := by
  induction l with
  | nil => rfl
  | cons b r ih => cases b <;> simp [runLen]; simpa using ih
theorem runFrom_le (zs : List Bool) (i : Nat) : runFrom zs i ≤ zs.length - i := by
  have := runLen_le (zs.drop i); rw [List.length_drop] at this; exact this
theorem runFrom_in (zs : List Bool) (i m : Nat) (h : m < runFrom zs i) : zs.getD (i + m) false = true := by
  have := runLen_in (zs.drop i) m h
  simpa [List.getD_eq_getElem?_getD, List.getElem?_drop] using this
theorem runFrom_end (zs : List Bool) (i : Nat) : zs.getD (i + runFrom zs i) false = false := by
  have := runLen_end (zs.drop i)
  simpa [runFrom, List.getD_eq_getElem?_getD, List.getElem?_drop] using this

/-- Where the first one of the longest runs of two or more begins (-1: there is none), and how long it is. -/
def refTo (zs : List Bool) : Nat → Int × Int
  | 0 => (-1, 1)
  | k + 1 => if (refTo zs k).2 < (runFrom zs k : Int) then ((k : Int), (runFrom zs k : Int)) else refTo zs k
theorem refTo_bd (zs : List Bool) (h : zs.length ≤ 8) (k : Nat) (hk : k ≤ 8) : -1 ≤ (refTo zs k).1 ∧ (refTo zs k).1 < k ∧ 1 ≤ (refTo zs k).2 ∧ (refTo zs k).2 ≤ 8 := by
  induction k with
  | zero => simp [refTo]
  | succ k ih =>
    have := ih (by omega)
    have h2 := runFrom_le zs k
    simp only [refTo]
    split
    · simp only; omega
    · omega
/-- Both ways to find the run come to the same. -/
theorem pat_same : ∀ b0 b1 b2 b3 b4 b5 b6 b7 : Bool, (if (lzTo [b0, b1, b2, b3, b4, b5, b6, b7] 8).2.2 - (lzTo [b0, b1, b2, b3, b4, b5, b6, b7] 8).2.1 < 2 then refTo [b0, b1, b2, b3, b4, b5, b6, b7] 8 = (-1, 1)
    else refTo [b0, b1, b2, b3, b4, b5, b6, b7] 8 = ((lzTo [b0, b1, b2, b3, b4, b5, b6, b7] 8).2.1, (lzTo [b0, b1, b2, b3, b4, b5, b6, b7] 8).2.2 - (lzTo [b0, b1, b2, b3, b4, b5, b6, b7] 8).2.1)) := by decide +kernel
theorem hexT_len (gs : List Nat) : ∀ t ∈ hexT gs, t.length ≤ 4 := by
  intro t ht
  simp only [hexT, List.mem_map] at ht
  obtain ⟨p, hp, rfl⟩ := ht
  exact numText_len 16 4 p
theorem hexT_get (gs : List Nat) (k : Nat) (h : k < gs.length) (h' : k < (hexT gs).length) : (hexT gs)[k] = numText 16 4 (gs.getD k 0) := by
  simp [hexT, List.getD_eq_getElem?_getD, h]
/-- What stands there when the groups before k have been written, with the run from f up to t left out. -/
def outB (gs : List Nat) (f t k : Nat) : List UInt8 :=
  if k ≤ f then Lib.join ((hexT gs).take k) [58] else Lib.join ((hexT gs).take f) [58] ++ [58, 58] ++ Lib.join (((hexT gs).take k).drop t) [58]
theorem outB_le (gs : List Nat) (f t k : Nat) (h : k ≤ f) : outB gs f t k = Lib.join ((hexT gs).take k) [58] := if_pos h
theorem outB_gt (gs : List Nat) (f t k : Nat) (h : ¬ k ≤ f) : outB gs f t k = Lib.join ((hexT gs).take f) [58] ++ [58, 58] ++ Lib.join (((hexT gs).take k).drop t) [58] := if_neg h
theorem outB_len (gs : List Nat) (f t k : Nat) (h : (hexT gs).length = 8) : (outB gs f t k).length ≤ 100 := by
  have h1 := join_take_len (hexT gs) [58] 4 k (hexT_len gs)
  have h2 := join_take_len (hexT gs) [58] 4 f (hexT_len gs)
  have h3 := join_len_le (((hexT gs).take k).drop t) [58] 4 (fun x hx => hexT_len gs x (List.mem_of_mem_take (List.mem_of_mem_drop hx)))
  have h4 : (((hexT gs).take k).drop t).length ≤ 8 := by rw [List.length_drop, List.length_take]; omega
  rw [h] at h1 h2
  simp at h1 h2 h3
  have h5 : min k (hexT gs).length - t ≤ 8 := by rw [h]; omega
  unfold outB
  split
  · omega
  · simp only [List.length_append, List.length_cons, List.length_nil]; omega
end Go.Proofs.YtojdlhiibffnfabDoor
