/-
  Plain mathematics: the hops in order, those that have a port in the end.
-/
import Derived.Test.YtgajepmnklbmpaaViaM
namespace Go.Proofs.Ytgajepmnklbmpaa
open Go.RowKit
set_option linter.unusedVariables false
set_option linter.unusedSimpArgs false
theorem below_drewV {B : Nat} {a w : World} (h : Below B a w) (n : Nat) : Below B a (w.drewN n) := h.trans ⟨rfl, rfl, rfl, Nat.le_refl _, fun _ _ => rfl⟩
/-- The hops in their order. -/
def ksV (l : List VT) : List Int := (l.map Prod.fst).mergeSort (fun x y => decide (x ≤ y))
theorem ksV_mem {l : List VT} {h : Int} : h ∈ ksV l ↔ h ∈ l.map Prod.fst := (List.mergeSort_perm _ _).mem_iff
theorem ksV_len (l : List VT) : (ksV l).length = l.length := by unfold ksV; rw [List.length_mergeSort, List.length_map]
theorem hasV_mem {l : List VT} {h : Int} : hasV l h = true ↔ h ∈ l.map Prod.fst := by
  unfold hasV
  rw [List.any_eq_true, List.mem_map]
  exact ⟨fun ⟨u, a, b⟩ => ⟨u, a, of_decide_eq_true b⟩, fun ⟨u, a, b⟩ => ⟨u, a, decide_eq_true b⟩⟩
/-- What All tells of a hop. -/
def oneV (l : List VT) (h : Int) : Option VT := if (vport l h).2.2 = 0 then some (h, (vport l h).1, 0) else none
def allV (l : List VT) : List VT := (ksV l).filterMap (oneV l)
def toN (n : Nat) : List Int := (List.range n).map fun (i : Nat) => (i : Int) + 1
theorem toN_succ (n : Nat) : toN (n + 1) = toN n ++ [(n : Int) + 1] := by simp [toN, List.range_succ]
theorem toN_mem {n : Nat} {z : Int} : z ∈ toN n ↔ 1 ≤ z ∧ z ≤ n := by
  unfold toN
  rw [List.mem_map]
  constructor
  · rintro ⟨i, hi, rfl⟩; have := List.mem_range.1 hi; omega
  · rintro ⟨a, b⟩; exact ⟨(z - 1).toNat, List.mem_range.2 (by omega), by omega⟩
theorem toN_lt (n : Nat) : (toN n).Pairwise (· < ·) := by
  unfold toN
  rw [List.pairwise_map]
  exact List.pairwise_lt_range.imp fun h => by omega
def refV (l : List VT) (n : Nat) : List VT := (toN n).filterMap (oneV l)
theorem refV_succ (l : List VT) (n : Nat) : refV l (n + 1) = refV l n ++ (match oneV l ((n : Int) + 1) with | some v => [v] | none => []) := by
  unfold refV
  rw [toN_succ, List.filterMap_append]
  congr 1
  cases h : oneV l ((n : Int) + 1) <;> simp [h]
theorem oneV_not {l : List VT} {h : Int} (hh : hasV l h = false) : oneV l h = none := by
  have hf : vfind l h = none := by
    rw [← Option.isNone_iff_eq_none]
    have := vfind_has l h
    rw [hh] at this
    simpa using this
  unfold oneV vport
  rw [vp, hf]
  rfl
theorem ks_filter {l : List VT} (hn : (l.map Prod.fst).Nodup) (hr : ∀ h ∈ l.map Prod.fst, 1 ≤ h ∧ h ≤ 999) : ksV l = (toN 999).filter (fun h => hasV l h) := by
  have tr : ∀ a b c : Int, decide (a ≤ b) = true → decide (b ≤ c) = true → decide (a ≤ c) = true := fun a b c h1 h2 => by simp only [decide_eq_true_eq] at *; omega
  have to : ∀ a b : Int, (decide (a ≤ b) || decide (b ≤ a)) = true := fun a b => by simp only [Bool.or_eq_true, decide_eq_true_eq]; omega
  have hs2 : ((toN 999).filter (fun h => hasV l h)).Pairwise (· < ·) := (toN_lt 999).sublist List.filter_sublist
  refine List.Perm.eq_of_pairwise (le := fun a b => decide (a ≤ b) = true) (fun a b _ _ h1 h2 => ?_) (List.pairwise_mergeSort tr to _) (hs2.imp fun h => by simp only [decide_eq_true_eq]; omega) ?_
  · simp only [decide_eq_true_eq] at h1 h2; omega
  · refine (List.perm_ext_iff_of_nodup ((List.mergeSort_perm _ _).nodup_iff.2 hn) (hs2.imp fun h => by omega)).2 fun h => ?_
    rw [List.mem_filter, hasV_mem, (List.mergeSort_perm _ _).mem_iff, toN_mem]
    exact ⟨fun a => ⟨hr h a, a⟩, fun a => a.2⟩
theorem filterMap_filter_none {α β : Type} {f : α → Option β} {p : α → Bool} (h : ∀ a, p a = false → f a = none) : ∀ L : List α, (L.filter p).filterMap f = L.filterMap f
  | [] => rfl
  | a :: t => by
    have ih := filterMap_filter_none h t
    cases hp : p a with
    | true => rw [List.filter_cons_of_pos hp, List.filterMap_cons, List.filterMap_cons, ih]
    | false => rw [List.filter_cons_of_neg (by simp [hp]), List.filterMap_cons, h a hp, ih]
theorem all_ref {l : List VT} (h : viaE l = 0) : allV l = refV l 999 := by
  obtain ⟨h1, h2, h3⟩ := viaE_0 h
  unfold allV refV
  rw [ks_filter h3 fun x hx => by
    obtain ⟨v, hv, rfl⟩ := List.mem_map.1 hx
    have := vfE_0 (h2 v hv)
    omega]
  exact filterMap_filter_none (fun a ha => oneV_not ha) _
def allT (l : List VT) (j : Nat) : List VT := ((ksV l).take j).filterMap (oneV l)
theorem allT_succ {l : List VT} {j : Nat} (hj : j < (ksV l).length) : allT l (j + 1) = allT l j ++ (match oneV l (ksV l)[j] with | some v => [v] | none => []) := by
  unfold allT
  rw [List.take_succ_eq_append_getElem hj, List.filterMap_append]
  congr 1
  cases h : oneV l (ksV l)[j] <;> simp [h]
theorem allT_all (l : List VT) : allT l (ksV l).length = allV l := by unfold allT allV; rw [List.take_length]
theorem allT_len (l : List VT) (j : Nat) : (allT l j).length ≤ (ksV l).length := by
  unfold allT
  refine Nat.le_trans (List.length_filterMap_le _ _) ?_
  rw [List.length_take]; omega
theorem refV_len (l : List VT) (n : Nat) : (refV l n).length ≤ n := by
  unfold refV
  refine Nat.le_trans (List.length_filterMap_le _ _) ?_
  simp [toN]
end Go.Proofs.Ytgajepmnklbmpaa
