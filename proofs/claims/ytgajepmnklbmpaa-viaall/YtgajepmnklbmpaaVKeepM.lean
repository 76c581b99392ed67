/-
  Plain mathematics: the vias that the laws draw, and how they lead.
-/
import Derived.Test.YtgajepmnklbmpaaViaM
namespace Go.Proofs.Ytgajepmnklbmpaa
open Go.RowKit
set_option linter.unusedVariables false
set_option linter.unusedSimpArgs false
theorem veS_ok : ∀ (t s : List VT), (∀ v ∈ t, vfE v = 0) → (∀ v ∈ t, hasV s v.1 = false) → (t.map Prod.fst).Nodup → veS s t = 0
  | [], _, _, _, _ => rfl
  | v :: t, s, h1, h2, h3 => by
    rw [List.map_cons, List.nodup_cons] at h3
    rw [veS, if_neg (by rw [h1 v (by simp)]; decide), if_neg (by rw [h2 v (by simp)]; decide)]
    refine veS_ok t _ (fun u hu => h1 u (by simp [hu])) (fun u hu => ?_) h3.2
    rw [hasV_snoc, h2 u (by simp [hu]), Bool.false_or, decide_eq_false]
    exact fun e => h3.1 (List.mem_map.2 ⟨u, hu, e.symm⟩)
theorem viaE_ok {l : List VT} (h0 : l.length ≤ 60) (h1 : ∀ v ∈ l, vfE v = 0) (h3 : (l.map Prod.fst).Nodup) : viaE l = 0 := by
  rw [viaE, if_neg (by omega)]
  exact veS_ok l [] h1 (fun v _ => rfl) h3
theorem vport_eq {l : List VT} (h : viaE l = 0) (x : Int) : vportE l x = vport l x := by rw [vportE, if_pos h]
/-- How many vias, and each. -/
def kV (n : Int) : Nat := 1 + (n % 20).toNat
theorem kV_le (n : Int) : 1 ≤ kV n ∧ kV n ≤ 20 := by unfold kV; have := Int.emod_lt_of_pos n (show (0 : Int) < 20 by decide); omega
def viaZ (k i : Nat) (z : Int) : VT := if 0 < z % 3 then ((i : Int) + 1, 0, 1 + z.tdiv 3 % ((k : Int) + 2)) else ((i : Int) + 1, 1 + z.tdiv 3 % 30, 0)
def viasN (k : Nat) (l : List Int) (j : Nat) : List VT := (List.range j).map fun i => viaZ k i (l.getD i 0)
def viasZ (l : List Int) (n : Int) : List VT := viasN (kV n) l (min (kV n) l.length)
theorem viasN_len (k : Nat) (l : List Int) (j : Nat) : (viasN k l j).length = j := by simp [viasN]
theorem viasN_succ {k : Nat} {l : List Int} {j : Nat} (hj : j < l.length) : viasN k l (j + 1) = viasN k l j ++ [viaZ k j l[j]] := by
  unfold viasN
  rw [List.range_succ, List.map_append]
  simp [List.getD_eq_getElem?_getD, List.getElem?_eq_getElem hj]
theorem viaZ_hop (k i : Nat) (z : Int) : (viaZ k i z).1 = (i : Int) + 1 := by unfold viaZ; split <;> rfl
theorem viaZ_ok {k i : Nat} (z : Int) (hi : i < 20) (hk : k ≤ 20) : vfE (viaZ k i z) = 0 ∧ (viaZ k i z).2.2 ≤ 22 ∧ ((viaZ k i z).2.1 ≤ 30) := by
  have a := Int.emod_nonneg (z.tdiv 3) (show ((k : Int) + 2) ≠ 0 by omega)
  have b := Int.emod_lt_of_pos (z.tdiv 3) (show (0 : Int) < (k : Int) + 2 by omega)
  have c := Int.emod_nonneg (z.tdiv 3) (show (30 : Int) ≠ 0 by decide)
  have d := Int.emod_lt_of_pos (z.tdiv 3) (show (0 : Int) < 30 by decide)
  unfold viaZ
  split
  · refine ⟨?_, by simp only; omega, by simp only; omega⟩
    unfold vfE
    simp only
    rw [if_neg (by omega), if_neg (fun e => by have := e.1 trivial; omega), if_neg (by omega)]
  · refine ⟨?_, by simp only; omega, by simp only; omega⟩
    unfold vfE
    simp only
    rw [if_neg (by omega), if_neg (fun e => by have := e.2 trivial; omega), if_neg (by omega)]
theorem viasN_mem {k : Nat} {l : List Int} {j : Nat} {v : VT} (h : v ∈ viasN k l j) : ∃ i, i < j ∧ v = viaZ k i (l.getD i 0) := by
  obtain ⟨i, hi, rfl⟩ := List.mem_map.1 h
  exact ⟨i, List.mem_range.1 hi, rfl⟩
theorem viasN_hops (k : Nat) (l : List Int) (j : Nat) : (viasN k l j).map Prod.fst = (List.range j).map fun (i : Nat) => (i : Int) + 1 := by
  unfold viasN
  rw [List.map_map]
  exact List.map_congr_left fun i _ => viaZ_hop k i _
theorem nodup_map_on {α β : Type} {f : α → β} : ∀ {l : List α}, l.Nodup → (∀ a ∈ l, ∀ b ∈ l, f a = f b → a = b) → (l.map f).Nodup
  | [], _, _ => List.nodup_nil
  | a :: t, h, hf => by
    rw [List.nodup_cons] at h
    rw [List.map_cons, List.nodup_cons]
    refine ⟨fun hm => ?_, nodup_map_on h.2 fun x hx y hy => hf x (by simp [hx]) y (by simp [hy])⟩
    obtain ⟨b, hb, e⟩ := List.mem_map.1 hm
    have := hf b (by simp [hb]) a (by simp) e
    subst this
    exact h.1 hb
theorem viasN_nodup (k : Nat) (l : List Int) (j : Nat) : ((viasN k l j).map Prod.fst).Nodup := by
  rw [viasN_hops]
  exact nodup_map_on List.nodup_range fun a _ b _ e => by omega
theorem viasZ_len (l : List Int) (n : Int) : (viasZ l n).length ≤ 20 := by
  unfold viasZ; rw [viasN_len]; have := (kV_le n).2; omega
theorem viasZ_fine {l : List Int} {n : Int} {v : VT} (h : v ∈ viasZ l n) : vfE v = 0 ∧ v.1 ≤ 20 ∧ v.2.2 ≤ 22 ∧ v.2.1 ≤ 30 := by
  obtain ⟨i, hi, rfl⟩ := viasN_mem h
  have := kV_le n
  have h2 := viaZ_ok (k := kV n) (l.getD i 0) (show i < 20 by omega) this.2
  rw [viaZ_hop]
  exact ⟨h2.1, by omega, h2.2.1, h2.2.2⟩
theorem viasZ_ok (l : List Int) (n : Int) : viaE (viasZ l n) = 0 :=
  viaE_ok (by have := viasZ_len l n; omega) (fun v h => (viasZ_fine h).1) (viasN_nodup _ _ _)
theorem vfind_mem {l : List VT} (hn : (l.map Prod.fst).Nodup) {v : VT} (h : v ∈ l) : vfind l v.1 = some v := by
  induction l with
  | nil => cases h
  | cons a t ih =>
    rw [List.map_cons, List.nodup_cons] at hn
    unfold vfind
    rcases List.mem_cons.1 h with rfl | h
    · simp
    · have hne : ¬ a.1 = v.1 := fun e => hn.1 (List.mem_map.2 ⟨v, h, e.symm⟩)
      rw [List.find?_cons_of_neg (by simpa using hne)]
      exact ih hn.2 h
/-- The errors of a way. -/
theorem vp_err (l : List VT) : ∀ (m : Nat) (x : Int) (s : List Int), (vp l m x s).2.2 = 0 ∨ ((vp l m x s).1 = 0 ∧ (vp l m x s).2.1 = 0 ∧ ((vp l m x s).2.2 = 7 ∨ (vp l m x s).2.2 = 9 ∨ (vp l m x s).2.2 = 10)) := by
  have one : ∀ (o : Option VT) (x : Int) (s : List Int) (r : Int × Int × Int), (r.2.2 = 0 ∨ (r.1 = 0 ∧ r.2.1 = 0 ∧ (r.2.2 = 7 ∨ r.2.2 = 9 ∨ r.2.2 = 10))) → ((vst o x s r).2.2 = 0 ∨ ((vst o x s r).1 = 0 ∧ (vst o x s r).2.1 = 0 ∧ ((vst o x s r).2.2 = 7 ∨ (vst o x s r).2.2 = 9 ∨ (vst o x s r).2.2 = 10))) := by
    intro o x s r hr
    cases o with
    | none => exact .inr ⟨rfl, rfl, .inl rfl⟩
    | some v =>
      show ((if x ∈ s then ((0, 0, 10) : Int × Int × Int) else if 8 < s.length then (0, 0, 9) else if 0 < v.2.1 then (v.2.1, (s.length : Int), 0) else r).2.2 = 0 ∨ _)
      show (_ ∨ ((if x ∈ s then ((0, 0, 10) : Int × Int × Int) else if 8 < s.length then (0, 0, 9) else if 0 < v.2.1 then (v.2.1, (s.length : Int), 0) else r).1 = 0 ∧ _))
      by_cases h1 : x ∈ s
      · exact .inr (by simp [vst, h1])
      · by_cases h2 : 8 < s.length
        · exact .inr (by simp [vst, h1, h2])
        · by_cases h3 : 0 < v.2.1
          · exact .inl (by simp [h1, h2, h3])
          · simpa [vst, h1, h2, h3] using hr
  intro m
  induction m with
  | zero => intro x s; rw [vp]; exact one _ _ _ _ (.inr ⟨rfl, rfl, .inr (.inl rfl)⟩)
  | succ m ih => intro x s; rw [vp]; exact one _ _ _ _ (ih _ _)
/-- A way with one hop more behind it. -/
theorem vp_back (l : List VT) (h0 : Int) : ∀ (m m' : Nat) (x : Int) (s : List Int), 8 ≤ m + s.length → 9 ≤ m' + s.length →
    ((vp l m x (h0 :: s)).2.2 = 0 → vp l m' x s = ((vp l m x (h0 :: s)).1, (vp l m x (h0 :: s)).2.1 - 1, 0) ∧ 1 ≤ (vp l m x (h0 :: s)).2.1 ∧ (vp l m x (h0 :: s)).2.1 ≤ 8) ∧
    ((vp l m x (h0 :: s)).2.2 = 7 → (vp l m' x s).2.2 = 7)
  | m, m', x, s, hm, hm' => by
    cases hf : vfind l x with
    | none =>
      have e1 : vp l m x (h0 :: s) = (0, 0, 7) := by cases m <;> rw [vp, hf] <;> rfl
      have e2 : vp l m' x s = (0, 0, 7) := by cases m' <;> rw [vp, hf] <;> rfl
      rw [e1, e2]
      exact ⟨fun h => absurd h (by decide), fun _ => rfl⟩
    | some v =>
      by_cases h1 : x ∈ h0 :: s
      · have e1 : vp l m x (h0 :: s) = (0, 0, 10) := by cases m <;> rw [vp, hf] <;> exact if_pos h1
        rw [e1]
        exact ⟨fun h => absurd h (by decide), fun h => absurd h (by decide)⟩
      · by_cases h2 : 8 < (h0 :: s).length
        · have e1 : vp l m x (h0 :: s) = (0, 0, 9) := by cases m <;> rw [vp, hf] <;> exact (if_neg h1).trans (if_pos h2)
          rw [e1]
          exact ⟨fun h => absurd h (by decide), fun h => absurd h (by decide)⟩
        · have h1' : x ∉ s := fun h => h1 (List.mem_cons_of_mem _ h)
          have hl : (h0 :: s).length = s.length + 1 := List.length_cons
          have h2' : ¬ 8 < s.length := by omega
          by_cases h3 : 0 < v.2.1
          · have e1 : vp l m x (h0 :: s) = (v.2.1, ((h0 :: s).length : Int), 0) := by cases m <;> rw [vp, hf] <;> exact (if_neg h1).trans ((if_neg h2).trans (if_pos h3))
            have e2 : vp l m' x s = (v.2.1, (s.length : Int), 0) := by cases m' <;> rw [vp, hf] <;> exact (if_neg h1').trans ((if_neg h2').trans (if_pos h3))
            rw [e1, e2]
            refine ⟨fun _ => ⟨?_, ?_, ?_⟩, fun h => absurd (show (0 : Int) = 7 from h) (by decide)⟩
            · simp only [hl, Prod.mk.injEq, true_and, and_true]; omega
            · simp only; omega
            · simp only; omega
          · match m, m' with
            | 0, _ => omega
            | m + 1, 0 => omega
            | m + 1, m' + 1 =>
              have e1 : vp l (m + 1) x (h0 :: s) = vp l m (vget l x).2.2 (h0 :: (s ++ [x])) := by rw [vp, hf]; exact (if_neg h1).trans ((if_neg h2).trans (if_neg h3))
              have e2 : vp l (m' + 1) x s = vp l m' (vget l x).2.2 (s ++ [x]) := by rw [vp, hf]; exact (if_neg h1').trans ((if_neg h2').trans (if_neg h3))
              rw [e1, e2]
              exact vp_back l h0 m m' _ (s ++ [x]) (by rw [List.length_append]; simp; omega) (by rw [List.length_append]; simp; omega)
/-- A via of a hop that no way comes to changes nothing. -/
theorem vp_more {l : List VT} {u : VT} (hn : ∀ v ∈ l, v.2.2 ≠ u.1) (hu0 : u.1 ≠ 0) : ∀ (m : Nat) (x : Int) (s : List Int), x ≠ u.1 → vp (l ++ [u]) m x s = vp l m x s
  | 0, x, s, hx => by rw [vp, vp, vfind_snoc_other hx]
  | m + 1, x, s, hx => by
    rw [vp, vp, vget, vget, vfind_snoc_other hx]
    have hne : ((vfind l x).getD (0, 0, 0)).2.2 ≠ u.1 := by
      cases hf : vfind l x with
      | none => exact fun e => hu0 e.symm
      | some v => exact hn v (vfind_some hf).1
    rw [vp_more hn hu0 m _ _ hne]
/-- A chain of hops. -/
def chL (j : Nat) : List Int := (List.range j).map fun (i : Nat) => (i : Int) + 1
theorem chL_len (j : Nat) : (chL j).length = j := by simp [chL]
theorem chL_succ (j : Nat) : chL (j + 1) = chL j ++ [(j : Int) + 1] := by simp [chL, List.range_succ]
theorem chL_mem {j : Nat} {z : Int} : z ∈ chL j ↔ 1 ≤ z ∧ z ≤ j := by
  unfold chL
  rw [List.mem_map]
  constructor
  · rintro ⟨i, hi, rfl⟩; have := List.mem_range.1 hi; omega
  · rintro ⟨a, b⟩; exact ⟨(z - 1).toNat, List.mem_range.2 (by omega), by omega⟩
theorem chain_walk {l : List VT} {k : Nat} (h : ∀ i : Nat, i + 1 < k → vfind l ((i : Int) + 1) = some ((i : Int) + 1, 0, (i : Int) + 2)) : ∀ j : Nat, j ≤ 9 → j + 1 ≤ k → vport l 1 = vp l (9 - j) ((j : Int) + 1) (chL j)
  | 0, _, _ => rfl
  | j + 1, h9, hk => by
    rw [chain_walk h j (by omega) (by omega)]
    have e : 9 - j = (9 - (j + 1)) + 1 := by omega
    have hf := h j (by omega)
    rw [e, vp, vget, hf]
    refine (if_neg (show ¬ _ from fun hm => by rw [chL_mem] at hm; omega)).trans ((if_neg (by rw [chL_len]; omega)).trans ((if_neg (show ¬ (0 : Int) < 0 by decide)).trans ?_))
    show vp l _ ((j : Int) + 2) _ = _
    rw [chL_succ]
    congr 1
end Go.Proofs.Ytgajepmnklbmpaa
