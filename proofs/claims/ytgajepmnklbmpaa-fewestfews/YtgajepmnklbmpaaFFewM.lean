/-
  Plain mathematics: the document's least numbers of routes are the tree's.
-/
import Derived.Test.YtgajepmnklbmpaaG17
namespace Go.Proofs.Ytgajepmnklbmpaa
open Go.RowKit
set_option linter.unusedVariables false
set_option linter.unusedSimpArgs false
/-- How few routes a part needs under a hop. -/
def cstT (t : FT) (z : Int) : Nat := muT t + outN z t.hs
theorem cstT_ec {t : FT} (h : GoodT t) (z : Int) : cstT t z = (ecT t z).length := ((cost t h).1 z).symm
theorem outN_le (z : Int) (hs : List Int) : outN z hs ≤ 1 := by unfold outN; split <;> omega
theorem sepN_le (a b : List Int) : sepN a b ≤ 1 := by unfold sepN; split <;> omega
theorem mu_pow (s : Bool) (l : List RT) : ∀ (k x : Nat) (a : Int), muT (dvT s l k x a) + 1 ≤ 2 ^ k
  | 0, x, a => by
    have h := (cost _ (dvT_good s l 0 x a)).1
    rw [dvT]
    show (ecT (.leaf _ [_]) _).length + 1 ≤ _
    simp [FT.hs, ecT]
  | k + 1, x, a => by
    have g := dvT_good s l (k + 1) x a
    rw [dvT] at g ⊢
    split at g
    · rename_i h
      rw [if_pos h]
      rw [(cost _ g).2 _ _ _ _ rfl]
      have i1 := mu_pow s l k x (atH (pkB s x (k + 1)) l a)
      have i2 := mu_pow s l k (x + 2 ^ k) (atH (pkB s x (k + 1)) l a)
      have i3 := sepN_le (dvT s l k x (atH (pkB s x (k + 1)) l a)).hs (dvT s l k (x + 2 ^ k) (atH (pkB s x (k + 1)) l a)).hs
      rw [Nat.pow_succ]; omega
    · rename_i h
      rw [if_neg h]
      show (ecT (.leaf _ [_]) _).length + 1 ≤ _
      simp [FT.hs, ecT]
      exact Nat.one_le_two_pow
theorem cst_pow (s : Bool) (l : List RT) (k x : Nat) (a z : Int) : cstT (dvT s l k x a) z ≤ 2 ^ k := by
  have := mu_pow s l k x a
  have := outN_le z (dvT s l k x a).hs
  unfold cstT; omega
/-- The row of the numbers without a route at the part's prefix itself. -/
def bareL (H : List Int) (f : Int → Nat) : List Int := H.map fun z => (f z : Int)
/-- The least of the numbers met so far. -/
def mnI (b : Int) (L : List Int) : Int := L.foldl min b
theorem mnI_take {b : Int} {L : List Int} {j : Nat} (hj : j < L.length) : mnI b (L.take (j + 1)) = min (mnI b (L.take j)) L[j] := by
  rw [mnI, List.take_succ_eq_append_getElem hj, List.foldl_append]; rfl
theorem mnI_le : ∀ (L : List Int) (b : Int), mnI b L ≤ b ∧ ∀ x ∈ L, mnI b L ≤ x
  | [], b => ⟨Int.le_refl _, by simp⟩
  | a :: t, b => by
    obtain ⟨h1, h2⟩ := mnI_le t (min b a)
    show mnI (min b a) t ≤ b ∧ ∀ x ∈ a :: t, mnI (min b a) t ≤ x
    refine ⟨by omega, fun x hx => ?_⟩
    rcases List.mem_cons.1 hx with rfl | hx
    · omega
    · exact h2 x hx
theorem mnI_ge : ∀ (L : List Int) (b m : Int), m ≤ b → (∀ x ∈ L, m ≤ x) → m ≤ mnI b L
  | [], b, m, h, _ => h
  | a :: t, b, m, h, hx => by
    show m ≤ mnI (min b a) t
    have := hx a (by simp)
    exact mnI_ge t _ m (by omega) fun x h => hx x (by simp [h])
theorem mnI_is {H : List Int} {f : Int → Nat} {m : Nat} (z0 : Int) (h0 : z0 ∈ H) (he : f z0 = m) (hl : ∀ z ∈ H, m ≤ f z) (b : Int) (hb : b ∈ bareL H f) : mnI b (bareL H f) = m := by
  have hin : ∀ x ∈ bareL H f, (m : Int) ≤ x := fun x hx => by
    obtain ⟨z, hz, rfl⟩ := List.mem_map.1 hx
    have := hl z hz
    show (m : Int) ≤ (f z : Int)
    omega
  have h1 := mnI_ge (bareL H f) b m (hin b hb) hin
  have h2 := (mnI_le (bareL H f) b).2 (f z0 : Int) (List.mem_map.2 ⟨z0, h0, rfl⟩)
  omega
/-- A part that is whole: nought for its hop. -/
def lfF (g : Int) (z : Int) : Nat := if z = g then 0 else 1048576
theorem cst_leaf (p : PK) (g z : Int) : cstT (.leaf p [g]) z = if z = g then 0 else 1 := by
  have h0 : muT (.leaf p [g]) = 0 := by
    show (ecT (.leaf p [g]) g).length = 0
    simp [ecT]
  unfold cstT
  rw [h0]
  show 0 + outN z [g] = _
  unfold outN
  by_cases h : z = g <;> simp [h]
theorem leaf_min {H : List Int} {g : Int} (hg : g ∈ H) (b : Int) (hb : b ∈ bareL H (lfF g)) : mnI b (bareL H (lfF g)) = 0 :=
  mnI_is (m := 0) g hg (by simp [lfF]) (fun _ _ => Nat.zero_le _) b hb
theorem leaf_out (p : PK) (g z : Int) : min ((lfF g z : Nat) : Int) (0 + 1) = (cstT (.leaf p [g]) z : Int) := by
  rw [cst_leaf]
  unfold lfF
  split <;> omega
theorem node_min {p : PK} {hs : List Int} {a b : FT} (g : GoodT (.node p hs a b)) {H : List Int} (hH : ∀ z ∈ hs, z ∈ H) (b0 : Int) (hb : b0 ∈ bareL H fun z => cstT a z + cstT b z) :
    mnI b0 (bareL H fun z => cstT a z + cstT b z) = muT (.node p hs a b) := by
  obtain ⟨e, ga, gb⟩ := id g
  have m := (cost _ g).2 p hs a b rfl
  have hne : hs ≠ [] := by rw [e]; exact bestL_ne ga.ne
  refine mnI_is (hs.headD 0) (hH _ (headD_mem hne)) ?_ (fun z _ => ?_) b0 hb
  · have h1 := both_in (a := a.hs) (b := b.hs) (z := hs.headD 0) (by rw [← e]; exact headD_mem hne)
    unfold cstT
    rw [m]; omega
  · have h1 := both_any a.hs b.hs z
    unfold cstT
    rw [m]; omega
theorem node_out {p : PK} {hs : List Int} {a b : FT} (g : GoodT (.node p hs a b)) (z : Int) :
    min ((cstT a z + cstT b z : Nat) : Int) ((muT (.node p hs a b) : Int) + 1) = (cstT (.node p hs a b) z : Int) := by
  obtain ⟨e, ga, gb⟩ := id g
  have m := (cost _ g).2 p hs a b rfl
  by_cases h : z ∈ hs
  · have h1 := both_in (a := a.hs) (b := b.hs) (z := z) (by rw [← e]; exact h)
    have h2 : outN z hs = 0 := by rw [outN, if_pos h]
    have h3 : cstT (.node p hs a b) z = muT (.node p hs a b) := by show _ + outN z hs = _; rw [h2]; rfl
    rw [h3]
    unfold cstT
    omega
  · have h1 := both_any a.hs b.hs z
    rw [← e] at h1
    have h2 : outN z hs = 1 := by rw [outN, if_neg h]
    have h3 : cstT (.node p hs a b) z = muT (.node p hs a b) + 1 := by show _ + outN z hs = _; rw [h2]
    rw [h3]
    unfold cstT
    rw [h2] at h1
    omega
/-- The hops of a table, each once, behind 0. -/
def hopsS (s : List Int) (h : Int) : List Int := if h ∈ s then s else s ++ [h]
def hopsL (l : List RT) : List Int := l.foldl (fun s r => hopsS s r.2) [0]
theorem hopsL_take {l : List RT} {k : Nat} (hk : k < l.length) : hopsL (l.take (k + 1)) = hopsS (hopsL (l.take k)) l[k].2 := by
  rw [hopsL, List.take_succ_eq_append_getElem hk, List.foldl_append]; rfl
theorem hopsS_sub {s : List Int} {h z : Int} (hz : z ∈ s) : z ∈ hopsS s h := by
  unfold hopsS; split <;> simp [hz]
theorem hopsS_self {s : List Int} {h : Int} : h ∈ hopsS s h := by
  unfold hopsS; split <;> simp [*]
theorem hops_fold : ∀ (l : List RT) (s : List Int), (∀ z ∈ s, z ∈ l.foldl (fun s r => hopsS s r.2) s) ∧ (∀ r ∈ l, r.2 ∈ l.foldl (fun s r => hopsS s r.2) s) ∧ (l.foldl (fun s r => hopsS s r.2) s).length ≤ s.length + l.length ∧ (s.headD 7 = 0 → (l.foldl (fun s r => hopsS s r.2) s).headD 7 = 0)
  | [], s => ⟨fun _ h => h, by simp, by simp, id⟩
  | r :: t, s => by
    obtain ⟨h1, h2, h3, h4⟩ := hops_fold t (hopsS s r.2)
    have hl : (hopsS s r.2).length ≤ s.length + 1 := by unfold hopsS; split <;> simp
    refine ⟨fun z hz => h1 z (hopsS_sub hz), fun q hq => ?_, ?_, fun h => h4 ?_⟩
    · rcases List.mem_cons.1 hq with rfl | hq
      · exact h1 _ hopsS_self
      · exact h2 q hq
    · show (t.foldl (fun s r => hopsS s r.2) (hopsS s r.2)).length ≤ _
      rw [List.length_cons]; omega
    · unfold hopsS
      split
      · exact h
      · cases s with
        | nil => simp at h
        | cons a u => simpa using h
theorem hopsL_zero (l : List RT) : (0 : Int) ∈ hopsL l := (hops_fold l [0]).1 0 (by simp)
theorem hopsL_in {l : List RT} {r : RT} (h : r ∈ l) : r.2 ∈ hopsL l := (hops_fold l [0]).2.1 r h
theorem hopsL_len (l : List RT) : (hopsL l).length ≤ l.length + 1 := by have := (hops_fold l [0]).2.2.1; simp at this; unfold hopsL; omega
theorem hopsL_head (l : List RT) : (hopsL l).headD 7 = 0 := (hops_fold l [0]).2.2.2 rfl
theorem hopsL_ne (l : List RT) : hopsL l ≠ [] := fun h => by have := hopsL_zero l; rw [h] at this; simp at this
end Go.Proofs.Ytgajepmnklbmpaa
