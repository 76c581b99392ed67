/-
  Plain mathematics of pdqsort's loop: what it keeps, from part to part.
-/
import Derived.Test.YtepfcphhgmmlhaaSrtE
import Derived.Sort.LotB
namespace Go.Proofs.Ytepfcphhgmmlhaa
open Go.RowKit
open Go.Sort (swp PermIn SortedIn SWO permIn_refl permIn_trans permIn_mono permIn_all sorted_glue)
set_option linter.unusedVariables false
set_option linter.unusedSimpArgs false
section
variable {lt : RT → RT → Bool}
/-- Of two elements one is less. -/
def Tot (lt : RT → RT → Bool) (d : ARow) : Prop := d.toList.Pairwise fun x y => lt x y = true ∨ lt y x = true
theorem perm_all {a b : Nat} {d d' : ARow} (h : PermIn a b d d') (hb : b ≤ d.size) : d'.toList.Perm d.toList := by
  have g := (permIn_mono d d' a b 0 d.size (Nat.zero_le _) hb (Nat.le_refl _) h).2.2
  have e : d'.extract 0 d.size = d' := by rw [← h.1]; exact Array.extract_size
  rwa [e, Array.extract_size] at g
theorem Tot.perm {a b : Nat} {d d' : ARow} (t : Tot lt d) (h : PermIn a b d d') (hb : b ≤ d.size) : Tot lt d' :=
  ((perm_all h hb).pairwise_iff (fun {x y} (e : lt x y = true ∨ lt y x = true) => e.symm)).2 t
theorem Tot.at {d : ARow} (t : Tot lt d) {i j : Nat} (hi : i < d.size) (hj : j < d.size) (hne : i ≠ j) : lt d[i]! d[j]! = true ∨ lt d[j]! d[i]! = true := by
  have g := List.pairwise_iff_getElem.1 t
  rw [getElem!_pos d i hi, getElem!_pos d j hj]
  rcases Nat.lt_or_gt_of_ne hne with c | c
  · have := g i j (by simpa using hi) (by simpa using hj) c
    simpa using this
  · have := g j i (by simpa using hj) (by simpa using hi) c
    simpa using this.symm
/-- Where the loop stands: the part [a, b) of [a0, b0) is still to be sorted. -/
structure Pq (lt : RT → RT → Bool) (a0 b0 : Nat) (d0 : ARow) (a b : Nat) (dk : ARow) : Prop where
  ha : a0 ≤ a
  hab : a ≤ b
  hb : b ≤ b0
  hs : b0 ≤ dk.size
  perm : PermIn a0 b0 d0 dk
  tot : Tot lt dk
  keys : a = 0 ∨ ∀ i, a ≤ i → i < b → lt dk[a - 1]! dk[i]! = true
  fin : ∀ d', PermIn a b dk d' → SortedIn lt a b d' → SortedIn lt a0 b0 d'
theorem Pq.start {a b : Nat} {d : ARow} (hab : a ≤ b) (hb : b ≤ d.size) (t : Tot lt d) (k : a = 0 ∨ ∀ i, a ≤ i → i < b → lt d[a - 1]! d[i]! = true) : Pq lt a b d a b d :=
  ⟨Nat.le_refl _, hab, Nat.le_refl _, hb, permIn_refl _ _ _, t, k, fun _ _ h => h⟩
theorem keys_perm {a b : Nat} {d d' : ARow} (h : a = 0 ∨ ∀ i, a ≤ i → i < b → lt d[a - 1]! d[i]! = true) (hb : b ≤ d.size) (hp : PermIn a b d d') : a = 0 ∨ ∀ i, a ≤ i → i < b → lt d'[a - 1]! d'[i]! = true := by
  rcases h with h | h
  · exact .inl h
  · rcases Nat.eq_zero_or_pos a with h0 | h0
    · exact .inl h0
    · refine .inr ?_
      rw [hp.2.1 (a - 1) (.inl (by omega))]
      exact permIn_all d d' a b (fun x => lt d[a - 1]! x = true) hb hp h
theorem Pq.permute {a0 b0 : Nat} {d0 : ARow} {a b : Nat} {dk d' : ARow} (P : Pq lt a0 b0 d0 a b dk) (h : PermIn a b dk d') : Pq lt a0 b0 d0 a b d' := by
  have hs := P.hs
  have hb := P.hb
  exact ⟨P.ha, P.hab, P.hb, by rw [h.1]; exact hs, permIn_trans _ _ _ _ _ P.perm (permIn_mono dk d' a b a0 b0 P.ha P.hb hs h), P.tot.perm h (by omega), keys_perm P.keys (by omega) h,
    fun d'' p s => P.fin _ (permIn_trans _ _ _ _ _ h p) s⟩
theorem Pq.below {a0 b0 : Nat} {d0 : ARow} {a b : Nat} {dk : ARow} (P : Pq lt a0 b0 d0 a b dk) (hO : SWO lt) : Go.Sort.Below lt a b dk := by
  rcases P.keys with h | h
  · exact .inl h
  · exact .inr fun i h1 h2 => hO.asymm (h i h1 h2)
theorem Pq.done {a0 b0 : Nat} {d0 : ARow} {a b : Nat} {dk d' : ARow} (P : Pq lt a0 b0 d0 a b dk) (h : PermIn a b dk d') (s : SortedIn lt a b d') : PermIn a0 b0 d0 d' ∧ SortedIn lt a0 b0 d' :=
  ⟨(P.permute h).perm, P.fin _ h s⟩
theorem Pq.behind {a0 b0 : Nat} {d0 : ARow} {a b m : Nat} {dk d4 d5 : ARow} (P : Pq lt a0 b0 d0 a b dk) (hO : SWO lt) (D : Prd lt a b dk m d4) (h : PermIn a m d4 d5) (s : SortedIn lt a m d5) : Pq lt a0 b0 d0 (m + 1) b d5 := by
  have P4 := P.permute D.perm
  have hs4 := P4.hs
  have hb := P.hb
  have am := D.am
  have mb := D.mb
  have h' : PermIn a b d4 d5 := permIn_mono d4 d5 a m a b (Nat.le_refl _) (by omega) (by omega) h
  have P5 := P4.permute h'
  have hs5 := P5.hs
  have e5 : d5[m]! = d4[m]! := h.2.1 m (.inr (Nat.le_refl _))
  have low5 : ∀ i, a ≤ i → i < m → lt d5[i]! d4[m]! = true := permIn_all d4 d5 a m (fun x => lt x d4[m]! = true) (by omega) h D.low
  have high5 : ∀ i, m + 1 ≤ i → i < b → lt d5[i]! d4[m]! = false := fun i h1 h2 => by rw [h.2.1 i (.inr (by omega))]; exact D.high i (by omega) h2
  refine ⟨by have := P.ha; omega, by omega, hb, hs5, P5.perm, P5.tot, .inr fun i h1 h2 => ?_, fun d' p q => ?_⟩
  · rw [Nat.add_sub_cancel, e5]
    rcases P5.tot.at (i := m) (j := i) (by omega) (by omega) (by omega) with g | g
    · rwa [e5] at g
    · rw [e5, high5 i h1 h2] at g; cases g
  · have p' : PermIn a b d5 d' := permIn_mono d5 d' (m + 1) b a b (by omega) (Nat.le_refl _) (by omega) p
    refine P5.fin _ p' ?_
    have e6 : ∀ i, i < m + 1 → d'[i]! = d5[i]! := fun i hi => p.2.1 i (.inl hi)
    refine sorted_glue hO (mid := m) (fun i j hi hij hj => by rw [e6 i (by omega), e6 j (by omega)]; exact s i j hi hij hj) q (fun i h1 h2 => by rw [e6 i (by omega), e6 m (by omega), e5]; exact low5 i h1 h2) (fun i h1 h2 => ?_)
    rw [e6 m (by omega), e5]
    exact permIn_all d5 d' (m + 1) b (fun x => lt x d4[m]! = false) (by omega) p high5 i (by omega) h2
theorem Pq.ahead {a0 b0 : Nat} {d0 : ARow} {a b m : Nat} {dk d4 d5 : ARow} (P : Pq lt a0 b0 d0 a b dk) (hO : SWO lt) (D : Prd lt a b dk m d4) (h : PermIn (m + 1) b d4 d5) (s : SortedIn lt (m + 1) b d5) : Pq lt a0 b0 d0 a m d5 := by
  have P4 := P.permute D.perm
  have hs4 := P4.hs
  have hb := P.hb
  have am := D.am
  have mb := D.mb
  have h' : PermIn a b d4 d5 := permIn_mono d4 d5 (m + 1) b a b (by omega) (Nat.le_refl _) (by omega) h
  have P5 := P4.permute h'
  have hs5 := P5.hs
  have e5 : ∀ i, i < m + 1 → d5[i]! = d4[i]! := fun i hi => h.2.1 i (.inl hi)
  have high5 : ∀ i, m + 1 ≤ i → i < b → lt d5[i]! d4[m]! = false := permIn_all d4 d5 (m + 1) b (fun x => lt x d4[m]! = false) (by omega) h fun i h1 h2 => D.high i (by omega) h2
  refine ⟨P.ha, am, by omega, hs5, P5.perm, P5.tot, P5.keys.imp id fun g i h1 h2 => g i h1 (by omega), fun d' p q => ?_⟩
  have p' : PermIn a b d5 d' := permIn_mono d5 d' a m a b (Nat.le_refl _) (by omega) (by omega) p
  refine P5.fin _ p' ?_
  have e6 : ∀ i, m ≤ i → d'[i]! = d5[i]! := fun i hi => p.2.1 i (.inr hi)
  refine sorted_glue hO (mid := m) q (fun i j hi hij hj => by rw [e6 i (by omega), e6 j (by omega)]; exact s i j hi hij hj) (fun i h1 h2 => ?_) (fun i h1 h2 => by rw [e6 i (by omega), e6 m (Nat.le_refl _), e5 m (by omega)]; exact high5 i (by omega) h2)
  rw [e6 m (Nat.le_refl _), e5 m (by omega)]
  exact permIn_all d5 d' a m (fun x => lt x d4[m]! = true) (by omega) p (fun i h1 h2 => by rw [e5 i (by omega)]; exact D.low i h1 h2) i h1 h2
end
end Go.Proofs.Ytepfcphhgmmlhaa
