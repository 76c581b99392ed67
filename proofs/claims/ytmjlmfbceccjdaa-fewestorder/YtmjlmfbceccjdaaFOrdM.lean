/-
  Plain mathematics of FewestOrder: a table in another order goes the same ways; so does a table with a route more that says what stands above it.
-/
import Derived.Test.YtmjlmfbceccjdaaFwY
import Derived.Test.YtmjlmfbceccjdaaFwX
import Derived.Test.YtmjlmfbceccjdaaG23
namespace Go.Proofs.Ytmjlmfbceccjdaa
open Go.RowKit
set_option linter.unusedVariables false
set_option linter.unusedSimpArgs false
theorem tab_keysO {l : List RT} (h : tabE l = 0) : (l.map Prod.fst).Nodup := by
  unfold tabE at h
  split at h
  · cases h
  · exact (beh_keysS l [] h).1
theorem rot_keysO {L : List RT} (K : (L.map Prod.fst).Nodup) (d : Nat) : ((rotL L d L.length).map Prod.fst).Nodup := by
  rw [rotL, List.map_map, List.nodup_iff_pairwise_ne, List.pairwise_map]
  refine List.pairwise_iff_getElem.2 fun i j hi hj hij => ?_
  simp only [List.length_range] at hi hj
  simp only [List.getElem_range, Function.comp]
  intro e
  have h0 : 0 < L.length := by omega
  have a := Nat.mod_lt (i + d) h0
  have b := Nat.mod_lt (j + d) h0
  rw [getElem!_pos L _ a, getElem!_pos L _ b] at e
  have := nodup_injD K (i := (i + d) % L.length) (j := (j + d) % L.length) (by simpa using a) (by simpa using b) (by simpa using e)
  have := rot_inj hi hj this
  omega
theorem rot_memO {L : List RT} (K : (L.map Prod.fst).Nodup) (d : Nat) (x : RT) : x ∈ rotL L d L.length ↔ x ∈ L := by
  rcases Nat.eq_zero_or_pos L.length with h | h
  · rw [h, List.eq_nil_of_length_eq_zero h]; simp [rotL]
  · refine ⟨rotL_mem h, fun hx => ?_⟩
    have nd := nodup_keysD (rot_keysO K d)
    refine Classical.byContradiction fun hn => ?_
    have := nodup_len (x :: rotL L d L.length) L (List.nodup_cons.2 ⟨hn, nd⟩) (fun y hy => by
      rcases List.mem_cons.1 hy with rfl | hy
      · exact hx
      · exact rotL_mem h hy)
    rw [List.length_cons, rotL_len] at this
    omega
theorem fine_tab {l : List RT} (h : tabE l = 0) : ∀ r ∈ l, rtE r = 0 := fun r hr => (srt_inv h).fine r ((srt_mem l r).2 hr)
theorem rot_fw {Z : List RT} (hz : fwE Z = 0) (d : Nat) : fwE (rotL Z d Z.length) = 0 ∧ (fwL (rotL Z d Z.length)).length = (fwL Z).length := by
  obtain ⟨h0, h6, r, hr, e⟩ := fwE_0 hz
  have K := tab_keysO h0
  have hm := rot_memO K d
  have t0 : tabE (rotL Z d Z.length) = 0 := tab_ofF (fun r hr => fine_tab h0 r ((hm r).1 hr)) (rot_keysO K d) (by rw [rotL_len]; exact (tabE_val h0).2.2)
  have f0 : fwE (rotL Z d Z.length) = 0 := fwE_mk t0 (fun r hr => h6 r ((hm r).1 hr)) ⟨r, (hm r).2 hr, e⟩
  refine ⟨f0, fw_equal f0 hz fun s y _ => ?_⟩
  have b := (bestA_best (s := s) (y := y) (tabE_val t0).1).congr hm
  exact (b.unique (dist_tab h0) (bestA_best (tabE_val h0).1)).1
/-- This route's block covers that of x, k. -/
def cvR (x k : Nat) (r : RT) : Bool := decide (r.1.1 = false) && cov r.1.2.1 (kR r) x k
/-- The hop and the length of the longest route above a block. -/
def cvF (x k : Nat) (l : List RT) : Int × Int := l.foldl (fun b r => if cvR x k r && decide (r.1.2.2 > b.2) then (r.2, r.1.2.2) else b) (0, -1)
theorem cvF_snoc (x k : Nat) (l : List RT) (r : RT) : cvF x k (l ++ [r]) = if cvR x k r && decide (r.1.2.2 > (cvF x k l).2) then (r.2, r.1.2.2) else cvF x k l := by simp [cvF, List.foldl_append]
theorem cvF_best {x k : Nat} {l : List RT} (hv : ValR l) : cvF x k l = bestM false x (l.filter (cvR x k)) := by
  rw [bestM, List.foldl_filter, cvF]
  refine foldl_mem_congr l _ fun b r hr => ?_
  by_cases h : cvR x k r = true
  · have hm : mB false x r = true := by
      unfold cvR at h
      simp only [Bool.and_eq_true, decide_eq_true_eq] at h
      exact (mB_blk (hv r hr) false x).2 ⟨h.1, cov_in h.2 (inB_self x k)⟩
    rw [h, hm]; rfl
  · have h' : cvR x k r = false := by simpa using h
    rw [h']; rfl
theorem cvF_val {x k : Nat} {l : List RT} (h0 : tabE l = 0) : ((∀ r ∈ l, cvR x k r = false) ∧ cvF x k l = (0, -1)) ∨ ∃ r ∈ l, cvR x k r = true ∧ cvF x k l = (r.2, r.1.2.2) ∧ ∀ q ∈ l, cvR x k q = true → q.1.2.2 ≤ r.1.2.2 := by
  have hv := (tabE_val h0).1
  have up : ∀ r ∈ l, cvR x k r = true → mB false x r = true := fun r hr h => by
    unfold cvR at h
    simp only [Bool.and_eq_true, decide_eq_true_eq] at h
    exact (mB_blk (hv r hr) false x).2 ⟨h.1, cov_in h.2 (inB_self x k)⟩
  rw [cvF_best hv]
  rcases bestM_best (s := false) (y := x) (l := l.filter (cvR x k)) (fun r hr => hv r (List.mem_filter.1 hr).1) with ⟨h1, h2⟩ | ⟨r, hr, hm, h2, h3⟩
  · refine .inl ⟨fun r hr => ?_, h2⟩
    rw [← Bool.not_eq_true]
    intro c
    have := h1 r (List.mem_filter.2 ⟨hr, c⟩)
    rw [up r hr c] at this; cases this
  · obtain ⟨a, b⟩ := List.mem_filter.1 hr
    exact .inr ⟨r, a, b, h2, fun q hq hc => h3 q (List.mem_filter.2 ⟨hq, hc⟩) (up q hq hc)⟩
theorem def_cv {x k : Nat} (hA : AL false x k) {r : RT} (e : r.1 = (false, 0, 0)) : cvR x k r = true := by
  have e32 : kR r = 32 := by
    have : kR r = kR (pkB false 0 32, r.2) := by unfold kR; rw [e, pk_top]
    rw [this]; exact kR_pk AL.top32
  have w32 : wideN false = 32 := rfl
  have := hA.2.1
  unfold cvR
  rw [e32, e]
  simp only [cov, Bool.and_eq_true, decide_eq_true_eq]
  rw [w32] at this
  exact ⟨trivial, Nat.zero_le _, by omega⟩
theorem add_fw {Z : List RT} (hz : fwE Z = 0) (hl : Z.length < 60) {x k : Nat} (hA : AL false x k) (hn : ∀ r ∈ Z, r.1 ≠ pkB false x k) :
    fwE (Z ++ [(pkB false x k, (cvF x k Z).1)]) = 0 ∧ (fwL (Z ++ [(pkB false x k, (cvF x k Z).1)])).length = (fwL Z).length := by
  obtain ⟨h0, h6, d, hd, ed⟩ := fwE_0 hz
  have hv := (tabE_val h0).1
  rcases cvF_val (x := x) (k := k) h0 with ⟨c, _⟩ | ⟨r, hr, hc, e, hb⟩
  · have := c d hd; rw [def_cv hA ed] at this; cases this
  rw [e]
  obtain ⟨q, hq⟩ : ∃ q : RT, (pkB false x k, r.2) = q := ⟨_, rfl⟩
  have hq1 : q.1 = pkB false x k := by rw [← hq]
  have hq2 : q.2 = r.2 := by rw [← hq]
  have hqc : chkE q.1.1 q.1.2.1 q.1.2.2 = 0 := by rw [hq1]; exact hA.chk
  have hqk : kR q = k := by rw [← hq]; exact kR_pk hA
  show fwE (Z ++ [(pkB false x k, r.2)]) = 0 ∧ (fwL (Z ++ [(pkB false x k, r.2)])).length = (fwL Z).length
  rw [hq]
  have hh := (tabE_val h0).2.1 r hr
  have K := tab_keysO h0
  have t0 : tabE (Z ++ [q]) = 0 := tab_ofF (fun p hp => by
      rcases List.mem_append.1 hp with hp | hp
      · exact fine_tab h0 p hp
      · simp only [List.mem_singleton] at hp; subst hp
        unfold rtE
        rw [if_pos hqc, hq2, if_pos hh]) (by
      rw [List.map_append, List.nodup_append]
      refine ⟨K, by simp, fun a ha b hb' => ?_⟩
      obtain ⟨p, hp, rfl⟩ := List.mem_map.1 ha
      simp only [List.map_cons, List.map_nil, List.mem_singleton] at hb'
      subst hb'
      rw [hq1]
      exact hn p hp) (by rw [List.length_append, List.length_singleton]; omega)
  have f0 : fwE (Z ++ [q]) = 0 := fwE_mk t0 (fun p hp => by
      rcases List.mem_append.1 hp with hp | hp
      · exact h6 p hp
      · simp only [List.mem_singleton] at hp; subst hp; rw [hq1]; rfl) ⟨d, List.mem_append.2 (.inl hd), ed⟩
  refine ⟨f0, fw_equal f0 hz fun s y hy => ?_⟩
  have sn := bestM_snoc s y Z q
  by_cases hm : mB s y q = true
  · obtain ⟨es, hin⟩ := (mB_blk hqc s y).1 hm
    have es : s = false := by rw [← es, hq1]; rfl
    subst es
    have hin : inB x k y := by rw [hqk, hq1] at hin; exact hin
    have hdm : mB false y r = true := by
      have h := hc
      unfold cvR at h
      simp only [Bool.and_eq_true, decide_eq_true_eq] at h
      exact (mB_blk (hv r hr) false y).2 ⟨h.1, cov_in h.2 hin⟩
    rcases bestM_best (s := false) (y := y) hv with ⟨h1, _⟩ | ⟨p, hp, hpm, h2, h3⟩
    · rw [h1 r hr] at hdm; cases hdm
    · unfold bestA
      rw [sn, h2]
      by_cases hg : q.1.2.2 > p.1.2.2
      · rw [hm, Bool.true_and, decide_eq_true hg, if_pos rfl]
        show q.2 = p.2
        rw [hq2]
        obtain ⟨hAp, ep⟩ := al_of (hv p hp)
        obtain ⟨sp, ip⟩ := (mB_blk (hv p hp) false y).1 hpm
        rw [sp] at hAp ep
        have hcp : cvR x k p = true := by
          unfold cvR
          rw [decide_eq_true sp, Bool.true_and]
          rcases al_three hAp hA ip hin with c | c
          · exact c
          · have hk : kR p ≤ k := by
              have := c
              simp only [cov, decide_eq_true_eq] at this
              have h2 : 2 ^ kR p ≤ 2 ^ k := by omega
              exact (Nat.pow_le_pow_iff_right (by decide)).1 h2
            have : q.1.2.2 = ((wideN false - k : Nat) : Int) := by rw [hq1]; rfl
            omega
        have g := hb p hp hcp
        have g2 := h3 r hr hdm
        have a := (best_of hv (dist_tab h0) hr hdm fun t ht htm => Int.le_trans (h3 t ht htm) g)
        have b := (best_of hv (dist_tab h0) hp hpm h3)
        exact a.symm.trans b
      · rw [show (mB false y q && decide (q.1.2.2 > ((p.2, p.1.2.2) : Int × Int).2)) = false by simp [hg]]
        rfl
  · have hm' : mB s y q = false := by simpa using hm
    rw [hm', Bool.false_and] at sn
    unfold bestA
    rw [sn]; rfl
end Go.Proofs.Ytmjlmfbceccjdaa
