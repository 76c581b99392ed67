/-
  Plain mathematics: a whole and its halves that go one way.
-/
import Derived.Test.YtmjlmfbceccjdaaG27
namespace Go.Proofs.Ytmjlmfbceccjdaa
open Go.RowKit
set_option linter.unusedVariables false
set_option linter.unusedSimpArgs false
/-- The table of a whole, and of the halves of a block. -/
def halT (x k : Nat) (o h : Int) : List RT := [((false, 0, 0), o), (pkB false x k, h), (pkB false (x + 2 ^ k) k, h)]
theorem pk_inj {s : Bool} {x y k j : Nat} (hk : k ≤ wideN s) (hj : j ≤ wideN s) (h : pkB s x k = pkB s y j) : x = y ∧ k = j := by
  unfold pkB at h
  simp only [Prod.mk.injEq] at h
  omega
theorem hal_all {x k : Nat} {o h : Int} (hA : AL false x (k + 1)) (hk : k + 1 < 32) (ho : 1 ≤ o ∧ o ≤ 999) (hh : 1 ≤ h ∧ h ≤ 999) : fwE (halT x k o h) = 0 := by
  have hlo := hA.low
  have hhi := hA.high
  have w32 : wideN false = 32 := rfl
  have n0 : ∀ y, pkB false y k ≠ (false, 0, 0) := fun y e => by
    rw [← pk_top] at e
    have := (pk_inj (by omega) (by omega) e).2
    omega
  refine fwE_mk (tab_ofF (fun r hr => ?_) ?_ (by show 3 ≤ 60; decide)) (fun r hr => ?_) ⟨((false, 0, 0), o), by simp [halT], rfl⟩
  · simp only [halT, List.mem_cons, List.not_mem_nil, or_false] at hr
    rcases hr with e | e | e
    · rw [e, rtE, if_pos chk_def, if_pos ho]
    · rw [e, rtE, if_pos (show chkE (pkB false x k).1 (pkB false x k).2.1 (pkB false x k).2.2 = 0 from hlo.chk), if_pos hh]
    · rw [e, rtE, if_pos (show chkE (pkB false (x + 2 ^ k) k).1 (pkB false (x + 2 ^ k) k).2.1 (pkB false (x + 2 ^ k) k).2.2 = 0 from hhi.chk), if_pos hh]
  · show ([(false, 0, 0), pkB false x k, pkB false (x + 2 ^ k) k] : List PK).Nodup
    rw [List.nodup_cons, List.nodup_cons]
    refine ⟨fun c => ?_, fun c => ?_, by simp⟩
    · simp only [List.mem_cons, List.not_mem_nil, or_false] at c
      rcases c with c | c
      · exact n0 x c.symm
      · exact n0 _ c.symm
    · rw [List.mem_singleton] at c
      have := (pk_inj (by omega) (by omega) c).1
      have := Nat.two_pow_pos k
      omega
  · simp only [halT, List.mem_cons, List.not_mem_nil, or_false] at hr
    rcases hr with e | e | e <;> rw [e] <;> rfl
theorem kR_pk {s : Bool} {x k : Nat} {h : Int} (hA : AL s x k) : kR (pkB s x k, h) = k := ((key_blk (r := (pkB s x k, h)) hA.1 hA.chk).1 rfl).2.2
theorem AL.all : AL false 0 32 := AL.top32
/-- Where addresses go by a whole and a block that lies within it. -/
theorem two_go {x k : Nat} {o h : Int} (hA : AL false x k) (hk : k < 32) {m : List RT} (hv : ValR m) (hd : DistR m) (h0 : ((false, 0, 0), o) ∈ m) {y : Nat} (hy : y < 2 ^ wideN false)
    (hin : inB x k y → ∃ r ∈ m, mB false y r = true ∧ 0 < r.1.2.2 ∧ ∀ q ∈ m, mB false y q = true → q.1.2.2 > 0 → q.2 = h) (hout : ¬ inB x k y → ∀ q ∈ m, mB false y q = true → q.2 = o) : (bestA false y m).1 = if x ≤ y ∧ y < x + 2 ^ k then h else o := by
  have hm0 : mB false y ((false, 0, 0), o) = true := by
    refine (mB_blk (r := ((false, 0, 0), o)) chk_def false y).2 ⟨rfl, ?_⟩
    have e : kR ((false, 0, 0), o) = 32 := by rw [← pk_top]; exact kR_pk AL.top32
    rw [e]
    exact ⟨Nat.zero_le _, by rw [Nat.zero_add]; exact hy⟩
  obtain ⟨r, hr, hm, e, hb⟩ := best_some hv (any_mB.2 ⟨_, h0, hm0⟩)
  rw [e]
  by_cases c : x ≤ y ∧ y < x + 2 ^ k
  · rw [if_pos c]
    obtain ⟨q, hq, hqm, hpos, hall⟩ := hin c
    refine hall r hr hm ?_
    have := hb q hq hqm
    omega
  · rw [if_neg c]; exact hout c r hr hm
theorem hal_go {x k : Nat} {o h : Int} (hA : AL false x (k + 1)) (hk : k + 1 < 32) (ho : 1 ≤ o ∧ o ≤ 999) (hh : 1 ≤ h ∧ h ≤ 999) {y : Nat} (hy : y < 2 ^ wideN false) : (bestA false y (halT x k o h)).1 = if x ≤ y ∧ y < x + 2 ^ (k + 1) then h else o := by
  have h0 := (fwE_0 (hal_all hA hk ho hh)).1
  have hlo := hA.low
  have hhi := hA.high
  have w32 : wideN false = 32 := rfl
  have m1 : mB false y (pkB false x k, h) = true ↔ inB x k y := by
    have := mB_blk (r := (pkB false x k, h)) hlo.chk false y
    rw [kR_pk hlo] at this
    exact this.trans ⟨fun c => c.2, fun c => ⟨rfl, c⟩⟩
  have m2 : mB false y (pkB false (x + 2 ^ k) k, h) = true ↔ inB (x + 2 ^ k) k y := by
    have := mB_blk (r := (pkB false (x + 2 ^ k) k, h)) hhi.chk false y
    rw [kR_pk hhi] at this
    exact this.trans ⟨fun c => c.2, fun c => ⟨rfl, c⟩⟩
  have pos : ∀ z, (0 : Int) < (pkB false z k).2.2 := fun z => by show (0 : Int) < ((wideN false - k : Nat) : Int); omega
  refine two_go hA hk (tabE_val h0).1 (dist_tab h0) (by simp [halT]) hy (fun c => ?_) (fun c q hq hm => ?_)
  · rcases inB_up.1 c with c | c
    · refine ⟨(pkB false x k, h), by simp [halT], m1.2 c, pos x, fun q hq hm hp => ?_⟩
      simp only [halT, List.mem_cons, List.not_mem_nil, or_false] at hq
      rcases hq with e | e | e
      · rw [e] at hp; exact absurd hp (by show ¬ (0 : Int) > 0; decide)
      · rw [e]
      · rw [e]
    · refine ⟨(pkB false (x + 2 ^ k) k, h), by simp [halT], m2.2 c, pos _, fun q hq hm hp => ?_⟩
      simp only [halT, List.mem_cons, List.not_mem_nil, or_false] at hq
      rcases hq with e | e | e
      · rw [e] at hp; exact absurd hp (by show ¬ (0 : Int) > 0; decide)
      · rw [e]
      · rw [e]
  · simp only [halT, List.mem_cons, List.not_mem_nil, or_false] at hq
    rcases hq with e | e | e
    · rw [e]
    · rw [e] at hm; exact absurd (inB_up.2 (.inl (m1.1 hm))) c
    · rw [e] at hm; exact absurd (inB_up.2 (.inr (m2.1 hm))) c
theorem six_none {l : List RT} (hv : ValR l) (h6 : ∀ r ∈ l, r.1.1 = false) (y : Nat) : (bestA true y l).1 = 0 := bestA_none hv fun r hr => by
  rw [← Bool.not_eq_true]
  intro c
  have := ((mB_blk (hv r hr) true y).1 c).1
  rw [h6 r hr] at this; cases this
theorem one_go {m : List RT} {o : Int} (hv : ValR m) (h0 : ((false, 0, 0), o) ∈ m) (hall : ∀ q ∈ m, q.2 = o) {y : Nat} (hy : y < 2 ^ wideN false) : (bestA false y m).1 = o := by
  have hm0 : mB false y ((false, 0, 0), o) = true := by
    refine (mB_blk (r := ((false, 0, 0), o)) chk_def false y).2 ⟨rfl, ?_⟩
    have e : kR ((false, 0, 0), o) = 32 := by rw [← pk_top]; exact kR_pk AL.top32
    rw [e]
    exact ⟨Nat.zero_le _, by rw [Nat.zero_add]; exact hy⟩
  obtain ⟨r, hr, hm, e, hb⟩ := best_some hv (any_mB.2 ⟨_, h0, hm0⟩)
  rw [e]; exact hall r hr
theorem hal_count {x k : Nat} {o h : Int} (hA : AL false x (k + 1)) (hk : k + 1 < 32) (hx : 0 < x) (ho : 1 ≤ o ∧ o ≤ 999) (hh : 1 ≤ h ∧ h ≤ 999) : (fwL (halT x k o h)).length = if h = o then 1 else 2 := by
  have hf := hal_all hA hk ho hh
  have f0 := fwE_0 hf
  have w32 : wideN false = 32 := rfl
  have hpos : 0 < (fwL (halT x k o h)).length := by
    obtain ⟨r, hr, _⟩ := fw_def hf
    exact List.length_pos_of_mem hr
  have hr0 : rtE ((false, 0, 0), o) = 0 := by rw [rtE, if_pos chk_def, if_pos ho]
  by_cases e : h = o
  · rw [if_pos e]
    have hm : tabE [((false, 0, 0), o)] = 0 := tab_ofF (fun r hr => by rw [List.mem_singleton] at hr; rw [hr]; exact hr0) (by simp) (by simp)
    have := fw_least hf hm fun s y hy => by
      cases s with
      | false =>
        rw [hal_go hA hk ho hh hy, one_go (o := o) (tabE_val hm).1 (by simp) (fun q hq => by rw [List.mem_singleton] at hq; rw [hq]) hy, e]; split <;> rfl
      | true =>
        rw [six_none (tabE_val f0.1).1 f0.2.1, six_none (tabE_val hm).1 fun r hr => by rw [List.mem_singleton] at hr; rw [hr]]
    have := this
    simp only [List.length_cons, List.length_nil] at this
    omega
  · rw [if_neg e]
    have hp0 : pkB false x (k + 1) ≠ (false, 0, 0) := fun c => by
      rw [← pk_top] at c
      have := (pk_inj (by omega) (by omega) c).2
      omega
    have hrq : rtE (pkB false x (k + 1), h) = 0 := by rw [rtE, if_pos (show chkE (pkB false x (k + 1)).1 (pkB false x (k + 1)).2.1 (pkB false x (k + 1)).2.2 = 0 from hA.chk), if_pos hh]
    have hm : tabE [((false, 0, 0), o), (pkB false x (k + 1), h)] = 0 := tab_ofF (fun r hr => by
        simp only [List.mem_cons, List.not_mem_nil, or_false] at hr
        rcases hr with e | e
        · rw [e]; exact hr0
        · rw [e]; exact hrq) (by
        show ([(false, 0, 0), pkB false x (k + 1)] : List PK).Nodup
        rw [List.nodup_cons]
        exact ⟨fun c => by rw [List.mem_singleton] at c; exact hp0 c.symm, by simp⟩) (by simp)
    have h6 : ∀ r ∈ [((false, 0, 0), o), (pkB false x (k + 1), h)], r.1.1 = false := fun r hr => by
      simp only [List.mem_cons, List.not_mem_nil, or_false] at hr
      rcases hr with e | e <;> rw [e] <;> rfl
    have mq : ∀ y, mB false y (pkB false x (k + 1), h) = true ↔ inB x (k + 1) y := fun y => by
      have := mB_blk (r := (pkB false x (k + 1), h)) hA.chk false y
      rw [kR_pk hA] at this
      exact this.trans ⟨fun c => c.2, fun c => ⟨rfl, c⟩⟩
    have le2 := fw_least hf hm fun s y hy => by
      cases s with
      | false =>
        rw [hal_go hA hk ho hh hy, two_go hA hk (h := h) (o := o) (tabE_val hm).1 (dist_tab hm) (by simp) hy (fun c => ⟨(pkB false x (k + 1), h), by simp, (mq y).2 c, by show (0 : Int) < ((wideN false - (k + 1) : Nat) : Int); omega, fun q hq hm hp => ?_⟩) fun c q hq hm => ?_]
        · simp only [List.mem_cons, List.not_mem_nil, or_false] at hq
          rcases hq with e | e
          · rw [e] at hp; exact absurd hp (by show ¬ (0 : Int) > 0; decide)
          · rw [e]
        · simp only [List.mem_cons, List.not_mem_nil, or_false] at hq
          rcases hq with e | e
          · rw [e]
          · rw [e] at hm; exact absurd ((mq y).1 hm) c
      | true => rw [six_none (tabE_val f0.1).1 f0.2.1, six_none (tabE_val hm).1 h6]
    have le2' : (fwL (halT x k o h)).length ≤ 2 := le2
    rcases Nat.lt_or_ge (fwL (halT x k o h)).length 2 with c | c
    · exfalso
      obtain ⟨r0, hr0⟩ := List.length_eq_one_iff.1 (show (fwL (halT x k o h)).length = 1 by omega)
      have hv := (tabE_val (fw_tab hf)).1
      have val : ∀ y, y < 2 ^ wideN false → (bestA false y (fwL (halT x k o h))).1 = 0 ∨ (bestA false y (fwL (halT x k o h))).1 = r0.2 := fun y hy => by
        by_cases ha : (fwL (halT x k o h)).any (mB false y) = true
        · obtain ⟨r, hr, _, e, _⟩ := best_some hv ha
          rw [hr0, List.mem_singleton] at hr
          exact .inr (by rw [e, hr])
        · refine .inl (bestA_none hv fun r hr => ?_)
          rw [← Bool.not_eq_true]
          exact fun c => ha (any_mB.2 ⟨r, hr, c⟩)
      have hxl : x < 2 ^ wideN false := by have := hA.2.1; have := Nat.two_pow_pos (k + 1); omega
      have a1 := val x hxl
      have a2 := val 0 (by decide)
      rw [fw_same hf false x hxl, hal_go hA hk ho hh hxl, if_pos ⟨Nat.le_refl _, by have := Nat.two_pow_pos (k + 1); omega⟩] at a1
      rw [fw_same hf false 0 (by decide), hal_go hA hk ho hh (by decide), if_neg (by omega)] at a2
      omega
    · omega
end Go.Proofs.Ytmjlmfbceccjdaa
