/-
  whipcordkeep.cidrSure; cidr.Range of either family; what Merge makes of two ranges side by side.
-/
import Derived.Test.YtifhakoeinalaaaDoorKeepA
import Derived.Test.YtifhakoeinalaaaDoorG5
import Derived.Test.YtifhakoeinalaaaDoorCidrN
import Derived.Test.YtifhakoeinalaaaDoorRangesA
namespace Go.Proofs.YtifhakoeinalaaaDoor
open Go.RowKit
set_option linter.unusedVariables false
set_option linter.unusedSimpArgs false

theorem range_ok (six : Bool) (x y : Nat) (hx : x < 2 ^ wideN six) (hy : y < 2 ^ wideN six) (hl : x ≤ y) (w : World) (HF : FamAt w) :
    Calls Tryd.prog 13 #[.agg #[.bool six, .int .u64 (aH x), .int .u64 (aL x)], .agg #[.bool six, .int .u64 (aH y), .int .u64 (aL y)]] w (PresOutE (cn six (fromTo x y) (wideN six) 0) 0 w) := by
  cases six
  · exact range_ok_false x y (lt128 hx) (lt128 hy) hx hy (by omega) w HF
  · exact range_ok_true x y (lt128 hx) (lt128 hy) hx hy (by omega) w HF
theorem sure_al : AL false 4 2 := ⟨by decide, by decide, 1, by decide⟩
theorem sure_list : cn false (fromTo 4 7) (wideN false) 0 = [(false, 4, 30)] := by
  have e : canon (fromTo 4 7) (wideN false) 0 = canon (inB 4 2) (wideN false) 0 := canon_ext fun a _ => by unfold fromTo inB; omega
  unfold cn
  rw [e, canon_one sure_al (AL.top false) (by decide)]
  rfl
theorem cn_ok {six : Bool} {S : Nat → Prop} : AllOK (cn six S (wideN six) 0) ∧ Words (cn six S (wideN six) 0) ∧ ∀ p ∈ cn six S (wideN six) 0, p.1 = six := by
  have key : ∀ p ∈ cn six S (wideN six) 0, ∃ q ∈ canon S (wideN six) 0, bl six q = p ∧ AL six q.1 q.2 := by
    intro p hp
    obtain ⟨q, hq, e⟩ := List.mem_map.1 hp
    obtain ⟨_, h2, h3, c, h4⟩ := canon_sub hq
    exact ⟨q, hq, e, h3, by omega, c, by omega⟩
  refine ⟨fun p hp => ?_, fun p hp => ?_, fun p hp => ?_⟩
  · obtain ⟨q, _, rfl, hA⟩ := key p hp; exact hA.chk
  · obtain ⟨q, _, rfl, hA⟩ := key p hp; exact hA.lt128
  · obtain ⟨q, _, rfl, _⟩ := key p hp; rfl
theorem fb_cn {six : Bool} {S : Nat → Prop} : fb six (cn six S (wideN six) 0) = canon S (wideN six) 0 := by
  unfold fb
  rw [List.filter_eq_self.2 (fun p hp => by simp [cn_ok.2.2 p hp])]
  unfold cn
  rw [List.map_map]
  conv => rhs; rw [← List.map_id (canon S (wideN six) 0)]
  refine List.map_congr_left fun q hq => ?_
  have := (canon_sub hq).2.2.1
  simp only [Function.comp, bl, id]
  cases q
  simp only [Prod.mk.injEq, true_and] at *
  omega
theorem fb_other {six : Bool} {l : List PT} (h : ∀ p ∈ l, p.1 = six) : fb (!six) l = [] := by
  unfold fb
  rw [List.filter_eq_nil_iff.2 (fun p hp => by rw [h p hp]; cases six <;> decide)]
  rfl
theorem fb_app (six : Bool) (l m : List PT) : fb six (l ++ m) = fb six l ++ fb six m := by unfold fb; rw [List.filter_append, List.map_append]
theorem inS_app (l m : BL) (a : Nat) : inS (l ++ m) a ↔ inS l a ∨ inS m a := by
  unfold inS
  constructor
  · rintro ⟨q, hq, h⟩
    rcases List.mem_append.1 hq with c | c
    · exact .inl ⟨q, c, h⟩
    · exact .inr ⟨q, c, h⟩
  · rintro (⟨q, hq, h⟩ | ⟨q, hq, h⟩)
    · exact ⟨q, List.mem_append.2 (.inl hq), h⟩
    · exact ⟨q, List.mem_append.2 (.inr hq), h⟩
theorem inS_canon {S : Nat → Prop} {k x a : Nat} : inS (canon S k x) a ↔ inB x k a ∧ S a := canon_mem
theorem ferr_ok : ∀ {l : List PT}, AllOK l → ferr l = 0
  | [], _ => rfl
  | p :: t, h => by
    unfold ferr
    rw [if_pos (h p (.head _))]
    exact ferr_ok fun q hq => h q (.tail _ hq)
theorem lists_ok {l m : List PT} (hl : AllOK l) (hm : AllOK m) (n1 : l.length ≤ 80) (n2 : m.length ≤ 80) : listsE l m = 0 := by
  unfold listsE
  rw [if_neg (by omega), if_pos (ferr_ok hl), ferr_ok hm]
theorem famE_none {six : Bool} {c : Bool → Bool → Bool} {l m : List PT} (hl : fb six l = []) (hm : fb six m = []) (hc : c false false = false) : famE six c l m = [] := by
  unfold famE
  rw [hl, hm]
  refine cn_none fun a _ h => ?_
  unfold chS at h
  have n : ¬ inS [] a := by rintro ⟨q, hq, _⟩; cases hq
  simp [n, hc] at h
/-- Lists of one family: what is chosen of it. -/
theorem setE_one {six : Bool} {c : Bool → Bool → Bool} {l m : List PT} (hl : ∀ p ∈ l, p.1 = six) (hm : ∀ p ∈ m, p.1 = six) (hc : c false false = false) : setE c l m = famE six c l m := by
  unfold setE
  cases six
  · rw [famE_none (six := true) (fb_other hl) (fb_other hm) hc, List.append_nil]
  · rw [famE_none (six := false) (fb_other hl) (fb_other hm) hc, List.nil_append]
open Classical in
theorem chS_merge {l m : BL} {a : Nat} : chS (fun a _ => a) l m a ↔ inS l a := by unfold chS; exact decide_eq_true_iff
/-- The lists of two sets, merged: the list of both together. -/
theorem merge_two {six : Bool} {S T U : Nat → Prop} (h : ∀ a, inB 0 (wideN six) a → (S a ∨ T a ↔ U a)) (hn : (cn six S (wideN six) 0).length + (cn six T (wideN six) 0).length ≤ 80) :
    listsE (cn six S (wideN six) 0 ++ cn six T (wideN six) 0) [] = 0 ∧ ansL (fun a _ => a) (cn six S (wideN six) 0 ++ cn six T (wideN six) 0) [] = cn six U (wideN six) 0 := by
  have ok : AllOK (cn six S (wideN six) 0 ++ cn six T (wideN six) 0) := fun p hp => by
    rcases List.mem_append.1 hp with c | c
    · exact cn_ok.1 p c
    · exact cn_ok.1 p c
  have sx : ∀ p ∈ cn six S (wideN six) 0 ++ cn six T (wideN six) 0, p.1 = six := fun p hp => by
    rcases List.mem_append.1 hp with c | c
    · exact cn_ok.2.2 p c
    · exact cn_ok.2.2 p c
  have e0 : listsE (cn six S (wideN six) 0 ++ cn six T (wideN six) 0) [] = 0 := lists_ok ok (fun p hp => by cases hp) (by rw [List.length_append]; exact hn) (by simp)
  refine ⟨e0, ?_⟩
  unfold ansL
  rw [if_pos e0, setE_one sx (fun p hp => by cases hp) rfl]
  unfold famE
  refine cn_ext fun a ha => ?_
  rw [chS_merge, fb_app, fb_cn, fb_cn, inS_app, inS_canon, inS_canon]
  rw [← h a ha]
  exact ⟨fun q => q.imp (·.2) (·.2), fun q => q.imp (⟨ha, ·⟩) (⟨ha, ·⟩)⟩
end Go.Proofs.YtifhakoeinalaaaDoor
