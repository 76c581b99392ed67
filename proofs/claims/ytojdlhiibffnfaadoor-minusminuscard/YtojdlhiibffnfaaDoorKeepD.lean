/-
  Minus, Both and Merge of lists of IPv4 prefixes, by the sets that they are; MinusMinus's lists.
-/
import Derived.Test.YtojdlhiibffnfaaDoorKeepB
import Derived.Test.YtojdlhiibffnfaaDoorKeepC
namespace Go.Proofs.YtojdlhiibffnfaaDoor
open Go.RowKit
set_option linter.unusedVariables false
set_option linter.unusedSimpArgs false

/-- A list of valid IPv4 prefixes. -/
def Four (l : List PT) : Prop := AllOK l ∧ ∀ p ∈ l, p.1 = false
theorem Four.words {l : List PT} (h : Four l) : Words l := fun p hp => by
  obtain ⟨hx, _⟩ := chk0 (h.1 p hp)
  exact lt128 hx
theorem Four.app {l m : List PT} (h : Four l) (k : Four m) : Four (l ++ m) :=
  ⟨fun p hp => (List.mem_append.1 hp).elim (h.1 p) (k.1 p), fun p hp => (List.mem_append.1 hp).elim (h.2 p) (k.2 p)⟩
theorem Four.cn {S : Nat → Prop} : Four (cn false S (wideN false) 0) := ⟨cn_ok.1, cn_ok.2.2⟩
/-- The addresses of a list. -/
def tS (l : List PT) (a : Nat) : Prop := inS (fb false l) a
theorem tS_cn {S : Nat → Prop} {a : Nat} : tS (cn false S (wideN false) 0) a ↔ inB 0 (wideN false) a ∧ S a := by unfold tS; rw [fb_cn]; exact inS_canon
theorem tS_app {l m : List PT} {a : Nat} : tS (l ++ m) a ↔ tS l a ∨ tS m a := by unfold tS; rw [fb_app]; exact inS_app _ _ _
theorem ans_one {c : Bool → Bool → Bool} {l m : List PT} (hl : Four l) (hm : Four m) (n1 : l.length ≤ 80) (n2 : m.length ≤ 80) (hc : c false false = false) {S : Nat → Prop} (h : ∀ a, inB 0 (wideN false) a → (chS c (fb false l) (fb false m) a ↔ S a)) :
    listsE l m = 0 ∧ ansL c l m = cn false S (wideN false) 0 := by
  have e0 := lists_ok hl.1 hm.1 n1 n2
  refine ⟨e0, ?_⟩
  unfold ansL
  rw [if_pos e0, setE_one hl.2 hm.2 hc]
  unfold famE
  exact cn_ext h
open Classical in
theorem chS_minus {l m : BL} {a : Nat} : chS (fun a b => a && !b) l m a ↔ inS l a ∧ ¬ inS m a := by
  unfold chS
  rw [Bool.and_eq_true, Bool.not_eq_true', decide_eq_true_iff, decide_eq_false_iff_not]
open Classical in
theorem chS_both {l m : BL} {a : Nat} : chS (fun a b => a && b) l m a ↔ inS l a ∧ inS m a := by
  unfold chS
  rw [Bool.and_eq_true, decide_eq_true_iff, decide_eq_true_iff]
abbrev MinusTo (l m r : List PT) : Prop := ∀ (W : World) (v1 v2 : Value), RowP W v1 l → RowP W v2 m → FamAt W → Calls Tryd.prog 17 #[v1, v2] W (PresOutE r 0 W)
abbrev BothTo (l m r : List PT) : Prop := ∀ (W : World) (v1 v2 : Value), RowP W v1 l → RowP W v2 m → FamAt W → Calls Tryd.prog 19 #[v1, v2] W (PresOutE r 0 W)
abbrev MergeTo (l r : List PT) : Prop := ∀ (W : World) (v1 : Value), RowP W v1 l → FamAt W → Calls Tryd.prog 15 #[v1] W (PresOutE r 0 W)
theorem minusTo {l m : List PT} (hl : Four l) (hm : Four m) (n1 : l.length ≤ 80) (n2 : m.length ≤ 80) {S : Nat → Prop} (h : ∀ a, inB 0 (wideN false) a → (tS l a ∧ ¬ tS m a ↔ S a)) : MinusTo l m (cn false S (wideN false) 0) := by
  intro W v1 v2 r1 r2 f
  obtain ⟨z0, z1⟩ := ans_one (c := fun a b => a && !b) hl hm n1 n2 rfl (S := S) (fun a ha => chS_minus.trans (h a ha))
  have := minus_calls l m v1 v2 (by omega) (by omega) hl.words hm.words W r1 r2 f
  rw [z0, z1] at this
  exact this
theorem bothTo {l m : List PT} (hl : Four l) (hm : Four m) (n1 : l.length ≤ 80) (n2 : m.length ≤ 80) {S : Nat → Prop} (h : ∀ a, inB 0 (wideN false) a → (tS l a ∧ tS m a ↔ S a)) : BothTo l m (cn false S (wideN false) 0) := by
  intro W v1 v2 r1 r2 f
  obtain ⟨z0, z1⟩ := ans_one (c := fun a b => a && b) hl hm n1 n2 rfl (S := S) (fun a ha => chS_both.trans (h a ha))
  have := bothL_calls l m v1 v2 (by omega) (by omega) hl.words hm.words W r1 r2 f
  rw [z0, z1] at this
  exact this
theorem four_nil : Four [] := ⟨fun p hp => (by cases hp), fun p hp => (by cases hp)⟩
theorem mergeTo {l : List PT} (hl : Four l) (n1 : l.length ≤ 80) {S : Nat → Prop} (h : ∀ a, inB 0 (wideN false) a → (tS l a ↔ S a)) : MergeTo l (cn false S (wideN false) 0) := by
  intro W v1 r1 f
  obtain ⟨z0, z1⟩ := ans_one (c := fun a _ => a) hl four_nil n1 (by simp) rfl (S := S) (fun a ha => chS_merge.trans (h a ha))
  have := merge_calls l v1 (by omega) hl.words W r1 f
  rw [z0, z1] at this
  exact this
theorem fb_four_al {l : List PT} (h : Four l) : AllAL false (fb false l) := fb_al false h.1
theorem four_both_len {l m : List PT} (hl : Four l) (hm : Four m) : (cn false (fun a => tS l a ∧ tS m a) (wideN false) 0).length ≤ l.length + m.length := by
  unfold cn
  rw [List.length_map]
  have := canon_both_len (fb_four_al hl) (fb_four_al hm) (AL.top false)
  have := fb_len false l
  have := fb_len false m
  have e : canon (fun a => tS l a ∧ tS m a) (wideN false) 0 = canon (fun a => inS (fb false l) a ∧ inS (fb false m) a) (wideN false) 0 := rfl
  rw [e]; omega
theorem four_minus_len {l m : List PT} (hl : Four l) (hm : Four m) (n1 : l.length ≤ 80) (n2 : m.length ≤ 80) : (cn false (fun a => tS l a ∧ ¬ tS m a) (wideN false) 0).length ≤ 1000000000 := by
  have e : cn false (fun a => tS l a ∧ ¬ tS m a) (wideN false) 0 = cn false (chS (fun a b => a && !b) (fb false l) (fb false m)) (wideN false) 0 := cn_ext fun a _ => chS_minus.symm
  rw [e]
  have := cn_len' (fb_four_al hl) (fb_four_al hm) (c := fun a b => a && !b) (AL.top false)
  have := fb_len false l
  have := fb_len false m
  omega
theorem mm_math (A B C : List PT) (hA : Made 12 A) (hB : Made 12 B) (hC : Made 12 C) : ∃ X Y BO U V : List PT,
    X.length ≤ 1000000000 ∧ Y.length ≤ 1000000000 ∧ BO.length ≤ 80 ∧ U.length ≤ 1000000000 ∧ V.length ≤ 1000000000 ∧ MinusTo A B X ∧ (X.length ≤ 80 → MinusTo X C Y) ∧ MinusTo A (B ++ C) Y ∧ BothTo B C BO ∧ MinusTo A BO U ∧ MinusTo A C V ∧ (V.length + X.length ≤ 80 → MergeTo (V ++ X) U) := by
  have fA : Four A := ⟨hA.1, hA.2.1⟩
  have fB : Four B := ⟨hB.1, hB.2.1⟩
  have fC : Four C := ⟨hC.1, hC.2.1⟩
  have nA := hA.2.2
  have nB := hB.2.2
  have nC := hC.2.2
  have nBC : (B ++ C).length ≤ 80 := by rw [List.length_append]; omega
  have nBO := four_both_len fB fC
  have eY : cn false (fun a => tS A a ∧ ¬ tS (B ++ C) a) (wideN false) 0 = cn false (fun a => tS A a ∧ ¬ tS B a ∧ ¬ tS C a) (wideN false) 0 := cn_ext fun a _ => by rw [tS_app, not_or]
  have nY := four_minus_len fA (fB.app fC) (by omega) nBC
  rw [eY] at nY
  have eU : cn false (fun a => tS A a ∧ ¬ tS (cn false (fun a => tS B a ∧ tS C a) (wideN false) 0) a) (wideN false) 0 = cn false (fun a => tS A a ∧ ¬ (tS B a ∧ tS C a)) (wideN false) 0 := cn_ext fun a ha => by rw [tS_cn]; exact ⟨fun h => ⟨h.1, fun k => h.2 ⟨ha, k⟩⟩, fun h => ⟨h.1, fun k => h.2 k.2⟩⟩
  have nU := four_minus_len fA (Four.cn (S := fun a => tS B a ∧ tS C a)) (by omega) (by omega)
  rw [eU] at nU
  refine ⟨cn false (fun a => tS A a ∧ ¬ tS B a) (wideN false) 0, cn false (fun a => tS A a ∧ ¬ tS B a ∧ ¬ tS C a) (wideN false) 0, cn false (fun a => tS B a ∧ tS C a) (wideN false) 0, cn false (fun a => tS A a ∧ ¬ (tS B a ∧ tS C a)) (wideN false) 0, cn false (fun a => tS A a ∧ ¬ tS C a) (wideN false) 0,
    four_minus_len fA fB (by omega) (by omega), nY, by omega, nU, four_minus_len fA fC (by omega) (by omega), ?_, fun hx => ?_, ?_, ?_, ?_, ?_, fun hv => ?_⟩
  · exact minusTo fA fB (by omega) (by omega) fun a _ => Iff.rfl
  · exact minusTo Four.cn fC hx (by omega) fun a ha => by rw [tS_cn]; exact ⟨fun h => ⟨h.1.2.1, h.1.2.2, h.2⟩, fun h => ⟨⟨ha, h.1, h.2.1⟩, h.2.2⟩⟩
  · exact minusTo fA (fB.app fC) (by omega) nBC fun a _ => by rw [tS_app, not_or]
  · exact bothTo fB fC (by omega) (by omega) fun a _ => Iff.rfl
  · exact minusTo fA Four.cn (by omega) (by omega) fun a ha => by rw [tS_cn]; exact ⟨fun h => ⟨h.1, fun k => h.2 ⟨ha, k⟩⟩, fun h => ⟨h.1, fun k => h.2 k.2⟩⟩
  · exact minusTo fA fC (by omega) (by omega) fun a _ => Iff.rfl
  · refine mergeTo (Four.cn.app Four.cn) (by rw [List.length_append]; exact hv) fun a ha => ?_
    rw [tS_app, tS_cn, tS_cn]
    constructor
    · rintro (h | h)
      · exact ⟨h.2.1, fun k => h.2.2 k.2⟩
      · exact ⟨h.2.1, fun k => h.2.2 k.1⟩
    · rintro ⟨h, k⟩
      by_cases c : tS C a
      · exact .inr ⟨ha, h, fun b => k ⟨b, c⟩⟩
      · exact .inl ⟨ha, h, c⟩
end Go.Proofs.YtojdlhiibffnfaaDoor
