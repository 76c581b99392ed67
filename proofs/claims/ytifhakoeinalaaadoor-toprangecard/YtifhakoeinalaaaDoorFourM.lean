/-
  Lists of valid IPv4 prefixes by the sets that they are; Merge of them.
-/
import Derived.Test.YtifhakoeinalaaaDoorKeepB
import Derived.Test.YtifhakoeinalaaaDoorKeepC
namespace Go.Proofs.YtifhakoeinalaaaDoor
open Go.RowKit
set_option linter.unusedVariables false
set_option linter.unusedSimpArgs false
/-- A list of valid IPv4 prefixes. -/
def Four (l : List PT) : Prop := AllOK l ∧ ∀ p ∈ l, p.1 = false
theorem Four.words {l : List PT} (h : Four l) : Words l := fun p hp => by
  obtain ⟨hx, _⟩ := chk0 (h.1 p hp)
  exact lt128 hx
theorem Four.app {l m : List PT} (h : Four l) (k : Four m) : Four (l ++ m) :=
  ⟨fun p hp => (List.mem_append.1 hp).elim (h.1 p) (k.1 p), fun p hp => (List.mem_append.1 hp).elim (h.2 p) (k.2 p)⟩
theorem Four.cn {S : Nat → Prop} : Four (cn false S (wideN false) 0) := ⟨cn_ok.1, cn_ok.2.2⟩
/-- The addresses of a list. -/
def tS (l : List PT) (a : Nat) : Prop := inS (fb false l) a
theorem tS_cn {S : Nat → Prop} {a : Nat} : tS (cn false S (wideN false) 0) a ↔ inB 0 (wideN false) a ∧ S a := by unfold tS; rw [fb_cn]; exact inS_canon
theorem tS_app {l m : List PT} {a : Nat} : tS (l ++ m) a ↔ tS l a ∨ tS m a := by unfold tS; rw [fb_app]; exact inS_app _ _ _
theorem ans_one {c : Bool → Bool → Bool} {l m : List PT} (hl : Four l) (hm : Four m) (n1 : l.length ≤ 80) (n2 : m.length ≤ 80) (hc : c false false = false) {S : Nat → Prop} (h : ∀ a, inB 0 (wideN false) a → (chS c (fb false l) (fb false m) a ↔ S a)) :
    listsE l m = 0 ∧ ansL c l m = cn false S (wideN false) 0 := by
  have e0 := lists_ok hl.1 hm.1 n1 n2
  refine ⟨e0, ?_⟩
  unfold ansL
  rw [if_pos e0, setE_one hl.2 hm.2 hc]
  unfold famE
  exact cn_ext h
abbrev MergeTo (l r : List PT) : Prop := ∀ (W : World) (v1 : Value), RowP W v1 l → FamAt W → Calls Tryd.prog 7 #[v1] W (PresOutE r 0 W)
theorem four_nil : Four [] := ⟨fun p hp => (by cases hp), fun p hp => (by cases hp)⟩
theorem mergeTo {l : List PT} (hl : Four l) (n1 : l.length ≤ 80) {S : Nat → Prop} (h : ∀ a, inB 0 (wideN false) a → (tS l a ↔ S a)) : MergeTo l (cn false S (wideN false) 0) := by
  intro W v1 r1 f
  obtain ⟨z0, z1⟩ := ans_one (c := fun a _ => a) hl four_nil n1 (by simp) rfl (S := S) (fun a ha => chS_merge.trans (h a ha))
  have := merge_calls l v1 (by omega) hl.words W r1 f
  rw [z0, z1] at this
  exact this
theorem fb_four_al {l : List PT} (h : Four l) : AllAL false (fb false l) := fb_al false h.1
end Go.Proofs.YtifhakoeinalaaaDoor
