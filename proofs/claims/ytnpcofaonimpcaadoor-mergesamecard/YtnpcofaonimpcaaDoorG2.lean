/-
  Laid together: KeepD, MMinus, KeepE.
-/
import Derived.Test.YtnpcofaonimpcaaDoorKeepB
import Derived.Test.YtnpcofaonimpcaaDoorKeepC
/-
  Minus, Both and Merge of lists of IPv4 prefixes, by the sets that they are; MinusMinus's lists.
-/
namespace Go.Proofs.YtnpcofaonimpcaaDoor
open Go.RowKit
set_option linter.unusedVariables false
set_option linter.unusedSimpArgs false

/-- A list of valid IPv4 prefixes. -/
def Four (l : List PT) : Prop := AllOK l ∧ ∀ p ∈ l, p.1 = false
theorem Four.words {l : List PT} (h : Four l) : Words l := fun p hp => by
  obtain ⟨hx, _⟩ := chk0 (h.1 p hp)
  exact lt128 hx
theorem Four.app {l m : List PT} (h : Four l) (k : Four m) : Four (l ++ m) :=
  ⟨fun p hp => (List.mem_append.1 hp).elim (h.1 p) (k.1 p), fun p hp => (List.mem_append.1 hp).elim (h.2 p) (k.2 p)⟩
theorem Four.cn {S : Nat → Prop} : Four (cn false S (wideN false) 0) := ⟨cn_ok.1, cn_ok.2.2⟩
/-- The addresses of a list. -/
def tS (l : List PT) (a : Nat) : Prop := inS (fb false l) a
theorem tS_cn {S : Nat → Prop} {a : Nat} : tS (cn false S (wideN false) 0) a ↔ inB 0 (wideN false) a ∧ S a := by unfold tS; rw [fb_cn]; exact inS_canon
theorem tS_app {l m : List PT} {a : Nat} : tS (l ++ m) a ↔ tS l a ∨ tS m a := by unfold tS; rw [fb_app]; exact inS_app _ _ _
theorem ans_one {c : Bool → Bool → Bool} {l m : List PT} (hl : Four l) (hm : Four m) (n1 : l.length ≤ 80) (n2 : m.length ≤ 80) (hc : c false false = false) {S : Nat → Prop} (h : ∀ a, inB 0 (wideN false) a → (chS c (fb false l) (fb false m) a ↔ S a)) :
    listsE l m = 0 ∧ ansL c l m = cn false S (wideN false) 0 := by
  have e0 := lists_ok hl.1 hm.1 n1 n2
  refine ⟨e0, ?_⟩
  unfold ansL
  rw [if_pos e0, setE_one hl.2 hm.2 hc]
  unfold famE
  exact cn_ext h
open Classical in
theorem chS_minus {l m : BL} {a : Nat} : chS (fun a b => a && !b) l m a ↔ inS l a ∧ ¬ inS m a := by
  unfold chS
  rw [Bool.and_eq_true, Bool.not_eq_true', decide_eq_true_iff, decide_eq_false_iff_not]
open Classical in
theorem chS_both {l m : BL} {a : Nat} : chS (fun a b => a && b) l m a ↔ inS l a ∧ inS m a := by
  unfold chS
  rw [Bool.and_eq_true, decide_eq_true_iff, decide_eq_true_iff]
abbrev MinusTo (l m r : List PT) : Prop := ∀ (W : World) (v1 v2 : Value), RowP W v1 l → RowP W v2 m → FamAt W → Calls Tryd.prog 20 #[v1, v2] W (PresOutE r 0 W)
abbrev BothTo (l m r : List PT) : Prop := ∀ (W : World) (v1 v2 : Value), RowP W v1 l → RowP W v2 m → FamAt W → Calls Tryd.prog 21 #[v1, v2] W (PresOutE r 0 W)
abbrev MergeTo (l r : List PT) : Prop := ∀ (W : World) (v1 : Value), RowP W v1 l → FamAt W → Calls Tryd.prog 15 #[v1] W (PresOutE r 0 W)
theorem minusTo {l m : List PT} (hl : Four l) (hm : Four m) (n1 : l.length ≤ 80) (n2 : m.length ≤ 80) {S : Nat → Prop} (h : ∀ a, inB 0 (wideN false) a → (tS l a ∧ ¬ tS m a ↔ S a)) : MinusTo l m (cn false S (wideN false) 0) := by
  intro W v1 v2 r1 r2 f
  obtain ⟨z0, z1⟩ := ans_one (c := fun a b => a && !b) hl hm n1 n2 rfl (S := S) (fun a ha => chS_minus.trans (h a ha))
  have := minus_calls l m v1 v2 (by omega) (by omega) hl.words hm.words W r1 r2 f
  rw [z0, z1] at this
  exact this
theorem bothTo {l m : List PT} (hl : Four l) (hm : Four m) (n1 : l.length ≤ 80) (n2 : m.length ≤ 80) {S : Nat → Prop} (h : ∀ a, inB 0 (wideN false) a → (tS l a ∧ tS m a ↔ S a)) : BothTo l m (cn false S (wideN false) 0) := by
  intro W v1 v2 r1 r2 f
  obtain ⟨z0, z1⟩ := ans_one (c := fun a b => a && b) hl hm n1 n2 rfl (S := S) (fun a ha => chS_both.trans (h a ha))
  have := bothL_calls l m v1 v2 (by omega) (by omega) hl.words hm.words W r1 r2 f
  rw [z0, z1] at this
  exact this
theorem four_nil : Four [] := ⟨fun p hp => (by cases hp), fun p hp => (by cases hp)⟩
theorem mergeTo {l : List PT} (hl : Four l) (n1 : l.length ≤ 80) {S : Nat → Prop} (h : ∀ a, inB 0 (wideN false) a → (tS l a ↔ S a)) : MergeTo l (cn false S (wideN false) 0) := by
  intro W v1 r1 f
  obtain ⟨z0, z1⟩ := ans_one (c := fun a _ => a) hl four_nil n1 (by simp) rfl (S := S) (fun a ha => chS_merge.trans (h a ha))
  have := merge_calls l v1 (by omega) hl.words W r1 f
  rw [z0, z1] at this
  exact this
theorem fb_four_al {l : List PT} (h : Four l) : AllAL false (fb false l) := fb_al false h.1
theorem four_both_len {l m : List PT} (hl : Four l) (hm : Four m) : (cn false (fun a => tS l a ∧ tS m a) (wideN false) 0).length ≤ l.length + m.length := by
  unfold cn
  rw [List.length_map]
  have := canon_both_len (fb_four_al hl) (fb_four_al hm) (AL.top false)
  have := fb_len false l
  have := fb_len false m
  have e : canon (fun a => tS l a ∧ tS m a) (wideN false) 0 = canon (fun a => inS (fb false l) a ∧ inS (fb false m) a) (wideN false) 0 := rfl
  rw [e]; omega
theorem four_minus_len {l m : List PT} (hl : Four l) (hm : Four m) (n1 : l.length ≤ 80) (n2 : m.length ≤ 80) : (cn false (fun a => tS l a ∧ ¬ tS m a) (wideN false) 0).length ≤ 1000000000 := by
  have e : cn false (fun a => tS l a ∧ ¬ tS m a) (wideN false) 0 = cn false (chS (fun a b => a && !b) (fb false l) (fb false m)) (wideN false) 0 := cn_ext fun a _ => chS_minus.symm
  rw [e]
  have := cn_len' (fb_four_al hl) (fb_four_al hm) (c := fun a b => a && !b) (AL.top false)
  have := fb_len false l
  have := fb_len false m
  omega
theorem mm_math (A B C : List PT) (hA : Made 12 A) (hB : Made 12 B) (hC : Made 12 C) : ∃ X Y BO U V : List PT,
    X.length ≤ 1000000000 ∧ Y.length ≤ 1000000000 ∧ BO.length ≤ 80 ∧ U.length ≤ 1000000000 ∧ V.length ≤ 1000000000 ∧ MinusTo A B X ∧ (X.length ≤ 80 → MinusTo X C Y) ∧ MinusTo A (B ++ C) Y ∧ BothTo B C BO ∧ MinusTo A BO U ∧ MinusTo A C V ∧ (V.length + X.length ≤ 80 → MergeTo (V ++ X) U) := by
  have fA : Four A := ⟨hA.1, hA.2.1⟩
  have fB : Four B := ⟨hB.1, hB.2.1⟩
  have fC : Four C := ⟨hC.1, hC.2.1⟩
  have nA := hA.2.2
  have nB := hB.2.2
  have nC := hC.2.2
  have nBC : (B ++ C).length ≤ 80 := by rw [List.length_append]; omega
  have nBO := four_both_len fB fC
  have eY : cn false (fun a => tS A a ∧ ¬ tS (B ++ C) a) (wideN false) 0 = cn false (fun a => tS A a ∧ ¬ tS B a ∧ ¬ tS C a) (wideN false) 0 := cn_ext fun a _ => by rw [tS_app, not_or]
  have nY := four_minus_len fA (fB.app fC) (by omega) nBC
  rw [eY] at nY
  have eU : cn false (fun a => tS A a ∧ ¬ tS (cn false (fun a => tS B a ∧ tS C a) (wideN false) 0) a) (wideN false) 0 = cn false (fun a => tS A a ∧ ¬ (tS B a ∧ tS C a)) (wideN false) 0 := cn_ext fun a ha => by rw [tS_cn]; exact ⟨fun h => ⟨h.1, fun k => h.2 ⟨ha, k⟩⟩, fun h => ⟨h.1, fun k => h.2 k.2⟩⟩
  have nU := four_minus_len fA (Four.cn (S := fun a => tS B a ∧ tS C a)) (by omega) (by omega)
  rw [eU] at nU
  refine ⟨cn false (fun a => tS A a ∧ ¬ tS B a) (wideN false) 0, cn false (fun a => tS A a ∧ ¬ tS B a ∧ ¬ tS C a) (wideN false) 0, cn false (fun a => tS B a ∧ tS C a) (wideN false) 0, cn false (fun a => tS A a ∧ ¬ (tS B a ∧ tS C a)) (wideN false) 0, cn false (fun a => tS A a ∧ ¬ tS C a) (wideN false) 0,
    four_minus_len fA fB (by omega) (by omega), nY, by omega, nU, four_minus_len fA fC (by omega) (by omega), ?_, fun hx => ?_, ?_, ?_, ?_, ?_, fun hv => ?_⟩
  · exact minusTo fA fB (by omega) (by omega) fun a _ => Iff.rfl
  · exact minusTo Four.cn fC hx (by omega) fun a ha => by rw [tS_cn]; exact ⟨fun h => ⟨h.1.2.1, h.1.2.2, h.2⟩, fun h => ⟨⟨ha, h.1, h.2.1⟩, h.2.2⟩⟩
  · exact minusTo fA (fB.app fC) (by omega) nBC fun a _ => by rw [tS_app, not_or]
  · exact bothTo fB fC (by omega) (by omega) fun a _ => Iff.rfl
  · exact minusTo fA Four.cn (by omega) (by omega) fun a ha => by rw [tS_cn]; exact ⟨fun h => ⟨h.1, fun k => h.2 ⟨ha, k⟩⟩, fun h => ⟨h.1, fun k => h.2 k.2⟩⟩
  · exact minusTo fA fC (by omega) (by omega) fun a _ => Iff.rfl
  · refine mergeTo (Four.cn.app Four.cn) (by rw [List.length_append]; exact hv) fun a ha => ?_
    rw [tS_app, tS_cn, tS_cn]
    constructor
    · rintro (h | h)
      · exact ⟨h.2.1, fun k => h.2.2 k.2⟩
      · exact ⟨h.2.1, fun k => h.2.2 k.1⟩
    · rintro ⟨h, k⟩
      by_cases c : tS C a
      · exact .inr ⟨ha, h, fun b => k ⟨b, c⟩⟩
      · exact .inl ⟨ha, h, c⟩
end Go.Proofs.YtnpcofaonimpcaaDoor
/-
  whipcordkeep.MinusMinus: taken away one by one, or all at once.
-/
namespace Go.Proofs.YtnpcofaonimpcaaDoor
open Go.RowKit
set_option linter.unusedVariables false
set_option linter.unusedSimpArgs false

/-- A list that a call has made, and that lies there. -/
def Has (w : World) (v : Value) (l : List PT) : Prop := ∃ base, Owned w base v l
theorem Has.keep {w w' : World} {v : Value} {l : List PT} (h : Has w v l) (hb : Below w.heap.size w w') : Has w' v l := h.imp fun _ o => ownsKeep o hb
theorem Has.row {w : World} {v : Value} {l : List PT} (h : Has w v l) : RowP w v l := let ⟨_, o⟩ := h; RowP.owned o
theorem copied' (l : List PT) (v : Value) (hlen : l.length ≤ 1000000000) (w : World) (h : Has w v l) : Calls Tryd.prog 16 #[v] w (PresOut l w) := let ⟨b, o⟩ := h; copied_calls l v b hlen w o
theorem same' (v1 v2 : Value) (l : List PT) (hlen : l.length ≤ 1000000000) (w : World) (h1 : Has w v1 l) (h2 : Has w v2 l) : Calls Tryd.prog 19 #[v1, v2] w fun e w' => e = .returned (.bool true) ∧ Below w.heap.size w w' :=
  let ⟨b1, o1⟩ := h1; let ⟨b2, o2⟩ := h2; keepSame_calls b1 b2 v1 v2 l hlen w o1 o2
end Go.Proofs.YtnpcofaonimpcaaDoor
/-
  pre.Has of a block; whipcordkeep.anyHas.
-/
namespace Go.Proofs.YtnpcofaonimpcaaDoor
open Go.RowKit
set_option linter.unusedVariables false
set_option linter.unusedSimpArgs false

theorem low_in {six : Bool} {x k a : Nat} (h : AL six x k) : lowN a k = x ↔ inB x k a := by
  obtain ⟨c, hc⟩ := h.2.2
  have e1 := Nat.div_add_mod' a (2 ^ k)
  have e2 := Nat.mod_lt a (Nat.two_pow_pos k)
  unfold lowN inB
  constructor
  · intro e
    rw [e] at e1
    generalize a % 2 ^ k = B at e1 e2
    generalize 2 ^ k = C at e2 ⊢
    omega
  · rintro ⟨h1, h2⟩
    rw [hc] at h1 h2 ⊢
    rw [Nat.div_eq_of_lt_le (k := c) h1 (by rw [Nat.add_mul]; omega)]
theorem has_al {six : Bool} {x k a : Nat} (h : AL six x k) (ha : a < 2 ^ wideN six) (b : Bool) (hb : b = true ↔ inB x k a) (w : World) :
    Calls Tryd.prog 34 #[.agg #[.bool six, .int .u64 (aH x), .int .u64 (aL x), .int .i64 ((wideN six - k : Nat) : Int)], .agg #[.bool six, .int .u64 (aH a), .int .u64 (aL a)]] w fun e w' => e = .returned (.tuple #[.bool b, .int .i64 0]) ∧ Below w.heap.size w w' := by
  refine has_ok six x a (wideN six - k) (lowN a k) b h.lt128 (lt128 ha) h.chk (Nat.sub_le _ _) ha (by rw [show wideN six - (wideN six - k) = k by have := h.1; omega]) ?_ w
  have := (low_in (a := a) h).trans hb.symm
  cases b
  · exact decide_eq_false fun e => by have := this.1 e; cases this
  · exact decide_eq_true (this.2 rfl)
/-- Does one of the first j have the address? -/
def hasTo (l : List PT) (a j : Nat) : Prop := ∃ p ∈ l.take j, inB p.2.1 (wideN false - p.2.2.toNat) a
theorem tS_mem {l : List PT} (h : Four l) (a : Nat) : tS l a ↔ ∃ p ∈ l, inB p.2.1 (wideN false - p.2.2.toNat) a := by
  unfold tS inS fb
  constructor
  · rintro ⟨q, hq, hi⟩
    obtain ⟨p, hp, rfl⟩ := List.mem_map.1 hq
    exact ⟨p, (List.mem_filter.1 hp).1, hi⟩
  · rintro ⟨p, hp, hi⟩
    exact ⟨_, List.mem_map.2 ⟨p, List.mem_filter.2 ⟨hp, by simp [h.2 p hp]⟩, rfl⟩, hi⟩
set_option maxHeartbeats 4000000 in
set_option maxRecDepth 100000 in
theorem anyHas_calls (l : List PT) (hl : Four l) (hlen : l.length ≤ 1000000000) (a : Nat) (ha : a < 2 ^ wideN false) (b : Bool) (hb : b = true ↔ tS l a) (v : Value) (w : World) (hr : RowP w v l) :
    Calls Tryd.prog 18 #[v, .agg #[.bool false, .int .u64 (aH a), .int .u64 (aL a)]] w fun e w' => e = .returned (.bool b) ∧ Below w.heap.size w w' := by
  rw [tS_mem hl] at hb
  obtain ⟨p, c, rfl, hc⟩ := hr.at
  have HC := Lib.hid hc
  have HL := Lib.hid hl
  have HB := Lib.hid hb
  have HA := Lib.hid ha
  have B1 : Below w.heap.size w (w.alloc (.cells #[.bool false, .int .u64 (aH a), .int .u64 (aL a)] 25)) := (Below.refl _ w).alloc (Nat.le_refl _) _
  have GA := Lib.hid (AddrAt.new w false (aH a) (aL a) 25)
  clear hc hr hl hb ha
  go_enter Tryd.func18, Tryd.ntmps18
  go_wp2
  revert GA B1
  generalize w.alloc (.cells #[.bool false, .int .u64 (aH a), .int .u64 (aL a)] 25) = w1
  intro B1 GA
  go_loopw [5] (fun i wr => ∃ j : Nat, j ≤ l.length ∧ i = .int .i64 j ∧ Below w1.heap.size w1 wr ∧ Hid (¬ hasTo l a j)) (fun i _ => l.length - (intOf i).toNat)
  case atStart => exact ⟨0, Nat.zero_le _, rfl, Below.refl _ _, Lib.hid (by rintro ⟨p, hp, _⟩; simp at hp)⟩
  case round =>
    obtain ⟨j, hj, rfl, hnx, hno⟩ := hrel
    have hsz := hnx.size
    by_cases hlt : j < l.length
    · obtain ⟨g, o, rfl, hg, hP⟩ := HC.out j hlt
      have FP := (hP.keep hg B1).keep (Nat.lt_of_lt_of_le hg B1.size) hnx
      have hgs : g < wr.heap.size := Nat.lt_of_lt_of_le (Nat.lt_of_lt_of_le hg B1.size) hsz
      have T1 : Hid (inB l[j].2.1 (wideN false - l[j].2.2.toNat) a → b = true) := Lib.hid fun h => HB.out.2 ⟨_, List.getElem_mem hlt, h⟩
      have T2 : Hid (¬ inB l[j].2.1 (wideN false - l[j].2.2.toNat) a → ¬ hasTo l a (j + 1)) := Lib.hid fun h => by
        rintro ⟨p, hp, hi⟩
        rw [List.take_succ_eq_append_getElem hlt] at hp
        rcases List.mem_append.1 hp with d | d
        · exact hno.out ⟨p, d, hi⟩
        · rw [List.mem_singleton] at d; subst d; exact h hi
      obtain ⟨k, hA, hn, hk⟩ := chk_al (HL.out.1 _ (List.getElem_mem hlt))
      have hs := HL.out.2 _ (List.getElem_mem hlt)
      generalize l[j] = q at FP T1 T2 hA hn hk hs
      obtain ⟨s, x, n⟩ := q
      simp only at FP T1 T2 hA hn hk hs
      subst hs
      rw [← hk] at T1 T2
      subst hn
      clear hk hno hP hg
      have FA := GA.out.keep hnx
      have HFP := Lib.hid FP
      have HFA := Lib.hid FA
      obtain ⟨x0, x1, x2, x3⟩ := FP
      obtain ⟨a0, a1, a2, al⟩ := FA
      simp only at x0 x1 x2 x3
      by_cases hin : inB x k a
      · obtain rfl : b = true := T1.out hin
        have HS := Lib.hid (has_al hA HA.out true ⟨fun _ => hin, fun _ => rfl⟩)
        clear hin T1 T2
        go_wp2_with fail
        go_region_held3 (fun w' => w'.cell? ⟨g, o + j * 4, none⟩ = some (.bool false) ∧ w'.cell? ⟨g, o + j * 4 + 1, none⟩ = some (.int .u64 (aH x)) ∧ w'.cell? ⟨g, o + j * 4 + 2, none⟩ = some (.int .u64 (aL x)) ∧ w'.cell? ⟨g, o + j * 4 + 3, none⟩ = some (.int .i64 ((wideN false - k : Nat) : Int)) ∧ w'.cell? ⟨w.heap.size, 0, none⟩ = some (.bool false) ∧ w'.cell? ⟨w.heap.size, 1, none⟩ = some (.int .u64 (aH a)) ∧ w'.cell? ⟨w.heap.size, 2, none⟩ = some (.int .u64 (aL a)))
          (first
            | (simp [go_sem, x0, x1, x2, x3, a0, a1, a2]; done)
            | (simp [go_sem, y0, y1, y2, y3, c0, c1, c2]; done)
            | fail)
          (first
            | (go_at_call 34; refine (HS.out _).mono ?_; rintro e w2 ⟨rfl, hb2⟩; have bw2 := thenBelow (Below.refl _ wr).drew hb2; obtain ⟨y0, y1, y2, y3⟩ := HFP.out.keep hgs bw2; obtain ⟨c0, c1, c2, _⟩ := addrCells (HFA.out.keep bw2); simp only at y0 y1 y2 y3)
            | fail)
        have b2 := thenBelow (thenBelow B1 hnx) bw2
        go_wp2
        go_ret
        exact ⟨rfl, b2⟩
      · have T2' := T2.out hin
        have HS := Lib.hid (has_al hA HA.out false ⟨fun h => (by cases h), fun h => absurd h hin⟩)
        clear hin T1 T2
        go_wp2_with fail
        go_region_held3 (fun w' => w'.cell? ⟨g, o + j * 4, none⟩ = some (.bool false) ∧ w'.cell? ⟨g, o + j * 4 + 1, none⟩ = some (.int .u64 (aH x)) ∧ w'.cell? ⟨g, o + j * 4 + 2, none⟩ = some (.int .u64 (aL x)) ∧ w'.cell? ⟨g, o + j * 4 + 3, none⟩ = some (.int .i64 ((wideN false - k : Nat) : Int)) ∧ w'.cell? ⟨w.heap.size, 0, none⟩ = some (.bool false) ∧ w'.cell? ⟨w.heap.size, 1, none⟩ = some (.int .u64 (aH a)) ∧ w'.cell? ⟨w.heap.size, 2, none⟩ = some (.int .u64 (aL a)))
          (first
            | (simp [go_sem, x0, x1, x2, x3, a0, a1, a2]; done)
            | (simp [go_sem, y0, y1, y2, y3, c0, c1, c2]; done)
            | fail)
          (first
            | (go_at_call 34; refine (HS.out _).mono ?_; rintro e w2 ⟨rfl, hb2⟩; have bw2 := thenBelow (Below.refl _ wr).drew hb2; obtain ⟨y0, y1, y2, y3⟩ := HFP.out.keep hgs bw2; obtain ⟨c0, c1, c2, _⟩ := addrCells (HFA.out.keep bw2); simp only at y0 y1 y2 y3)
            | fail)
        have b2 := thenBelow hnx bw2
        go_wp2
        go_roundw
        case rel => exact ⟨j + 1, by omega, by go_num, b2, Lib.hid T2'⟩
        case measure => simp [intOf]; omega
    · obtain rfl : j = l.length := by omega
      obtain rfl : b = false := by
        cases b with
        | false => rfl
        | true =>
          obtain ⟨p, hp, hi⟩ := HB.out.1 rfl
          exact absurd ⟨p, by rw [List.take_length]; exact hp, hi⟩ hno.out
      go_wp2
      go_ret
      exact ⟨rfl, thenBelow B1 hnx⟩
/-- The address that Near makes. -/
theorem near_calls (n : Int) (n0 : -9223372036854775808 ≤ n) (n1 : n ≤ 9223372036854775807) (a : Nat) (ha : (a : Int) = 167772152 + n % 540) (w : World) :
    Calls Tryd.prog 17 #[.int .i64 n] w fun e w' => e = .returned (.agg #[.bool false, .int .u64 (aH a), .int .u64 (aL a)]) ∧ Below w.heap.size w w' := by
  have k0 : 0 ≤ n % 540 := Int.emod_nonneg _ (by decide)
  have k1 : n % 540 < 540 := Int.emod_lt_of_pos _ (by decide)
  have e1 : aH a = 0 := by unfold aH; omega
  have e2 : aL a = 167772152 + n % 540 := by unfold aL; omega
  rw [e1, e2]
  have PK := Lib.hid (fun W : World => picked_calls n 540 (by decide) (by decide) n0 n1 W)
  obtain ⟨m, hm⟩ : ∃ m, n % 540 = m := ⟨_, rfl⟩
  rw [hm] at k0 k1 PK ⊢
  clear hm e1 e2 ha
  go_enter Tryd.func17, Tryd.ntmps17
  go_wp2_with fail
  refine (PK.out _).mono ?_
  rintro e w' ⟨rfl, rfl⟩
  go_wp2
  go_returns
  exact ⟨by simp, by go_grown⟩
end Go.Proofs.YtnpcofaonimpcaaDoor
