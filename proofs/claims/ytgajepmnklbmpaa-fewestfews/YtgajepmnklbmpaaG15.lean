/-
  Laid together: CidrB, Sets, AlPlain.
-/
import Derived.Test.YtgajepmnklbmpaaCidrA
import Derived.Test.YtgajepmnklbmpaaCanon
import Derived.Test.YtgajepmnklbmpaaG5
import Derived.Test.YtgajepmnklbmpaaG4
/-
  Blocks of addresses as prefixes in memory; pre.Span and pre.Halves of a block.
-/
namespace Go.Proofs.Ytgajepmnklbmpaa
open Go.RowKit
set_option linter.unusedVariables false
set_option linter.unusedSimpArgs false

/-- The addresses from x on, 2^k of them, are a block of this family. -/
def AL (six : Bool) (x k : Nat) : Prop := k ≤ wideN six ∧ x + 2 ^ k ≤ 2 ^ wideN six ∧ ∃ c, x = c * 2 ^ k
theorem AL.top (six : Bool) : AL six 0 (wideN six) := ⟨Nat.le_refl _, by omega, 0, by simp⟩
theorem AL.low {six : Bool} {x k : Nat} (h : AL six x (k + 1)) : AL six x k := by
  obtain ⟨a, b, c, d⟩ := h
  have := pow_one k
  rw [pow_up] at b d
  exact ⟨by omega, by omega, c * 2, by rw [d, Nat.mul_add, Nat.mul_assoc, Nat.two_mul, Nat.mul_add]⟩
theorem AL.high {six : Bool} {x k : Nat} (h : AL six x (k + 1)) : AL six (x + 2 ^ k) k := by
  obtain ⟨a, b, c, d⟩ := h
  rw [pow_up] at b d
  refine ⟨by omega, by omega, c * 2 + 1, ?_⟩
  rw [d, Nat.add_mul, Nat.one_mul, Nat.mul_add, Nat.mul_assoc, Nat.two_mul, Nat.mul_add]
theorem AL.lt {six : Bool} {x k : Nat} (h : AL six x k) : x < 2 ^ wideN six := by have := pow_one k; have := h.2.1; omega
theorem AL.lt128 {six : Bool} {x k : Nat} (h : AL six x k) : x < 2 ^ 128 := Ytgajepmnklbmpaa.lt128 h.lt
theorem low_mul (c k : Nat) : lowN (c * 2 ^ k) k = c * 2 ^ k := by unfold lowN; rw [Nat.mul_div_cancel _ (Nat.two_pow_pos k)]
theorem AL.lowN {six : Bool} {x k : Nat} (h : AL six x k) : lowN x k = x := by obtain ⟨c, d⟩ := h.2.2; rw [d, low_mul]
theorem AL.topN {six : Bool} {x k : Nat} (h : AL six x k) : topN x k = x + (2 ^ k - 1) := by rw [topN_low, h.lowN]
theorem AL.chk {six : Bool} {x k : Nat} (h : AL six x k) : chkE six x ((wideN six - k : Nat) : Int) = 0 :=
  chk_mk six x _ h.lt (Nat.sub_le _ _) (by rw [show wideN six - (wideN six - k) = k by have := h.1; omega]; exact h.lowN)
theorem AL.halfTop {six : Bool} {x k : Nat} (h : AL six x (k + 1)) : Go.Proofs.Ytgajepmnklbmpaa.lowN (x + (2 ^ (k + 1) - 1)) k = x + 2 ^ k := by
  obtain ⟨c, d⟩ := h.high.2.2
  have h1 := pow_one k
  unfold Go.Proofs.Ytgajepmnklbmpaa.lowN
  have e : x + (2 ^ (k + 1) - 1) = 2 ^ k * c + (2 ^ k - 1) := by rw [pow_up, Nat.mul_comm, ← d]; omega
  rw [e, Nat.mul_add_div (Nat.two_pow_pos k), Nat.div_eq_of_lt (by omega), Nat.add_zero, d]

theorem halves_al {six : Bool} {x k : Nat} (h : AL six x (k + 1)) (w : World) :
    Calls Try.prog 46 #[.agg #[.bool six, .int .u64 (aH x), .int .u64 (aL x), .int .i64 ((wideN six - (k + 1) : Nat) : Int)]] w fun e w' => e = .returned (.tuple #[.agg #[.bool six, .int .u64 (aH x), .int .u64 (aL x), .int .i64 ((wideN six - k : Nat) : Int)], .agg #[.bool six, .int .u64 (aH (x + 2 ^ k)), .int .u64 (aL (x + 2 ^ k)), .int .i64 ((wideN six - k : Nat) : Int)], .int .i64 0]) ∧ Below w.heap.size w w' := by
  have hk := h.1
  have c := halves_ok six x (wideN six - (k + 1)) (by omega) h.lt128 h.chk w
  rw [show wideN six - (wideN six - (k + 1) + 1) = k by omega, show wideN six - (wideN six - (k + 1)) = k + 1 by omega, h.topN, h.halfTop, h.low.lowN, show ((wideN six - (k + 1) : Nat) : Int) + 1 = ((wideN six - k : Nat) : Int) by omega] at c
  exact c

/-- A prefix as it lies in a slice: family, address, Len. -/
abbrev PT := Bool × Nat × Int
def pcs (p : PT) : List Value := [.bool p.1, .int .u64 (aH p.2.1), .int .u64 (aL p.2.1), .int .i64 p.2.2]
def pRow (l : List PT) : List Value := l.flatMap pcs
theorem pRow_len (l : List PT) : (pRow l).length = l.length * 4 := by
  unfold pRow
  induction l with
  | nil => rfl
  | cons a l ih => rw [List.flatMap_cons, List.length_append, ih, List.length_cons]; simp [pcs]; omega
theorem pRow_app (l m : List PT) : pRow (l ++ m) = pRow l ++ pRow m := by unfold pRow; exact List.flatMap_append
theorem pRow_one (l : List PT) : ∀ u ∈ pRow l, u.oneCell' = true := by
  intro u hu
  unfold pRow at hu
  obtain ⟨p, _, h⟩ := List.mem_flatMap.1 hu
  simp only [pcs, List.mem_cons, List.not_mem_nil, or_false] at h
  rcases h with h | h | h | h <;> subst h <;> rfl
/-- A slice of prefixes that a call has made, its blocks from 'base' on. -/
abbrev Owned (w : World) (base : Nat) (v : Value) (l : List PT) : Prop := w.ownsRow base 63 4 v l.length (pRow l)
theorem owned_nil (w : World) (base : Nat) : Owned w base (.slice none 0 0) [] := World.ownsRow_nil _ _ _ _
theorem owned_one (w : World) (base : Nat) (hb : base ≤ w.heap.size) (s : Bool) (x : Nat) (n : Int) :
    Owned (w.alloc (.cells #[.bool s, .int .u64 (aH x), .int .u64 (aL x), .int .i64 n] 63)) base (.slice (some ⟨w.heap.size, 0, none⟩) 1 1) [(s, x, n)] :=
  ⟨rfl, .inr ⟨w.heap.size, 1, #[.bool s, .int .u64 (aH x), .int .u64 (aL x), .int .i64 n], rfl, hb, heap_alloc_new w _, Nat.le_refl _, by unfold maxLen; omega, rfl, rfl⟩⟩
theorem preCells {w : World} {b : Nat} {s : Bool} {h l n : Int} (a : PreAt w b s h l n) : w.cell? ⟨b, 0, none⟩ = some (.bool s) ∧ w.cell? ⟨b, 1, none⟩ = some (.int .u64 h) ∧ w.cell? ⟨b, 2, none⟩ = some (.int .u64 l) ∧ w.cell? ⟨b, 3, none⟩ = some (.int .i64 n) ∧ b < w.heap.size := a
theorem addrCells {w : World} {b : Nat} {s : Bool} {h l : Int} (a : AddrAt w b s h l) : w.cell? ⟨b, 0, none⟩ = some (.bool s) ∧ w.cell? ⟨b, 1, none⟩ = some (.int .u64 h) ∧ w.cell? ⟨b, 2, none⟩ = some (.int .u64 l) ∧ b < w.heap.size := a
theorem info_pre : (Try.prog.info? 63).map (fun i => (i.zero, i.size, i.bytes)) = some (some (.agg #[.bool false, .int .u64 0, .int .u64 0, .int .i64 0]), 4, 32) := by kernel_rfl
/-- What a call that hands back a list of prefixes says. -/
abbrev PresOut (l : List PT) (w : World) (e : Ending) (w' : World) : Prop := ∃ v, e = .returned v ∧ Owned w' w.heap.size v l ∧ Below w.heap.size w w'
/-- What a call that hands back a list of prefixes and an error says. -/
abbrev PresOutE (l : List PT) (E : Int) (w : World) (e : Ending) (w' : World) : Prop := ∃ v, e = .returned (.tuple #[v, .int .i64 E]) ∧ Owned w' w.heap.size v l ∧ Below w.heap.size w w'
def bl (six : Bool) (p : Nat × Nat) : PT := (six, p.1, ((wideN six - p.2 : Nat) : Int))
/-- The smallest list of prefixes of one family for the addresses of S in the block (x, k). -/
noncomputable def cn (six : Bool) (S : Nat → Prop) (k x : Nat) : List PT := (canon S k x).map (bl six)
theorem cn_all {six : Bool} {S : Nat → Prop} {k x : Nat} (h : ∀ a, inB x k a → S a) : cn six S k x = [(six, x, ((wideN six - k : Nat) : Int))] := by unfold cn; rw [canon_all h]; rfl
theorem cn_none {six : Bool} {S : Nat → Prop} {k x : Nat} (h : ∀ a, inB x k a → ¬ S a) : cn six S k x = [] := by unfold cn; rw [canon_none h]; rfl
theorem cn_half {six : Bool} {S : Nat → Prop} {k x : Nat} (h : ¬ ∀ a, inB x (k + 1) a → S a) : cn six S (k + 1) x = cn six S k x ++ cn six S k (x + 2 ^ k) := by unfold cn; rw [canon_half h, List.map_append]
end Go.Proofs.Ytgajepmnklbmpaa
/-
  Lists of blocks as sets of addresses: what 'within' leaves of a list, and what the recursion over halves answers. Of the program's text nothing is said here.
-/
namespace Go.Proofs.Ytgajepmnklbmpaa
set_option linter.unusedVariables false
set_option linter.unusedSimpArgs false

/-- The block (x, k) has all of the block (y, j). -/
def cov (x k y j : Nat) : Bool := decide (x ≤ y ∧ y + 2 ^ j ≤ x + 2 ^ k)
theorem cov_iff {x k y j : Nat} : cov x k y j = true ↔ x ≤ y ∧ y + 2 ^ j ≤ x + 2 ^ k := by unfold cov; exact decide_eq_true_iff
theorem cov_self (x k : Nat) : cov x k x k = true := cov_iff.2 ⟨Nat.le_refl _, Nat.le_refl _⟩
theorem cov_in {x k y j a : Nat} (h : cov x k y j = true) (ha : inB y j a) : inB x k a := by
  have := cov_iff.1 h; unfold inB at *; omega
/-- Blocks of one family: the one has the other one, or they have nothing of each other. -/
theorem al_three {six : Bool} {x k y j a : Nat} (hx : AL six x k) (hy : AL six y j) (h1 : inB x k a) (h2 : inB y j a) : cov x k y j = true ∨ cov y j x k = true := by
  obtain ⟨_, _, c, rfl⟩ := hx
  obtain ⟨_, _, d, rfl⟩ := hy
  unfold inB at h1 h2
  rcases Nat.le_total j k with hjk | hjk
  · refine .inl (cov_iff.2 ?_)
    obtain ⟨e, he⟩ : ∃ e, 2 ^ k = e * 2 ^ j := ⟨2 ^ (k - j), by rw [← Nat.pow_add]; congr 1; omega⟩
    have hp := pow_one j
    have e1 : c * 2 ^ k = c * e * 2 ^ j := by rw [he, Nat.mul_assoc]
    have e2 : c * 2 ^ k + 2 ^ k = (c * e + e) * 2 ^ j := by rw [Nat.add_mul, ← e1, ← he]
    have l1 : c * e < d + 1 := by
      have : c * e * 2 ^ j < (d + 1) * 2 ^ j := by rw [← e1, Nat.add_mul]; omega
      exact Nat.lt_of_mul_lt_mul_right this
    have l2 : d < c * e + e := by
      have : d * 2 ^ j < (c * e + e) * 2 ^ j := by rw [← e2]; omega
      exact Nat.lt_of_mul_lt_mul_right this
    constructor
    · rw [e1]; exact Nat.mul_le_mul_right _ (by omega)
    · rw [e2, show d * 2 ^ j + 2 ^ j = (d + 1) * 2 ^ j by rw [Nat.add_mul]; omega]; exact Nat.mul_le_mul_right _ (by omega)
  · refine .inr (cov_iff.2 ?_)
    obtain ⟨e, he⟩ : ∃ e, 2 ^ j = e * 2 ^ k := ⟨2 ^ (j - k), by rw [← Nat.pow_add]; congr 1; omega⟩
    have hp := pow_one k
    have e1 : d * 2 ^ j = d * e * 2 ^ k := by rw [he, Nat.mul_assoc]
    have e2 : d * 2 ^ j + 2 ^ j = (d * e + e) * 2 ^ k := by rw [Nat.add_mul, ← e1, ← he]
    have l1 : d * e < c + 1 := by
      have : d * e * 2 ^ k < (c + 1) * 2 ^ k := by rw [← e1, Nat.add_mul]; omega
      exact Nat.lt_of_mul_lt_mul_right this
    have l2 : c < d * e + e := by
      have : c * 2 ^ k < (d * e + e) * 2 ^ k := by rw [← e2]; omega
      exact Nat.lt_of_mul_lt_mul_right this
    constructor
    · rw [e1]; exact Nat.mul_le_mul_right _ (by omega)
    · rw [e2, show c * 2 ^ k + 2 ^ k = (c + 1) * 2 ^ k by rw [Nat.add_mul]; omega]; exact Nat.mul_le_mul_right _ (by omega)

abbrev BL := List (Nat × Nat)
/-- All are blocks of this family. -/
def AllAL (six : Bool) (l : BL) : Prop := ∀ q ∈ l, AL six q.1 q.2
/-- An address of one of them. -/
def inS (l : BL) (a : Nat) : Prop := ∃ q ∈ l, inB q.1 q.2 a
/-- Is one of them above the block? -/
def abv (x k : Nat) (l : BL) : Bool := l.any fun q => cov q.1 q.2 x k
/-- Those that lie in the block. -/
def blw (x k : Nat) (l : BL) : BL := l.filter fun q => cov x k q.1 q.2
/-- What the code's 'within' leaves. -/
def wth (x k : Nat) (l : BL) : BL := if abv x k l then [(x, k)] else blw x k l
theorem wth_al {six : Bool} {x k : Nat} {l : BL} (hx : AL six x k) (hl : AllAL six l) : AllAL six (wth x k l) := by
  intro q hq
  unfold wth at hq
  split at hq
  · rw [List.mem_singleton] at hq; subst hq; exact hx
  · exact hl q (List.mem_filter.1 hq).1
theorem wth_len (x k : Nat) (l : BL) : (wth x k l).length ≤ l.length := by
  unfold wth
  split
  · rename_i h
    obtain ⟨q, hq, _⟩ := List.any_eq_true.1 h
    have := List.length_pos_of_mem hq
    simp; omega
  · exact List.length_filter_le _ _
theorem abv_all {x k : Nat} {l : BL} (h : abv x k l = true) : ∀ a, inB x k a → inS l a := by
  intro a ha
  obtain ⟨q, hq, hc⟩ := List.any_eq_true.1 h
  exact ⟨q, hq, cov_in hc ha⟩
theorem blw_in {six : Bool} {x k : Nat} {l : BL} (hx : AL six x k) (hl : AllAL six l) (h : abv x k l = false) {a : Nat} (ha : inB x k a) : inS (blw x k l) a ↔ inS l a := by
  constructor
  · rintro ⟨q, hq, hi⟩; exact ⟨q, (List.mem_filter.1 hq).1, hi⟩
  · rintro ⟨q, hq, hi⟩
    rcases al_three hx (hl q hq) ha hi with c | c
    · exact ⟨q, List.mem_filter.2 ⟨hq, c⟩, hi⟩
    · have := List.any_eq_false.1 h q hq
      exact absurd c this
theorem wth_in {six : Bool} {x k : Nat} {l : BL} (hx : AL six x k) (hl : AllAL six l) {a : Nat} (ha : inB x k a) : inS (wth x k l) a ↔ inS l a := by
  unfold wth
  split
  · rename_i h
    exact ⟨fun _ => abv_all h a ha, fun _ => ⟨(x, k), .head _, ha⟩⟩
  · rename_i h
    exact blw_in hx hl (by simpa using h) ha
/-- The code's 'uniform', on what 'within' left. -/
def unif (x k : Nat) (l : BL) : Bool := match l with
  | [] => true
  | q :: _ => decide (q = (x, k))
theorem unif_wth {six : Bool} {x k : Nat} {l : BL} (hx : AL six x k) (hl : AllAL six l) (h : unif x k (wth x k l) = true) : (wth x k l = [(x, k)] ∧ ∀ a, inB x k a → inS l a) ∨ (wth x k l = [] ∧ ∀ a, inB x k a → ¬ inS l a) := by
  by_cases ha : abv x k l = true
  · exact .inl ⟨by unfold wth; rw [if_pos ha], abv_all ha⟩
  · have ha' : abv x k l = false := by simpa using ha
    have e : wth x k l = blw x k l := by unfold wth; rw [if_neg ha]
    rw [e] at h ⊢
    cases hb : blw x k l with
    | nil =>
      refine .inr ⟨rfl, fun a hi hs => ?_⟩
      obtain ⟨q, hq, _⟩ := (blw_in hx hl ha' hi).2 hs
      rw [hb] at hq; cases hq
    | cons q t =>
      rw [hb] at h
      have hq : q = (x, k) := of_decide_eq_true h
      have hm : q ∈ blw x k l := by rw [hb]; exact .head _
      have := List.any_eq_false.1 ha' q (List.mem_filter.1 hm).1
      rw [hq] at this
      exact absurd (cov_self x k) this
theorem nonunif_pos {x k : Nat} {l : BL} (h : unif x k (wth x k l) = false) : ∃ j, k = j + 1 := by
  cases k with
  | succ j => exact ⟨j, rfl⟩
  | zero =>
    exfalso
    unfold wth at h
    split at h
    · simp [unif] at h
    · cases hb : blw x 0 l with
      | nil => rw [hb] at h; simp [unif] at h
      | cons q t =>
        rw [hb] at h
        have hm : q ∈ blw x 0 l := by rw [hb]; exact .head _
        have c := cov_iff.1 (List.mem_filter.1 hm).2
        have hq : q.2 = 0 := by
          rcases Nat.eq_zero_or_pos q.2 with e | e
          · exact e
          · have : 2 ^ 1 ≤ 2 ^ q.2 := Nat.pow_le_pow_right (by omega) e
            simp at c this; omega
        have hq1 : q.1 = x := by have := c.2; rw [hq] at this; simp at this c; omega
        have : q = (x, 0) := by cases q; simp at hq hq1; rw [hq, hq1]
        simp [unif, this] at h
open Classical in
/-- The addresses that are chosen. -/
noncomputable def chS (c : Bool → Bool → Bool) (l m : BL) (a : Nat) : Prop := c (decide (inS l a)) (decide (inS m a)) = true
theorem chS_ext {c : Bool → Bool → Bool} {l m l' m' : BL} {a : Nat} (h1 : inS l a ↔ inS l' a) (h2 : inS m a ↔ inS m' a) : chS c l m a ↔ chS c l' m' a := by
  unfold chS
  rw [show (inS l a) = (inS l' a) from propext h1, show (inS m a) = (inS m' a) from propext h2]
theorem cn_ext {six : Bool} {S T : Nat → Prop} {k x : Nat} (h : ∀ a, inB x k a → (S a ↔ T a)) : cn six S k x = cn six T k x := by unfold cn; rw [canon_ext h]
/-- Inside the block the lists may be cut by 'within'. -/
theorem cn_wth {six : Bool} {c : Bool → Bool → Bool} {x k y j : Nat} {l m : BL} (hx : AL six x k) (hl : AllAL six l) (hm : AllAL six m) (hy : ∀ a, inB y j a → inB x k a) : cn six (chS c (wth x k l) (wth x k m)) j y = cn six (chS c l m) j y :=
  cn_ext fun a ha => chS_ext (wth_in hx hl (hy a ha)) (wth_in hx hm (hy a ha))
/-- Both lists are uniform: all or nothing. -/
theorem cn_unif {six : Bool} {c : Bool → Bool → Bool} {x k : Nat} {l m : BL} (hx : AL six x k) (hl : AllAL six l) (hm : AllAL six m) (h1 : unif x k (wth x k l) = true) (h2 : unif x k (wth x k m) = true) :
    cn six (chS c l m) k x = if c (decide (0 < (wth x k l).length)) (decide (0 < (wth x k m).length)) then [(six, x, ((wideN six - k : Nat) : Int))] else [] := by
  have key : ∀ (n : BL), AllAL six n → unif x k (wth x k n) = true → ∀ a, inB x k a → (inS n a ↔ 0 < (wth x k n).length) := by
    intro n hn hu a ha
    rcases unif_wth hx hn hu with ⟨e, h⟩ | ⟨e, h⟩
    · rw [e]; exact ⟨fun _ => by simp, fun _ => h a ha⟩
    · rw [e]; exact ⟨fun hs => absurd hs (h a ha), fun h => by simp at h⟩
  have k1 := key l hl h1
  have k2 := key m hm h2
  have e : ∀ a, inB x k a → (chS c l m a ↔ c (decide (0 < (wth x k l).length)) (decide (0 < (wth x k m).length)) = true) := by
    intro a ha
    unfold chS
    rw [decide_eq_decide.2 (k1 a ha), decide_eq_decide.2 (k2 a ha)]
  split
  · rename_i h
    exact cn_all fun a ha => (e a ha).2 h
  · rename_i h
    exact cn_none fun a ha hs => h ((e a ha).1 hs)
theorem bl_inj {six : Bool} {p q : Nat × Nat} (hp : p.2 ≤ wideN six) (hq : q.2 ≤ wideN six) (h : bl six p = bl six q) : p = q := by
  unfold bl at h
  simp only [Prod.mk.injEq, true_and] at h
  cases p; cases q
  simp only [Prod.mk.injEq] at *
  omega
/-- Halves: their lists behind one another, or the whole where both halves are whole. -/
theorem cn_join {six : Bool} {S : Nat → Prop} {x k : Nat} (hx : AL six x (k + 1)) :
    cn six S (k + 1) x = if cn six S k x ++ cn six S k (x + 2 ^ k) = [(six, x, ((wideN six - k : Nat) : Int)), (six, x + 2 ^ k, ((wideN six - k : Nat) : Int))] then [(six, x, ((wideN six - (k + 1) : Nat) : Int))] else cn six S k x ++ cn six S k (x + 2 ^ k) := by
  by_cases h : ∀ a, inB x (k + 1) a → S a
  · rw [if_pos, cn_all h]
    rw [cn_all (fun a ha => h a (inB_low ha)), cn_all (fun a ha => h a (inB_high ha))]; rfl
  · rw [if_neg, cn_half h]
    intro e
    refine h (canon_join (k := k) (x := x) ?_)
    have e2 : (canon S k x ++ canon S k (x + 2 ^ k)).map (bl six) = [(x, k), (x + 2 ^ k, k)].map (bl six) := by rw [List.map_append]; exact e
    have hk := hx.1
    have b1 : ∀ p ∈ canon S k x ++ canon S k (x + 2 ^ k), p.2 ≤ wideN six := by
      intro p hp
      rcases List.mem_append.1 hp with q | q <;> have := (canon_sub q).2.2.1 <;> omega
    generalize canon S k x ++ canon S k (x + 2 ^ k) = L at e2 b1
    match L, e2, b1 with
    | [p, q], e2, b1 =>
      simp only [List.map_cons, List.map_nil, List.cons.injEq, and_true] at e2
      rw [bl_inj (b1 p (by simp)) (by simp; omega) e2.1, bl_inj (b1 q (by simp)) (by simp; omega) e2.2]
    | [], e2, _ => simp at e2
    | [_], e2, _ => simp at e2
    | _ :: _ :: _ :: _, e2, _ => simp at e2
/-- How many of them lie in the block and are not the block. -/
def nb (x k : Nat) (l : BL) : Nat := l.countP fun q => cov x k q.1 q.2 && !decide (q = (x, k))
theorem nb_le (x k : Nat) (l : BL) : nb x k l ≤ l.length := List.countP_le_length
theorem count_two {α : Type} (P Q R : α → Bool) : ∀ l : List α, (∀ q ∈ l, P q = true → R q = true) → (∀ q ∈ l, Q q = true → R q = true) → (∀ q ∈ l, P q = true → Q q = true → False) → l.countP P + l.countP Q ≤ l.countP R
  | [], _, _, _ => by simp
  | q :: l, h1, h2, h3 => by
    have ih := count_two P Q R l (fun q hq => h1 q (.tail _ hq)) (fun q hq => h2 q (.tail _ hq)) (fun q hq => h3 q (.tail _ hq))
    have a := h1 q (.head _); have b := h2 q (.head _); have c := h3 q (.head _)
    rw [List.countP_cons, List.countP_cons, List.countP_cons]
    cases hp : P q <;> cases hq : Q q <;> cases hr : R q <;> simp_all <;> omega
theorem nb_half (x k : Nat) (l : BL) : nb x k l + nb (x + 2 ^ k) k l ≤ nb x (k + 1) l := by
  have hp := pow_one k
  refine count_two _ _ _ l (fun q _ h => ?_) (fun q _ h => ?_) (fun q _ h1 h2 => ?_)
  · simp only [Bool.and_eq_true, Bool.not_eq_true', decide_eq_false_iff_not] at h ⊢
    have c := cov_iff.1 h.1
    refine ⟨cov_iff.2 (by rw [pow_up]; omega), fun e => ?_⟩
    rw [e] at c; simp only [pow_up] at c; omega
  · simp only [Bool.and_eq_true, Bool.not_eq_true', decide_eq_false_iff_not] at h ⊢
    have c := cov_iff.1 h.1
    refine ⟨cov_iff.2 (by rw [pow_up]; omega), fun e => ?_⟩
    rw [e] at c; simp only [pow_up] at c; omega
  · simp only [Bool.and_eq_true] at h1 h2
    have c := cov_iff.1 h1.1
    have d := cov_iff.1 h2.1
    have := pow_one q.2
    omega
theorem nb_pos {x k : Nat} {l : BL} (h : unif x k (wth x k l) = false) : 1 ≤ nb x k l := by
  unfold wth at h
  split at h
  · simp [unif] at h
  · cases hb : blw x k l with
    | nil => rw [hb] at h; simp [unif] at h
    | cons q t =>
      rw [hb] at h
      have hm : q ∈ blw x k l := by rw [hb]; exact .head _
      obtain ⟨m1, m2⟩ := List.mem_filter.1 hm
      refine List.countP_pos_iff.2 ⟨q, m1, ?_⟩
      rw [m2]
      simpa [unif] using h
theorem cn_le_sum {six : Bool} {S : Nat → Prop} {k x : Nat} : (cn six S (k + 1) x).length ≤ 1 ∨ (cn six S (k + 1) x).length = (cn six S k x).length + (cn six S k (x + 2 ^ k)).length := by
  by_cases h : ∀ a, inB x (k + 1) a → S a
  · rw [cn_all h]; exact .inl (by simp)
  · rw [cn_half h, List.length_append]; exact .inr rfl
/-- How long such a list can be, at the most. -/
theorem cn_len {six : Bool} {c : Bool → Bool → Bool} {l m : BL} (hl : AllAL six l) (hm : AllAL six m) : ∀ {k x : Nat}, AL six x k → (cn six (chS c l m) k x).length ≤ 1 + k * (nb x k l + nb x k m)
  | k, x, hx => by
    by_cases h : unif x k (wth x k l) = true ∧ unif x k (wth x k m) = true
    · rw [cn_unif hx hl hm h.1 h.2]; split <;> simp
    · have hk : (∃ j, k = j + 1) ∧ 1 ≤ nb x k l + nb x k m := by
        by_cases h1 : unif x k (wth x k l) = true
        · have h2 : unif x k (wth x k m) = false := by
            cases e : unif x k (wth x k m) with
            | false => rfl
            | true => exact absurd ⟨h1, e⟩ h
          exact ⟨nonunif_pos h2, by have := nb_pos h2; omega⟩
        · have h2 : unif x k (wth x k l) = false := by simpa using h1
          exact ⟨nonunif_pos h2, by have := nb_pos h2; omega⟩
      obtain ⟨⟨j, rfl⟩, h1⟩ := hk
      rcases cn_le_sum (six := six) (S := chS c l m) (k := j) (x := x) with h | h
      · omega
      · rw [h]
        have a := cn_len hl hm (c := c) (k := j) (x := x) hx.low
        have b := cn_len hl hm (c := c) (k := j) (x := x + 2 ^ j) hx.high
        have e1 := nb_half x j l
        have e2 := nb_half x j m
        have e3 : (nb x j l + nb x j m) + (nb (x + 2 ^ j) j l + nb (x + 2 ^ j) j m) ≤ nb x (j + 1) l + nb x (j + 1) m := by omega
        generalize nb x (j + 1) l + nb x (j + 1) m = N at h1 e3 ⊢
        generalize nb x j l + nb x j m = A at a e3
        generalize nb (x + 2 ^ j) j l + nb (x + 2 ^ j) j m = B at b e3
        have e4 : j * A + j * B ≤ j * N := by rw [← Nat.mul_add]; exact Nat.mul_le_mul_left _ e3
        have e5 : (j + 1) * N = j * N + N := by rw [Nat.add_mul]; omega
        omega
theorem cn_len' {six : Bool} {c : Bool → Bool → Bool} {l m : BL} (hl : AllAL six l) (hm : AllAL six m) {k x : Nat} (hx : AL six x k) : (cn six (chS c l m) k x).length ≤ 1 + 128 * (l.length + m.length) := by
  have h1 := cn_len hl hm (c := c) hx
  have h2 := nb_le x k l
  have h3 := nb_le x k m
  have hk : k ≤ 128 := Nat.le_trans hx.1 (wideN_le six)
  have : k * (nb x k l + nb x k m) ≤ 128 * (l.length + m.length) := Nat.mul_le_mul hk (by omega)
  omega
end Go.Proofs.Ytgajepmnklbmpaa
/-
  Plain mathematics: blocks and prefixes.
-/
namespace Go.Proofs.Ytgajepmnklbmpaa
open Go.RowKit
set_option linter.unusedVariables false
set_option linter.unusedSimpArgs false
theorem al_chk {s : Bool} {x : Nat} {n : Int} (h : chkE s x n = 0) : ∃ k, AL s x k ∧ n = ((wideN s - k : Nat) : Int) ∧ k = wideN s - n.toNat := by
  obtain ⟨hx, n', hn, hnW, hlow⟩ := chk0 h
  refine ⟨wideN s - n', ⟨by omega, ?_, x / 2 ^ (wideN s - n'), hlow.symm⟩, by rw [hn]; omega, by rw [hn]; simp⟩
  generalize hk : wideN s - n' = k at hlow ⊢
  unfold lowN at hlow
  obtain ⟨c, hc⟩ : ∃ c, x / 2 ^ k = c := ⟨_, rfl⟩
  rw [hc] at hlow
  have e : 2 ^ wideN s = 2 ^ (wideN s - k) * 2 ^ k := by rw [← Nat.pow_add]; congr 1; omega
  rw [e] at hx ⊢
  rw [← hlow] at hx ⊢
  have hlt : c < 2 ^ (wideN s - k) := Nat.lt_of_mul_lt_mul_right hx
  have := Nat.mul_le_mul_right (2 ^ k) hlt
  rw [Nat.succ_eq_add_one, Nat.add_mul] at this
  omega
theorem low_blk {x y j : Nat} (hx : lowN x j = x) : lowN y j = x ↔ inB x j y := by
  unfold lowN at hx
  unfold inB lowN
  have hP := Nat.two_pow_pos j
  generalize 2 ^ j = P at *
  constructor
  · intro h
    have a := Nat.div_add_mod y P
    have b := Nat.mod_lt y hP
    have c : P * (y / P) = y / P * P := Nat.mul_comm _ _
    omega
  · rintro ⟨h1, h2⟩
    have e : y / P = x / P := by
      refine Nat.div_eq_of_lt_le (by rw [hx]; exact h1) ?_
      rw [Nat.succ_mul, hx]; exact h2
    rw [e, hx]
end Go.Proofs.Ytgajepmnklbmpaa
