/-
  Laid together: TabS, TabT, TabN, TabO, TabP.
-/
import Derived.Test.YtgajepmnklbmpaaG9
import Derived.Test.YtgajepmnklbmpaaTabH
import Derived.Test.YtgajepmnklbmpaaG6
/-
  table.cut.
-/
namespace Go.Proofs.Ytgajepmnklbmpaa
open Go.RowKit
set_option linter.unusedVariables false
set_option linter.unusedSimpArgs false

/-- What a method of a table leaves: the table, and all blocks but its own. -/
def TabOut (w w' : World) (b base : Nat) (v : Value) (L' : List RT) : Prop := (∃ v', Tab w' b base v' L') ∧ But (fun k => k = b ∨ v.ownBlock = some k) w w'
def delR (L : List RT) (p : PK) : List RT := L.take (posR L p) ++ L.drop (posR L p + 1)
def cutA (L : List RT) (p : PK) : Int := if finE L p = 0 then hopR L p else 0
def cutL (L : List RT) (p : PK) : List RT := if finE L p = 0 then delR L p else L
end Go.Proofs.Ytgajepmnklbmpaa
/-
  table.put.
-/
namespace Go.Proofs.Ytgajepmnklbmpaa
open Go.RowKit
set_option linter.unusedVariables false
set_option linter.unusedSimpArgs false

theorem ownsRow_set {w : World} {base size g n cap m : Nat} {e : TypeId} {xs : List Value} (h : w.ownsRow base e size (.slice (some ⟨g, 0, none⟩) m cap) n xs) (j : Nat) (u : Value) : (w.setCell ⟨g, j, none⟩ u).ownsRow base e size (.slice (some ⟨g, 0, none⟩) m cap) n (xs.set j u) := by
  refine ⟨by rw [List.length_set]; exact h.1, ?_⟩
  rcases h.2 with ⟨hv, _⟩ | ⟨g', cap', cur, hv, hb, hg, h1, h2, h3, h4⟩
  · cases hv
  · cases hv
    refine .inr ⟨g, cap, cur.setIfInBounds j u, rfl, hb, ?_, h1, h2, by simpa using h3, ?_⟩
    · rw [setCell_eq_setRow w g j cur e (0, 0) u hg]; exact setRow_heap w g cur _ e _ hg
    · rw [Array.toList_setIfInBounds, List.take_set, h4]
theorem rowOf_set (r : RT) : ∀ (L : List RT) (i : Nat), i < L.length → rowOf rcs (L.set i r) = (((((rowOf rcs L).set (i * 5) (.bool r.1.1)).set (i * 5 + 1) (.int .u64 (aH r.1.2.1))).set (i * 5 + 2) (.int .u64 (aL r.1.2.1))).set (i * 5 + 3) (.int .i64 r.1.2.2)).set (i * 5 + 4) (.int .i64 r.2)
  | q :: t, 0, _ => by simp [rowOf, rcs]
  | q :: t, i + 1, h => by
    have ih := rowOf_set r t i (by simpa using h)
    have e : rowOf rcs (q :: t) = rcs q ++ rowOf rcs t := rfl
    have hl : (rcs q).length = 5 := rfl
    rw [List.set_cons_succ, show rowOf rcs (q :: t.set i r) = rcs q ++ rowOf rcs (t.set i r) from rfl, ih, e]
    have s : ∀ (xs : List Value) (j : Nat) (u : Value), (rcs q ++ xs).set ((i + 1) * 5 + j) u = rcs q ++ xs.set (i * 5 + j) u := fun xs j u => by
      rw [List.set_append_right _ _ (by rw [hl]; omega), hl, show (i + 1) * 5 + j - 5 = i * 5 + j by omega]
    have s0 : ∀ (xs : List Value) (u : Value), (rcs q ++ xs).set ((i + 1) * 5) u = rcs q ++ xs.set (i * 5) u := fun xs u => s xs 0 u
    rw [s0, s, s, s, s]
theorem Box.drew {w : World} {b : Nat} {v : Value} (h : Box w b v) : Box w.drew b v := h.keep ((Below.refl _ w).drew) h.2.2
theorem AnsV.drew {w : World} {b : Nat} {c p q : Int} (h : AnsV w b c p q) : AnsV w.drew b c p q := h.keep ((Below.refl _ w).drew) h.2.2.2.2
theorem NotR.drew {w : World} {k : Nat} (h : NotR w k) : NotR w.drew k := h.of rfl
theorem OwnR.drew {w : World} {base : Nat} {v : Value} {L : List RT} (h : OwnR w base v L) : OwnR w.drew base v L := ownsKeep h ((Below.refl _ w).drew)
def putE (L : List RT) (r : RT) : Int := if rtE r = 0 then (if hasR L r.1 then 0 else if 60 ≤ L.length then 9 else 0) else rtE r
def putA (L : List RT) (r : RT) : Int := if rtE r = 0 then (if hasR L r.1 then hopR L r.1 else 0) else 0
def putL (L : List RT) (r : RT) : List RT := if rtE r = 0 then (if hasR L r.1 then L.set (posR L r.1) r else if 60 ≤ L.length then L else insR L r) else L
end Go.Proofs.Ytgajepmnklbmpaa
/-
  Plain mathematics: the longest match of a list of routes is the last match in their order.
-/
namespace Go.Proofs.Ytgajepmnklbmpaa
set_option linter.unusedVariables false
set_option linter.unusedSimpArgs false

/-- All prefixes are valid. -/
def ValR (l : List RT) : Prop := ∀ r ∈ l, chkE r.1.1 r.1.2.1 r.1.2.2 = 0
/-- No prefix twice. -/
def DistR (l : List RT) : Prop := ∀ a ∈ l, ∀ b ∈ l, a.1 = b.1 → a = b
/-- This hop and this length are those of the longest match. -/
def BestIs (s : Bool) (y : Nat) (l : List RT) (h n : Int) : Prop := ((∀ r ∈ l, mB s y r = false) ∧ h = 0 ∧ n = 0) ∨ ∃ r ∈ l, mB s y r = true ∧ r.2 = h ∧ r.1.2.2 = n ∧ ∀ q ∈ l, mB s y q = true → q.1.2.2 ≤ n
theorem mB_iff (s : Bool) (y : Nat) (r : RT) : mB s y r = true ↔ r.1.1 = s ∧ lowN y (wideN s - r.1.2.2.toNat) = r.1.2.1 := by simp [mB]
theorem BestIs.unique {s : Bool} {y : Nat} {l : List RT} (hd : DistR l) {h n h' n' : Int} (a : BestIs s y l h n) (b : BestIs s y l h' n') : h = h' ∧ n = n' := by
  rcases a with ⟨a1, rfl, rfl⟩ | ⟨r, hr, hm, rfl, rfl, ha⟩ <;> rcases b with ⟨b1, rfl, rfl⟩ | ⟨q, hq, hn, rfl, rfl, hb⟩
  · exact ⟨rfl, rfl⟩
  · rw [a1 q hq] at hn; cases hn
  · rw [b1 r hr] at hm; cases hm
  · have e : r.1.2.2 = q.1.2.2 := by have := ha q hq hn; have := hb r hr hm; omega
    have m1 := (mB_iff s y r).1 hm
    have m2 := (mB_iff s y q).1 hn
    have : r = q := hd r hr q hq (by
      obtain ⟨⟨s1, x1, n1⟩, h1⟩ := r
      obtain ⟨⟨s2, x2, n2⟩, h2⟩ := q
      simp only at e m1 m2 ⊢
      rw [e] at m1
      rw [m1.1, m2.1, ← m1.2, ← m2.2, e])
    rw [this]; exact ⟨rfl, rfl⟩
theorem BestIs.congr {s : Bool} {y : Nat} {l m : List RT} (hm : ∀ r, r ∈ l ↔ r ∈ m) {h n : Int} (a : BestIs s y l h n) : BestIs s y m h n := by
  rcases a with ⟨a1, e1, e2⟩ | ⟨r, hr, hmb, e1, e2, ha⟩
  · exact .inl ⟨fun r hr => a1 r ((hm r).2 hr), e1, e2⟩
  · exact .inr ⟨r, (hm r).1 hr, hmb, e1, e2, fun q hq => ha q ((hm q).2 hq)⟩
theorem lowN_anti (y : Nat) {k j : Nat} (h : k ≤ j) : lowN y j ≤ lowN y k := by
  unfold lowN
  have hp : (2 : Nat) ^ j = 2 ^ (j - k) * 2 ^ k := by rw [← Nat.pow_add]; congr 1; omega
  have h1 : y / 2 ^ j * 2 ^ j ≤ y := Nat.div_mul_le_self _ _
  rw [hp, ← Nat.mul_assoc] at h1 ⊢
  exact Nat.mul_le_mul_right _ ((Nat.le_div_iff_mul_le (Nat.two_pow_pos k)).2 h1)
theorem SortedR.dist {l : List RT} (h : SortedR l) : DistR l := by
  intro a ha b hb e
  obtain ⟨i, hi, rfl⟩ := List.getElem_of_mem ha
  obtain ⟨j, hj, rfl⟩ := List.getElem_of_mem hb
  rcases Nat.lt_trichotomy i j with g | g | g
  · exact absurd e (ltK_ne (h.lt g hj))
  · subst g; rfl
  · exact absurd e.symm (ltK_ne (h.lt g hi))
theorem lastM_best {s : Bool} {y : Nat} {l : List RT} (hs : SortedR l) (hv : ValR l) : BestIs s y l (lastM (l.filter (mB s y))).1 (lastM (l.filter (mB s y))).2 := by
  rcases List.eq_nil_or_concat (l.filter (mB s y)) with e | ⟨t, r, e⟩
  · rw [e]
    refine .inl ⟨fun r hr => ?_, rfl, rfl⟩
    have := List.filter_eq_nil_iff.1 e r hr
    simpa using this
  · rw [List.concat_eq_append] at e
    rw [e, lastM_snoc]
    have hr : r ∈ l.filter (mB s y) := by rw [e]; simp
    obtain ⟨hr1, hr2⟩ := List.mem_filter.1 hr
    refine .inr ⟨r, hr1, hr2, rfl, rfl, fun q hq hm => ?_⟩
    have hq2 : q ∈ l.filter (mB s y) := List.mem_filter.2 ⟨hq, hm⟩
    rw [e] at hq2
    have hsf : (l.filter (mB s y)).Pairwise fun a b => ltK a.1 b.1 := List.Pairwise.sublist List.filter_sublist hs
    rw [e, List.pairwise_append] at hsf
    rcases List.mem_append.1 hq2 with h | h
    · have lt := hsf.2.2 q h r (by simp)
      have m1 := (mB_iff s y r).1 hr2
      have m2 := (mB_iff s y q).1 hm
      refine Classical.byContradiction fun hn => ?_
      obtain ⟨_, k1, e1, hk1, _⟩ := chk0 (hv r hr1)
      obtain ⟨_, k2, e2, hk2, _⟩ := chk0 (hv q hq)
      have hlow := lowN_anti y (show wideN s - q.1.2.2.toNat ≤ wideN s - r.1.2.2.toNat by omega)
      rw [m1.2, m2.2] at hlow
      rcases lt with ⟨a, b⟩ | ⟨_, h | ⟨_, h⟩⟩
      · rw [m2.1] at a; rw [m1.1] at b; rw [a] at b; cases b
      · omega
      · omega
    · simp at h; subst h; exact Int.le_refl _
/-- The document's own search. -/
def bestM (s : Bool) (y : Nat) (l : List RT) : Int × Int := l.foldl (fun b r => if mB s y r && decide (r.1.2.2 > b.2) then (r.2, r.1.2.2) else b) (0, -1)
def bestA (s : Bool) (y : Nat) (l : List RT) : Int × Int := ((bestM s y l).1, if (bestM s y l).2 < 0 then 0 else (bestM s y l).2)
theorem bestM_snoc (s : Bool) (y : Nat) (l : List RT) (r : RT) : bestM s y (l ++ [r]) = if mB s y r && decide (r.1.2.2 > (bestM s y l).2) then (r.2, r.1.2.2) else bestM s y l := by simp [bestM, List.foldl_append]
theorem bestM_best {s : Bool} {y : Nat} {l : List RT} (hv : ValR l) : ((∀ r ∈ l, mB s y r = false) ∧ bestM s y l = (0, -1)) ∨ ∃ r ∈ l, mB s y r = true ∧ bestM s y l = (r.2, r.1.2.2) ∧ ∀ q ∈ l, mB s y q = true → q.1.2.2 ≤ r.1.2.2 := by
  suffices H : ∀ m : List RT, ValR m.reverse → ((∀ r ∈ m.reverse, mB s y r = false) ∧ bestM s y m.reverse = (0, -1)) ∨ ∃ r ∈ m.reverse, mB s y r = true ∧ bestM s y m.reverse = (r.2, r.1.2.2) ∧ ∀ q ∈ m.reverse, mB s y q = true → q.1.2.2 ≤ r.1.2.2 by
    have := H l.reverse (by rw [List.reverse_reverse]; exact hv)
    rwa [List.reverse_reverse] at this
  intro m
  induction m with
  | nil => intro _; exact .inl ⟨fun r hr => (by simp at hr), rfl⟩
  | cons r t ih =>
    intro hvm
    rw [List.reverse_cons] at hvm ⊢
    have hvt : ValR t.reverse := fun q hq => hvm q (List.mem_append.2 (.inl hq))
    have hr0 := hvm r (by simp)
    obtain ⟨_, k, ek, _, _⟩ := chk0 hr0
    rw [bestM_snoc]
    by_cases hm : mB s y r = true
    · rcases ih hvt with ⟨h1, h2⟩ | ⟨q, hq, hqm, h2, h3⟩
      · rw [h2]
        have : (r.1.2.2 > -1) := by omega
        rw [show (mB s y r && decide (r.1.2.2 > ((0, -1) : Int × Int).2)) = true by simp [hm, this]]
        refine .inr ⟨r, by simp, hm, rfl, fun q hq hqm => ?_⟩
        rcases List.mem_append.1 hq with h | h
        · rw [h1 q h] at hqm; cases hqm
        · simp at h; subst h; exact Int.le_refl _
      · rw [h2]
        by_cases hg : r.1.2.2 > q.1.2.2
        · rw [show (mB s y r && decide (r.1.2.2 > ((q.2, q.1.2.2) : Int × Int).2)) = true by simp [hm, hg]]
          refine .inr ⟨r, by simp, hm, rfl, fun p hp hpm => ?_⟩
          rcases List.mem_append.1 hp with h | h
          · have := h3 p h hpm; omega
          · simp at h; subst h; exact Int.le_refl _
        · rw [show (mB s y r && decide (r.1.2.2 > ((q.2, q.1.2.2) : Int × Int).2)) = false by simp [hm, hg]]
          refine .inr ⟨q, List.mem_append.2 (.inl hq), hqm, rfl, fun p hp hpm => ?_⟩
          rcases List.mem_append.1 hp with h | h
          · exact h3 p h hpm
          · simp at h; subst h; omega
    · have hm' : mB s y r = false := by simpa using hm
      rw [hm', Bool.false_and]
      rcases ih hvt with ⟨h1, h2⟩ | ⟨q, hq, hqm, h2, h3⟩
      · refine .inl ⟨fun p hp => ?_, h2⟩
        rcases List.mem_append.1 hp with h | h
        · exact h1 p h
        · simp at h; subst h; exact hm'
      · refine .inr ⟨q, List.mem_append.2 (.inl hq), hqm, h2, fun p hp hpm => ?_⟩
        rcases List.mem_append.1 hp with h | h
        · exact h3 p h hpm
        · simp at h; subst h; rw [hm'] at hpm; cases hpm
theorem bestA_best {s : Bool} {y : Nat} {l : List RT} (hv : ValR l) : BestIs s y l (bestA s y l).1 (bestA s y l).2 := by
  rcases bestM_best (s := s) (y := y) hv with ⟨h1, h2⟩ | ⟨r, hr, hm, h2, h3⟩
  · exact .inl ⟨h1, by simp [bestA, h2], by simp [bestA, h2]⟩
  · obtain ⟨_, k, ek, _, _⟩ := chk0 (hv r hr)
    have : ¬ r.1.2.2 < 0 := by omega
    exact .inr ⟨r, hr, hm, by simp [bestA, h2], by simp [bestA, h2, this], by simp only [bestA, h2, if_neg this]; exact h3⟩
theorem srt_mem (l : List RT) (r : RT) : r ∈ srt l ↔ r ∈ l := by
  suffices H : ∀ (m s : List RT), r ∈ m.foldl insR s ↔ r ∈ s ∨ r ∈ m by have := H l []; simpa [srt] using this
  intro m
  induction m with
  | nil => intro s; simp
  | cons a t ih =>
    intro s
    rw [List.foldl_cons, ih, insR_mem, List.mem_cons]
    constructor
    · rintro ((h | h) | h)
      · exact .inr (.inl h)
      · exact .inl h
      · exact .inr (.inr h)
    · rintro (h | h | h)
      · exact .inl (.inr h)
      · exact .inl (.inl h)
      · exact .inr h
theorem behE_val : ∀ (l seen : List RT), behE seen l = 0 → ValR l ∧ ∀ r ∈ l, 1 ≤ r.2 ∧ r.2 ≤ 999
  | [], _, _ => ⟨fun r hr => (by cases hr), fun r hr => (by cases hr)⟩
  | r :: t, seen, h => by
    rw [behE] at h
    split at h
    · rename_i hz
      split at h
      · cases h
      · obtain ⟨h1, h2⟩ := behE_val t _ h
        have hr : chkE r.1.1 r.1.2.1 r.1.2.2 = 0 ∧ 1 ≤ r.2 ∧ r.2 ≤ 999 := by
          unfold rtE at hz
          split at hz
          · rename_i hc
            split at hz
            · rename_i hh; exact ⟨hc, hh⟩
            · cases hz
          · rename_i hc; exact absurd hz hc
        exact ⟨fun q hq => (List.mem_cons.1 hq).elim (fun e => e ▸ hr.1) (h1 q), fun q hq => (List.mem_cons.1 hq).elim (fun e => e ▸ hr.2) (h2 q)⟩
    · rename_i hz; exact absurd h hz
theorem tabE_val {l : List RT} (h : tabE l = 0) : ValR l ∧ (∀ r ∈ l, 1 ≤ r.2 ∧ r.2 ≤ 999) ∧ l.length ≤ 60 := by
  unfold tabE at h
  split at h
  · cases h
  · rename_i hl
    obtain ⟨a, b⟩ := behE_val l [] h
    exact ⟨a, b, by omega⟩
/-- The last match in a valid table's order is what the document's search finds. -/
theorem look_same {s : Bool} {y : Nat} {l : List RT} (h : tabE l = 0) (hs : SortedR (srt l)) : lastM ((srt l).filter (mB s y)) = bestA s y l := by
  have hv := (tabE_val h).1
  have hvs : ValR (srt l) := fun r hr => hv r ((srt_mem l r).1 hr)
  have a := lastM_best (s := s) (y := y) hs hvs
  have b := (bestA_best (s := s) (y := y) hv).congr (fun r => (srt_mem l r).symm)
  obtain ⟨e1, e2⟩ := a.unique hs.dist b
  exact Prod.ext e1 e2
end Go.Proofs.Ytgajepmnklbmpaa
/-
  table.Look; the document's preIn of a route, goes and TableLook.
-/
namespace Go.Proofs.Ytgajepmnklbmpaa
open Go.RowKit
set_option linter.unusedVariables false
set_option linter.unusedSimpArgs false

theorem refInM_calls (r : RT) (s : Bool) (y : Nat) (hc : chkE r.1.1 r.1.2.1 r.1.2.2 = 0) (hy : y < 2 ^ wideN s) (w : World) :
    Calls Try.prog 71 #[.agg #[.bool r.1.1, .int .u64 (aH r.1.2.1), .int .u64 (aL r.1.2.1), .int .i64 r.1.2.2], .agg #[.bool s, .int .u64 (aH y), .int .u64 (aL y)]] w fun e w' => e = .returned (.bool (mB s y r)) ∧ Below w.heap.size w w' := by
  obtain ⟨⟨t, x, n⟩, h⟩ := r
  obtain ⟨hx, k, rfl, hk, hl⟩ := chk0 hc
  simp only at hx hk hl hc ⊢
  by_cases e : t = s
  · subst e
    exact refIn_calls t x y k _ hx hy hk (by rw [hl]; simp [mB]) w
  · rw [show mB s y ((t, x, (k : Int)), h) = false by simp [mB, e]]
    have hne : (t == s) = false := by simpa using e
    have hne2 : (t != s) = true := by simp [bne, hne]
    go_enter Try.func71, Try.ntmps71
    go_wp2
    go_ret
    exact ⟨rfl, by go_grown⟩
theorem AnsV.len {w : World} {b : Nat} {c h l : Int} (a : AnsV w b c h l) (u : Int) : AnsV (w.setCell ⟨b, 2, none⟩ (.int .i64 u)) b c h u := by
  obtain ⟨a0, a1, a2, af, az⟩ := a
  exact ⟨by simp [go_sem, a0, a1, a2], by simp [go_sem, a0, a1, a2], by simp [go_sem, a0, a1, a2], fun o => by simp only [World.frozen?_setCell]; exact af o, by simpa using az⟩
theorem bestM_take {s : Bool} {y : Nat} {l : List RT} {k : Nat} (hk : k < l.length) : bestM s y (l.take (k + 1)) = if mB s y l[k] && decide (l[k].1.2.2 > (bestM s y (l.take k)).2) then (l[k].2, l[k].1.2.2) else bestM s y (l.take k) := by
  rw [← bestM_snoc, List.take_add_one, List.getElem?_eq_getElem hk]; rfl
end Go.Proofs.Ytgajepmnklbmpaa
/-
  table.Look; the document's TableLook.
-/
namespace Go.Proofs.Ytgajepmnklbmpaa
open Go.RowKit
set_option linter.unusedVariables false
set_option linter.unusedSimpArgs false

/-- The error of Look. -/
def lookE (l : List RT) (s : Bool) (y : Nat) : Int := if tabE l = 0 then (if y < 2 ^ wideN s then 0 else 4) else tabE l
/-- What Look answers: hop and length. -/
def lookA (l : List RT) (s : Bool) (y : Nat) : Int × Int := if lookE l s y = 0 then bestA s y l else (0, 0)
theorem lookE_0 {l : List RT} {s : Bool} {y : Nat} (h : lookE l s y = 0) : tabE l = 0 ∧ y < 2 ^ wideN s := by
  unfold lookE at h
  split at h
  · rename_i a
    split at h
    · rename_i b; exact ⟨a, b⟩
    · cases h
  · rename_i a; exact absurd h a
end Go.Proofs.Ytgajepmnklbmpaa
