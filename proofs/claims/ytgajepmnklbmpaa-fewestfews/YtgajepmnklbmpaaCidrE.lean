/-
  Package cidr: pre.Covers of two blocks; slices of prefixes that can be read; within.
-/
import Derived.Test.YtgajepmnklbmpaaG15
import Derived.Test.YtgajepmnklbmpaaG19
import Derived.Test.YtgajepmnklbmpaaSamePres
namespace Go.Proofs.Ytgajepmnklbmpaa
open Go.RowKit
set_option linter.unusedVariables false
set_option linter.unusedSimpArgs false

theorem covD_cov {six : Bool} {x k y j : Nat} (hx : AL six x k) (hy : AL six y j) : covD six x (wideN six - k) y (wideN six - j) = cov x k y j := by
  have hk := hx.1
  have hj := hy.1
  unfold covD cov
  rw [← Bool.decide_and, decide_eq_decide, show wideN six - (wideN six - k) = k by omega]
  obtain ⟨c, hc⟩ := hx.2.2
  have pj := pow_one j
  constructor
  · rintro ⟨h1, h2⟩
    have hle := lowN_le y k
    have hjk : 2 ^ j ≤ 2 ^ k := Nat.pow_le_pow_right (by omega) (by omega)
    have hlt : y < x + 2 ^ k := by
      rw [← h2]; unfold lowN
      have e1 := Nat.div_add_mod' y (2 ^ k)
      have e2 := Nat.mod_lt y (Nat.two_pow_pos k)
      generalize y / 2 ^ k * 2 ^ k = A at e1 ⊢
      generalize y % 2 ^ k = B at e1 e2
      generalize 2 ^ k = C at e2 ⊢
      omega
    rcases al_three hx hy (a := y) ⟨by omega, hlt⟩ (inB_self _ _) with h | h
    · exact cov_iff.1 h
    · have := cov_iff.1 h; omega
  · rintro ⟨h1, h2⟩
    have hjk : j ≤ k := by
      rcases Nat.lt_or_ge k j with h | h
      · have : 2 ^ (k + 1) ≤ 2 ^ j := Nat.pow_le_pow_right (by omega) h
        rw [pow_up] at this; have := pow_one k; omega
      · exact h
    refine ⟨by omega, ?_⟩
    unfold lowN
    rw [hc] at h1 h2 ⊢
    rw [Nat.div_eq_of_lt_le (k := c) h1 (by rw [Nat.add_mul]; omega)]
theorem both_al {six : Bool} {x k y j : Nat} (hx : AL six x k) (hy : AL six y j) : bothE six x ((wideN six - k : Nat) : Int) six y ((wideN six - j : Nat) : Int) = 0 := by
  unfold bothE
  rw [if_pos hx.chk, if_pos hy.chk]
  simp
theorem covers_al {six : Bool} {x k y j : Nat} (hx : AL six x k) (hy : AL six y j) (b : Bool) (hb : cov x k y j = b) (w : World) :
    Calls Try.prog 45 #[.agg #[.bool six, .int .u64 (aH x), .int .u64 (aL x), .int .i64 ((wideN six - k : Nat) : Int)], .agg #[.bool six, .int .u64 (aH y), .int .u64 (aL y), .int .i64 ((wideN six - j : Nat) : Int)]] w fun e w' => e = .returned (.tuple #[.bool b, .int .i64 0]) ∧ Below w.heap.size w w' := by
  have c := covers_ok' six x y (wideN six - k) (wideN six - j) hx.lt128 hy.lt128 (both_al hx hy) (Nat.sub_le _ _) w
  rw [covD_cov hx hy, hb] at c
  exact c

/-- The prefix p lies from cell o of block g on. -/
def PCell (w : World) (g o : Nat) (p : PT) : Prop := w.cell? ⟨g, o, none⟩ = some (.bool p.1) ∧ w.cell? ⟨g, o + 1, none⟩ = some (.int .u64 (aH p.2.1)) ∧ w.cell? ⟨g, o + 2, none⟩ = some (.int .u64 (aL p.2.1)) ∧ w.cell? ⟨g, o + 3, none⟩ = some (.int .i64 p.2.2)
/-- A slice of prefixes that can be read. -/
def RowP (w : World) (v : Value) (l : List PT) : Prop := (l = [] ∧ ∃ p c, v = .slice p 0 c) ∨ ∃ g o c, v = .slice (some ⟨g, o, none⟩) l.length c ∧ g < w.heap.size ∧ ∀ k (hk : k < l.length), PCell w g (o + k * 4) l[k]
theorem PCell.keep {w w' : World} {g o : Nat} {p : PT} (h : PCell w g o p) (hg : g < w.heap.size) (hb : Below w.heap.size w w') : PCell w' g o p :=
  ⟨(hb.cell (p := ⟨g, o, none⟩) hg).trans h.1, (hb.cell (p := ⟨g, o + 1, none⟩) hg).trans h.2.1, (hb.cell (p := ⟨g, o + 2, none⟩) hg).trans h.2.2.1, (hb.cell (p := ⟨g, o + 3, none⟩) hg).trans h.2.2.2⟩
theorem RowP.keep {w w' : World} {v : Value} {l : List PT} (h : RowP w v l) (hb : Below w.heap.size w w') : RowP w' v l := by
  rcases h with h | ⟨g, o, c, e, hg, hc⟩
  · exact .inl h
  · exact .inr ⟨g, o, c, e, Nat.lt_of_lt_of_le hg hb.size, fun k hk => (hc k hk).keep hg hb⟩
theorem RowP.owned {w : World} {base : Nat} {v : Value} {l : List PT} (h : Owned w base v l) : RowP w v l := by
  rcases h.2 with ⟨e, h0⟩ | ⟨g, c, cur, e, hb, hg, _⟩
  · exact .inl ⟨List.eq_nil_of_length_eq_zero h0, none, 0, e⟩
  · subst e
    refine .inr ⟨g, 0, c, rfl, ?_, fun k hk => ?_⟩
    · rcases Nat.lt_or_ge g w.heap.size with hlt | hge
      · exact hlt
      · rw [Array.getElem?_eq_none hge] at hg; cases hg
    · rw [Nat.zero_add]; exact owned_at h rfl k hk
theorem RowP.form {w : World} {v : Value} {l : List PT} (h : RowP w v l) : ∃ p c, v = .slice p l.length c := by
  rcases h with ⟨rfl, p, c, e⟩ | ⟨g, o, c, e, _⟩
  · exact ⟨p, c, e⟩
  · exact ⟨_, c, e⟩
theorem blw_take_yes {x k : Nat} {l : BL} {i : Nat} (hi : i < l.length) (h : cov x k l[i].1 l[i].2 = true) : blw x k (l.take (i + 1)) = blw x k (l.take i) ++ [l[i]] := by
  unfold blw
  rw [List.take_succ_eq_append_getElem hi, List.filter_append]
  simp [h]
theorem blw_take_no {x k : Nat} {l : BL} {i : Nat} (hi : i < l.length) (h : cov x k l[i].1 l[i].2 = false) : blw x k (l.take (i + 1)) = blw x k (l.take i) := by
  unfold blw
  rw [List.take_succ_eq_append_getElem hi, List.filter_append]
  simp [h]
theorem abv_take {x k : Nat} {l : BL} {i : Nat} (hi : i < l.length) (h : cov l[i].1 l[i].2 x k = false) (h0 : abv x k (l.take i) = false) : abv x k (l.take (i + 1)) = false := by
  unfold abv at *
  rw [List.take_succ_eq_append_getElem hi, List.any_append, h0]
  simp [h]
theorem abv_at {x k : Nat} {l : BL} {i : Nat} (hi : i < l.length) (h : cov l[i].1 l[i].2 x k = true) : abv x k l = true := List.any_eq_true.2 ⟨l[i], List.getElem_mem hi, h⟩
theorem blw_len (x k : Nat) (l : BL) : (blw x k l).length ≤ l.length := List.length_filter_le _ _
end Go.Proofs.Ytgajepmnklbmpaa
