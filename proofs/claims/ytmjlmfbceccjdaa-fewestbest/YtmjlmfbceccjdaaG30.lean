/-
  Laid together: DeltaD, DNoneM.
-/
import Derived.Test.YtmjlmfbceccjdaaDeltaB
import Derived.Test.YtmjlmfbceccjdaaDeltaC2
import Derived.Test.YtmjlmfbceccjdaaG16
import Derived.Test.YtmjlmfbceccjdaaG14
/-
  delta.Diff.
-/
namespace Go.Proofs.Ytmjlmfbceccjdaa
open Go.RowKit
set_option linter.unusedVariables false
set_option linter.unusedSimpArgs false
/-- The acts that make one sorted table of another one. -/
def difL (S T : List RT) : List ActT := cutsL S T ++ putsL (wiL T S)
def dfE (l m : List RT) : Int := if tabE l = 0 then tabE m else tabE l
def dfL (l m : List RT) : List ActT := if dfE l m = 0 then difL (srt l) (srt m) else []
set_option maxHeartbeats 4000000 in
set_option maxRecDepth 100000 in
theorem diff_calls (l m : List RT) (v t : Value) (ll : l.length ≤ 9223372036854775807) (lm : m.length ≤ 9223372036854775807) (wl : WordsR l) (wm : WordsR m) (w : World) (r1 : RowR w v l) (r2 : RowR w t m) :
    Calls Try.prog 14 #[v, t] w fun e w' => ∃ u, e = .returned (.tuple #[u, .int .i64 (dfE l m)]) ∧ OwnA w' w.heap.size u (dfL l m) ∧ Below w.heap.size w w' := by
  have C1 := Lib.hid (sorted_calls l v ll wl w r1)
  have C2 := Lib.hid (fun (W : World) (r : RowR W t m) => sorted_calls m t lm wm W r)
  have R2 := Lib.hid r2
  obtain ⟨i0, hii, hz0, hz1, hz2⟩ := info_parts info_act
  have IN := Lib.hid (And.intro hii (And.intro hz0 (And.intro hz1 hz2)))
  obtain ⟨p1, c1, rfl⟩ := r1.form
  obtain ⟨p2, c2, rfl⟩ := r2.form
  clear r1 r2 hii hz0 hz1 hz2
  by_cases h1 : tabE l = 0
  · by_cases h2 : tabE m = 0
    · have E := Lib.hid (show dfE l m = 0 ∧ dfL l m = difL (srt l) (srt m) by
        have : dfE l m = 0 := by rw [dfE, if_pos h1, h2]
        exact ⟨this, by rw [dfL, if_pos this]⟩)
      have s1 := (srt_inv h1).size
      have s2 := (srt_inv h2).size
      rw [show sorL l = srt l by rw [sorL, if_pos h1], h1] at C1
      rw [show sorL m = srt m by rw [sorL, if_pos h2], h2] at C2
      generalize srt l = S at C1 E s1
      generalize srt m = T at C2 E s2
      have CU := Lib.hid (fun (W : World) (u1 u2 : Value) (r1 : RowR W u1 S) (r2 : RowR W u2 T) => cuts_calls S T u1 u2 (by omega) (by omega) W r1 r2)
      have WI := Lib.hid (fun (W : World) (u1 u2 : Value) (r1 : RowR W u1 T) (r2 : RowR W u2 S) => without_calls T S u1 u2 (by omega) (by omega) W r1 r2)
      have hwl := wiL_len T S
      have hcl := cutsL_len S T
      have PU := Lib.hid (fun (W : World) (u : Value) (r : RowR W u (wiL T S)) => puts_calls (wiL T S) u (by omega) W r)
      rw [E.out.1]
      clear h1 h2
      go_enter Try.func14, Try.ntmps14
      go_wp2_with fail
      refine C1.out.mono ?_
      rintro e w1 ⟨u1, rfl, ho1, hb1⟩
      have R2' := Lib.hid (R2.out.keep hb1)
      have O1 := Lib.hid ho1
      clear C1 R2 ho1
      go_wp2_with fail
      refine (C2.out _ R2'.out).mono ?_
      rintro e w2 ⟨u2, rfl, ho2, hb2⟩
      have b2 := thenBelow hb1 hb2
      have O1' := Lib.hid (ownsKeep O1.out hb2)
      have O2 := Lib.hid (ownsLow ho2 hb1.size)
      clear C2 R2' ho2 hb2 hb1 O1
      go_wp2_with fail
      refine (CU.out _ _ _ (OwnR.row O1'.out) (OwnR.row O2.out)).mono ?_
      rintro e w3 ⟨u3, rfl, ho3, hb3⟩
      have b3 := thenBelow b2 hb3
      have O13 := Lib.hid (ownsKeep O1'.out hb3)
      have O23 := Lib.hid (ownsKeep O2.out hb3)
      have O3 := Lib.hid (ownsLow ho3 b2.size)
      clear CU ho3 hb3 b2 O1' O2
      go_wp2_with fail
      refine (WI.out _ _ _ (OwnR.row O23.out) (OwnR.row O13.out)).mono ?_
      rintro e w4 ⟨u4, rfl, ho4, hb4⟩
      have b4 := thenBelow b3 hb4
      have O34 := Lib.hid (ownsKeep O3.out hb4)
      have R4 := Lib.hid (OwnR.row ho4)
      clear WI ho4 hb4 b3 O13 O23 O3
      go_wp2_with fail
      refine (PU.out _ _ R4.out).mono ?_
      rintro e w5 ⟨u5, rfl, ho5, hb5⟩
      have b5 := thenBelow b4 hb5
      have O35 := Lib.hid (ownsKeep O34.out hb5)
      have R5 := Lib.hid (OwnA.row ho5)
      have hpl := putsL_len (wiL T S)
      clear PU ho5 hb5 b4 O34 R4
      obtain ⟨hii, hz0, hz1, hz2⟩ := IN.out
      obtain ⟨X, hX⟩ : ∃ X, cutsL S T = X := ⟨_, rfl⟩
      obtain ⟨Y, hY⟩ : ∃ Y, putsL (wiL T S) = Y := ⟨_, rfl⟩
      rw [hX] at O35 hcl
      rw [hY] at R5 hpl
      have HXY := Lib.hid (show dfL l m = X ++ Y by rw [E.out.2, difL, hX, hY])
      clear hX hY E
      have hXl : X.length ≤ 60 := by omega
      have hYl : Y.length ≤ 60 := by omega
      have hby : (X.length + Y.length) * 72 ≤ 140737488355328 := by omega
      have h63 : X.length + Y.length ≤ maxLen := by unfold maxLen; omega
      have hbs := b5.size
      go_wp2_with (at_builtin; refine wpList_append_any rfl _ _ 26 rfl w.heap.size 34 i0 _ 72 Try.underlying26 hii hz0 hz1 hz2 rfl (by decide) acs_len acs_one _ X.length (rowOf acs X) rfl O35.out _ Y rfl R5.out hby h63 hbs ?_; intro v6 w6 ho6 hb6)
      have b6 := b5.trans hb6
      have O6 : Hid (OwnA w6 w.heap.size v6 (X ++ Y)) := Lib.hid (by unfold OwnA; rw [List.length_append, rowOf_app]; exact ho6)
      clear ho6 hb6
      go_wp2
      go_ret2
      exact ⟨v6, by simp, by rw [HXY.out]; exact O6.out, b6⟩
    · have E := Lib.hid (show dfE l m = tabE m ∧ dfL l m = [] by
        have : dfE l m = tabE m := by rw [dfE, if_pos h1]
        exact ⟨this, by rw [dfL, this, if_neg h2]⟩)
      rw [E.out.1]
      rw [h1] at C1
      generalize tabE m = t at C2 h2 ⊢
      have hz1 : (t == 0) = false := by simpa using h2
      have hz2 : (t != 0) = true := by simp [bne, hz1]
      clear h1
      go_enter Try.func14, Try.ntmps14
      go_wp2_with fail
      refine C1.out.mono ?_
      rintro e w1 ⟨u1, rfl, ho1, hb1⟩
      have R2' := Lib.hid (R2.out.keep hb1)
      clear C1 R2 ho1
      go_wp2_with fail
      refine (C2.out _ R2'.out).mono ?_
      rintro e w2 ⟨u2, rfl, ho2, hb2⟩
      have b2 := thenBelow hb1 hb2
      clear C2 R2' ho2 hb2 hb1
      go_wp2
      go_ret2
      exact ⟨.slice none 0 0, by simp, by rw [E.out.2]; exact World.ownsRow_nil _ _ _ _, b2⟩
  · have E := Lib.hid (show dfE l m = tabE l ∧ dfL l m = [] by
      have : dfE l m = tabE l := by rw [dfE, if_neg h1]
      exact ⟨this, by rw [dfL, this, if_neg h1]⟩)
    rw [E.out.1]
    generalize tabE l = t at C1 h1 ⊢
    have hz1 : (t == 0) = false := by simpa using h1
    have hz2 : (t != 0) = true := by simp [bne, hz1]
    go_enter Try.func14, Try.ntmps14
    go_wp2_with fail
    refine C1.out.mono ?_
    rintro e w1 ⟨u1, rfl, ho1, hb1⟩
    clear C1 C2
    go_wp2
    go_ret2
    exact ⟨.slice none 0 0, by simp, by rw [E.out.2]; exact World.ownsRow_nil _ _ _ _, hb1⟩
end Go.Proofs.Ytmjlmfbceccjdaa
/-
  Plain mathematics of DeltaNone: a table in another order; the difference of a table and itself.
-/
namespace Go.Proofs.Ytmjlmfbceccjdaa
open Go.RowKit
set_option linter.unusedVariables false
set_option linter.unusedSimpArgs false
theorem nodup_keysD {U : List RT} (h : (U.map Prod.fst).Nodup) : U.Nodup := by
  rw [List.nodup_iff_pairwise_ne] at *
  rw [List.pairwise_map] at h
  exact h.imp fun {a b} g e => g (by rw [e])
theorem nodup_injD {α : Type} {l : List α} (h : l.Nodup) {i j : Nat} (hi : i < l.length) (hj : j < l.length) (e : l[i] = l[j]) : i = j := by
  rw [List.nodup_iff_pairwise_ne, List.pairwise_iff_getElem] at h
  rcases Nat.lt_trichotomy i j with c | c | c
  · exact absurd e (h i j hi hj c)
  · exact c
  · exact absurd e.symm (h j i hj hi c)
theorem beh_of : ∀ (t S : List RT), (∀ r ∈ t, rtE r = 0) → (t.map Prod.fst).Nodup → (∀ r ∈ t, hasR S r.1 = false) → behE S t = 0
  | [], _, _, _, _ => rfl
  | r :: t, S, h1, h2, h3 => by
    rw [List.map_cons, List.nodup_cons] at h2
    rw [behE, if_pos (h1 r (by simp)), h3 r (by simp)]
    refine beh_of t _ (fun x hx => h1 x (by simp [hx])) h2.2 fun x hx => ?_
    have g := h3 x (by simp [hx])
    rw [hasR, List.any_eq_false] at g ⊢
    intro y hy
    rcases insR_mem.1 hy with rfl | hy
    · simp only [decide_eq_true_eq]
      intro e
      exact h2.1 (List.mem_map.2 ⟨x, hx, e.symm⟩)
    · exact g y hy
theorem tab_of {t : List RT} (h1 : ∀ r ∈ t, rtE r = 0) (h2 : (t.map Prod.fst).Nodup) (h3 : t.length ≤ 60) : tabE t = 0 := by
  unfold tabE; rw [if_neg (by omega)]; exact beh_of t [] h1 h2 fun r _ => rfl
theorem keys_inv {L : List RT} (I : InvR L) : (L.map Prod.fst).Nodup := by
  rw [List.nodup_iff_pairwise_ne, List.pairwise_map]
  exact I.sorted.imp fun h => ltK_ne h
theorem tab_self {L : List RT} (I : InvR L) : tabE L = 0 := tab_of I.fine (keys_inv I) I.size
theorem srt_self {L : List RT} (I : InvR L) : srt L = L := sorted_same _ _ (srt_inv (tab_self I)).sorted I.sorted (srt_mem L)
/-- A list begun at another place. -/
def rotL (L : List RT) (d k : Nat) : List RT := (List.range k).map fun i => L[(i + d) % L.length]!
theorem rotL_len (L : List RT) (d k : Nat) : (rotL L d k).length = k := by simp [rotL]
theorem rotL_succ (L : List RT) (d k : Nat) : rotL L d (k + 1) = rotL L d k ++ [L[(k + d) % L.length]!] := by simp [rotL, List.range_succ]
theorem rotL_mem {L : List RT} {d k : Nat} (h0 : 0 < L.length) {r : RT} (h : r ∈ rotL L d k) : r ∈ L := by
  obtain ⟨i, _, rfl⟩ := List.mem_map.1 h
  have := Nat.mod_lt (i + d) h0
  rw [getElem!_pos L _ this]; exact List.getElem_mem this
theorem rot_inj {m d i j : Nat} (hi : i < m) (hj : j < m) (h : (i + d) % m = (j + d) % m) : i = j := by
  have h1 := Nat.div_add_mod (i + d) m
  have h2 := Nat.div_add_mod (j + d) m
  rw [h] at h1
  rcases Nat.lt_trichotomy ((i + d) / m) ((j + d) / m) with c | c | c
  · have : m * ((i + d) / m) + m ≤ m * ((j + d) / m) := by rw [← Nat.mul_succ]; exact Nat.mul_le_mul_left m c
    omega
  · rw [c] at h1; omega
  · have : m * ((j + d) / m) + m ≤ m * ((i + d) / m) := by rw [← Nat.mul_succ]; exact Nat.mul_le_mul_left m c
    omega
theorem rot_keys {L : List RT} (I : InvR L) (d : Nat) : ((rotL L d L.length).map Prod.fst).Nodup := by
  rw [rotL, List.map_map, List.nodup_iff_pairwise_ne, List.pairwise_map]
  refine List.pairwise_iff_getElem.2 fun i j hi hj hij => ?_
  simp only [List.length_range] at hi hj
  simp only [List.getElem_range, Function.comp]
  intro e
  have h0 : 0 < L.length := by omega
  have a := Nat.mod_lt (i + d) h0
  have b := Nat.mod_lt (j + d) h0
  rw [getElem!_pos L _ a, getElem!_pos L _ b] at e
  have k := keys_inv I
  have := nodup_injD k (i := (i + d) % L.length) (j := (j + d) % L.length) (by simpa using a) (by simpa using b) (by simpa using e)
  have := rot_inj hi hj this
  omega
theorem rot_tab {L : List RT} (I : InvR L) (d : Nat) : tabE (rotL L d L.length) = 0 := by
  rcases Nat.eq_zero_or_pos L.length with h | h
  · rw [h]; rfl
  · exact tab_of (fun r hr => I.fine r (rotL_mem h hr)) (rot_keys I d) (by rw [rotL_len]; exact I.size)
theorem rot_srt {L : List RT} (I : InvR L) (d : Nat) : srt (rotL L d L.length) = L := by
  refine sorted_same _ _ (srt_inv (rot_tab I d)).sorted I.sorted fun x => ?_
  rw [srt_mem]
  rcases Nat.eq_zero_or_pos L.length with h | h
  · rw [h, List.eq_nil_of_length_eq_zero h]; simp [rotL]
  · refine ⟨rotL_mem h, fun hx => ?_⟩
    have nd := nodup_keysD (rot_keys I d)
    refine Classical.byContradiction fun hn => ?_
    have := nodup_len (x :: rotL L d L.length) L (List.nodup_cons.2 ⟨hn, nd⟩) (fun y hy => by
      rcases List.mem_cons.1 hy with rfl | hy
      · exact hx
      · exact rotL_mem h hy)
    rw [List.length_cons, rotL_len] at this
    omega
theorem dif_self {L : List RT} : difL L L = [] := by
  have a : cutsL L L = [] := by
    unfold cutsL
    rw [List.filter_eq_nil_iff.2 fun r hr => by
      have : anyP L r = true := List.any_eq_true.2 ⟨r, hr, decide_eq_true rfl⟩
      simp [this]]
    rfl
  have b : wiL L L = [] := by
    unfold wiL
    rw [List.filter_eq_nil_iff.2 fun r hr => by simp [hr]]
  rw [difL, a, b]; rfl
def oneT : List RT := [((false, 0, 0), 3)]
theorem one_inv : InvR oneT where
  sorted := by simp [oneT, SortedR]
  fine := fun r hr => by
    simp only [oneT, List.mem_singleton] at hr
    subst hr
    have : chkE false 0 0 = 0 := chk_mk false 0 0 (by decide) (by decide) (by unfold lowN; simp)
    simp [rtE, this]
  size := by simp [oneT]
theorem one_dif : dfE [] oneT = 0 ∧ (dfL [] oneT).length = 1 := by
  have h1 : tabE [] = 0 := rfl
  have h2 := tab_self one_inv
  have e : dfE [] oneT = 0 := by rw [dfE, if_pos h1, h2]
  refine ⟨e, ?_⟩
  rw [dfL, if_pos e, srt_self one_inv]
  rfl
end Go.Proofs.Ytmjlmfbceccjdaa
