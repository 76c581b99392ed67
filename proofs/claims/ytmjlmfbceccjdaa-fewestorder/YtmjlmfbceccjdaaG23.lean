/-
  Laid together: FwG, DNoneM, DeltaG.
-/
import Derived.Test.YtmjlmfbceccjdaaG21
import Derived.Test.YtmjlmfbceccjdaaG9
import Derived.Test.YtmjlmfbceccjdaaTabH
import Derived.Test.YtmjlmfbceccjdaaG5
import Derived.Test.YtmjlmfbceccjdaaDeltaD
import Derived.Test.YtmjlmfbceccjdaaG14
import Derived.Test.YtmjlmfbceccjdaaG15
import Derived.Test.YtmjlmfbceccjdaaG16
import Derived.Deep.QuietTactic
/-
  fewest.check.
-/
namespace Go.Proofs.Ytmjlmfbceccjdaa
open Go.RowKit
set_option linter.unusedVariables false
set_option linter.unusedSimpArgs false
/-- The error of a table that is to be compressed. -/
def fwE (l : List RT) : Int := if tabE l = 0 then (if (l.any fun r => r.1.1) = true then 6 else if (l.any fun r => decide (r.1 = (false, 0, 0))) = true then 0 else 7) else tabE l
theorem fck1_calls (r : RT) (w : World) :
    Calls Try.prog 59 #[.agg #[.bool r.1.1, .int .u64 (aH r.1.2.1), .int .u64 (aL r.1.2.1), .int .i64 r.1.2.2, .int .i64 r.2]] w fun e w' => e = .returned (.bool r.1.1) ∧ Below w.heap.size w w' := by
  have b1 := (Below.refl w.heap.size w).alloc (Nat.le_refl _) (.cells #[.bool r.1.1, .int .u64 (aH r.1.2.1), .int .u64 (aL r.1.2.1), .int .i64 r.1.2.2, .int .i64 r.2] 51)
  go_enter Try.func59, Try.ntmps59
  go_wp2
  go_ret
  exact ⟨rfl, b1⟩
set_option maxHeartbeats 1000000 in
theorem fck2_calls (r : RT) (w : World) :
    Calls Try.prog 60 #[.agg #[.bool r.1.1, .int .u64 (aH r.1.2.1), .int .u64 (aL r.1.2.1), .int .i64 r.1.2.2, .int .i64 r.2]] w fun e w' => e = .returned (.bool (decide (r.1 = (false, 0, 0)))) ∧ Below w.heap.size w w' := by
  have b1 := (Below.refl w.heap.size w).alloc (Nat.le_refl _) (.cells #[.bool r.1.1, .int .u64 (aH r.1.2.1), .int .u64 (aL r.1.2.1), .int .i64 r.1.2.2, .int .i64 r.2] 51)
  have a0 : aH 0 = 0 := by unfold aH; simp
  have l0 : aL 0 = 0 := by unfold aL; simp
  obtain ⟨p, h⟩ := r
  simp only at b1 ⊢
  rcases pk_cases p (false, 0, 0) with e | e | ⟨e1, e⟩ | ⟨e1, e2, e⟩ | ⟨e1, e2, e3, e⟩
  · subst e
    simp only [a0, l0] at b1 ⊢
    go_enter Try.func60, Try.ntmps60
    go_wp2
    go_ret
    exact ⟨by simp, b1⟩
  all_goals
    have hd : decide (p = (false, 0, 0)) = false := decide_eq_false fun h => by rw [h] at e; simp at e
    rw [hd]
    simp only [a0, l0] at e
    try simp only [a0] at e2
    try simp only [l0] at e3
    try rw [e1] at b1 ⊢
    try rw [e2] at b1 ⊢
    try rw [e3] at b1 ⊢
    clear hd
    go_enter Try.func60, Try.ntmps60
    go_wp2
    go_ret
    exact ⟨by simp, b1⟩
end Go.Proofs.Ytmjlmfbceccjdaa
/-
  Plain mathematics of DeltaNone: a table in another order; the difference of a table and itself.
-/
namespace Go.Proofs.Ytmjlmfbceccjdaa
open Go.RowKit
set_option linter.unusedVariables false
set_option linter.unusedSimpArgs false
theorem nodup_keysD {U : List RT} (h : (U.map Prod.fst).Nodup) : U.Nodup := by
  rw [List.nodup_iff_pairwise_ne] at *
  rw [List.pairwise_map] at h
  exact h.imp fun {a b} g e => g (by rw [e])
theorem nodup_injD {α : Type} {l : List α} (h : l.Nodup) {i j : Nat} (hi : i < l.length) (hj : j < l.length) (e : l[i] = l[j]) : i = j := by
  rw [List.nodup_iff_pairwise_ne, List.pairwise_iff_getElem] at h
  rcases Nat.lt_trichotomy i j with c | c | c
  · exact absurd e (h i j hi hj c)
  · exact c
  · exact absurd e.symm (h j i hj hi c)
theorem beh_of : ∀ (t S : List RT), (∀ r ∈ t, rtE r = 0) → (t.map Prod.fst).Nodup → (∀ r ∈ t, hasR S r.1 = false) → behE S t = 0
  | [], _, _, _, _ => rfl
  | r :: t, S, h1, h2, h3 => by
    rw [List.map_cons, List.nodup_cons] at h2
    rw [behE, if_pos (h1 r (by simp)), h3 r (by simp)]
    refine beh_of t _ (fun x hx => h1 x (by simp [hx])) h2.2 fun x hx => ?_
    have g := h3 x (by simp [hx])
    rw [hasR, List.any_eq_false] at g ⊢
    intro y hy
    rcases insR_mem.1 hy with rfl | hy
    · simp only [decide_eq_true_eq]
      intro e
      exact h2.1 (List.mem_map.2 ⟨x, hx, e.symm⟩)
    · exact g y hy
theorem tab_of {t : List RT} (h1 : ∀ r ∈ t, rtE r = 0) (h2 : (t.map Prod.fst).Nodup) (h3 : t.length ≤ 60) : tabE t = 0 := by
  unfold tabE; rw [if_neg (by omega)]; exact beh_of t [] h1 h2 fun r _ => rfl
theorem keys_inv {L : List RT} (I : InvR L) : (L.map Prod.fst).Nodup := by
  rw [List.nodup_iff_pairwise_ne, List.pairwise_map]
  exact I.sorted.imp fun h => ltK_ne h
theorem tab_self {L : List RT} (I : InvR L) : tabE L = 0 := tab_of I.fine (keys_inv I) I.size
theorem srt_self {L : List RT} (I : InvR L) : srt L = L := sorted_same _ _ (srt_inv (tab_self I)).sorted I.sorted (srt_mem L)
/-- A list begun at another place. -/
def rotL (L : List RT) (d k : Nat) : List RT := (List.range k).map fun i => L[(i + d) % L.length]!
theorem rotL_len (L : List RT) (d k : Nat) : (rotL L d k).length = k := by simp [rotL]
theorem rotL_succ (L : List RT) (d k : Nat) : rotL L d (k + 1) = rotL L d k ++ [L[(k + d) % L.length]!] := by simp [rotL, List.range_succ]
theorem rotL_mem {L : List RT} {d k : Nat} (h0 : 0 < L.length) {r : RT} (h : r ∈ rotL L d k) : r ∈ L := by
  obtain ⟨i, _, rfl⟩ := List.mem_map.1 h
  have := Nat.mod_lt (i + d) h0
  rw [getElem!_pos L _ this]; exact List.getElem_mem this
theorem rot_inj {m d i j : Nat} (hi : i < m) (hj : j < m) (h : (i + d) % m = (j + d) % m) : i = j := by
  have h1 := Nat.div_add_mod (i + d) m
  have h2 := Nat.div_add_mod (j + d) m
  rw [h] at h1
  rcases Nat.lt_trichotomy ((i + d) / m) ((j + d) / m) with c | c | c
  · have : m * ((i + d) / m) + m ≤ m * ((j + d) / m) := by rw [← Nat.mul_succ]; exact Nat.mul_le_mul_left m c
    omega
  · rw [c] at h1; omega
  · have : m * ((j + d) / m) + m ≤ m * ((i + d) / m) := by rw [← Nat.mul_succ]; exact Nat.mul_le_mul_left m c
    omega
theorem rot_keys {L : List RT} (I : InvR L) (d : Nat) : ((rotL L d L.length).map Prod.fst).Nodup := by
  rw [rotL, List.map_map, List.nodup_iff_pairwise_ne, List.pairwise_map]
  refine List.pairwise_iff_getElem.2 fun i j hi hj hij => ?_
  simp only [List.length_range] at hi hj
  simp only [List.getElem_range, Function.comp]
  intro e
  have h0 : 0 < L.length := by omega
  have a := Nat.mod_lt (i + d) h0
  have b := Nat.mod_lt (j + d) h0
  rw [getElem!_pos L _ a, getElem!_pos L _ b] at e
  have k := keys_inv I
  have := nodup_injD k (i := (i + d) % L.length) (j := (j + d) % L.length) (by simpa using a) (by simpa using b) (by simpa using e)
  have := rot_inj hi hj this
  omega
theorem rot_tab {L : List RT} (I : InvR L) (d : Nat) : tabE (rotL L d L.length) = 0 := by
  rcases Nat.eq_zero_or_pos L.length with h | h
  · rw [h]; rfl
  · exact tab_of (fun r hr => I.fine r (rotL_mem h hr)) (rot_keys I d) (by rw [rotL_len]; exact I.size)
theorem rot_srt {L : List RT} (I : InvR L) (d : Nat) : srt (rotL L d L.length) = L := by
  refine sorted_same _ _ (srt_inv (rot_tab I d)).sorted I.sorted fun x => ?_
  rw [srt_mem]
  rcases Nat.eq_zero_or_pos L.length with h | h
  · rw [h, List.eq_nil_of_length_eq_zero h]; simp [rotL]
  · refine ⟨rotL_mem h, fun hx => ?_⟩
    have nd := nodup_keysD (rot_keys I d)
    refine Classical.byContradiction fun hn => ?_
    have := nodup_len (x :: rotL L d L.length) L (List.nodup_cons.2 ⟨hn, nd⟩) (fun y hy => by
      rcases List.mem_cons.1 hy with rfl | hy
      · exact hx
      · exact rotL_mem h hy)
    rw [List.length_cons, rotL_len] at this
    omega
theorem dif_self {L : List RT} : difL L L = [] := by
  have a : cutsL L L = [] := by
    unfold cutsL
    rw [List.filter_eq_nil_iff.2 fun r hr => by
      have : anyP L r = true := List.any_eq_true.2 ⟨r, hr, decide_eq_true rfl⟩
      simp [this]]
    rfl
  have b : wiL L L = [] := by
    unfold wiL
    rw [List.filter_eq_nil_iff.2 fun r hr => by simp [hr]]
  rw [difL, a, b]; rfl
def oneT : List RT := [((false, 0, 0), 3)]
theorem one_inv : InvR oneT where
  sorted := by simp [oneT, SortedR]
  fine := fun r hr => by
    simp only [oneT, List.mem_singleton] at hr
    subst hr
    have : chkE false 0 0 = 0 := chk_mk false 0 0 (by decide) (by decide) (by unfold lowN; simp)
    simp [rtE, this]
  size := by simp [oneT]
theorem one_dif : dfE [] oneT = 0 ∧ (dfL [] oneT).length = 1 := by
  have h1 : tabE [] = 0 := rfl
  have h2 := tab_self one_inv
  have e : dfE [] oneT = 0 := by rw [dfE, if_pos h1, h2]
  refine ⟨e, ?_⟩
  rw [dfL, if_pos e, srt_self one_inv]
  rfl
end Go.Proofs.Ytmjlmfbceccjdaa
/-
  delta.play: acts on a sorted table, up to the first one with an error.
-/
namespace Go.Proofs.Ytmjlmfbceccjdaa
open Go.RowKit
set_option linter.unusedVariables false
set_option linter.unusedSimpArgs false
/-- The error of an act in a list of acts that may be puts and cuts alone. -/
def actE (L : List RT) (a : ActT) : Int := if a.k = 1 ∨ a.k = 2 then (doA L a).1 else 3
def appE : List RT → List ActT → Int
  | _, [] => 0
  | L, a :: t => if actE L a = 0 then appE (doL L a) t else actE L a
def appL (L : List RT) (l : List ActT) : List RT := l.foldl doL L
theorem runX_app : ∀ (a b : List ActT) (L : List RT), runX L (a ++ b) = runX L a ++ runX (appL L a) b
  | [], b, L => rfl
  | x :: a, b, L => by
    show _ :: runX (doL L x) (a ++ b) = _ :: (runX (doL L x) a ++ _)
    rw [runX_app a b (doL L x)]
    rfl
theorem runL_app (a b : List ActT) : runL (a ++ b) = appL (runL a) b := List.foldl_append ..
theorem runX_atD : ∀ (l : List ActT) (L : List RT) (k : Nat) (hk : k < l.length), (runX L l)[k]? = some (doA (appL L (l.take k)) l[k])
  | a :: t, L, 0, _ => rfl
  | a :: t, L, k + 1, hk => by
    show (doA L a :: runX (doL L a) t)[k + 1]? = _
    rw [List.getElem?_cons_succ, runX_atD t (doL L a) k (by simpa using hk)]
    rfl
theorem appL_take {L : List RT} {l : List ActT} {k : Nat} (hk : k < l.length) : appL L (l.take (k + 1)) = doL (appL L (l.take k)) l[k] := by
  unfold appL; rw [take_snoc hk, List.foldl_append]; rfl
theorem appE_drop {L : List RT} {l : List ActT} {k : Nat} (hk : k < l.length) (h : actE (appL L (l.take k)) l[k] = 0) : appE (appL L (l.take k)) (l.drop k) = appE (appL L (l.take (k + 1))) (l.drop (k + 1)) := by
  rw [List.drop_eq_getElem_cons hk, appE, if_pos h, appL_take hk]
theorem appE_stop {L : List RT} {l : List ActT} {k : Nat} (hk : k < l.length) (h : actE (appL L (l.take k)) l[k] ≠ 0) : appE (appL L (l.take k)) (l.drop k) = actE (appL L (l.take k)) l[k] := by
  rw [List.drop_eq_getElem_cons hk, appE, if_neg h]
/-- A play of the puts of a sorted table and some acts. -/
theorem play_puts {S : List RT} (I : InvR S) {P : List ActT} (hP : P.length ≤ 40) : playE (putsL S ++ P) = 0 ∧ playL (putsL S ++ P) = appL S P ∧ playX (putsL S ++ P) = runX [] (putsL S) ++ runX S P := by
  have h1 : runL (putsL S) = S := by rw [(puts_run (tab_self I)).1, srt_self I]
  have hl : ¬ 100 < (putsL S ++ P).length := by rw [List.length_append, putsL_len]; have := I.size; omega
  refine ⟨by rw [playE, if_neg hl], by rw [playL, if_neg hl, runL_app, h1], by rw [playX, if_neg hl, runX_app]; rw [show appL [] (putsL S) = runL (putsL S) from rfl, h1]⟩
end Go.Proofs.Ytmjlmfbceccjdaa
