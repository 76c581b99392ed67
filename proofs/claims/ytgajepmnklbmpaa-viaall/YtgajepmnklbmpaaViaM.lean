/-
  Plain mathematics: vias, their errors, and where they lead.
-/
import Derived.Test.YtgajepmnklbmpaaG2
namespace Go.Proofs.Ytgajepmnklbmpaa
open Go.RowKit
set_option linter.unusedVariables false
set_option linter.unusedSimpArgs false
/-- A via: hop, port, next. -/
abbrev VT := Int × Int × Int
def vcs (v : VT) : List Value := [.int .i64 v.1, .int .i64 v.2.1, .int .i64 v.2.2]
theorem vcs_len (v : VT) : (vcs v).length = 3 := rfl
theorem vcs_one (v : VT) : ∀ u ∈ vcs v, u.oneCell' = true := by
  intro u hu
  simp only [vcs, List.mem_cons, List.not_mem_nil, or_false] at hu
  rcases hu with h | h | h <;> subst h <;> rfl
abbrev RowV (w : World) (v : Value) (l : List VT) : Prop := RowK vcs 3 w v l
abbrev OwnV (w : World) (base : Nat) (v : Value) (l : List VT) : Prop := w.ownsRow base 27 3 v l.length (rowOf vcs l)
theorem OwnV.row {w : World} {base : Nat} {v : Value} {l : List VT} (h : OwnV w base v l) : RowV w v l := RowK.owned vcs_len h
theorem viaCells {w : World} {g o : Nat} {v : VT} (h : RecAt w g o (vcs v)) : w.cell? ⟨g, o, none⟩ = some (.int .i64 v.1) ∧ w.cell? ⟨g, o + 1, none⟩ = some (.int .i64 v.2.1) ∧ w.cell? ⟨g, o + 2, none⟩ = some (.int .i64 v.2.2) :=
  ⟨h 0 _ rfl, h 1 _ rfl, h 2 _ rfl⟩
/-- The error of one via. -/
def vfE (v : VT) : Int := if ¬ (1 ≤ v.1 ∧ v.1 ≤ 999) then 2 else if (v.2.1 = 0 ↔ v.2.2 = 0) then 4 else if ¬ (0 ≤ v.2.1 ∧ v.2.1 ≤ 999 ∧ 0 ≤ v.2.2 ∧ v.2.2 ≤ 999) then 2 else 0
theorem vfE_0 {v : VT} (h : vfE v = 0) : 1 ≤ v.1 ∧ v.1 ≤ 999 ∧ 0 ≤ v.2.1 ∧ v.2.1 ≤ 999 ∧ 0 ≤ v.2.2 ∧ v.2.2 ≤ 999 ∧ ¬ (v.2.1 = 0 ↔ v.2.2 = 0) := by
  unfold vfE at h
  split at h
  · cases h
  · split at h
    · cases h
    · split at h
      · cases h
      · omega
def hasV (s : List VT) (h : Int) : Bool := s.any fun u => decide (u.1 = h)
/-- The error of the rest of a list, behind what was seen. -/
def veS : List VT → List VT → Int
  | _, [] => 0
  | s, v :: t => if vfE v ≠ 0 then vfE v else if hasV s v.1 = true then 8 else veS (s ++ [v]) t
def viaE (l : List VT) : Int := if 60 < l.length then 1 else veS [] l
theorem veS_step {l : List VT} {k : Nat} (hk : k < l.length) : veS (l.take k) (l.drop k) = if vfE l[k] ≠ 0 then vfE l[k] else if hasV (l.take k) l[k].1 = true then 8 else veS (l.take (k + 1)) (l.drop (k + 1)) := by
  rw [List.drop_eq_getElem_cons hk, veS, List.take_succ_eq_append_getElem hk]
theorem veS_end (l : List VT) : veS (l.take l.length) (l.drop l.length) = 0 := by rw [List.drop_length]; cases l.take l.length <;> rfl
theorem veS_0 : ∀ (t s : List VT), veS s t = 0 → (∀ v ∈ t, vfE v = 0) ∧ (∀ v ∈ t, hasV s v.1 = false) ∧ (t.map Prod.fst).Nodup
  | [], s, _ => ⟨by simp, by simp, by simp⟩
  | v :: t, s, h => by
    rw [veS] at h
    split at h
    · rename_i h1; exact absurd h h1
    · rename_i h1
      have h1 : vfE v = 0 := by simpa using h1
      split at h
      · cases h
      · rename_i h2
        obtain ⟨i1, i2, i3⟩ := veS_0 t _ h
        have key : ∀ u ∈ t, hasV s u.1 = false ∧ ¬ u.1 = v.1 := fun u hu => by
          have := i2 u hu
          unfold hasV at this ⊢
          rw [List.any_append, Bool.or_eq_false_iff] at this
          refine ⟨this.1, fun e => ?_⟩
          have h3 := this.2
          simp [e] at h3
        refine ⟨fun u hu => ?_, fun u hu => ?_, ?_⟩
        · rcases List.mem_cons.1 hu with rfl | hu
          · exact h1
          · exact i1 u hu
        · rcases List.mem_cons.1 hu with rfl | hu
          · simpa using h2
          · exact (key u hu).1
        · rw [List.map_cons, List.nodup_cons]
          refine ⟨fun hm => ?_, i3⟩
          obtain ⟨u, hu, e⟩ := List.mem_map.1 hm
          exact (key u hu).2 e
theorem viaE_0 {l : List VT} (h : viaE l = 0) : l.length ≤ 60 ∧ (∀ v ∈ l, vfE v = 0) ∧ (l.map Prod.fst).Nodup := by
  unfold viaE at h
  split at h
  · cases h
  · obtain ⟨h1, _, h3⟩ := veS_0 _ _ h
    exact ⟨by omega, h1, h3⟩
/-- The via of a hop. -/
def vfind (l : List VT) (h : Int) : Option VT := l.find? fun v => decide (v.1 = h)
def vget (l : List VT) (h : Int) : VT := (vfind l h).getD (0, 0, 0)
theorem vfind_has (l : List VT) (h : Int) : (vfind l h).isSome = hasV l h := by unfold vfind hasV; rw [Bool.eq_iff_iff, List.find?_isSome]; simp
theorem vfind_some {l : List VT} {h : Int} {v : VT} (e : vfind l h = some v) : v ∈ l ∧ v.1 = h := ⟨List.mem_of_find?_eq_some e, by have := List.find?_some e; simpa using this⟩
theorem vfind_snoc_same {l : List VT} {v : VT} (h : hasV l v.1 = false) : vfind (l ++ [v]) v.1 = some v := by
  have h1 : vfind l v.1 = none := by rw [← Option.isNone_iff_eq_none]; have := vfind_has l v.1; rw [h] at this; simpa using this
  unfold vfind at h1 ⊢
  rw [List.find?_append, h1]; simp
theorem vfind_snoc_other {l : List VT} {v : VT} {h : Int} (hn : h ≠ v.1) : vfind (l ++ [v]) h = vfind l h := by
  unfold vfind
  rw [List.find?_append]
  have : [v].find? (fun v => decide (v.1 = h)) = none := by simp [List.find?, decide_eq_false (Ne.symm hn)]
  rw [this]; simp
theorem hasV_snoc (l : List VT) (v : VT) (h : Int) : hasV (l ++ [v]) h = (hasV l h || decide (v.1 = h)) := by unfold hasV; rw [List.any_append]; simp
/-- One step on the way: the hop's via, what was come to. -/
def vst (o : Option VT) (h : Int) (been : List Int) (rec : Int × Int × Int) : Int × Int × Int :=
  match o with
  | none => (0, 0, 7)
  | some v => if h ∈ been then (0, 0, 10) else if 8 < been.length then (0, 0, 9) else if 0 < v.2.1 then (v.2.1, (been.length : Int), 0) else rec
/-- Where a hop leads: port, depth, error. -/
def vp (l : List VT) : Nat → Int → List Int → Int × Int × Int
  | 0, h, been => vst (vfind l h) h been (0, 0, 9)
  | n + 1, h, been => vst (vfind l h) h been (vp l n (vget l h).2.2 (been ++ [h]))
def vport (l : List VT) (h : Int) : Int × Int × Int := vp l 9 h []
theorem vp_any (l : List VT) : ∀ (n m : Nat) (h : Int) (been : List Int), 9 ≤ n + been.length → 9 ≤ m + been.length → vp l n h been = vp l m h been
  | 0, 0, h, been, _, _ => rfl
  | 0, m + 1, h, been, h1, h2 => by
    rw [vp, vp]
    unfold vst
    cases vfind l h with
    | none => rfl
    | some v =>
      show (if h ∈ been then _ else if 8 < been.length then _ else _) = (if h ∈ been then _ else if 8 < been.length then _ else _)
      rw [if_pos (show 8 < been.length by omega), if_pos (show 8 < been.length by omega)]
  | n + 1, 0, h, been, h1, h2 => by
    rw [vp, vp]
    unfold vst
    cases vfind l h with
    | none => rfl
    | some v =>
      show (if h ∈ been then _ else if 8 < been.length then _ else _) = (if h ∈ been then _ else if 8 < been.length then _ else _)
      rw [if_pos (show 8 < been.length by omega), if_pos (show 8 < been.length by omega)]
  | n + 1, m + 1, h, been, h1, h2 => by
    rw [vp, vp]
    rw [vp_any l n m _ (been ++ [h]) (by rw [List.length_append]; simp; omega) (by rw [List.length_append]; simp; omega)]
/-- What both say of a hop of a list. -/
def vportE (l : List VT) (h : Int) : Int × Int × Int := if viaE l = 0 then vport l h else (0, 0, viaE l)
end Go.Proofs.Ytgajepmnklbmpaa
