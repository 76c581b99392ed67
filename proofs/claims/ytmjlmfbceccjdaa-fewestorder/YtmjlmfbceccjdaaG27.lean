/-
  Laid together: FwW, ActOwn.
-/
import Derived.Test.YtmjlmfbceccjdaaTabY
import Derived.Test.YtmjlmfbceccjdaaG14
import Derived.Test.YtmjlmfbceccjdaaG16
import Derived.Test.YtmjlmfbceccjdaaG22
import Derived.Deep.CutRange
import Derived.Deep.DeepCutAuto
/-
  whipcordkeep.wholeTable.
-/
namespace Go.Proofs.Ytmjlmfbceccjdaa
open Go.RowKit
set_option linter.unusedVariables false
set_option linter.unusedSimpArgs false
/-- A table that routes all of its family. -/
def wholeZ (l : List JT) (h : Int) : List RT := ((false, 0, 0), 1 + h % 5) :: runL (actsZ l 50)
theorem doL_memW {L : List RT} (I : InvR L) {a : ActT} {x : RT} (h : x ∈ doL L a) : x ∈ L ∨ (a.k = 1 ∧ x = (a.p, a.h)) := by
  unfold doL at h
  by_cases h1 : a.k = 1
  · rw [if_pos h1] at h
    by_cases hz : putE L (a.p, a.h) = 0
    · rcases (put_mem I hz x).1 h with h | ⟨h, _⟩
      · exact .inr ⟨h1, h⟩
      · exact .inl h
    · rw [put_err hz] at h; exact .inl h
  · rw [if_neg h1] at h
    by_cases h2 : a.k = 2
    · rw [if_pos h2] at h
      by_cases hz : finE L a.p = 0
      · exact .inl ((cut_mem I hz x).1 h).1
      · rw [cut_err hz] at h; exact .inl h
    · rw [if_neg h2] at h; exact .inl h
theorem doL_invW {L : List RT} (I : InvR L) (a : ActT) : InvR (doL L a) := by
  unfold doL
  by_cases h1 : a.k = 1
  · rw [if_pos h1]; exact I.put _
  · rw [if_neg h1]
    by_cases h2 : a.k = 2
    · rw [if_pos h2]; exact I.cut _
    · rw [if_neg h2]; exact I
theorem run_memW : ∀ (P : List ActT) (L : List RT), InvR L → ∀ x, x ∈ P.foldl doL L → x ∈ L ∨ ∃ a ∈ P, a.k = 1 ∧ x = (a.p, a.h)
  | [], L, I, x, h => .inl h
  | a :: P, L, I, x, h => by
    rcases run_memW P (doL L a) (doL_invW I a) x h with h | ⟨b, hb, h⟩
    · rcases doL_memW I h with h | h
      · exact .inl h
      · exact .inr ⟨a, by simp, h⟩
    · exact .inr ⟨b, by simp [hb], h⟩
theorem acts_keys (l : List JT) (n : Nat) : ∀ r ∈ runL (actsZ l n), r.1.1 = false ∧ r.1 ≠ (false, 0, 0) := fun r hr => by
  rcases run_memW _ [] (InvR.run []) r hr with h | ⟨a, ha, hk, e⟩
  · cases h
  · obtain ⟨j, _, rfl⟩ := List.mem_map.1 ha
    have hp : (actZ j).p = preZ j.2.1 := by
      unfold actZ at hk ⊢
      by_cases h1 : 5 < j.1 % 8
      · rw [if_pos h1] at hk; exact absurd hk (by show ¬ (3 : Int) = 1; decide)
      · rw [if_neg h1] at hk ⊢
        by_cases h2 : j.1 % 8 = 5
        · rw [if_pos h2] at hk; exact absurd hk (by show ¬ (4 : Int) = 1; decide)
        · rw [if_neg h2] at hk ⊢
          by_cases h3 : 2 < j.1 % 8
          · rw [if_pos h3] at hk; exact absurd hk (by show ¬ (2 : Int) = 1; decide)
          · rw [if_neg h3]
    rw [e]
    show (actZ j).p.1 = false ∧ (actZ j).p ≠ (false, 0, 0)
    rw [hp]
    refine ⟨rfl, fun c => ?_⟩
    have := congrArg (fun q : PK => q.2.2) c
    simp only [preZ] at this
    omega
theorem chk_def : chkE false 0 0 = 0 := chk_mk false 0 0 (by decide) (by decide) (by unfold lowN; simp)
theorem whole_fw (l : List JT) (h : Int) : fwE (wholeZ l h) = 0 ∧ (wholeZ l h).length ≤ 51 := by
  have I := InvR.run (actsZ l 50)
  have hl : (runL (actsZ l 50)).length ≤ 50 := Nat.le_trans (runL_len _) (by unfold actsZ; rw [List.length_map, List.length_take]; omega)
  have hk := acts_keys l 50
  have hh : 1 ≤ 1 + h % 5 ∧ 1 + h % 5 ≤ 999 := by
    have := Int.emod_nonneg h (show (5 : Int) ≠ 0 by decide)
    have := Int.emod_lt_of_pos h (show (0 : Int) < 5 by decide)
    omega
  have hlen : (wholeZ l h).length ≤ 51 := by unfold wholeZ; rw [List.length_cons]; omega
  refine ⟨fwE_mk (tab_ofF (fun r hr => ?_) ?_ (by omega)) (fun r hr => ?_) ⟨_, List.mem_cons_self .., rfl⟩, hlen⟩
  · rcases List.mem_cons.1 hr with e | hr
    · rw [e, rtE, if_pos chk_def, if_pos hh]
    · exact I.fine r hr
  · unfold wholeZ
    rw [List.map_cons, List.nodup_cons]
    refine ⟨fun c => ?_, ?_⟩
    · obtain ⟨r, hr, e⟩ := List.mem_map.1 c
      exact (hk r hr).2 e
    · rw [List.nodup_iff_pairwise_ne, List.pairwise_map]
      exact I.sorted.imp fun h => ltK_ne h
  · rcases List.mem_cons.1 hr with e | hr
    · rw [e]
    · exact (hk r hr).1
theorem words_tab {l : List RT} (h : tabE l = 0) : WordsR l := fun r hr => lt128 (chk0 ((tabE_val h).1 r hr)).1
set_option maxHeartbeats 4000000 in
set_option maxRecDepth 100000 in
theorem whole_calls (l : List JT) (v : Value) (h : Int) (hlen : l.length ≤ 9223372036854775807) (hw : WordsJ l) (h0 : -9223372036854775808 ≤ h) (h1 : h ≤ 9223372036854775807) (w : World) (row : RowJ w v l) :
    Calls Try.prog 18 #[v, .int .i64 h] w fun e w' => ∃ u, e = .returned (.tuple #[u, .bool true]) ∧ OwnR w' w.heap.size u (wholeZ l h) ∧ Below w.heap.size w w' := by
  obtain ⟨i0, hii, hz0, hz1, hz2⟩ := info_parts info_route
  have AC := Lib.hid (acts_calls l v 50 (by decide) hlen hw w row)
  have hA : (actsZ l 50).length ≤ 50 := by unfold actsZ; rw [List.length_map, List.length_take]; omega
  have RC := Lib.hid (fun (W : World) (u : Value) (r : RowA W u (actsZ l 50)) => routesOf_calls _ u (by omega) (actsZ_words l 50) W r)
  have PK := Lib.hid (fun W => picked_calls h 5 (by decide) (by decide) h0 h1 W)
  have hl : (runL (actsZ l 50)).length ≤ 50 := Nat.le_trans (runL_len _) hA
  have HW := Lib.hid (show wholeZ l h = ((false, 0, 0), 1 + h % 5) :: runL (actsZ l 50) from rfl)
  obtain ⟨Z, hZ⟩ : ∃ Z, wholeZ l h = Z := ⟨_, rfl⟩
  rw [hZ] at HW ⊢
  have hm0 := Int.emod_nonneg h (show (5 : Int) ≠ 0 by decide)
  have hm1 := Int.emod_lt_of_pos h (show (0 : Int) < 5 by decide)
  generalize runL (actsZ l 50) = L at RC hl HW
  generalize actsZ l 50 = A at AC RC
  obtain ⟨q, d, rfl⟩ := row.form
  generalize h % 5 = m at PK HW hm0 hm1
  have hwr : IntKind.i64.wrap (1 + m) = 1 + m := by rw [IntKind.wrap_i64]; omega
  clear row hA hZ
  go_enter Try.func18, Try.ntmps18
  go_wp2_with fail
  refine AC.out.mono ?_
  rintro e w1 ⟨u1, rfl, o1, hb1⟩
  have R1 := Lib.hid (OwnA.row o1)
  clear AC o1
  go_wp2_with fail
  refine (RC.out _ _ R1.out).mono ?_
  rintro e w2 ⟨u2, rfl, o2, hb2⟩
  have b2 : Below w.heap.size w w2 := thenBelow hb1 hb2
  have R2 := Lib.hid (OwnR.row o2)
  obtain ⟨p2, c2, rfl⟩ := R2.out.form
  clear RC R1 o2 hb1 hb2
  go_wp2_with fail
  refine (PK.out _).mono ?_
  rintro e w' ⟨rfl, rfl⟩
  clear PK
  have bR := (Below.refl w2.heap.size w2).alloc (Nat.le_refl _) (.cells #[.bool false, .int .u64 0, .int .u64 0, .int .i64 0, .int .i64 (1 + m)] 51)
  have hs2 := b2.size
  have O3 := Lib.hid (show (w2.alloc (.cells #[.bool false, .int .u64 0, .int .u64 0, .int .i64 0, .int .i64 (1 + m)] 51)).ownsRow w2.heap.size 51 5 (.slice (some ⟨w2.heap.size, 0, none⟩) 1 1) 1 (rowOf rcs [((false, 0, 0), 1 + m)]) from ⟨rfl, .inr ⟨w2.heap.size, 1, _, rfl, Nat.le_refl _, _root_.Go.heap_alloc_new w2 _, Nat.le_refl _, by unfold maxLen; omega, rfl, by simp [rowOf, rcs, aH0, aL0]⟩⟩)
  have R3 := Lib.hid (R2.out.keep bR)
  have hby : (1 + L.length) * 40 ≤ 140737488355328 := by omega
  have h63 : 1 + L.length ≤ maxLen := by unfold maxLen; omega
  go_wp2_with (at_builtin; refine wpList_append_any rfl _ _ 23 rfl w2.heap.size 51 i0 _ 40 Try.underlying23 hii hz0 hz1 hz2 rfl (by decide) rcs_len rcs_one _ 1 _ rfl O3.out _ L rfl R3.out hby h63 (by simp) ?_; intro v6 w6 ho6 hb6)
  have O6 : Hid (OwnR w6 w.heap.size v6 Z) := Lib.hid (by
    rw [HW.out]
    have := ho6
    rw [← rowOf_app] at this
    have h2 : (((false, 0, 0), 1 + m) :: L : List RT).length = 1 + L.length := by rw [List.length_cons]; omega
    unfold OwnR
    rw [h2]
    exact ownsLow this hs2)
  have b6 := thenBelow b2 (bR.trans hb6)
  clear ho6 hb6 O3 R3
  go_wp2
  go_ret2
  exact ⟨_, rfl, O6.out, b6⟩
end Go.Proofs.Ytmjlmfbceccjdaa
/-
  A row of acts of one's own: one act in a block, and that it is no row of routes.
-/
namespace Go.Proofs.Ytmjlmfbceccjdaa
open Go.ChangeShapes Go.WideShapes Go.ChangeAt Go.RowKit Go.Joins
set_option linter.unusedSimpArgs false
set_option linter.unusedVariables false
/-- One act in a block of its own. -/
theorem own_act (W : World) (a : ActT) : (W.alloc (objA a)).ownsRow W.heap.size 34 9 (.slice (some ⟨W.heap.size, 0, none⟩) 1 1) 1 (acs a) :=
  ⟨rfl, .inr ⟨W.heap.size, 1, (acs a).toArray, rfl, Nat.le_refl _, _root_.Go.heap_alloc_new W _, Nat.le_refl _, by unfold maxLen; omega, rfl, rfl⟩⟩
theorem ownA_notR {w : World} {base k : Nat} {v : Value} {l : List ActT} (h : OwnA w base v l) (e : v.ownBlock = some k) : NotR w k := by
  rcases h.2 with ⟨rfl, _⟩ | ⟨g, cap, cur, rfl, _, hg, _⟩
  · simp [Value.ownBlock] at e
  · simp only [Value.ownBlock, Option.some.injEq] at e
    subst e
    intro c he
    rw [hg] at he
    simp only [Option.some.injEq, Obj.cells.injEq] at he
    exact absurd he.2.1 (by decide)
theorem ownA_ne {w : World} {base base' : Nat} {v t : Value} {l : List ActT} {L : List RT} (h : OwnA w base v l) (o : OwnR w base' t L) : t.ownBlock = none ∨ t.ownBlock ≠ v.ownBlock := by
  cases hv : v.ownBlock with
  | none => cases t.ownBlock <;> simp
  | some k => exact .inr ((ownA_notR h hv).ne o)
end Go.Proofs.Ytmjlmfbceccjdaa
