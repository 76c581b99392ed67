/-
  delta.Diff.
-/
import Derived.Test.YtmjlmfbceccjdaaDeltaB
import Derived.Test.YtmjlmfbceccjdaaDeltaC2
import Derived.Test.YtmjlmfbceccjdaaG16
namespace Go.Proofs.Ytmjlmfbceccjdaa
open Go.RowKit
set_option linter.unusedVariables false
set_option linter.unusedSimpArgs false
/-- The acts that make one sorted table of another one. -/
def difL (S T : List RT) : List ActT := cutsL S T ++ putsL (wiL T S)
def dfE (l m : List RT) : Int := if tabE l = 0 then tabE m else tabE l
def dfL (l m : List RT) : List ActT := if dfE l m = 0 then difL (srt l) (srt m) else []
set_option maxHeartbeats 4000000 in
set_option maxRecDepth 100000 in
theorem diff_calls (l m : List RT) (v t : Value) (ll : l.length ≤ 9223372036854775807) (lm : m.length ≤ 9223372036854775807) (wl : WordsR l) (wm : WordsR m) (w : World) (r1 : RowR w v l) (r2 : RowR w t m) :
    Calls Try.prog 14 #[v, t] w fun e w' => ∃ u, e = .returned (.tuple #[u, .int .i64 (dfE l m)]) ∧ OwnA w' w.heap.size u (dfL l m) ∧ Below w.heap.size w w' := by
  have C1 := Lib.hid (sorted_calls l v ll wl w r1)
  have C2 := Lib.hid (fun (W : World) (r : RowR W t m) => sorted_calls m t lm wm W r)
  have R2 := Lib.hid r2
  obtain ⟨i0, hii, hz0, hz1, hz2⟩ := info_parts info_act
  have IN := Lib.hid (And.intro hii (And.intro hz0 (And.intro hz1 hz2)))
  obtain ⟨p1, c1, rfl⟩ := r1.form
  obtain ⟨p2, c2, rfl⟩ := r2.form
  clear r1 r2 hii hz0 hz1 hz2
  by_cases h1 : tabE l = 0
  · by_cases h2 : tabE m = 0
    · have E := Lib.hid (show dfE l m = 0 ∧ dfL l m = difL (srt l) (srt m) by
        have : dfE l m = 0 := by rw [dfE, if_pos h1, h2]
        exact ⟨this, by rw [dfL, if_pos this]⟩)
      have s1 := (srt_inv h1).size
      have s2 := (srt_inv h2).size
      rw [show sorL l = srt l by rw [sorL, if_pos h1], h1] at C1
      rw [show sorL m = srt m by rw [sorL, if_pos h2], h2] at C2
      generalize srt l = S at C1 E s1
      generalize srt m = T at C2 E s2
      have CU := Lib.hid (fun (W : World) (u1 u2 : Value) (r1 : RowR W u1 S) (r2 : RowR W u2 T) => cuts_calls S T u1 u2 (by omega) (by omega) W r1 r2)
      have WI := Lib.hid (fun (W : World) (u1 u2 : Value) (r1 : RowR W u1 T) (r2 : RowR W u2 S) => without_calls T S u1 u2 (by omega) (by omega) W r1 r2)
      have hwl := wiL_len T S
      have hcl := cutsL_len S T
      have PU := Lib.hid (fun (W : World) (u : Value) (r : RowR W u (wiL T S)) => puts_calls (wiL T S) u (by omega) W r)
      rw [E.out.1]
      clear h1 h2
      go_enter Try.func14, Try.ntmps14
      go_wp2_with fail
      refine C1.out.mono ?_
      rintro e w1 ⟨u1, rfl, ho1, hb1⟩
      have R2' := Lib.hid (R2.out.keep hb1)
      have O1 := Lib.hid ho1
      clear C1 R2 ho1
      go_wp2_with fail
      refine (C2.out _ R2'.out).mono ?_
      rintro e w2 ⟨u2, rfl, ho2, hb2⟩
      have b2 := thenBelow hb1 hb2
      have O1' := Lib.hid (ownsKeep O1.out hb2)
      have O2 := Lib.hid (ownsLow ho2 hb1.size)
      clear C2 R2' ho2 hb2 hb1 O1
      go_wp2_with fail
      refine (CU.out _ _ _ (OwnR.row O1'.out) (OwnR.row O2.out)).mono ?_
      rintro e w3 ⟨u3, rfl, ho3, hb3⟩
      have b3 := thenBelow b2 hb3
      have O13 := Lib.hid (ownsKeep O1'.out hb3)
      have O23 := Lib.hid (ownsKeep O2.out hb3)
      have O3 := Lib.hid (ownsLow ho3 b2.size)
      clear CU ho3 hb3 b2 O1' O2
      go_wp2_with fail
      refine (WI.out _ _ _ (OwnR.row O23.out) (OwnR.row O13.out)).mono ?_
      rintro e w4 ⟨u4, rfl, ho4, hb4⟩
      have b4 := thenBelow b3 hb4
      have O34 := Lib.hid (ownsKeep O3.out hb4)
      have R4 := Lib.hid (OwnR.row ho4)
      clear WI ho4 hb4 b3 O13 O23 O3
      go_wp2_with fail
      refine (PU.out _ _ R4.out).mono ?_
      rintro e w5 ⟨u5, rfl, ho5, hb5⟩
      have b5 := thenBelow b4 hb5
      have O35 := Lib.hid (ownsKeep O34.out hb5)
      have R5 := Lib.hid (OwnA.row ho5)
      have hpl := putsL_len (wiL T S)
      clear PU ho5 hb5 b4 O34 R4
      obtain ⟨hii, hz0, hz1, hz2⟩ := IN.out
      obtain ⟨X, hX⟩ : ∃ X, cutsL S T = X := ⟨_, rfl⟩
      obtain ⟨Y, hY⟩ : ∃ Y, putsL (wiL T S) = Y := ⟨_, rfl⟩
      rw [hX] at O35 hcl
      rw [hY] at R5 hpl
      have HXY := Lib.hid (show dfL l m = X ++ Y by rw [E.out.2, difL, hX, hY])
      clear hX hY E
      have hXl : X.length ≤ 60 := by omega
      have hYl : Y.length ≤ 60 := by omega
      have hby : (X.length + Y.length) * 72 ≤ 140737488355328 := by omega
      have h63 : X.length + Y.length ≤ maxLen := by unfold maxLen; omega
      have hbs := b5.size
      go_wp2_with (at_builtin; refine wpList_append_any rfl _ _ 26 rfl w.heap.size 34 i0 _ 72 Try.underlying26 hii hz0 hz1 hz2 rfl (by decide) acs_len acs_one _ X.length (rowOf acs X) rfl O35.out _ Y rfl R5.out hby h63 hbs ?_; intro v6 w6 ho6 hb6)
      have b6 := b5.trans hb6
      have O6 : Hid (OwnA w6 w.heap.size v6 (X ++ Y)) := Lib.hid (by unfold OwnA; rw [List.length_append, rowOf_app]; exact ho6)
      clear ho6 hb6
      go_wp2
      go_ret2
      exact ⟨v6, by simp, by rw [HXY.out]; exact O6.out, b6⟩
    · have E := Lib.hid (show dfE l m = tabE m ∧ dfL l m = [] by
        have : dfE l m = tabE m := by rw [dfE, if_pos h1]
        exact ⟨this, by rw [dfL, this, if_neg h2]⟩)
      rw [E.out.1]
      rw [h1] at C1
      generalize tabE m = t at C2 h2 ⊢
      have hz1 : (t == 0) = false := by simpa using h2
      have hz2 : (t != 0) = true := by simp [bne, hz1]
      clear h1
      go_enter Try.func14, Try.ntmps14
      go_wp2_with fail
      refine C1.out.mono ?_
      rintro e w1 ⟨u1, rfl, ho1, hb1⟩
      have R2' := Lib.hid (R2.out.keep hb1)
      clear C1 R2 ho1
      go_wp2_with fail
      refine (C2.out _ R2'.out).mono ?_
      rintro e w2 ⟨u2, rfl, ho2, hb2⟩
      have b2 := thenBelow hb1 hb2
      clear C2 R2' ho2 hb2 hb1
      go_wp2
      go_ret2
      exact ⟨.slice none 0 0, by simp, by rw [E.out.2]; exact World.ownsRow_nil _ _ _ _, b2⟩
  · have E := Lib.hid (show dfE l m = tabE l ∧ dfL l m = [] by
      have : dfE l m = tabE l := by rw [dfE, if_neg h1]
      exact ⟨this, by rw [dfL, this, if_neg h1]⟩)
    rw [E.out.1]
    generalize tabE l = t at C1 h1 ⊢
    have hz1 : (t == 0) = false := by simpa using h1
    have hz2 : (t != 0) = true := by simp [bne, hz1]
    go_enter Try.func14, Try.ntmps14
    go_wp2_with fail
    refine C1.out.mono ?_
    rintro e w1 ⟨u1, rfl, ho1, hb1⟩
    clear C1 C2
    go_wp2
    go_ret2
    exact ⟨.slice none 0 0, by simp, by rw [E.out.2]; exact World.ownsRow_nil _ _ _ _, hb1⟩
end Go.Proofs.Ytmjlmfbceccjdaa
