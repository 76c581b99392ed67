/-
  slices.Concat of two lists of routes.
-/
import Derived.Test.YtmjlmfbceccjdaaConcatR
namespace Go.Proofs.Ytmjlmfbceccjdaa
open Go.RowKit
set_option linter.unusedVariables false
set_option linter.unusedSimpArgs false
set_option maxHeartbeats 4000000 in
set_option maxRecDepth 100000 in
theorem concatR_calls (l m : List RT) (v1 v2 : Value) (b : Nat) (hl : l.length ≤ 100) (hm : m.length ≤ 100) (w : World) (r1 : RowR w v1 l) (r2 : RowR w v2 m) (c0 : w.cell? ⟨b, 0, none⟩ = some v1) (c1 : w.cell? ⟨b, 1, none⟩ = some v2) (hb : b < w.heap.size) :
    Calls Try.prog 44 #[.slice (some ⟨b, 0, none⟩) 2 2] w fun e w' => ∃ v, e = .returned v ∧ OwnR w' w.heap.size v (l ++ m) ∧ Below w.heap.size w w' := by
  obtain ⟨i0, hii, hz0, hz1, hz2⟩ := info_parts info_route
  have IN := Lib.hid (And.intro hii (And.intro hz0 (And.intro hz1 hz2)))
  have R1 := Lib.hid r1
  have R2 := Lib.hid r2
  obtain ⟨p1, q1, rfl⟩ := r1.form
  obtain ⟨p2, q2, rfl⟩ := r2.form
  obtain ⟨n1, hn1⟩ : ∃ n, l.length = n := ⟨_, rfl⟩
  obtain ⟨n2, hn2⟩ : ∃ n, m.length = n := ⟨_, rfl⟩
  have HN1 := Lib.hid hn1
  have HN2 := Lib.hid hn2
  rw [hn1] at hl R1 c0
  rw [hn2] at hm R2 c1
  have GC := Lib.hid (fun W => growR_calls (n1 + n2) (by omega) W)
  have e1 : ((n1 + n2 : Nat) : Int) = (n1 : Int) + (n2 : Int) := by omega
  rw [e1] at GC
  have hz1' : ¬ (n1 : Int) < 0 := by omega
  have hz2' : ¬ (n1 : Int) + (n2 : Int) < 0 := by omega
  clear r1 r2 e1 hn1 hn2 hii hz0 hz1 hz2
  obtain ⟨B, hB⟩ : ∃ B, w.heap.size = B := ⟨_, rfl⟩
  have HB := Lib.hid hB
  have HBB : Hid (b < B) := Lib.hid (by omega)
  rw [hB]
  go_enter Try.func44, Try.ntmps44
  go_wp2_with fail
  go_loopw [3, 11] (fun u i wr => wr = w ∧ ((u = .int .i64 0 ∧ i = .int .i64 0) ∨ (u = .int .i64 n1 ∧ i = .int .i64 1) ∨ (u = .int .i64 ((n1 : Int) + (n2 : Int)) ∧ i = .int .i64 2))) (fun _ i _ => 2 - (intOf i).toNat)
  case atStart => exact ⟨rfl, .inl ⟨rfl, rfl⟩⟩
  case round =>
    obtain ⟨rfl, h | h | h⟩ := hrel
    · obtain ⟨rfl, rfl⟩ := h
      go_wp2
      go_roundw
      case rel => exact ⟨by first | rfl | trivial, .inr (.inl ⟨rfl, rfl⟩)⟩
      case measure => simp [intOf]
    · obtain ⟨rfl, rfl⟩ := h
      go_wp2
      go_roundw
      case rel => exact ⟨by first | rfl | trivial, .inr (.inr ⟨rfl, rfl⟩)⟩
      case measure => simp [intOf]
    · obtain ⟨rfl, rfl⟩ := h
      go_wp2_with fail
      refine (GC.out _).mono ?_
      rintro e w1 ⟨v, rfl, ho, hb1⟩
      have O1 : Hid (OwnR w1 B v []) := Lib.hid (by rw [← HB.out]; exact ho)
      have b1 : Below B wr w1 := by rw [← HB.out]; exact hb1
      have s1 : B ≤ w1.heap.size := by rw [← HB.out]; exact hb1.size
      clear ho hb1 GC
      go_wp2_with fail
      go_loopw [6, 27] (fun u i wx => Below B wr wx ∧ B ≤ wx.heap.size ∧ ((Hid (OwnR wx B u []) ∧ i = .int .i64 0) ∨ (Hid (OwnR wx B u l) ∧ i = .int .i64 1) ∨ (Hid (OwnR wx B u (l ++ m)) ∧ i = .int .i64 2))) (fun _ i _ => 2 - (intOf i).toNat)
      case atStart => exact ⟨b1, s1, .inl ⟨O1, rfl⟩⟩
      case round =>
        clear b1 s1 O1
        obtain ⟨b1, s1, h | h | h⟩ := hrel
        · obtain ⟨O, rfl⟩ := h
          have d0 := (b1.cell (p := ⟨b, 0, none⟩) HBB.out).trans c0
          have RR := Lib.hid (R1.out.keep (by rw [HB.out]; exact b1))
          obtain ⟨hii, hz0, hz1, hz2⟩ := IN.out
          have hby : (0 + l.length) * 40 ≤ 140737488355328 := by rw [HN1.out]; omega
          have h63 : 0 + l.length ≤ maxLen := by rw [HN1.out]; unfold maxLen; omega
          go_wp2_with (at_builtin; refine wpList_append_any rfl _ _ 23 rfl B 51 i0 _ 40 Try.underlying23 hii hz0 hz1 hz2 rfl (by decide) rcs_len rcs_one _ 0 [] rfl O.out _ l rfl RR.out hby h63 s1 ?_; intro v6 w6 ho6 hb6)
          have O6 : Hid (OwnR w6 B v6 l) := Lib.hid (by have := ho6; rw [Nat.zero_add, List.nil_append] at this; exact this)
          have b6 := b1.trans hb6
          have s6 : B ≤ w6.heap.size := Nat.le_trans s1 hb6.size
          clear ho6 hb6 hii hz0 hz1 hz2
          go_roundw
          case rel => exact ⟨b6, s6, .inr (.inl ⟨O6, rfl⟩)⟩
          case measure => simp [intOf]
        · obtain ⟨O, rfl⟩ := h
          have d1 := (b1.cell (p := ⟨b, 1, none⟩) HBB.out).trans c1
          have RR := Lib.hid (R2.out.keep (by rw [HB.out]; exact b1))
          obtain ⟨hii, hz0, hz1, hz2⟩ := IN.out
          have hby : (l.length + m.length) * 40 ≤ 140737488355328 := by rw [HN1.out, HN2.out]; omega
          have h63 : l.length + m.length ≤ maxLen := by rw [HN1.out, HN2.out]; unfold maxLen; omega
          go_wp2_with (at_builtin; refine wpList_append_any rfl _ _ 23 rfl B 51 i0 _ 40 Try.underlying23 hii hz0 hz1 hz2 rfl (by decide) rcs_len rcs_one _ l.length (rowOf rcs l) rfl O.out _ m rfl RR.out hby h63 s1 ?_; intro v6 w6 ho6 hb6)
          have O6 : Hid (OwnR w6 B v6 (l ++ m)) := Lib.hid (by unfold OwnR; rw [List.length_append, rowOf_app]; exact ho6)
          have b6 := b1.trans hb6
          have s6 : B ≤ w6.heap.size := Nat.le_trans s1 hb6.size
          clear ho6 hb6 hii hz0 hz1 hz2
          go_roundw
          case rel => exact ⟨b6, s6, .inr (.inr ⟨O6, rfl⟩)⟩
          case measure => simp [intOf]
        · obtain ⟨O, rfl⟩ := h
          go_wp2
          go_ret
          exact ⟨_, by simp, O.out, b1⟩
end Go.Proofs.Ytmjlmfbceccjdaa
