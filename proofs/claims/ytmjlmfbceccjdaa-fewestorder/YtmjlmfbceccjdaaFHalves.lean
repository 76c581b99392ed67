/-
  FewestHalves: for all three numbers a default route and two halves that go one way need two routes, or one. No conditions.
-/
import Derived.Test.YtmjlmfbceccjdaaRows
import Derived.Test.YtmjlmfbceccjdaaFwY
import Derived.Test.YtmjlmfbceccjdaaPreK2
import Derived.Test.YtmjlmfbceccjdaaG13
import Derived.Test.YtmjlmfbceccjdaaG12
import Derived.Deep.DeepCutAuto
namespace Go.Proofs.Ytmjlmfbceccjdaa
open Go.ChangeShapes Go.WideShapes Go.ChangeAt Go.RowKit Go.Joins
set_option linter.unusedSimpArgs false
set_option linter.unusedVariables false
theorem row_new (W : World) (l : List RT) (cs : List Value) (h : rowOf rcs l = cs) : RowR (W.alloc (.cells cs.toArray 51)) (.slice (some ⟨W.heap.size, 0, none⟩) l.length l.length) l :=
  .inr ⟨W.heap.size, 0, l.length, rfl, by simp, Nat.le_refl _, fun i hi j u hj => by
    have hjk : j < 5 := by
      rcases Nat.lt_or_ge j 5 with c | c
      · exact c
      · rw [List.getElem?_eq_none (by rw [rcs_len]; exact c)] at hj; cases hj
    have := cell_new W cs 51 (i * 5 + j) u (by rw [← h, rowOf_at rcs 5 rcs_len l i hi j hjk]; exact hj)
    simpa using this⟩
theorem xZ_pos (z : Int) : 0 < xZ z := by
  unfold xZ lowN
  have h1 : 2 ^ (32 - (24 + kZ z)) ≤ 2 ^ 8 := Nat.pow_le_pow_right (by decide) (by omega)
  have h2 : (2 : Nat) ^ 8 = 256 := by decide
  have hp : 0 < 2 ^ (32 - (24 + kZ z)) := Nat.two_pow_pos _
  exact Nat.mul_pos (Nat.div_pos (by omega) hp) hp
set_option maxHeartbeats 4000000 in
set_option maxRecDepth 100000 in
theorem FHalves.walk (a0 a1 a2 : Int) (c0 : -9223372036854775808 ≤ a0) (c1 : a0 ≤ 9223372036854775807) (d0 : -9223372036854775808 ≤ a1) (d1 : a1 ≤ 9223372036854775807) (e0 : -9223372036854775808 ≤ a2) (e1 : a2 ≤ 9223372036854775807) (w : World) :
    Calls Try.prog 8 #[.int .i64 a0, .int .i64 a1, .int .i64 a2] w fun e w' => e = .returned (.bool true) ∧ Below w.heap.size w w' := by
  have PC := Lib.hid (fun (g : Nat) (W : World) (hc : W.cell? ⟨g, 0, none⟩ = some (.int .i64 a0)) => pres1_calls a0 c0 c1 g W hc)
  have P1 := Lib.hid (fun W => picked_calls a1 9 (by decide) (by decide) d0 d1 W)
  have P2 := Lib.hid (fun W => picked_calls a2 9 (by decide) (by decide) e0 e1 W)
  have hm0 := Int.emod_nonneg a1 (show (9 : Int) ≠ 0 by decide)
  have hm1 := Int.emod_lt_of_pos a1 (show (0 : Int) < 9 by decide)
  have hn0 := Int.emod_nonneg a2 (show (9 : Int) ≠ 0 by decide)
  have hn1 := Int.emod_lt_of_pos a2 (show (0 : Int) < 9 by decide)
  generalize a1 % 9 = m at P1 hm0 hm1
  generalize a2 % 9 = n at P2 hn0 hn1
  have hwm : IntKind.i64.wrap (1 + m) = 1 + m := by rw [IntKind.wrap_i64]; omega
  have hwn : IntKind.i64.wrap (1 + n) = 1 + n := by rw [IntKind.wrap_i64]; omega
  have bI := (Below.refl w.heap.size w).alloc (Nat.le_refl _) (.cells #[.int .i64 a0] 3)
  go_enter Try.func8, Try.ntmps8
  go_wp2_with fail
  refine (PC.out w.heap.size _ (by simp)).mono ?_
  rintro e w2 ⟨pv, rfl, hop, hb2⟩
  obtain ⟨pg, pc, hpv⟩ : ∃ pg pc, pv = .slice (some ⟨pg, 0, none⟩) 1 pc := by
    rcases hop.2 with ⟨_, h0⟩ | ⟨g, cap, cur, e, _⟩
    · cases h0
    · exact ⟨g, cap, e⟩
  subst hpv
  have q0 := owns_cellAt hop 0 _ rfl
  have q1 := owns_cellAt hop 1 _ rfl
  have q2 := owns_cellAt hop 2 _ rfl
  have q3 := owns_cellAt hop 3 _ rfl
  have HZ := Lib.hid (preZ_ok a0)
  have HX := Lib.hid (show (preZ a0).1 = false ∧ 24 ≤ (preZ a0).2.2 ∧ 0 < (preZ a0).2.1 from ⟨rfl, by show (24 : Int) ≤ ((24 + kZ a0 : Nat) : Int); omega, xZ_pos a0⟩)
  obtain ⟨z, hz⟩ : ∃ z, preZ a0 = z := ⟨_, rfl⟩
  rw [hz] at q0 q1 q2 q3 HZ HX
  have n2 : Below w.heap.size w w2 := thenBelow bI hb2
  clear hz hop PC hb2 bI
  have PP := PreAt.new w2 z.1 (aH z.2.1) (aL z.2.1) z.2.2 32
  have bP := (Below.refl w2.heap.size w2).alloc (Nat.le_refl _) (.cells #[.bool z.1, .int .u64 (aH z.2.1), .int .u64 (aL z.2.1), .int .i64 z.2.2] 32)
  have n3 := thenBelow n2 bP
  go_wp2_with fail
  clear q0 q1 q2 q3
  revert PP bP n3
  generalize w2.alloc (.cells #[.bool z.1, .int .u64 (aH z.2.1), .int .u64 (aL z.2.1), .int .i64 z.2.2] 32) = Y
  intro PP bP n3
  obtain ⟨y0, y1, y2, y3, yl⟩ := PP
  refine (P1.out _).mono ?_
  rintro e w' ⟨rfl, rfl⟩
  go_wp2_with fail
  refine (P2.out _).mono ?_
  rintro e w' ⟨rfl, rfl⟩
  clear P1 P2
  obtain ⟨bq, hbq⟩ : ∃ b, w2.heap.size = b := ⟨_, rfl⟩
  rw [hbq] at y0 y1 y2 y3 yl ⊢
  clear hbq bP n2
  obtain ⟨hxl, k, hk, hkw, hlow⟩ := chk0 HZ.out
  obtain ⟨hAL, hAe⟩ := al_of (r := (z, 0)) HZ.out
  obtain ⟨d, hd⟩ : ∃ d, kR (z, 0) = d := ⟨_, rfl⟩
  rw [hd] at hAL hAe
  obtain ⟨s, x, N⟩ := z
  obtain ⟨hs, h24, hx0⟩ := HX.out
  simp only at hs h24 hx0 hAL hAe hxl hk y0 y1 y2 y3
  subst hs
  clear HX hlow hd
  have w32 : wideN false = 32 := rfl
  by_cases hlast : d = 0
  · have HN := Lib.hid (fun W => halves_none false x N (by rw [hAe, hlast]; rfl) (lt128 hxl) HZ.out W)
    clear hAL hAe hk hlast
    go_wp2_with fail
    refine (HN.out _).mono ?_
    rintro e w4 ⟨rfl, hb4⟩
    have n4 := thenBelow n3 hb4
    clear HN hb4
    go_wp2_with fail
    refine (preSure_calls _).mono ?_
    rintro e w5 ⟨rfl, hb5⟩
    have n5 := thenBelow ((n4.alloc n4.size _).alloc (by have := n4.size; simp; omega) _) hb5
    clear hb5
    go_wp2
    go_ret
    exact ⟨by simp, n5⟩
  · obtain ⟨d', hd'⟩ : ∃ d', d = d' + 1 := ⟨d - 1, by omega⟩
    subst hd'
    have hk32 : d' + 1 < 32 := by rw [w32] at hAe; omega
    have HC := Lib.hid (halves_al hAL)
    rw [← hAe] at HC
    have ho : 1 ≤ 1 + n ∧ 1 + n ≤ 999 := by omega
    have hh : 1 ≤ 1 + m ∧ 1 + m ≤ 999 := by omega
    have hf := hal_all hAL hk32 ho hh
    have CN := Lib.hid (hal_count hAL hk32 hx0 ho hh)
    have FW := Lib.hid (fun (u : Value) (W : World) (r : RowR W u (halT x d' (1 + n) (1 + m))) => fewest_ok _ u hf (words_tab (fwE_0 hf).1) W r)
    clear hAL hAe hk hf ho hh hlast
    go_wp2_with fail
    refine (HC.out _).mono ?_
    rintro e w4 ⟨rfl, hb4⟩
    have n4 := thenBelow n3 hb4
    clear HC hb4 y0 y1 y2 y3
    have hcs : rowOf rcs (halT x d' (1 + n) (1 + m)) = [.bool false, .int .u64 0, .int .u64 0, .int .i64 0, .int .i64 (1 + n), .bool false, .int .u64 (aH x), .int .u64 (aL x), .int .i64 ((32 - d' : Nat) : Int), .int .i64 (1 + m), .bool false, .int .u64 (aH (x + 2 ^ d')), .int .u64 (aL (x + 2 ^ d')), .int .i64 ((32 - d' : Nat) : Int), .int .i64 (1 + m)] := by simp [halT, rowOf, rcs, pkB, w32, aH0, aL0]
    have R := row_new ((w4.alloc (.cells #[.bool false, .int .u64 (aH x), .int .u64 (aL x), .int .i64 ((32 - d' : Nat) : Int)] 32)).alloc (.cells #[.bool false, .int .u64 (aH (x + 2 ^ d')), .int .u64 (aL (x + 2 ^ d')), .int .i64 ((32 - d' : Nat) : Int)] 32)) _ _ hcs
    have hsz : ((w4.alloc (.cells #[.bool false, .int .u64 (aH x), .int .u64 (aL x), .int .i64 ((32 - d' : Nat) : Int)] 32)).alloc (.cells #[.bool false, .int .u64 (aH (x + 2 ^ d')), .int .u64 (aL (x + 2 ^ d')), .int .i64 ((32 - d' : Nat) : Int)] 32)).heap.size = w4.heap.size + 1 + 1 := by simp
    rw [hsz] at R
    have HR := Lib.hid R
    have n6 := (((n4.alloc n4.size (.cells #[.bool false, .int .u64 (aH x), .int .u64 (aL x), .int .i64 ((32 - d' : Nat) : Int)] 32)).alloc (by have := n4.size; simp; omega) (.cells #[.bool false, .int .u64 (aH (x + 2 ^ d')), .int .u64 (aL (x + 2 ^ d')), .int .i64 ((32 - d' : Nat) : Int)] 32)).alloc (by have := n4.size; simp; omega) (.cells #[.bool false, .int .u64 0, .int .u64 0, .int .i64 0, .int .i64 (1 + n), .bool false, .int .u64 (aH x), .int .u64 (aL x), .int .i64 ((32 - d' : Nat) : Int), .int .i64 (1 + m), .bool false, .int .u64 (aH (x + 2 ^ d')), .int .u64 (aL (x + 2 ^ d')), .int .i64 ((32 - d' : Nat) : Int), .int .i64 (1 + m)] 51))
    clear hcs R hsz n4
    go_wp2_with fail
    refine (FW.out _ _ HR.out).mono ?_
    rintro e w7 ⟨u7, rfl, o7, hb7⟩
    have n7 := thenBelow n6 hb7
    obtain ⟨p7, c7, rfl⟩ := (OwnR.row o7).form
    rw [CN.out]
    clear o7 hb7 FW HR CN n6
    by_cases e : 1 + m = 1 + n
    · rw [if_pos e]
      have hb : ((1 + m) == (1 + n)) = true := by simpa using e
      have hmn : m = n := by omega
      subst hmn
      clear e
      go_wp2
      go_ret
      exact ⟨by simp, n7⟩
    · rw [if_neg e]
      have hb : ((1 + m) == (1 + n)) = false := by simpa using e
      have hmn : ¬ m = n := by omega
      go_wp2
      go_ret
      exact ⟨by simp, n7⟩
theorem FHalves.own : ownKnob Try.prog.godebug = none := by kernel_rfl
set_option maxRecDepth 100000 in
theorem FHalves.lifted (os : Os) (started : os.Started) (H : Type) (enc : TypeId × Value → H) :
    ReturnsInHanded {} Try.checked os 8 .any (Rows.fewestHalvesSpec.pre6 enc Try.prog Try.f8 Rows.fewestHalvesRow.domain false) (Rows.fewestHalvesSpec.post enc Try.prog Try.f8 false true false false) := by
  refine returnsInHanded_of_change (C := Try.checked) FHalves.own started (by kernel_rfl) Try.func8
    (ChangeSpec.witness6 (enc := enc) (C := Try.checked) false ⟨#[], #[.int .i64 0, .int .i64 0, .int .i64 0], []⟩ 8 (by kernel_rfl) (by kernel_rfl) (by kernel_rfl) (by kernel_rfl)) ?_
  intro W base args ds gs before hval0 hW hcnd _
  have hval : ∀ (j : Nat) t v, Try.f8.params[j]? = some t → args[j]? = some v → Value.okWide Try.prog W .any base t v := hval0
  have hW' := hW
  obtain ⟨p, q, hA0, hV, rfl, hfz, hnd⟩ := hW
  have hA : DataW.TrodAll enc Try.prog W 0 (fun _ => true) true Try.f8.params.toList args.toList ds p := hA0
  rw [Try.params8] at hA hval
  obtain ⟨v0, vs0, d0, ds0, p0, q0, hargs, rfl, rfl, rd0, r0⟩ := trodAll_cons hA
  obtain ⟨v1, vs1, d1, ds1, p1, q1, rfl, rfl, rfl, rd1, r1⟩ := trodAll_cons r0
  obtain ⟨v2, vs2, d2, ds2, p2, q2, rfl, rfl, rfl, rd2, r2⟩ := trodAll_cons r1
  obtain ⟨rfl, rfl, rfl⟩ := trodAll_nil r2
  obtain rfl : args = #[v0, v1, v2] := by cases args; simp_all
  obtain ⟨rfl, rfl⟩ := trodVars_none hV
  obtain ⟨a0, rfl, rfl, rfl, wa0⟩ := open_int Try.underlying3 (hval 0 3 v0 rfl rfl) rd0
  obtain ⟨a1, rfl, rfl, rfl, wa1⟩ := open_int Try.underlying3 (hval 1 3 v1 rfl rfl) rd1
  obtain ⟨a2, rfl, rfl, rfl, wa2⟩ := open_int Try.underlying3 (hval 2 3 v2 rfl rfl) rd2
  clear hA0 hval0
  simp only [List.append_nil] at hW'
  refine (FHalves.walk a0 a1 a2 (i64_of_wf wa0).1 (i64_of_wf wa0).2 (i64_of_wf wa1).1 (i64_of_wf wa1).2 (i64_of_wf wa2).1 (i64_of_wf wa2).2 W).mono fun e W' ⟨he, hb⟩ => ?_
  subst he
  exact ⟨_, rfl, postBelow (pa := []) (pv := []) hW' hb (fun _ _ _ => trodAll_cons_mk (shut_bool Try.underlying4 _) trodAll_mk0) (fun sp _ => trodAll_cons_mk (shut_int Try.underlying3 wa0) (trodAll_cons_mk (shut_int Try.underlying3 wa1) (trodAll_cons_mk (shut_int Try.underlying3 wa2) trodAll_mk0))) (fun _ _ => rfl) rfl⟩

theorem FHalves.holds : Rows.FewestHalvesSaid :=
  OpenClaim.holds_of_wide 8 Try.f8 rfl rfl rfl rfl rfl rfl rfl ⟨rfl, rfl, rfl, rfl, rfl⟩ rfl rfl rfl rfl rfl (by kernel_rfl) Try.func8 (by kernel_rfl)
    (of_decide_eq_true (by kernel_rfl)) (by unfold Func.isWrapper; first | (rw [if_pos (by decide +kernel)]; kernel_rfl) | (rw [if_neg (by decide +kernel)]; exact ⟨rfl, rfl⟩))
    (fun os started H enc _ => FHalves.lifted os started H enc)
#print axioms FHalves.holds
end Go.Proofs.Ytmjlmfbceccjdaa
