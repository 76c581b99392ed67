/-
  PROVED: whipcordkeep.PreSize returns true for all arguments, and they read afterwards as they read before. No condition.
-/
import Derived.Test.YthlkofbdfjpfpaaRows
import Derived.Test.YthlkofbdfjpfpaaPreN
import Derived.Test.YthlkofbdfjpfpaaShapesRaw
import Derived.IntWalk
namespace Go.Proofs.Ythlkofbdfjpfpaa
open Go.ChangeShapes Go.WideShapes Go.ChangeAt Go.RowKit Go.Joins
set_option linter.unusedVariables false
set_option linter.unusedSimpArgs false

set_option maxHeartbeats 4000000 in
set_option maxRecDepth 100000 in
theorem Size.core (six : Bool) (rh rl n0 : Int) (j L y T : Nat)
    (e1 : IntKind.i64.wrap (((wideN six : Nat) : Int) - (j : Int)) = (L : Int)) (e2 : IntKind.i64.wrap (((wideN six : Nat) : Int) - (L : Int)) = (j : Int)) (hj : j < 30) (hp1 : IntKind.i64.wrap (2 ^ j) = 2 ^ j) (hp2 : IntKind.i64.wrap (2 ^ j - 1) = 2 ^ j - 1) (hp3 : (0 : Int) ≤ (j : Int))
    (PK : Hid (∀ W : World, Calls Try.prog 31 #[.int .i64 n0, .int .i64 30] W fun e w' => e = .returned (.int .i64 j) ∧ W = w'))
    (O2 : Hid (∀ W : World, Calls Try.prog 26 #[.agg #[.bool six, .int .u64 rh, .int .u64 rl], .int .i64 L] W fun e w' => e = .returned (.agg #[.bool six, .int .u64 (aH y), .int .u64 (aL y), .int .i64 L]) ∧ Below W.heap.size W w'))
    (SP : Hid (∀ W : World, Calls Try.prog 20 #[.agg #[.bool six, .int .u64 (aH y), .int .u64 (aL y), .int .i64 L]] W fun e w' => e = .returned (.tuple #[.agg #[.bool six, .int .u64 (aH y), .int .u64 (aL y)], .agg #[.bool six, .int .u64 (aH T), .int .u64 (aL T)], .int .i64 0]) ∧ Below W.heap.size W w'))
    (NX : Hid (∀ W : World, Calls Try.prog 30 #[.agg #[.bool six, .int .u64 (aH y), .int .u64 (aL y)], .int .i64 (2 ^ j - 1)] W fun e w' => e = .returned (.tuple #[.agg #[.bool six, .int .u64 (aH T), .int .u64 (aL T)], .int .i64 0]) ∧ Below W.heap.size W w')) (w : World) :
    Calls Try.prog 11 #[.agg #[.bool six, .int .u64 rh, .int .u64 rl], .int .i64 n0] w fun e w' => e = .returned (.bool true) ∧ Below w.heap.size w w' := by
  go_enter Try.func11, Try.ntmps11
  have E1 := Lib.hid e1
  have E2 := Lib.hid e2
  clear e2
  have hne1 : ¬ w.heap.size + 1 = w.heap.size := by clear e1; omega
  go_wp2_with fail
  go_region_held3 (fun w' => w'.cell? ⟨w.heap.size, 0, none⟩ = some (.bool six) ∧ w'.cell? ⟨w.heap.size, 1, none⟩ = some (.int .u64 rh) ∧ w'.cell? ⟨w.heap.size, 2, none⟩ = some (.int .u64 rl)) (first | (simp [go_sem, World.cell?_alloc_past]; done) | with_reducible exact ⟨R2.1.1, R2.1.2.1, R2.1.2.2.1⟩ | with_reducible exact ⟨(R2.alloc _).1.1, (R2.alloc _).1.2.1, (R2.alloc _).1.2.2.1⟩ | (simp (disch := first | assumption | (simp [hne1]; done)) [go_sem, World.cell?_alloc_past, World.cell?_setCell_far, R2.1.1, R2.1.2.1, R2.1.2.2.1]; done))
    (first
      | (go_at_call 27; refine (wide_calls six _).mono ?_; rintro e w' ⟨rfl, rfl⟩)
      | (go_at_call 31; refine (PK.out _).mono ?_; rintro e w' ⟨rfl, rfl⟩)
      | (go_at_call 26; refine (O2.out _).mono ?_; rintro e w2 ⟨rfl, hb2⟩; first | (have R2 := ((AddrV.new w six rh rl 41).alloc _).drew.keep hb2; have s2a := R2.1.2.2.2; have T2 := (PreV.new (w.alloc (.cells #[.bool six, .int .u64 rh, .int .u64 rl] 41)) false 0 0 0 26).drew.keep hb2; have b2 := thenBelow (((Below.refl _ w).alloc (Nat.le_refl _) _).alloc (by simp) _).drew hb2; simp only [World.size_alloc] at T2; have ⟨⟨t0, t1, t2, t3, tl⟩, tf⟩ := T2; have g0 := tf 0; have g1 := tf 1; have g2 := tf 2; have g3 := tf 3; clear hb2) | (have R2 := (AddrV.new w six rh rl 41).drew.keep hb2; have s2a := R2.1.2.2.2; have b2 := thenBelow ((Below.refl _ w).alloc (Nat.le_refl _) _).drew hb2; clear hb2)))
  all_goals
    clear e1
    have hs2 := b2.size
    first
      | (have Gy := T2.store six (aH y) (aL y) L
         have Gb := ((((b2.setCell (p := ⟨w.heap.size + 1, 0, none⟩) (by show w.heap.size ≤ w.heap.size + 1; omega) (.bool six)).setCell (p := ⟨w.heap.size + 1, 1, none⟩) (by show w.heap.size ≤ w.heap.size + 1; omega) (.int .u64 (aH y))).setCell (p := ⟨w.heap.size + 1, 2, none⟩) (by show w.heap.size ≤ w.heap.size + 1; omega) (.int .u64 (aL y))).setCell (p := ⟨w.heap.size + 1, 3, none⟩) (by show w.heap.size ≤ w.heap.size + 1; omega) (.int .i64 L))
         revert Gy Gb
         generalize ((((w2.setCell ⟨w.heap.size + 1, 0, none⟩ (.bool six)).setCell ⟨w.heap.size + 1, 1, none⟩ (.int .u64 (aH y))).setCell ⟨w.heap.size + 1, 2, none⟩ (.int .u64 (aL y))).setCell ⟨w.heap.size + 1, 3, none⟩ (.int .i64 L)) = Wf
         intro Gy Gb
         clear T2 t0 t1 t2 t3 tl tf g0 g1 g2 g3 hne1
         generalize w.heap.size + 1 = PB at *)
      | (have Gy := PreV.new w2 six (aH y) (aL y) L 26
         have Gb := b2.alloc hs2 (.cells #[.bool six, .int .u64 (aH y), .int .u64 (aL y), .int .i64 L] 26)
         revert Gy Gb
         generalize w2.alloc (.cells #[.bool six, .int .u64 (aH y), .int .u64 (aL y), .int .i64 L] 26) = Wf
         intro Gy Gb
         clear R2 b2 s2a hs2
         generalize w2.heap.size = PB at *)
    try clear R2 b2 s2a hs2
    have Hy := Lib.hid Gy
    obtain ⟨⟨y_0, y_1, y_2, y_3, y_l⟩, _⟩ := Gy
    go_wp2_with fail
    refine (SP.out _).mono ?_
    rintro e w3 ⟨rfl, hb3⟩
    have b3 := thenBelow Gb hb3
    have Hy := Lib.hid (Hy.out.keep hb3)
    clear y_0 y_1 y_2 y_3 y_l hb3 Gb
    have Gy := Hy.out.1
    obtain ⟨y_0, y_1, y_2, y_3, y_l⟩ := Gy
    have y_m := Nat.lt_succ_of_lt y_l
    try simp only [Nat.succ_eq_add_one, Nat.add_lt_add_iff_right] at y_m
    have e2 := E2.out
    have hs3 := b3.size
    go_wp2_with fail
    have hnx : ¬ w3.heap.size + 1 + 1 = PB := by clear e2; omega
    have hny : ¬ w3.heap.size + 1 + 1 = w3.heap.size := by clear e2; omega
    have p1 := hp1
    have p2 := hp2
    have p3 := hp3
    go_region_held3 (fun w' => (w'.cell? ⟨w3.heap.size, 0, none⟩ = some (.bool six) ∧ w'.cell? ⟨w3.heap.size, 1, none⟩ = some (.int .u64 (aH y)) ∧ w'.cell? ⟨w3.heap.size, 2, none⟩ = some (.int .u64 (aL y))) ∧ w'.cell? ⟨PB, 0, none⟩ = some (.bool six) ∧ w'.cell? ⟨PB, 3, none⟩ = some (.int .i64 L)) (first | (simp (disch := first | assumption | (simp; done) | (clear e2 p1 p2 p3; simp; omega)) [go_sem, World.cell?_alloc_past, y_0, y_3]; done) | with_reducible exact ⟨⟨A4.1.1, A4.1.2.1, A4.1.2.2.1⟩, P4.1.1, P4.1.2.2.2.1⟩ | with_reducible exact ⟨⟨(A4.alloc _).1.1, (A4.alloc _).1.2.1, (A4.alloc _).1.2.2.1⟩, (P4.alloc _).1.1, (P4.alloc _).1.2.2.2.1⟩ | (simp (disch := first | assumption | (simp; done) | (simp [hnx, hny]; done)) [go_sem, World.cell?_alloc_past, World.cell?_setCell_far, A4.1.1, A4.1.2.1, A4.1.2.2.1, P4.1.1, P4.1.2.2.2.1]; done))
      (first
        | (go_at_call 27; refine (wide_calls six _).mono ?_; rintro e w' ⟨rfl, rfl⟩)
        | (go_at_call 30; refine (NX.out _).mono ?_; rintro e w4 ⟨rfl, hb4⟩; first | (have P4 := (((Hy.out.alloc _).alloc _).alloc _).drew.keep hb4; have A4 := (((AddrV.new w3 six (aH y) (aL y) 24).alloc _).alloc _).drew.keep hb4; have B4 := ((AddrV.new (w3.alloc (.cells #[.bool six, .int .u64 (aH y), .int .u64 (aL y)] 24)) six (aH T) (aL T) 24).alloc _).drew.keep hb4; have X4 := (AddrV.new ((w3.alloc (.cells #[.bool six, .int .u64 (aH y), .int .u64 (aL y)] 24)).alloc (.cells #[.bool six, .int .u64 (aH T), .int .u64 (aL T)] 24)) false 0 0 24).drew.keep hb4; have b4 := thenBelow (((b3.alloc hs3 _).alloc (by rw [World.size_alloc]; exact Nat.le_succ_of_le hs3) _).alloc (by rw [World.size_alloc, World.size_alloc]; exact Nat.le_succ_of_le (Nat.le_succ_of_le hs3)) _).drew hb4; simp only [World.size_alloc] at B4 X4; have ⟨⟨x_0, x_1, x_2, x_l⟩, xf⟩ := X4; have xg0 := xf 0; have xg1 := xf 1; have xg2 := xf 2; have s4a := A4.1.2.2.2; have s4b := P4.1.2.2.2.2; clear hb4) | (have P4 := ((Hy.out.alloc _).alloc _).drew.keep hb4; have A4 := ((AddrV.new w3 six (aH y) (aL y) 24).alloc _).drew.keep hb4; have B4 := (AddrV.new (w3.alloc (.cells #[.bool six, .int .u64 (aH y), .int .u64 (aL y)] 24)) six (aH T) (aL T) 24).drew.keep hb4; have b4 := thenBelow ((b3.alloc hs3 _).alloc (by rw [World.size_alloc]; exact Nat.le_succ_of_le hs3) _).drew hb4; simp only [World.size_alloc] at B4; have s4a := A4.1.2.2.2; have s4b := P4.1.2.2.2.2; clear hb4)))
    all_goals
      clear e2 p1 p2 p3
      have hs4 := b4.size
      first
        | (have Gx := X4.store six (aH T) (aL T)
           have Gt := (((B4.far (p := ⟨w3.heap.size + 1 + 1, 0, none⟩) (by simp) (.bool six)).far (p := ⟨w3.heap.size + 1 + 1, 1, none⟩) (by simp) (.int .u64 (aH T))).far (p := ⟨w3.heap.size + 1 + 1, 2, none⟩) (by simp) (.int .u64 (aL T)))
           have Gb := (((b4.setCell (p := ⟨w3.heap.size + 1 + 1, 0, none⟩) (by show w.heap.size ≤ w3.heap.size + 1 + 1; omega) (.bool six)).setCell (p := ⟨w3.heap.size + 1 + 1, 1, none⟩) (by show w.heap.size ≤ w3.heap.size + 1 + 1; omega) (.int .u64 (aH T))).setCell (p := ⟨w3.heap.size + 1 + 1, 2, none⟩) (by show w.heap.size ≤ w3.heap.size + 1 + 1; omega) (.int .u64 (aL T)))
           revert Gx Gt Gb
           generalize (((w4.setCell ⟨w3.heap.size + 1 + 1, 0, none⟩ (.bool six)).setCell ⟨w3.heap.size + 1 + 1, 1, none⟩ (.int .u64 (aH T))).setCell ⟨w3.heap.size + 1 + 1, 2, none⟩ (.int .u64 (aL T))) = Wg
           intro Gx Gt Gb
           clear X4 x_0 x_1 x_2 x_l xf xg0 xg1 xg2)
        | (have Gx := AddrV.new w4 six (aH T) (aL T) 24
           have Gt := B4.alloc (.cells #[.bool six, .int .u64 (aH T), .int .u64 (aL T)] 24)
           have Gb := b4.alloc hs4 (.cells #[.bool six, .int .u64 (aH T), .int .u64 (aL T)] 24)
           revert Gx Gt Gb
           generalize w4.alloc (.cells #[.bool six, .int .u64 (aH T), .int .u64 (aL T)] 24) = Wg
           intro Gx Gt Gb)
      have Hx := Lib.hid Gx
      have Ht := Lib.hid Gt
      obtain ⟨⟨x_0, x_1, x_2, x_l⟩, _⟩ := Gx
      obtain ⟨⟨t_0, t_1, t_2, t_l⟩, _⟩ := Gt
      clear P4 A4 B4 y_0 y_1 y_2 y_3 y_l y_m Hy
      go_wp2_with fail
      refine (preSure_calls _).mono ?_
      rintro e w5 ⟨rfl, hb5⟩
      go_wp2
      go_ret
      exact ⟨rfl, thenBelow Gb hb5⟩

theorem Size.walk (s0 : Bool) (h0 l0 a1 : Int)
    (h00 : 0 ≤ h0) (h01 : h0 ≤ 18446744073709551615) (l00 : 0 ≤ l0) (l01 : l0 ≤ 18446744073709551615) (a10 : -9223372036854775808 ≤ a1) (a11 : a1 ≤ 9223372036854775807) (w : World) :
    Calls Try.prog 11 #[.agg #[.bool s0, .int .u64 h0, .int .u64 l0], .int .i64 a1] w fun e w' => e = .returned (.bool true) ∧ Below w.heap.size w w' := by
  have hW := wideN_le s0
  have hW2 : 32 ≤ wideN s0 := by cases s0 <;> decide
  have j0 := Int.emod_nonneg a1 (show (30 : Int) ≠ 0 by omega)
  have j1 := Int.emod_lt_of_pos a1 (show (0 : Int) < 30 by omega)
  have pk := fun W : World => picked_calls a1 30 (by omega) (by omega) a10 a11 W
  obtain ⟨j, hj⟩ : ∃ j : Nat, a1 % 30 = j := ⟨(a1 % 30).toNat, by omega⟩
  rw [hj] at pk j0 j1
  have hL : lenR s0 ((wideN s0 - j : Nat) : Int) = wideN s0 - j := by
    unfold lenR
    rw [Int.emod_eq_of_lt (by omega) (by omega)]; omega
  have o2 := fun W : World => preOf_calls s0 h0 l0 ((wideN s0 - j : Nat) : Int) h00 h01 l00 l01 (by omega) (by omega) _ _ rfl hL W
  have py := preR_pv s0 h0 l0 ((wideN s0 - j : Nat) : Int) h00 h01 l00 l01
  rw [hL] at py
  generalize preR s0 h0 l0 ((wideN s0 - j : Nat) : Int) = y at *
  have e : wideN s0 - (wideN s0 - j) = j := by omega
  have hp : 2 ^ j ≤ 2 ^ 29 := Nat.pow_le_pow_right (by omega) (by omega)
  have hp0 := two_pow_pos' j
  have ep : (2 : Int) ^ j = ((2 ^ j : Nat) : Int) := by simp
  have ht : topN y (wideN s0 - (wideN s0 - j)) < 2 ^ wideN s0 := topN_lt _ _ _ py.1 (by omega)
  have hy := py.2.2
  refine Size.core s0 h0 l0 a1 j (wideN s0 - j) y _ (by rw [IntKind.wrap_i64]; omega) (by rw [IntKind.wrap_i64]; omega) (by omega) ?_ ?_ (by omega) (Lib.hid pk) (Lib.hid o2) (Lib.hid (span_pv s0 y _ _ py rfl))
    (Lib.hid (next_num s0 y _ _ py.1 ht ?_ ?_ ?_)) w
  · rw [ep, IntKind.wrap_i64]; generalize 2 ^ j = t at *; omega
  · rw [ep, IntKind.wrap_i64]; generalize 2 ^ j = t at *; omega
  · rw [ep]; generalize 2 ^ j = t at *; omega
  · rw [ep]; generalize 2 ^ j = t at *; omega
  · rw [ep, topN_low, hy, e]; generalize 2 ^ j = t at *; omega

theorem Size.own : ownKnob Try.prog.godebug = none := by kernel_rfl
set_option maxRecDepth 100000 in
theorem Size.lifted (os : Os) (started : os.Started) (H : Type) (enc : TypeId × Value → H) :
    ReturnsInHanded {} Try.checked os 11 .any (Rows.preSizeSpec.pre6 enc Try.prog Try.f11 Rows.preSizeRow.domain false) (Rows.preSizeSpec.post enc Try.prog Try.f11 false true false false) := by
  refine returnsInHanded_of_change (C := Try.checked) Size.own started (by kernel_rfl) Try.func11
    (ChangeSpec.witness6 (enc := enc) (C := Try.checked) false ⟨#[], #[.agg #[.bool false, .int .u64 0, .int .u64 0], .int .i64 0], []⟩ 8 (by kernel_rfl) (by kernel_rfl) (by kernel_rfl) (by kernel_rfl)) ?_
  intro W base args ds gs before hval0 hW hcnd _
  have hval : ∀ (j : Nat) t v, Try.f11.params[j]? = some t → args[j]? = some v → Value.okWide Try.prog W .any base t v := hval0
  have hW' := hW
  obtain ⟨p, q, hA0, hV, rfl, hfz, hnd⟩ := hW
  have hA : DataW.TrodAll enc Try.prog W 0 (fun _ => true) true Try.f11.params.toList args.toList ds p := hA0
  rw [Try.params11] at hA hval
  obtain ⟨v0, vs0, d0, ds0, p0, q0, hargs, rfl, rfl, rd0, r0⟩ := trodAll_cons hA
  obtain ⟨v1, vs1, d1, ds1, p1, q1, rfl, rfl, rfl, rd1, r1⟩ := trodAll_cons r0
  obtain ⟨rfl, rfl, rfl⟩ := trodAll_nil r1
  obtain rfl : args = #[v0, v1] := by cases args; simp_all
  obtain ⟨rfl, rfl⟩ := trodVars_none hV
  obtain ⟨s0, h0, l0, rfl, rfl, rfl, wa0, wb0⟩ := openRaw (hval 0 41 v0 rfl rfl) rd0
  obtain ⟨a1, rfl, rfl, rfl, wa1⟩ := open_int Try.underlying3 (hval 1 3 v1 rfl rfl) rd1
  clear hA0 hval0
  simp only [List.append_nil] at hW'
  refine (Size.walk s0 h0 l0 a1 (u64_of_wf wa0).1 (u64_of_wf wa0).2 (u64_of_wf wb0).1 (u64_of_wf wb0).2 (i64_of_wf wa1).1 (i64_of_wf wa1).2 W).mono fun e W' ⟨he, hb⟩ => ?_
  subst he
  exact ⟨_, rfl, postBelow (pa := []) (pv := []) hW' hb (fun _ _ _ => trodAll_cons_mk (shut_bool Try.underlying4 _) trodAll_mk0) (fun sp _ => trodAll_cons_mk (shutRaw wa0 wb0) (trodAll_cons_mk (shut_int Try.underlying3 wa1) trodAll_mk0)) (fun _ _ => rfl) rfl⟩

theorem Size.holds : Rows.PreSizeSaid :=
  OpenClaim.holds_of_wide 11 Try.f11 rfl rfl rfl rfl rfl rfl rfl ⟨rfl, rfl, rfl, rfl, rfl⟩ rfl rfl rfl rfl rfl (by kernel_rfl) Try.func11 (by kernel_rfl)
    (of_decide_eq_true (by kernel_rfl)) (by unfold Func.isWrapper; first | (rw [if_pos (by decide +kernel)]; kernel_rfl) | (rw [if_neg (by decide +kernel)]; exact ⟨rfl, rfl⟩))
    (fun os started H enc _ => Size.lifted os started H enc)
#print axioms Size.holds
end Go.Proofs.Ythlkofbdfjpfpaa
