/-
  PROVED: whipcordlaw.PreHas returns true for all arguments, and they read afterwards as they read before. No condition.
-/
import Derived.Test.YthlkofbdfjpfpaaRows
import Derived.Test.YthlkofbdfjpfpaaRefIn
import Derived.Test.YthlkofbdfjpfpaaShapesPre
namespace Go.Proofs.Ythlkofbdfjpfpaa
open Go.ChangeShapes Go.WideShapes Go.ChangeAt Go.RowKit Go.Joins
set_option linter.unusedVariables false
set_option linter.unusedSimpArgs false

set_option maxHeartbeats 400000 in
theorem Has.core (six s2 b : Bool) (x y : Nat) (n r : Int)
    (C1 : Hid (∀ W : World, Calls Try.prog 16 #[.agg #[.bool six, .int .u64 (aH x), .int .u64 (aL x), .int .i64 n], .agg #[.bool s2, .int .u64 (aH y), .int .u64 (aL y)]] W fun e w' => e = .returned (.tuple #[.bool b, .int .i64 r]) ∧ Below W.heap.size W w'))
    (C2 : Hid (∀ W : World, Calls Try.prog 17 #[.agg #[.bool six, .int .u64 (aH x), .int .u64 (aL x), .int .i64 n], .agg #[.bool s2, .int .u64 (aH y), .int .u64 (aL y)]] W fun e w' => e = .returned (.tuple #[.bool b, .int .i64 r]) ∧ Below W.heap.size W w')) (w : World) :
    Calls Try.prog 4 #[.agg #[.bool six, .int .u64 (aH x), .int .u64 (aL x), .int .i64 n], .agg #[.bool s2, .int .u64 (aH y), .int .u64 (aL y)]] w fun e w' => e = .returned (.bool true) ∧ Below w.heap.size w w' := by
  go_enter Try.func4, Try.ntmps4
  go_wp2_with fail
  refine (C1.out _).mono ?_
  rintro e w1 ⟨rfl, hb1⟩
  obtain ⟨p0, p1, p2, p3, pl⟩ := ((PreAt.new w six (aH x) (aL x) n 26).alloc _).keep hb1
  obtain ⟨a0, a1, a2, al⟩ := (AddrAt.new (w.alloc (.cells #[.bool six, .int .u64 (aH x), .int .u64 (aL x), .int .i64 n] 26)) s2 (aH y) (aL y) 24).keep hb1
  simp at a0 a1 a2 al
  have b1 := thenBelow (((Below.refl _ w).alloc (Nat.le_refl _) _).alloc (by simp) _) hb1
  clear hb1
  go_wp2_with fail
  refine (C2.out _).mono ?_
  rintro e w2 ⟨rfl, hb2⟩
  go_wp2
  go_ret
  exact ⟨rfl, thenBelow b1 hb2⟩
theorem Has.walk (s0 : Bool) (h0 l0 n0 : Int) (s1 : Bool) (h1 l1 : Int) (h00 : 0 ≤ h0) (h01 : h0 ≤ 18446744073709551615) (l00 : 0 ≤ l0) (l01 : l0 ≤ 18446744073709551615) (n00 : -9223372036854775808 ≤ n0) (n01 : n0 ≤ 9223372036854775807)
    (h10 : 0 ≤ h1) (h11 : h1 ≤ 18446744073709551615) (l10 : 0 ≤ l1) (l11 : l1 ≤ 18446744073709551615) (w : World) :
    Calls Try.prog 4 #[.agg #[.bool s0, .int .u64 h0, .int .u64 l0, .int .i64 n0], .agg #[.bool s1, .int .u64 h1, .int .u64 l1]] w fun e w' => e = .returned (.bool true) ∧ Below w.heap.size w w' := by
  obtain ⟨x, hx, rfl, rfl⟩ := asNum h0 l0 h00 h01 l00 l01
  obtain ⟨y, hy, rfl, rfl⟩ := asNum h1 l1 h10 h11 l10 l11
  by_cases hc : chkE s0 x n0 = 0
  · by_cases hv : y < 2 ^ wideN s1
    · by_cases hs : s0 = s1
      · subst hs
        obtain ⟨hxv, n, rfl, hn, hl⟩ := chk0 hc
        exact Has.core s0 s0 _ x y n 0 (Lib.hid (has_ok s0 x y n _ _ hx hy hc hn hv rfl rfl)) (Lib.hid (refHas_ok s0 x y n _ _ hxv hl hv hc hn rfl rfl)) w
      · have hs' : (!s0 == s1) = true := by cases s0 <;> cases s1 <;> simp_all
        exact Has.core s0 s1 _ x y n0 _ (Lib.hid (has_fam s0 s1 x y n0 hs' hx hy hc hv)) (Lib.hid (refHas_fam s0 s1 x y n0 hs' hx hy hc hv)) w
    · exact Has.core s0 s1 _ x y n0 _ (Lib.hid (has_form s0 s1 x y n0 hx hy hc hv)) (Lib.hid (refHas_form s0 s1 x y n0 hx hy hc hv)) w
  · have he : (chkE s0 x n0 == 0) = false := by simpa using hc
    exact Has.core s0 s1 _ x y n0 _ (Lib.hid (has_err s0 s1 x n0 _ _ _ hx rfl he)) (Lib.hid (refHas_err s0 s1 x n0 _ _ _ hx rfl he)) w

theorem Has.own : ownKnob Try.prog.godebug = none := by kernel_rfl
set_option maxRecDepth 100000 in
theorem Has.lifted (os : Os) (started : os.Started) (H : Type) (enc : TypeId × Value → H) :
    ReturnsInHanded {} Try.checked os 4 .any (Rows.preHasSpec.pre6 enc Try.prog Try.f4 Rows.preHasRow.domain false) (Rows.preHasSpec.post enc Try.prog Try.f4 false true false false) := by
  refine returnsInHanded_of_change (C := Try.checked) Has.own started (by kernel_rfl) Try.func4
    (ChangeSpec.witness6 (enc := enc) (C := Try.checked) false ⟨#[], #[.agg #[.bool false, .int .u64 0, .int .u64 0, .int .i64 0], .agg #[.bool false, .int .u64 0, .int .u64 0]], []⟩ 8 (by kernel_rfl) (by kernel_rfl) (by kernel_rfl) (by kernel_rfl)) ?_
  intro W base args ds gs before hval0 hW hcnd _
  have hval : ∀ (j : Nat) t v, Try.f4.params[j]? = some t → args[j]? = some v → Value.okWide Try.prog W .any base t v := hval0
  have hW' := hW
  obtain ⟨p, q, hA0, hV, rfl, hfz, hnd⟩ := hW
  have hA : DataW.TrodAll enc Try.prog W 0 (fun _ => true) true Try.f4.params.toList args.toList ds p := hA0
  rw [Try.params4] at hA hval
  obtain ⟨v0, vs0, d0, ds0, p0, q0, hargs, rfl, rfl, rd0, r0⟩ := trodAll_cons hA
  obtain ⟨v1, vs1, d1, ds1, p1, q1, rfl, rfl, rfl, rd1, r1⟩ := trodAll_cons r0
  obtain ⟨rfl, rfl, rfl⟩ := trodAll_nil r1
  obtain rfl : args = #[v0, v1] := by cases args; simp_all
  obtain ⟨rfl, rfl⟩ := trodVars_none hV
  obtain ⟨s0, h0, l0, n0, rfl, rfl, rfl, wa0, wb0, wc0⟩ := openPrefix (hval 0 26 v0 rfl rfl) rd0
  obtain ⟨s1, h1, l1, rfl, rfl, rfl, wa1, wb1⟩ := openAddr (hval 1 24 v1 rfl rfl) rd1
  clear hA0 hval0
  simp only [List.append_nil] at hW'
  refine (Has.walk s0 h0 l0 n0 s1 h1 l1 (u64_of_wf wa0).1 (u64_of_wf wa0).2 (u64_of_wf wb0).1 (u64_of_wf wb0).2 (i64_of_wf wc0).1 (i64_of_wf wc0).2 (u64_of_wf wa1).1 (u64_of_wf wa1).2 (u64_of_wf wb1).1 (u64_of_wf wb1).2 W).mono fun e W' ⟨he, hb⟩ => ?_
  subst he
  exact ⟨_, rfl, postBelow (pa := []) (pv := []) hW' hb (fun _ _ _ => trodAll_cons_mk (shut_bool Try.underlying4 _) trodAll_mk0) (fun sp _ => trodAll_cons_mk (shutPrefix wa0 wb0 wc0) (trodAll_cons_mk (shutAddr wa1 wb1) trodAll_mk0)) (fun _ _ => rfl) rfl⟩

theorem Has.holds : Rows.PreHasSaid :=
  OpenClaim.holds_of_wide 4 Try.f4 rfl rfl rfl rfl rfl rfl rfl ⟨rfl, rfl, rfl, rfl, rfl⟩ rfl rfl rfl rfl rfl (by kernel_rfl) Try.func4 (by kernel_rfl)
    (of_decide_eq_true (by kernel_rfl)) (by unfold Func.isWrapper; first | (rw [if_pos (by decide +kernel)]; kernel_rfl) | (rw [if_neg (by decide +kernel)]; exact ⟨rfl, rfl⟩))
    (fun os started H enc _ => Has.lifted os started H enc)
#print axioms Has.holds
end Go.Proofs.Ythlkofbdfjpfpaa
