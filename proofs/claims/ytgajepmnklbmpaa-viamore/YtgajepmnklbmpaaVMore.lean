/-
  ViaMore: for every list of numbers and every three numbers a via more of another hop changes nothing of where hops lead. No conditions.
-/
import Derived.Test.YtgajepmnklbmpaaRows
import Derived.Test.YtgajepmnklbmpaaVKeep
import Derived.Test.YtgajepmnklbmpaaRowsN
namespace Go.Proofs.Ytgajepmnklbmpaa
open Go.ChangeShapes Go.WideShapes Go.ChangeAt Go.RowKit Go.Joins
set_option linter.unusedSimpArgs false
set_option linter.unusedVariables false
theorem more_all (l : List Int) (n p : Int) (hp : 1 ≤ p ∧ p ≤ 30) : viaE (viasZ l n ++ [(500, p, 0)]) = 0 ∧ vport (viasZ l n ++ [(500, p, 0)]) 500 = (p, 0, 0) ∧ ∀ x, x ≠ 500 → vport (viasZ l n ++ [(500, p, 0)]) x = vport (viasZ l n) x := by
  have hno : hasV (viasZ l n) 500 = false := by
    rw [← Bool.not_eq_true]
    intro h
    unfold hasV at h
    obtain ⟨u, hu, e⟩ := List.any_eq_true.1 h
    have := (viasZ_fine hu).2.1
    have := of_decide_eq_true e
    omega
  refine ⟨viaE_ok (by rw [List.length_append]; have := viasZ_len l n; simp; omega) (fun v hv => ?_) ?_, ?_, fun x hx => ?_⟩
  · rcases List.mem_append.1 hv with h | h
    · exact (viasZ_fine h).1
    · rw [List.mem_singleton.1 h]
      unfold vfE
      simp only
      rw [if_neg (by omega), if_neg (fun e => by have := e.2 trivial; omega), if_neg (by omega)]
  · rw [List.map_append, List.nodup_append]
    refine ⟨viasN_nodup _ _ _, by simp, fun a ha b hb e => ?_⟩
    obtain ⟨u, hu, rfl⟩ := List.mem_map.1 ha
    have := (viasZ_fine hu).2.1
    simp at hb
    omega
  · have hf := vfind_snoc_same (l := viasZ l n) (v := (500, p, 0)) hno
    have hh : hasV (viasZ l n ++ [(500, p, 0)]) 500 = true := by rw [← vfind_has, hf]; rfl
    have hg : vget (viasZ l n ++ [(500, p, 0)]) 500 = (500, p, 0) := by rw [vget, hf]; rfl
    have := vp_port (l := viasZ l n ++ [(500, p, 0)]) (m := 9) (h := 500) (s := []) hh (by simp) (by simp) (by rw [hg]; show 0 < p; omega)
    rw [hg] at this
    exact this
  · exact vp_more (fun v hv e => by have := (viasZ_fine hv).2.2.1; have e : v.2.2 = 500 := e; omega) (show (500 : Int) ≠ 0 by decide) 9 x [] hx
set_option maxHeartbeats 4000000 in
set_option maxRecDepth 100000 in
theorem VMore.walk (v0 : Value) (l0 : List Int) (a1 a2 a3 : Int) (wrd0 : WordsN l0) (len0 : l0.length ≤ 9223372036854775807) (b0 : -9223372036854775808 ≤ a1) (b1 : a1 ≤ 9223372036854775807) (c0 : -9223372036854775808 ≤ a2) (c1 : a2 ≤ 9223372036854775807) (d0 : -9223372036854775808 ≤ a3) (d1 : a3 ≤ 9223372036854775807) (w : World) (row0 : RowN w v0 l0) :
    Calls Try.prog 9 #[v0, .int .i64 a1, .int .i64 a2, .int .i64 a3] w fun e w' => e = .returned (.bool true) ∧ Below w.heap.size w w' := by
  obtain ⟨i0, hii, hz0, hz1, hz2⟩ := info_parts info_via
  have VC := Lib.hid (vias_calls l0 v0 a1 len0 wrd0 b0 b1 w row0)
  have hl := viasZ_len l0 a1
  have e1 := Int.emod_nonneg a3 (show (30 : Int) ≠ 0 by decide)
  have e2 := Int.emod_lt_of_pos a3 (show (0 : Int) < 30 by decide)
  have e3 := Int.emod_nonneg a2 (show (20 : Int) ≠ 0 by decide)
  have e4 := Int.emod_lt_of_pos a2 (show (0 : Int) < 20 by decide)
  have PK3 := Lib.hid (fun W => picked_calls a3 30 (by decide) (by decide) d0 d1 W)
  have PK2 := Lib.hid (fun W => picked_calls a2 20 (by decide) (by decide) c0 c1 W)
  obtain ⟨P, hP⟩ : ∃ q, 1 + a3 % 30 = q := ⟨_, rfl⟩
  obtain ⟨X, hX⟩ : ∃ q, 1 + a2 % 20 = q := ⟨_, rfl⟩
  have hwP : IntKind.i64.wrap (1 + a3 % 30) = P := by rw [IntKind.wrap_i64]; omega
  have hwX : IntKind.i64.wrap (1 + a2 % 20) = X := by rw [IntKind.wrap_i64]; omega
  obtain ⟨m1, m2, m3⟩ := more_all l0 a1 P (by omega)
  have PO1 := Lib.hid (fun (u : Value) (W : World) (r : RowV W u (viasZ l0 a1)) => by
    have := portOf_calls (viasZ l0 a1) u X (by omega) (by omega) (by omega) W r
    rw [vport_eq (viasZ_ok l0 a1)] at this
    exact this)
  have PO2 := Lib.hid (fun (u : Value) (W : World) (r : RowV W u (viasZ l0 a1 ++ [(500, P, 0)])) => by
    have := portOf_calls (viasZ l0 a1 ++ [(500, P, 0)]) u X (by rw [List.length_append]; simp; omega) (by omega) (by omega) W r
    rw [vport_eq m1, m3 X (by omega)] at this
    exact this)
  have PO3 := Lib.hid (fun (u : Value) (W : World) (r : RowV W u (viasZ l0 a1 ++ [(500, P, 0)])) => by
    have := portOf_calls (viasZ l0 a1 ++ [(500, P, 0)]) u 500 (by rw [List.length_append]; simp; omega) (by omega) (by omega) W r
    rw [vport_eq m1, m2] at this
    exact this)
  have ER := Lib.hid (show (vport (viasZ l0 a1) X).2.2 = 0 ∨ ((vport (viasZ l0 a1) X).1 = 0 ∧ (vport (viasZ l0 a1) X).2.1 = 0 ∧ ((vport (viasZ l0 a1) X).2.2 = 7 ∨ (vport (viasZ l0 a1) X).2.2 = 9 ∨ (vport (viasZ l0 a1) X).2.2 = 10)) from vp_err (viasZ l0 a1) 9 X [])
  generalize vport (viasZ l0 a1) X = A at PO1 PO2 ER
  have h3 : (A.2.2 == 3) = false := by
    have : ¬ A.2.2 = 3 := by rcases ER.out with h | ⟨_, _, h | h | h⟩ <;> omega
    simpa using this
  have h3' : (A.2.2 != 3) = true := by simp [bne, h3]
  generalize viasZ l0 a1 = Z at VC hl PO1 PO2 PO3
  have hby : Z.length * 24 ≤ 140737488355328 := by omega
  have h63 : Z.length ≤ maxLen := by unfold maxLen; omega
  have hZ : Z.length ≤ 100000 := by omega
  obtain ⟨p0, n0, q0, hu0⟩ : ∃ p n c, v0 = .slice p n c := by obtain ⟨p, c, e⟩ := row0.form; exact ⟨_, _, _, e⟩
  subst hu0
  clear row0 wrd0 e1 e2 e3 e4 hP hX m1 m2 m3 ER
  go_enter Try.func9, Try.ntmps9
  go_wp2_with fail
  refine VC.out.mono ?_
  rintro e w1 ⟨u1, rfl, o1, hb1⟩
  have R1 := Lib.hid (OwnV.row o1)
  obtain ⟨p1, n1, q1, hu1⟩ : ∃ p n c, u1 = .slice p n c := by obtain ⟨p, c, e⟩ := R1.out.form; exact ⟨_, _, _, e⟩
  subst hu1
  clear VC o1
  go_wp2_with (at_builtin; refine wpList_append_copy rfl _ _ _ rfl 27 i0 _ 24 Try.underlying22 hii hz0 hz1 hz2 rfl (by decide) vcs_len vcs_one rfl _ _ rfl R1.out hby h63 ?_; intro u2 w2 o2 hb2)
  have O2 := Lib.hid (show OwnV w2 w1.heap.size u2 Z from o2)
  have b2 := thenBelow hb1 hb2
  have hs1 := hb2.size
  have hle := hb1.size
  clear o2 hb1
  refine (PK3.out _).mono ?_
  rintro e w3 ⟨rfl, rfl⟩
  have O3 := Lib.hid (O2.out.alloc (objV (500, P, 0)))
  have hnw := Lib.hid (cell_new w2 (vcs (500, P, 0)) 27)
  have b3 := b2.alloc b2.size (objV (500, P, 0))
  have c3 := hb2.alloc hb2.size (objV (500, P, 0))
  have hs3 : w1.heap.size ≤ (w2.alloc (objV (500, P, 0))).heap.size := Nat.le_trans hs1 (by simp)
  clear O2 b2 hb2
  go_wp2_with (at_builtin; refine wpList_append_one rfl _ _ 22 rfl w1.heap.size 27 i0 _ 24 Try.underlying22 hii hz0 hz1 hz2 rfl (by decide) vcs_len vcs_one Z ⟨_, rfl, O3.out⟩ (500, P, 0) w2.heap.size 1 rfl hnw.out hZ (by decide) hs3 ?_; intro v7 w7 ho7 hg7 hb7)
  have b7 := b3.trans (hb7.mono hle)
  have c7 := c3.trans hb7
  have R7 := Lib.hid (R1.out.keep c7)
  have S7 := Lib.hid (OwnV.row (show OwnV w7 w1.heap.size v7 (Z ++ [(500, P, 0)]) from ho7))
  obtain ⟨p7, n7, q7, hu7⟩ : ∃ p n c, v7 = .slice p n c := by obtain ⟨p, c, e⟩ := S7.out.form; exact ⟨_, _, _, e⟩
  subst hu7
  clear O3 hnw b3 c3 hs3 ho7 hg7 hb7 c7 hle hs1 R1 hby h63 hZ hl hii hz0 hz1 hz2
  obtain ⟨Ap, Ad, Ae⟩ := A
  simp only at h3 h3' PO1 PO2
  refine (PK2.out _).mono ?_
  rintro e w8 ⟨rfl, rfl⟩
  clear PK2
  go_wp2_with fail
  refine (PO1.out _ _ R7.out).mono ?_
  rintro e w9 ⟨rfl, hb9⟩
  have S9 := Lib.hid (S7.out.keep hb9)
  have b9 := thenBelow b7 hb9
  clear PO1 R7 S7 hb9 b7
  go_wp2_with fail
  refine (PO2.out _ _ S9.out).mono ?_
  rintro e w10 ⟨rfl, hb10⟩
  have S10 := Lib.hid (S9.out.keep hb10)
  have b10 := thenBelow b9 hb10
  clear PO2 S9 hb10 b9
  go_wp2_with fail
  refine (PO3.out _ _ S10.out).mono ?_
  rintro e w11 ⟨rfl, hb11⟩
  have b11 := thenBelow b10 hb11
  clear PO3 S10 hb11 b10
  go_wp2_with fail
  refine (PK3.out _).mono ?_
  rintro e w12 ⟨rfl, rfl⟩
  go_wp2
  go_ret
  exact ⟨by simp, b11⟩
theorem VMore.own : ownKnob Try.prog.godebug = none := by kernel_rfl
set_option maxRecDepth 100000 in
theorem VMore.lifted (os : Os) (started : os.Started) (H : Type) (enc : TypeId × Value → H) :
    ReturnsInHanded {} Try.checked os 9 .any (Rows.viaMoreSpec.pre6 enc Try.prog Try.f9 Rows.viaMoreRow.domain false) (Rows.viaMoreSpec.post enc Try.prog Try.f9 false true false false) := by
  refine returnsInHanded_of_change (C := Try.checked) VMore.own started (by kernel_rfl) Try.func9
    (ChangeSpec.witness6 (enc := enc) (C := Try.checked) false ⟨#[], #[.slice none 0 0, .int .i64 0, .int .i64 0, .int .i64 0], []⟩ 8 (by kernel_rfl) (by kernel_rfl) (by kernel_rfl) (by kernel_rfl)) ?_
  intro W base args ds gs before hval0 hW hcnd _
  have hval : ∀ (j : Nat) t v, Try.f9.params[j]? = some t → args[j]? = some v → Value.okWide Try.prog W .any base t v := hval0
  have hW' := hW
  obtain ⟨p, q, hA0, hV, rfl, hfz, hnd⟩ := hW
  have hA : DataW.TrodAll enc Try.prog W 0 (fun _ => true) true Try.f9.params.toList args.toList ds p := hA0
  rw [Try.params9] at hA hval
  obtain ⟨v0, vs0, d0, ds0, p0, q0, hargs, rfl, rfl, rd0, r0⟩ := trodAll_cons hA
  obtain ⟨v1, vs1, d1, ds1, p1, q1, rfl, rfl, rfl, rd1, r1⟩ := trodAll_cons r0
  obtain ⟨v2, vs2, d2, ds2, p2, q2, rfl, rfl, rfl, rd2, r2⟩ := trodAll_cons r1
  obtain ⟨v3, vs3, d3, ds3, p3, q3, rfl, rfl, rfl, rd3, r3⟩ := trodAll_cons r2
  obtain ⟨rfl, rfl, rfl⟩ := trodAll_nil r3
  obtain rfl : args = #[v0, v1, v2, v3] := by cases args; simp_all
  obtain ⟨rfl, rfl⟩ := trodVars_none hV
  obtain ⟨l0, row0, wrd0, len0⟩ := openIntsN (hval 0 41 v0 rfl rfl) rd0
  obtain ⟨a1, rfl, rfl, rfl, wa1⟩ := open_int Try.underlying3 (hval 1 3 v1 rfl rfl) rd1
  obtain ⟨a2, rfl, rfl, rfl, wa2⟩ := open_int Try.underlying3 (hval 2 3 v2 rfl rfl) rd2
  obtain ⟨a3, rfl, rfl, rfl, wa3⟩ := open_int Try.underlying3 (hval 3 3 v3 rfl rfl) rd3
  clear hA0 hval0
  refine (VMore.walk v0 l0 a1 a2 a3 wrd0 len0 (i64_of_wf wa1).1 (i64_of_wf wa1).2 (i64_of_wf wa2).1 (i64_of_wf wa2).2 (i64_of_wf wa3).1 (i64_of_wf wa3).2 W row0).mono fun e W' ⟨he, hb⟩ => ?_
  subst he
  exact ⟨_, rfl, postBelowR (pv := []) hW' hb (fun _ _ _ => trodAll_cons_mk (shut_bool Try.underlying4 _) trodAll_mk0) (trodAll_cons_mk (Below.trod laidOutR (by kernel_rfl) (of_decide_eq_true (by kernel_rfl)) rd0 hb (fun x hx => hW'.lt x (by simp [hx]))) (trodAll_cons_mk (Below.trod laidOutR (by kernel_rfl) (of_decide_eq_true (by kernel_rfl)) rd1 hb (fun x hx => by cases hx)) (trodAll_cons_mk (Below.trod laidOutR (by kernel_rfl) (of_decide_eq_true (by kernel_rfl)) rd2 hb (fun x hx => by cases hx)) (trodAll_cons_mk (Below.trod laidOutR (by kernel_rfl) (of_decide_eq_true (by kernel_rfl)) rd3 hb (fun x hx => by cases hx)) trodAll_mk0)))) (fun _ _ => rfl) rfl⟩

theorem VMore.holds : Rows.ViaMoreSaid :=
  OpenClaim.holds_of_wide 9 Try.f9 rfl rfl rfl rfl rfl rfl rfl ⟨rfl, rfl, rfl, rfl, rfl⟩ rfl rfl rfl rfl rfl (by kernel_rfl) Try.func9 (by kernel_rfl)
    (of_decide_eq_true (by kernel_rfl)) (by unfold Func.isWrapper; first | (rw [if_pos (by decide +kernel)]; kernel_rfl) | (rw [if_neg (by decide +kernel)]; exact ⟨rfl, rfl⟩))
    (fun os started H enc _ => VMore.lifted os started H enc)
#print axioms VMore.holds
end Go.Proofs.Ytgajepmnklbmpaa
