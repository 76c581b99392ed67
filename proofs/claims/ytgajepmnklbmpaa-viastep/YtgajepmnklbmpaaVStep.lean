/-
  ViaStep: for every list of numbers and every two numbers a hop of the vias drawn leads where its next leads, one deeper; or fails as it should. No conditions.
-/
import Derived.Test.YtgajepmnklbmpaaRows
import Derived.Test.YtgajepmnklbmpaaVKeep
import Derived.Test.YtgajepmnklbmpaaRowsN
namespace Go.Proofs.Ytgajepmnklbmpaa
open Go.ChangeShapes Go.WideShapes Go.ChangeAt Go.RowKit Go.Joins
set_option linter.unusedSimpArgs false
set_option linter.unusedVariables false
theorem step_port {l : List VT} {v : VT} (hf : vfind l v.1 = some v) (hp : 0 < v.2.1) : vport l v.1 = (v.2.1, 0, 0) := by
  have hh : hasV l v.1 = true := by rw [← vfind_has, hf]; rfl
  have hg : vget l v.1 = v := by rw [vget, hf]; rfl
  have := vp_port (l := l) (m := 9) (h := v.1) (s := []) hh (by simp) (by simp) (by rw [hg]; exact hp)
  rw [hg] at this
  exact this
theorem step_next {l : List VT} {v : VT} (hf : vfind l v.1 = some v) (hp : ¬ 0 < v.2.1) : vport l v.1 = vp l 8 v.2.2 [v.1] := by
  have hh : hasV l v.1 = true := by rw [← vfind_has, hf]; rfl
  have hg : vget l v.1 = v := by rw [vget, hf]; rfl
  have := vp_next (l := l) (m := 8) (h := v.1) (s := []) hh (by simp) (by simp) (by rw [hg]; exact hp)
  rw [hg] at this
  exact this
theorem step_both {l : List VT} {v : VT} (hf : vfind l v.1 = some v) (hp : ¬ 0 < v.2.1) :
    ((vport l v.1).2.2 = 0 → vport l v.2.2 = ((vport l v.1).1, (vport l v.1).2.1 - 1, 0) ∧ 1 ≤ (vport l v.1).2.1 ∧ (vport l v.1).2.1 ≤ 8) ∧ ((vport l v.1).2.2 = 7 → (vport l v.2.2).2.2 = 7) := by
  have := vp_back l v.1 8 9 v.2.2 [] (by simp) (by simp)
  rw [step_next hf hp]
  exact this
set_option maxHeartbeats 4000000 in
set_option maxRecDepth 100000 in
theorem VStep.walk (v0 : Value) (l0 : List Int) (a1 a2 : Int) (wrd0 : WordsN l0) (len0 : l0.length ≤ 9223372036854775807) (b0 : -9223372036854775808 ≤ a1) (b1 : a1 ≤ 9223372036854775807) (c0 : -9223372036854775808 ≤ a2) (c1 : a2 ≤ 9223372036854775807) (w : World) (row0 : RowN w v0 l0) :
    Calls Try.prog 7 #[v0, .int .i64 a1, .int .i64 a2] w fun e w' => e = .returned (.bool true) ∧ Below w.heap.size w w' := by
  have VC := Lib.hid (vias_calls l0 v0 a1 len0 wrd0 b0 b1 w row0)
  have HF := Lib.hid (fun v (h : v ∈ viasZ l0 a1) => viasZ_fine h)
  have HN := Lib.hid (fun v (h : v ∈ viasZ l0 a1) => show vfind (viasZ l0 a1) v.1 = some v from vfind_mem (viasN_nodup _ _ _) h)
  have hl := viasZ_len l0 a1
  have PO := Lib.hid (fun (u : Value) (hop : Int) (x1 : -9223372036854775808 ≤ hop) (x2 : hop ≤ 9223372036854775807) (W : World) (r : RowV W u (viasZ l0 a1)) => by
    have := portOf_calls (viasZ l0 a1) u hop (by omega) x1 x2 W r
    rw [vport_eq (viasZ_ok l0 a1)] at this
    exact this)
  generalize viasZ l0 a1 = Z at VC HF HN hl PO
  obtain ⟨p0, q0, rfl⟩ := row0.form
  clear row0 wrd0
  go_enter Try.func7, Try.ntmps7
  go_wp2_with fail
  refine VC.out.mono ?_
  rintro e w1 ⟨u1, rfl, o1, hb1⟩
  have R1 := Lib.hid (OwnV.row o1)
  obtain ⟨p1, q1, rfl, _, at1⟩ := R1.out.at
  have AT := Lib.hid at1
  clear VC o1 at1
  by_cases h0 : Z = []
  · subst h0
    have HE := Lib.hid (show vport [] 1 = (0, 0, 7) from rfl)
    have PO1 := Lib.hid (PO.out _ 1 (by decide) (by decide) _ R1.out)
    rw [HE.out] at PO1
    clear PO HF HN AT
    go_wp2_with fail
    refine PO1.out.mono ?_
    rintro e w2 ⟨rfl, hb2⟩
    have b2 := thenBelow hb1 hb2
    go_wp2
    go_ret
    exact ⟨by simp, b2⟩
  · have hpos := List.length_pos_iff.2 h0
    obtain ⟨n, hn⟩ : ∃ n, Z.length = n := ⟨_, rfl⟩
    have HNN := Lib.hid hn
    rw [hn] at R1 hl hpos ⊢
    have hn0 : ((n : Int) == 0) = false := by
      have : ¬ (n : Int) = 0 := by omega
      simpa using this
    have PK := Lib.hid (fun W => picked_calls a2 (n : Int) (by omega) (by omega) c0 c1 W)
    obtain ⟨t, ht⟩ : ∃ t : Nat, a2 % (n : Int) = t := ⟨(a2 % (n : Int)).toNat, by have := Int.emod_nonneg a2 (show (n : Int) ≠ 0 by omega); omega⟩
    have htn : t < n := by have := Int.emod_lt_of_pos a2 (show (0 : Int) < (n : Int) by omega); omega
    rw [ht] at PK
    have htn' : (t : Int) < (n : Int) := by omega
    have htl : t < Z.length := by rw [HNN.out]; exact htn
    obtain ⟨g, o, rfl, hg, hrec⟩ := AT.out t htl
    obtain ⟨x0, x1, x2⟩ := viaCells hrec
    have hv := HF.out _ (List.getElem_mem htl)
    have hf := Lib.hid (HN.out _ (List.getElem_mem htl))
    generalize Z[t] = r at x0 x1 x2 hv hf
    have hvf := vfE_0 hv.1
    have PO1 := Lib.hid (fun (W : World) (r' : RowV W (.slice (some ⟨g, o, none⟩) n q1) Z) => PO.out _ r.1 (by omega) (by omega) W r')
    have PO2 := Lib.hid (fun (W : World) (r' : RowV W (.slice (some ⟨g, o, none⟩) n q1) Z) => PO.out _ r.2.2 (by omega) (by omega) W r')
    have hbA := hb1.alloc hb1.size (objV r)
    have bA := (Below.refl w1.heap.size w1).alloc (Nat.le_refl _) (objV r)
    have RA := Lib.hid (R1.out.keep bA)
    have RV := Lib.hid (objV_new w1 r)
    have hal : w1.heap.size < (w1.alloc (objV r)).heap.size := by simp
    clear AT HF HN PO ht h0 hrec
    go_wp2_with fail
    refine (PK.out _).mono ?_
    rintro e w2 ⟨rfl, rfl⟩
    clear PK
    by_cases hp : 0 < r.2.1
    · have HS := Lib.hid (step_port hf.out hp)
      rw [HS.out] at PO1
      clear PO2 HS hvf hv hf
      go_wp2_with fail
      refine (PO1.out _ RA.out).mono ?_
      rintro e w3 ⟨rfl, hb3⟩
      have b3 := thenBelow hbA hb3
      obtain ⟨y0, y1, y2⟩ := viaCells (RV.out.keep hb3 hal)
      simp only [Nat.zero_add] at y0 y1 y2
      clear x0 x1 x2
      go_wp2
      go_ret
      exact ⟨by simp, b3⟩
    · have SB := Lib.hid (step_both hf.out hp)
      have ER := Lib.hid (show (vport Z r.1).2.2 = 0 ∨ ((vport Z r.1).1 = 0 ∧ (vport Z r.1).2.1 = 0 ∧ ((vport Z r.1).2.2 = 7 ∨ (vport Z r.1).2.2 = 9 ∨ (vport Z r.1).2.2 = 10)) from vp_err Z 9 r.1 [])
      generalize vport Z r.1 = A at PO1 SB ER
      generalize vport Z r.2.2 = G at PO2 SB
      obtain ⟨Ap, Ad, Ae⟩ := A
      obtain ⟨Gp, Gd, Ge⟩ := G
      simp only at PO1 PO2 SB ER
      clear hvf hv hf
      go_wp2_with fail
      refine (PO1.out _ RA.out).mono ?_
      rintro e w3 ⟨rfl, hb3⟩
      have b3 := thenBelow hbA hb3
      obtain ⟨y0, y1, y2⟩ := viaCells (RV.out.keep hb3 hal)
      simp only [Nat.zero_add] at y0 y1 y2
      have R3 := Lib.hid (RA.out.keep hb3)
      clear x0 x1 x2 PO1 RA RV hal hbA bA
      by_cases he : Ae = 0
      · subst he
        have h1 := SB.out.1 rfl
        simp only [Prod.mk.injEq] at h1
        obtain ⟨⟨rfl, rfl, rfl⟩, h2, h3⟩ := h1
        have hwd : IntKind.i64.wrap (Ad - 1 + 1) = Ad := by rw [IntKind.wrap_i64]; omega
        clear SB ER
        go_wp2_with fail
        refine (PO2.out _ R3.out).mono ?_
        rintro e w4 ⟨rfl, hb4⟩
        have b4 := thenBelow b3 hb4
        go_wp2
        go_ret
        exact ⟨by simp, b4⟩
      · obtain ⟨hA1, hA2, hA3⟩ : Ap = 0 ∧ Ad = 0 ∧ (Ae = 7 ∨ Ae = 9 ∨ Ae = 10) := by
          rcases ER.out with h | h
          · exact absurd h he
          · exact h
        subst hA1 hA2
        have SB7 := Lib.hid SB.out.2
        clear SB ER he
        rcases hA3 with rfl | rfl | rfl
        · have := SB7.out rfl
          subst this
          clear SB7
          go_wp2_with fail
          refine (PO2.out _ R3.out).mono ?_
          rintro e w4 ⟨rfl, hb4⟩
          have b4 := thenBelow b3 hb4
          go_wp2
          go_ret
          exact ⟨by simp, b4⟩
        · clear SB7
          go_wp2_with fail
          refine (PO2.out _ R3.out).mono ?_
          rintro e w4 ⟨rfl, hb4⟩
          have b4 := thenBelow b3 hb4
          by_cases g9 : Ge = 9
          · subst g9
            go_wp2
            go_ret
            exact ⟨by simp, b4⟩
          · have g9b : (Ge == 9) = false := by simpa using g9
            by_cases g0 : Ge = 0
            · subst g0
              by_cases g8 : Gd = 8
              · subst g8
                go_wp2
                go_ret
                exact ⟨by simp, b4⟩
              · have g8b : (Gd == 8) = false := by simpa using g8
                go_wp2
                go_ret
                exact ⟨by simp, b4⟩
            · have g0b : (Ge == 0) = false := by simpa using g0
              go_wp2
              go_ret
              exact ⟨by simp, b4⟩
        · clear SB7
          go_wp2_with fail
          refine (PO2.out _ R3.out).mono ?_
          rintro e w4 ⟨rfl, hb4⟩
          have b4 := thenBelow b3 hb4
          by_cases g9 : Ge = 10
          · subst g9
            go_wp2
            go_ret
            exact ⟨by simp, b4⟩
          · have g9b : (Ge == 10) = false := by simpa using g9
            by_cases g0 : Ge = 0
            · subst g0
              go_wp2
              go_ret
              exact ⟨by simp, b4⟩
            · have g0b : (Ge == 0) = false := by simpa using g0
              go_wp2
              go_ret
              exact ⟨by simp, b4⟩
theorem VStep.own : ownKnob Try.prog.godebug = none := by kernel_rfl
set_option maxRecDepth 100000 in
theorem VStep.lifted (os : Os) (started : os.Started) (H : Type) (enc : TypeId × Value → H) :
    ReturnsInHanded {} Try.checked os 7 .any (Rows.viaStepSpec.pre6 enc Try.prog Try.f7 Rows.viaStepRow.domain false) (Rows.viaStepSpec.post enc Try.prog Try.f7 false true false false) := by
  refine returnsInHanded_of_change (C := Try.checked) VStep.own started (by kernel_rfl) Try.func7
    (ChangeSpec.witness6 (enc := enc) (C := Try.checked) false ⟨#[], #[.slice none 0 0, .int .i64 0, .int .i64 0], []⟩ 8 (by kernel_rfl) (by kernel_rfl) (by kernel_rfl) (by kernel_rfl)) ?_
  intro W base args ds gs before hval0 hW hcnd _
  have hval : ∀ (j : Nat) t v, Try.f7.params[j]? = some t → args[j]? = some v → Value.okWide Try.prog W .any base t v := hval0
  have hW' := hW
  obtain ⟨p, q, hA0, hV, rfl, hfz, hnd⟩ := hW
  have hA : DataW.TrodAll enc Try.prog W 0 (fun _ => true) true Try.f7.params.toList args.toList ds p := hA0
  rw [Try.params7] at hA hval
  obtain ⟨v0, vs0, d0, ds0, p0, q0, hargs, rfl, rfl, rd0, r0⟩ := trodAll_cons hA
  obtain ⟨v1, vs1, d1, ds1, p1, q1, rfl, rfl, rfl, rd1, r1⟩ := trodAll_cons r0
  obtain ⟨v2, vs2, d2, ds2, p2, q2, rfl, rfl, rfl, rd2, r2⟩ := trodAll_cons r1
  obtain ⟨rfl, rfl, rfl⟩ := trodAll_nil r2
  obtain rfl : args = #[v0, v1, v2] := by cases args; simp_all
  obtain ⟨rfl, rfl⟩ := trodVars_none hV
  obtain ⟨l0, row0, wrd0, len0⟩ := openIntsN (hval 0 41 v0 rfl rfl) rd0
  obtain ⟨a1, rfl, rfl, rfl, wa1⟩ := open_int Try.underlying3 (hval 1 3 v1 rfl rfl) rd1
  obtain ⟨a2, rfl, rfl, rfl, wa2⟩ := open_int Try.underlying3 (hval 2 3 v2 rfl rfl) rd2
  clear hA0 hval0
  refine (VStep.walk v0 l0 a1 a2 wrd0 len0 (i64_of_wf wa1).1 (i64_of_wf wa1).2 (i64_of_wf wa2).1 (i64_of_wf wa2).2 W row0).mono fun e W' ⟨he, hb⟩ => ?_
  subst he
  exact ⟨_, rfl, postBelowR (pv := []) hW' hb (fun _ _ _ => trodAll_cons_mk (shut_bool Try.underlying4 _) trodAll_mk0) (trodAll_cons_mk (Below.trod laidOutR (by kernel_rfl) (of_decide_eq_true (by kernel_rfl)) rd0 hb (fun x hx => hW'.lt x (by simp [hx]))) (trodAll_cons_mk (Below.trod laidOutR (by kernel_rfl) (of_decide_eq_true (by kernel_rfl)) rd1 hb (fun x hx => by cases hx)) (trodAll_cons_mk (Below.trod laidOutR (by kernel_rfl) (of_decide_eq_true (by kernel_rfl)) rd2 hb (fun x hx => by cases hx)) trodAll_mk0))) (fun _ _ => rfl) rfl⟩

theorem VStep.holds : Rows.ViaStepSaid :=
  OpenClaim.holds_of_wide 7 Try.f7 rfl rfl rfl rfl rfl rfl rfl ⟨rfl, rfl, rfl, rfl, rfl⟩ rfl rfl rfl rfl rfl (by kernel_rfl) Try.func7 (by kernel_rfl)
    (of_decide_eq_true (by kernel_rfl)) (by unfold Func.isWrapper; first | (rw [if_pos (by decide +kernel)]; kernel_rfl) | (rw [if_neg (by decide +kernel)]; exact ⟨rfl, rfl⟩))
    (fun os started H enc _ => VStep.lifted os started H enc)
#print axioms VStep.holds
end Go.Proofs.Ytgajepmnklbmpaa
