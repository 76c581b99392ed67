/-
  ViaAll: for every list of numbers and every number what All tells of the vias drawn is what is told of each. No conditions.
-/
import Derived.Test.YtgajepmnklbmpaaRows
import Derived.Test.YtgajepmnklbmpaaVKeep
import Derived.Test.YtgajepmnklbmpaaViaH
import Derived.Test.YtgajepmnklbmpaaRowsN
namespace Go.Proofs.Ytgajepmnklbmpaa
open Go.ChangeShapes Go.WideShapes Go.ChangeAt Go.RowKit Go.Joins
set_option linter.unusedSimpArgs false
set_option linter.unusedVariables false
/-- All, of the vias drawn: each in its order. -/
theorem all_drawn (l : List Int) (n : Int) : allV (viasZ l n) = (viasZ l n).filterMap fun v => oneV (viasZ l n) v.1 := by
  have hk : ksV (viasZ l n) = (viasZ l n).map Prod.fst := by
    unfold ksV
    have hs : ((viasZ l n).map Prod.fst).Pairwise (· < ·) := by
      unfold viasZ
      rw [viasN_hops]
      exact toN_lt _
    exact List.mergeSort_of_pairwise (hs.imp fun h => by simp only [decide_eq_true_eq]; omega)
  unfold allV
  rw [hk, List.filterMap_map]
  rfl
def drT (Z : List VT) (j : Nat) : List VT := (Z.take j).filterMap fun v => oneV Z v.1
theorem drT_succ {Z : List VT} {j : Nat} (hj : j < Z.length) : drT Z (j + 1) = drT Z j ++ (match oneV Z Z[j].1 with | some v => [v] | none => []) := by
  unfold drT
  rw [List.take_succ_eq_append_getElem hj, List.filterMap_append]
  congr 1
  cases h : oneV Z Z[j].1 <;> simp [h]
theorem drT_pre {Z : List VT} {j : Nat} : ∃ t, (Z.filterMap fun v => oneV Z v.1) = drT Z j ++ t := by
  refine ⟨(Z.drop j).filterMap fun v => oneV Z v.1, ?_⟩
  unfold drT
  rw [← List.filterMap_append, List.take_append_drop]
/-- What is told of the hop at j stands at its place. -/
theorem drT_at {Z A : List VT} (hA : A = Z.filterMap fun v => oneV Z v.1) {j : Nat} (hj : j < Z.length) {u : VT} (hu : oneV Z Z[j].1 = some u) {t : Nat} (htt : (drT Z j).length = t) : ∃ h : t < A.length, A[t] = u := by
  subst htt
  obtain ⟨t, ht⟩ := drT_pre (Z := Z) (j := j + 1)
  rw [drT_succ hj, hu] at ht
  have e : A = drT Z j ++ u :: t := by rw [hA, ht]; simp
  refine ⟨by rw [e]; simp, ?_⟩
  simp only [e]
  rw [List.getElem_append_right (Nat.le_refl _)]
  simp
set_option maxHeartbeats 8000000 in
set_option maxRecDepth 100000 in
theorem VAll.walk (v0 : Value) (l0 : List Int) (a1 : Int) (wrd0 : WordsN l0) (len0 : l0.length ≤ 9223372036854775807) (b0 : -9223372036854775808 ≤ a1) (b1 : a1 ≤ 9223372036854775807) (w : World) (row0 : RowN w v0 l0) :
    Calls Try.prog 8 #[v0, .int .i64 a1] w fun e w' => e = .returned (.bool true) ∧ Below w.heap.size w w' := by
  obtain ⟨i0, hii, hz0, hz1, hz2⟩ := info_parts info_via
  have VC := Lib.hid (vias_calls l0 v0 a1 len0 wrd0 b0 b1 w row0)
  have hl := viasZ_len l0 a1
  have h0 := viasZ_ok l0 a1
  have AD := Lib.hid (all_drawn l0 a1)
  have HF := Lib.hid (fun v (h : v ∈ viasZ l0 a1) => viasZ_fine h)
  have AC := Lib.hid (fun (u : Value) (W : World) (r : RowV W u (viasZ l0 a1)) => by
    have := viaAll_calls (viasZ l0 a1) u (by omega) W r
    rw [h0, if_pos rfl] at this
    exact this)
  have PO := Lib.hid (fun (u : Value) (hop : Int) (x1 : -9223372036854775808 ≤ hop) (x2 : hop ≤ 9223372036854775807) (W : World) (r : RowV W u (viasZ l0 a1)) => by
    have := portOf_calls (viasZ l0 a1) u hop (by omega) x1 x2 W r
    rw [vport_eq h0] at this
    exact this)
  generalize viasZ l0 a1 = Z at VC hl AD HF AC PO
  generalize allV Z = A at AD AC
  have hA20 : A.length ≤ 20 := by
    rw [AD.out]
    exact Nat.le_trans (List.length_filterMap_le _ _) hl
  have hby : Z.length * 24 ≤ 140737488355328 := by omega
  have h63 : Z.length ≤ maxLen := by unfold maxLen; omega
  obtain ⟨m, hm⟩ : ∃ m, Z.length = m := ⟨_, rfl⟩
  obtain ⟨q, hq⟩ : ∃ q, A.length = q := ⟨_, rfl⟩
  have HM := Lib.hid hm
  have HQ := Lib.hid hq
  rw [hm] at hl
  rw [hq] at hA20
  obtain ⟨p0, n0, q0, hu0⟩ : ∃ p n c, v0 = .slice p n c := by obtain ⟨p, c, e⟩ := row0.form; exact ⟨_, _, _, e⟩
  subst hu0
  clear row0 wrd0 h0 hm hq
  go_enter Try.func8, Try.ntmps8
  go_wp2_with fail
  refine VC.out.mono ?_
  rintro e w1 ⟨u1, rfl, o1, hb1⟩
  have R1 := Lib.hid (OwnV.row o1)
  obtain ⟨p1, q1, hu1⟩ := R1.out.form
  rw [HM.out] at hu1
  subst hu1
  clear VC o1
  go_wp2_with (at_builtin; refine wpList_append_copy rfl _ _ _ rfl 27 i0 _ 24 Try.underlying22 hii hz0 hz1 hz2 rfl (by decide) vcs_len vcs_one rfl _ _ rfl R1.out hby h63 ?_; intro u2 w2 o2 hb2)
  have R2 := Lib.hid (OwnV.row (show OwnV w2 w1.heap.size u2 Z from o2))
  obtain ⟨p2, q2, hu2⟩ := R2.out.form
  rw [HM.out] at hu2
  subst hu2
  have S2 := Lib.hid (R1.out.keep hb2)
  have b2 := thenBelow hb1 hb2
  clear o2 R1 hb1 hb2 hby h63 hii hz0 hz1 hz2
  refine (AC.out _ _ R2.out).mono ?_
  rintro e w3 ⟨u3, rfl, o3, hb3⟩
  have RA := Lib.hid (OwnV.row o3)
  obtain ⟨p3, q3, hu3⟩ := RA.out.form
  rw [HQ.out] at hu3
  subst hu3
  have S3 := Lib.hid (S2.out.keep hb3)
  have b3 := thenBelow b2 hb3
  have A1 := Lib.hid (show ∀ j (hj : j < Z.length), ∃ g o, p1 = some ⟨g, o, none⟩ ∧ g < w3.heap.size ∧ RecAt w3 g (o + j * 3) (vcs Z[j]) from by
    obtain ⟨p', c', e, _, h⟩ := S3.out.at
    injection e with e1 e2 e3
    subst e1
    exact h)
  have A2 := Lib.hid (show ∀ j (hj : j < A.length), ∃ g o, p3 = some ⟨g, o, none⟩ ∧ g < w3.heap.size ∧ RecAt w3 g (o + j * 3) (vcs A[j]) from by
    obtain ⟨p', c', e, _, h⟩ := RA.out.at
    injection e with e1 e2 e3
    subst e1
    exact h)
  clear AC R2 S2 o3 RA b2 hb3
  go_wp2_with fail
  go_loopw [8, 9] (fun k i wr => ∃ (j t : Nat), i = .int .i64 j ∧ k = .int .i64 t ∧ j ≤ m ∧ t ≤ 20 ∧ Below w3.heap.size w3 wr ∧ Hid ((drT Z j).length = t)) (fun _ i _ => m - (intOf i).toNat)
  case atStart => exact ⟨0, 0, rfl, rfl, by omega, by omega, Below.refl _ _, Lib.hid rfl⟩
  case round =>
    obtain ⟨j, t, rfl, rfl, hj, ht, hnx, TV⟩ := hrel
    by_cases hlt : j < m
    · have hjl : j < Z.length := by rw [HM.out]; exact hlt
      obtain ⟨g1, o1, rfl, hg1, hr1⟩ := A1.out j hjl
      obtain ⟨x0, x1, x2⟩ := viaCells (hr1.keep hnx hg1)
      have hltj : (j : Int) < (m : Int) := by omega
      have HS := Lib.hid (drT_succ hjl)
      have HAT := Lib.hid (fun u hu => drT_at AD.out hjl (u := u) hu TV.out)
      have hfi := HF.out _ (List.getElem_mem hjl)
      have hvf := vfE_0 hfi.1
      generalize Z[j] = r at x0 x1 x2 HS HAT hfi hvf hr1
      have PC := Lib.hid (PO.out (.slice (some ⟨g1, o1, none⟩) m q1) r.1 (by omega) (by omega) wr (S3.out.keep hnx))
      have ER := Lib.hid (show (vport Z r.1).2.2 ≠ 3 from by have := vp_err Z 9 r.1 []; unfold vport; omega)
      unfold oneV at HS HAT
      generalize vport Z r.1 = R at PC HS HAT ER
      obtain ⟨P, D, E⟩ := R
      simp only at PC HS HAT ER
      clear hfi hvf
      go_wp2_with fail
      refine PC.out.mono ?_
      rintro e w4 ⟨rfl, hb4⟩
      have n4 := thenBelow hnx hb4
      have e3 : (E == 3) = false := by simpa using ER.out
      obtain ⟨y0, y1, y2⟩ := viaCells ((hr1.keep n4 hg1))
      have hg4 : g1 < w4.heap.size := Nat.lt_of_lt_of_le hg1 n4.size
      clear PC x0 x1 x2 hb4 hnx hr1 ER
      by_cases he : E = 0
      · subst he
        rw [if_pos rfl] at HS
        obtain ⟨hta, hat⟩ := HAT.out _ (if_pos rfl)
        obtain ⟨g2, o2, rfl, hg2, hr2⟩ := A2.out t hta
        rw [hat] at hr2
        obtain ⟨z0, z1, z2⟩ := viaCells (hr2.keep n4 hg2)
        have htq : t < q := by rw [← HQ.out]; exact hta
        have htq' : (t : Int) < (q : Int) := by omega
        have htn : ¬ (q : Int) ≤ (t : Int) := by omega
        have TV2 : Hid ((drT Z (j + 1)).length = t + 1) := Lib.hid (by rw [HS.out, List.length_append, TV.out]; rfl)
        simp only at z0 z1 z2
        clear HS HAT hta hat hr2 TV
        have hd : decide ((q : Int) ≤ (t : Int)) = false := decide_eq_false htn
        go_wp2_with fail
        go_quiet ((fail))
        go_wp2_with fail
        exact ⟨⟨j + 1, t + 1, by go_num, by go_num, by omega, by omega, below_drewV n4 _, TV2⟩, by simp [intOf]; omega⟩
      · rw [if_neg he] at HS
        have heb : (E == 0) = false := by simpa using he
        have heb2 : (E != 0) = true := by simp [bne, heb]
        have TV2 : Hid ((drT Z (j + 1)).length = t) := Lib.hid (by rw [HS.out]; simpa using TV.out)
        clear HS HAT he TV
        go_wp2_with fail
        go_roundw
        case rel => exact ⟨j + 1, t, by go_num, rfl, by omega, ht, n4, TV2⟩
        case measure => simp [intOf]; omega
    · obtain rfl : m = j := by omega
      have b4 := thenBelow b3 hnx
      have htq : t = q := by
        have h1 := TV.out
        unfold drT at h1
        rw [show Z.take m = Z by rw [← HM.out]; exact List.take_length, ← AD.out, HQ.out] at h1
        exact h1.symm
      subst htq
      clear A1 A2 TV
      go_wp2_with fail
      go_ret
      exact ⟨by simp, b4⟩
theorem VAll.own : ownKnob Try.prog.godebug = none := by kernel_rfl
set_option maxRecDepth 100000 in
theorem VAll.lifted (os : Os) (started : os.Started) (H : Type) (enc : TypeId × Value → H) :
    ReturnsInHanded {} Try.checked os 8 .any (Rows.viaAllSpec.pre6 enc Try.prog Try.f8 Rows.viaAllRow.domain false) (Rows.viaAllSpec.post enc Try.prog Try.f8 false true false false) := by
  refine returnsInHanded_of_change (C := Try.checked) VAll.own started (by kernel_rfl) Try.func8
    (ChangeSpec.witness6 (enc := enc) (C := Try.checked) false ⟨#[], #[.slice none 0 0, .int .i64 0], []⟩ 8 (by kernel_rfl) (by kernel_rfl) (by kernel_rfl) (by kernel_rfl)) ?_
  intro W base args ds gs before hval0 hW hcnd _
  have hval : ∀ (j : Nat) t v, Try.f8.params[j]? = some t → args[j]? = some v → Value.okWide Try.prog W .any base t v := hval0
  have hW' := hW
  obtain ⟨p, q, hA0, hV, rfl, hfz, hnd⟩ := hW
  have hA : DataW.TrodAll enc Try.prog W 0 (fun _ => true) true Try.f8.params.toList args.toList ds p := hA0
  rw [Try.params8] at hA hval
  obtain ⟨v0, vs0, d0, ds0, p0, q0, hargs, rfl, rfl, rd0, r0⟩ := trodAll_cons hA
  obtain ⟨v1, vs1, d1, ds1, p1, q1, rfl, rfl, rfl, rd1, r1⟩ := trodAll_cons r0
  obtain ⟨rfl, rfl, rfl⟩ := trodAll_nil r1
  obtain rfl : args = #[v0, v1] := by cases args; simp_all
  obtain ⟨rfl, rfl⟩ := trodVars_none hV
  obtain ⟨l0, row0, wrd0, len0⟩ := openIntsN (hval 0 41 v0 rfl rfl) rd0
  obtain ⟨a1, rfl, rfl, rfl, wa1⟩ := open_int Try.underlying3 (hval 1 3 v1 rfl rfl) rd1
  clear hA0 hval0
  refine (VAll.walk v0 l0 a1 wrd0 len0 (i64_of_wf wa1).1 (i64_of_wf wa1).2 W row0).mono fun e W' ⟨he, hb⟩ => ?_
  subst he
  exact ⟨_, rfl, postBelowR (pv := []) hW' hb (fun _ _ _ => trodAll_cons_mk (shut_bool Try.underlying4 _) trodAll_mk0) (trodAll_cons_mk (Below.trod laidOutR (by kernel_rfl) (of_decide_eq_true (by kernel_rfl)) rd0 hb (fun x hx => hW'.lt x (by simp [hx]))) (trodAll_cons_mk (Below.trod laidOutR (by kernel_rfl) (of_decide_eq_true (by kernel_rfl)) rd1 hb (fun x hx => by cases hx)) trodAll_mk0)) (fun _ _ => rfl) rfl⟩

theorem VAll.holds : Rows.ViaAllSaid :=
  OpenClaim.holds_of_wide 8 Try.f8 rfl rfl rfl rfl rfl rfl rfl ⟨rfl, rfl, rfl, rfl, rfl⟩ rfl rfl rfl rfl rfl (by kernel_rfl) Try.func8 (by kernel_rfl)
    (of_decide_eq_true (by kernel_rfl)) (by unfold Func.isWrapper; first | (rw [if_pos (by decide +kernel)]; kernel_rfl) | (rw [if_neg (by decide +kernel)]; exact ⟨rfl, rfl⟩))
    (fun os started H enc _ => VAll.lifted os started H enc)
#print axioms VAll.holds
end Go.Proofs.Ytgajepmnklbmpaa
