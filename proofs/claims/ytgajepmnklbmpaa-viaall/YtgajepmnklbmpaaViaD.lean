/-
  via.follow, via.Port.
-/
import Derived.Test.YtgajepmnklbmpaaViaC
namespace Go.Proofs.Ytgajepmnklbmpaa
open Go.RowKit Go.Maps
set_option linter.unusedVariables false
set_option linter.unusedSimpArgs false
theorem vfind_not {l : List VT} {h : Int} (hh : hasV l h = false) : vfind l h = none := by
  rw [← Option.isNone_iff_eq_none]
  have := vfind_has l h
  rw [hh] at this
  simpa using this
theorem vget_mem {l : List VT} {h : Int} (hh : hasV l h = true) : vget l h ∈ l ∧ vfind l h = some (vget l h) := by
  have := vfind_has l h
  rw [hh, Option.isSome_iff_exists] at this
  obtain ⟨v, hv⟩ := this
  unfold vget
  rw [hv]
  exact ⟨(vfind_some hv).1, rfl⟩
theorem vp_none {l : List VT} {m : Nat} {h : Int} {s : List Int} (hh : hasV l h = false) : vp l m h s = (0, 0, 7) := by
  cases m <;> rw [vp, vfind_not hh] <;> rfl
theorem vp_loop {l : List VT} {m : Nat} {h : Int} {s : List Int} (hh : hasV l h = true) (hs : h ∈ s) : vp l m h s = (0, 0, 10) := by
  cases m <;> rw [vp, (vget_mem hh).2] <;> exact if_pos hs
theorem vp_full {l : List VT} {m : Nat} {h : Int} {s : List Int} (hh : hasV l h = true) (hs : h ∉ s) (h8 : 8 < s.length) : vp l m h s = (0, 0, 9) := by
  cases m <;> rw [vp, (vget_mem hh).2] <;> exact (if_neg hs).trans (if_pos h8)
theorem vp_port {l : List VT} {m : Nat} {h : Int} {s : List Int} (hh : hasV l h = true) (hs : h ∉ s) (h8 : ¬ 8 < s.length) (hp : 0 < (vget l h).2.1) : vp l m h s = ((vget l h).2.1, (s.length : Int), 0) := by
  cases m <;> rw [vp, (vget_mem hh).2] <;> exact (if_neg hs).trans ((if_neg h8).trans (if_pos hp))
theorem vp_next {l : List VT} {m : Nat} {h : Int} {s : List Int} (hh : hasV l h = true) (hs : h ∉ s) (h8 : ¬ 8 < s.length) (hp : ¬ 0 < (vget l h).2.1) : vp l (m + 1) h s = vp l m (vget l h).2.2 (s ++ [h]) := by
  rw [vp, (vget_mem hh).2]
  exact (if_neg hs).trans ((if_neg h8).trans (if_neg hp))
set_option maxHeartbeats 8000000 in
set_option maxRecDepth 100000 in
theorem follow_calls (l : List VT) (b : Nat) (hop : Int) (hv : ∀ v ∈ l, vfE v = 0) (h1 : -9223372036854775808 ≤ hop) (h2 : hop ≤ 9223372036854775807) (w : World) (mv : MV w b l) :
    Calls Try.prog 27 #[.map (some b), .int .i64 hop] w fun e w' => e = .returned (.tuple #[.int .i64 (vport l hop).1, .int .i64 (vport l hop).2.1, .int .i64 (vport l hop).2.2]) ∧ Below w.heap.size w w' := by
  have HV := Lib.hid hv
  have MM := Lib.hid mv
  have hmm := @run_makeMap Try.prog
  have M0 := Lib.hid (MB.made w)
  have b0 := (Below.refl w.heap.size w).alloc (Nat.le_refl _) (.map #[] 0)
  have H0 := Lib.hid (And.intro h1 h2)
  obtain ⟨R, hR⟩ : ∃ R, vport l hop = R := ⟨_, rfl⟩
  have HR := Lib.hid hR
  rw [hR]
  clear hR hv mv h1 h2
  obtain ⟨bm, hbm⟩ : ∃ b, w.heap.size = b := ⟨_, rfl⟩
  have HBM := Lib.hid hbm
  rw [hbm] at M0
  go_enter Try.func27, Try.ntmps27
  go_wp2_with fail
  clear hbm hmm
  go_loopw [1, 5] (fun i d wr => ∃ (h : Int) (s : List Int) (m : Nat) (q : Nat), i = .int .i64 h ∧ d = .int .i64 q ∧ q ≤ 9 ∧ Below w.heap.size w wr ∧ Hid (MB wr bm s) ∧ Hid (vp l m h s = R ∧ 9 ≤ m + s.length ∧ s.length = q ∧ -9223372036854775808 ≤ h ∧ h ≤ 9223372036854775807)) (fun _ d _ => 20 - (intOf d).toNat)
  case atStart => exact ⟨hop, [], 9, 0, rfl, rfl, by omega, b0, M0, Lib.hid ⟨HR.out, by simp, rfl, H0.out.1, H0.out.2⟩⟩
  case round =>
    clear b0 M0
    obtain ⟨h, s, m, q, rfl, rfl, hq, hnx, MS, IV⟩ := hrel
    have MV1 := Lib.hid (MM.out.keep hnx)
    have hlook := MV1.out.look h IV.out.2.2.2.1 IV.out.2.2.2.2
    have hnA := hnx.alloc hnx.size (objV (vget l h))
    have MS2 := Lib.hid (MS.out.keep ((Below.refl _ wr).alloc (Nat.le_refl _) (objV (vget l h))))
    have hlook2 := MS2.out.look h IV.out.2.2.2.1 IV.out.2.2.2.2
    cases hh : hasV l h with
    | false =>
      have HE := Lib.hid (show R = (0, 0, 7) by rw [← IV.out.1, vp_none hh])
      rw [hh] at hlook
      clear hh IV hlook2
      go_wp2_with fail
      go_ret3
      exact ⟨by rw [HE.out]; rfl, hnA⟩
    | true =>
      rw [hh] at hlook
      have HM := Lib.hid (HV.out _ (vget_mem hh).1)
      by_cases hs : h ∈ s
      · have HE := Lib.hid (show R = (0, 0, 10) by rw [← IV.out.1, vp_loop hh hs])
        rw [decide_eq_true hs] at hlook2
        clear hh IV hs
        go_wp2_with fail
        go_ret3
        exact ⟨by rw [HE.out]; rfl, hnA⟩
      · rw [decide_eq_false hs] at hlook2
        by_cases h8 : 8 < q
        · have HE := Lib.hid (show R = (0, 0, 9) by rw [← IV.out.1, vp_full hh hs (by rw [IV.out.2.2.1]; exact h8)])
          have h8' : (8 : Int) < (q : Int) := by omega
          clear hh IV hs
          go_wp2_with fail
          go_ret3
          exact ⟨by rw [HE.out]; rfl, hnA⟩
        · have h8' : ¬ (8 : Int) < (q : Int) := by omega
          by_cases hp : 0 < (vget l h).2.1
          · have HE := Lib.hid (show R = ((vget l h).2.1, (q : Int), 0) by rw [← IV.out.1, vp_port hh hs (by rw [IV.out.2.2.1]; exact h8) hp, IV.out.2.2.1])
            obtain ⟨P, hP⟩ : ∃ P, vget l h = P := ⟨_, rfl⟩
            rw [hP] at hlook hlook2 HE hnA hp
            have hb1 : (P.2.1 == 0) = false := by
              have : ¬ P.2.1 = 0 := by omega
              simpa using this
            have hb2 : (P.2.1 != 0) = true := by simp [bne, hb1]
            clear hh IV hs hP hp HM MS MS2 MV1
            go_wp2_with fail
            go_ret3
            exact ⟨by rw [HE.out]; rfl, hnA⟩
          · have hvb := vfE_0 HM.out
            have h0 : (vget l h).2.1 = 0 := by omega
            obtain ⟨m', hm'⟩ : ∃ m', m = m' + 1 := ⟨m - 1, by have := IV.out.2.1; have := IV.out.2.2.1; omega⟩
            subst hm'
            have HE := Lib.hid (show vp l m' (vget l h).2.2 (s ++ [h]) = R ∧ 9 ≤ m' + (s ++ [h]).length ∧ (s ++ [h]).length = q + 1 ∧ -9223372036854775808 ≤ (vget l h).2.2 ∧ (vget l h).2.2 ≤ 9223372036854775807 by
              have a := IV.out.2.1
              have b := IV.out.2.2.1
              refine ⟨by rw [← IV.out.1, vp_next hh hs (by omega) hp], by rw [List.length_append]; simp; omega, by rw [List.length_append]; simp; omega, by omega, by omega⟩)
            obtain ⟨w4, hrun, M4, hg4⟩ := MS2.out.store h IV.out.2.2.2.1 IV.out.2.2.2.2 (by have := IV.out.2.2.1; omega)
            have hn4 : Below w.heap.size w w4 := hnA.grown hg4 hnA.size (fun j hj => by cases hj; rw [HBM.out]; exact Nat.le_refl _)
            have M5 := Lib.hid M4
            have X2 : Hid (w4.cell? ⟨wr.heap.size, 2, none⟩ = some (.int .i64 (vget l h).2.2)) := Lib.hid (hg4.cell (a := ⟨wr.heap.size, 2, none⟩) (by simp) (fun e => by
              injection e with e
              have := MS.out.lt
              simp only at e
              omega))
            obtain ⟨P, hP⟩ : ∃ P, vget l h = P := ⟨_, rfl⟩
            rw [hP] at hlook hlook2 HE hnA h0 X2 hrun
            have x2 := X2.out
            have hb1 : (P.2.1 == 0) = true := by rw [h0]; rfl
            have hb2 : (P.2.1 != 0) = false := by simp [bne, hb1]
            clear h0
            clear hh IV hs hP hp HM MS MS2 MV1 hvb X2 M4 hg4
            go_wp2_with fail
            go_roundw
            case rel => exact ⟨P.2.2, s ++ [h], m', q + 1, rfl, by go_num, by omega, hn4, M5, HE⟩
            case measure => simp [intOf]; omega
set_option maxHeartbeats 2000000 in
theorem viaPort_ok (l : List VT) (v : Value) (hop : Int) (hlen : l.length ≤ 9223372036854775807) (h1 : -9223372036854775808 ≤ hop) (h2 : hop ≤ 9223372036854775807) (w : World) (row : RowV w v l) :
    Calls Try.prog 13 #[v, .int .i64 hop] w fun e w' => e = .returned (.tuple #[.int .i64 (vportE l hop).1, .int .i64 (vportE l hop).2.1, .int .i64 (vportE l hop).2.2]) ∧ Below w.heap.size w w' := by
  have C := Lib.hid (byHop_calls l v hlen w row)
  obtain ⟨p, c, rfl⟩ := row.form
  clear row
  by_cases h0 : viaE l = 0
  · have HV := Lib.hid (viaE_0 h0).2.1
    rw [show vportE l hop = vport l hop by rw [vportE, if_pos h0]]
    have F := Lib.hid (fun (b : Nat) (W : World) (m : MV W b l) => follow_calls l b hop HV.out h1 h2 W m)
    rw [h0] at C
    generalize vport l hop = R at F ⊢
    clear h0
    go_enter Try.func13, Try.ntmps13
    go_wp2_with fail
    refine C.out.mono ?_
    rintro e w1 ⟨u, rfl, hu, _, hb1⟩
    obtain ⟨b, rfl, _, m1⟩ := hu (by first | rfl | trivial)
    have M1 := Lib.hid m1
    clear C hu m1
    go_wp2_with fail
    refine (F.out _ _ M1.out).mono ?_
    rintro e w2 ⟨rfl, hb2⟩
    have b2 := thenBelow hb1 hb2
    clear F M1 hb1 hb2
    go_wp2
    go_ret3
    exact ⟨by simp, b2⟩
  · rw [show vportE l hop = (0, 0, viaE l) by rw [vportE, if_neg h0]]
    generalize viaE l = t at C h0 ⊢
    have hz1 : (t == 0) = false := by simpa using h0
    have hz2 : (t != 0) = true := by simp [bne, hz1]
    clear h0
    go_enter Try.func13, Try.ntmps13
    go_wp2_with fail
    refine C.out.mono ?_
    rintro e w1 ⟨u, rfl, _, _, hb1⟩
    clear C
    go_wp2
    go_ret3
    exact ⟨by simp, hb1⟩
end Go.Proofs.Ytgajepmnklbmpaa
