/-
  The laws' Vias and portOf.
-/
import Derived.Test.YtgajepmnklbmpaaVKeepM
import Derived.Test.YtgajepmnklbmpaaViaE
import Derived.Test.YtgajepmnklbmpaaPicked
namespace Go.Proofs.Ytgajepmnklbmpaa
open Go.RowKit
set_option linter.unusedVariables false
set_option linter.unusedSimpArgs false
theorem one_port : viaE [((1, 5, 0) : VT)] = 0 ∧ vport [((1, 5, 0) : VT)] 1 = (5, 0, 0) := by decide
theorem newV (W : World) (v : VT) : RowV (W.alloc (objV v)) (.slice (some ⟨W.heap.size, 0, none⟩) 1 1) [v] :=
  .inr ⟨W.heap.size, 0, 1, rfl, by simp, Nat.le_refl _, fun i hi j u hj => by
    have hi0 : i = 0 := by simp at hi; omega
    subst hi0
    have := objV_new W v j u hj
    simp only [Nat.zero_mul, Nat.add_zero] at this ⊢
    exact this⟩
set_option maxHeartbeats 4000000 in
set_option maxRecDepth 100000 in
theorem portOf_calls (l : List VT) (v : Value) (hop : Int) (hlen : l.length ≤ 1000) (h1 : -9223372036854775808 ≤ hop) (h2 : hop ≤ 9223372036854775807) (w : World) (row : RowV w v l) :
    Calls Try.prog 22 #[v, .int .i64 hop] w fun e w' => e = .returned (.tuple #[.int .i64 (vportE l hop).1, .int .i64 (vportE l hop).2.1, .int .i64 (vportE l hop).2.2]) ∧ Below w.heap.size w w' := by
  obtain ⟨i0, hii, hz0, hz1, hz2⟩ := info_parts info_via
  have R0 := Lib.hid row
  have hby : l.length * 24 ≤ 140737488355328 := by omega
  have h63 : l.length ≤ maxLen := by unfold maxLen; omega
  have PC := Lib.hid (fun (u : Value) (W : World) (r : RowV W u l) => viaPort_ok l u hop (by omega) h1 h2 W r)
  have PO := Lib.hid (fun (u : Value) (W : World) (r : RowV W u [((1, 5, 0) : VT)]) => by
    have := viaPort_ok [((1, 5, 0) : VT)] u 1 (by decide) (by decide) (by decide) W r
    rw [vport_eq one_port.1, one_port.2] at this
    exact this)
  generalize vportE l hop = R at PC ⊢
  obtain ⟨p, c, rfl⟩ := row.form
  clear row
  go_enter Try.func22, Try.ntmps22
  go_wp2_with (at_builtin; refine wpList_append_copy rfl _ _ _ rfl 27 i0 _ 24 Try.underlying22 hii hz0 hz1 hz2 rfl (by decide) vcs_len vcs_one rfl _ _ rfl R0.out hby h63 ?_; intro u2 w2 o2 hb2)
  have R2 := Lib.hid (OwnV.row (show OwnV w2 w.heap.size u2 l from o2))
  obtain ⟨p2, c2, rfl⟩ := R2.out.form
  clear o2 R0
  go_wp2_with fail
  refine (PC.out _ _ R2.out).mono ?_
  rintro e w3 ⟨rfl, hb3⟩
  have b3 := thenBelow hb2 hb3
  have RN := Lib.hid (newV w3 (1, 5, 0))
  have b4 := b3.alloc b3.size (objV (1, 5, 0))
  clear PC R2 hb3 hb2
  go_wp2_with fail
  refine (PO.out _ _ RN.out).mono ?_
  rintro e w5 ⟨rfl, hb5⟩
  have b5 := thenBelow b4 hb5
  go_wp2
  go_ret3
  exact ⟨by simp, b5⟩
theorem objV_owns (W : World) (v : VT) (j : Nat) (u : Value) (h : (vcs v)[j]? = some u) : (W.alloc (objV v)).cell? ⟨W.heap.size, j, none⟩ = some u := by
  have := objV_new W v j u h
  simpa using this
theorem wr3 (z : Int) (h1 : -9223372036854775808 ≤ z) (h2 : z ≤ 9223372036854775807) : -9223372036854775808 ≤ z.tdiv 3 ∧ z.tdiv 3 ≤ 9223372036854775807 ∧ IntKind.i64.wrap (z.tdiv 3) = z.tdiv 3 := by
  have h : -9223372036854775808 ≤ z.tdiv 3 ∧ z.tdiv 3 ≤ 9223372036854775807 := by
    by_cases h : 0 ≤ z
    · rw [Int.tdiv_eq_ediv_of_nonneg h]; omega
    · have e : z.tdiv 3 = -((-z).tdiv 3) := by rw [Int.neg_tdiv, Int.neg_neg]
      rw [e, Int.tdiv_eq_ediv_of_nonneg (by omega)]; omega
  refine ⟨h.1, h.2, ?_⟩
  rw [IntKind.wrap_i64]; omega
set_option maxHeartbeats 8000000 in
set_option maxRecDepth 100000 in
theorem vias_calls (l : List Int) (v : Value) (n : Int) (hlen : l.length ≤ 9223372036854775807) (hw : ∀ z ∈ l, -9223372036854775808 ≤ z ∧ z ≤ 9223372036854775807) (n1 : -9223372036854775808 ≤ n) (n2 : n ≤ 9223372036854775807) (w : World) (row : RowN w v l) :
    Calls Try.prog 21 #[v, .int .i64 n] w fun e w' => ∃ u, e = .returned u ∧ OwnV w' w.heap.size u (viasZ l n) ∧ Below w.heap.size w w' := by
  obtain ⟨i0, hii, hz0, hz1, hz2⟩ := info_parts info_via
  obtain ⟨p, c, rfl, _, at_⟩ := row.at
  have AT := Lib.hid at_
  have HW := Lib.hid hw
  have PN := Lib.hid (fun W => picked_calls n 20 (by decide) (by decide) n1 n2 W)
  have hk := kV_le n
  have hkn : 1 + n % 20 = (kV n : Int) := by
    unfold kV
    have := Int.emod_nonneg n (show (20 : Int) ≠ 0 by decide)
    omega
  unfold viasZ
  obtain ⟨k, hkk⟩ : ∃ k, kV n = k := ⟨_, rfl⟩
  rw [hkk] at hk hkn ⊢
  have hwk : IntKind.i64.wrap (1 + n % 20) = (k : Int) := by rw [hkn, IntKind.wrap_i64]; omega
  obtain ⟨m, hm⟩ : ∃ m, l.length = m := ⟨_, rfl⟩
  have HM := Lib.hid hm
  rw [hm] at hlen ⊢
  clear row at_ hw hkk hm hkn
  go_enter Try.func21, Try.ntmps21
  go_wp2_with fail
  refine (PN.out _).mono ?_
  rintro e w1 ⟨rfl, rfl⟩
  clear PN
  go_wp2_with fail
  go_loopw [5, 7] (fun u i wr => ∃ (j : Nat), i = .int .i64 j ∧ j ≤ k ∧ j ≤ m ∧ Below w.heap.size w wr ∧ Hid (OwnV wr w.heap.size u (viasN k l j))) (fun _ i _ => k - (intOf i).toNat)
  case atStart => exact ⟨0, rfl, by omega, by omega, Below.refl _ _, Lib.hid (World.ownsRow_nil _ _ _ _)⟩
  case round =>
    obtain ⟨j, rfl, hj, hjm, hnx, OW⟩ := hrel
    by_cases hlt : j < k
    · have hjk : (j : Int) < (k : Int) := by omega
      by_cases hlt2 : j < m
      · have hjm' : (j : Int) < (m : Int) := by omega
        have hjl : j < l.length := by rw [HM.out]; exact hlt2
        obtain ⟨g, o, rfl, hg, hrec⟩ := AT.out j hjl
        have x0 := intCell (hrec.keep hnx hg)
        have hgr := Nat.lt_of_lt_of_le hg hnx.size
        have hne : ¬ g = wr.heap.size := by omega
        have HS := Lib.hid (viasN_succ (k := k) hjl)
        have hzb := HW.out _ (List.getElem_mem hjl)
        generalize l[j] = z at x0 HS hzb
        obtain ⟨d1, d2, d3⟩ := wr3 z hzb.1 hzb.2
        have P1 := Lib.hid (fun W => picked_calls (z.tdiv 3) 30 (by decide) (by decide) d1 d2 W)
        have P2 := Lib.hid (fun W => picked_calls z 3 (by decide) (by decide) hzb.1 hzb.2 W)
        have P3 := Lib.hid (fun W => picked_calls (z.tdiv 3) ((k : Int) + 2) (by omega) (by omega) d1 d2 W)
        have hwj : IntKind.i64.wrap ((j : Int) + 1) = (j : Int) + 1 := by rw [IntKind.wrap_i64]; omega
        have hwk2 : IntKind.i64.wrap ((k : Int) + 2) = (k : Int) + 2 := by rw [IntKind.wrap_i64]; omega
        have e1 := Int.emod_nonneg (z.tdiv 3) (show (30 : Int) ≠ 0 by decide)
        have e2 := Int.emod_lt_of_pos (z.tdiv 3) (show (0 : Int) < 30 by decide)
        have e3 := Int.emod_nonneg (z.tdiv 3) (show ((k : Int) + 2) ≠ 0 by omega)
        have e4 := Int.emod_lt_of_pos (z.tdiv 3) (show (0 : Int) < (k : Int) + 2 by omega)
        obtain ⟨Q1, hQ1⟩ : ∃ q, 1 + z.tdiv 3 % 30 = q := ⟨_, rfl⟩
        obtain ⟨Q2, hQ2⟩ : ∃ q, 1 + z.tdiv 3 % ((k : Int) + 2) = q := ⟨_, rfl⟩
        have hw1 : IntKind.i64.wrap (1 + z.tdiv 3 % 30) = Q1 := by rw [IntKind.wrap_i64]; omega
        have hw2 : IntKind.i64.wrap (1 + z.tdiv 3 % ((k : Int) + 2)) = Q2 := by rw [IntKind.wrap_i64]; omega
        have HV := Lib.hid (show viaZ k j z = if 0 < z % 3 then ((j : Int) + 1, 0, Q2) else ((j : Int) + 1, Q1, 0) by rw [← hQ1, ← hQ2]; rfl)
        have hL : (viasN k l j).length ≤ 100000 := by rw [viasN_len]; omega
        generalize viasN k l j = S at OW HS hL
        clear hrec hzb d1 d2 e1 e2 e3 e4 hQ1 hQ2
        go_wp2_with fail
        refine (P1.out _).mono ?_
        rintro e w2 ⟨rfl, rfl⟩
        clear P1
        go_wp2_with fail
        refine (P2.out _).mono ?_
        rintro e w2 ⟨rfl, rfl⟩
        clear P2
        by_cases hz3 : 0 < z % 3
        · rw [if_pos hz3] at HV
          have O3 := Lib.hid ((OW.out.alloc (objV (((j : Int) + 1, 0, Q2) : VT))).alloc (objV (((j : Int) + 1, 0, Q2) : VT)))
          have hnw := Lib.hid (cell_new (wr.alloc (objV (((j : Int) + 1, 0, Q2) : VT))) (vcs (((j : Int) + 1, 0, Q2) : VT)) 27)
          simp only [World.size_alloc] at hnw
          have hn2 := (hnx.alloc hnx.size (objV (((j : Int) + 1, 0, Q2) : VT))).alloc (Nat.le_trans hnx.size (by simp)) (objV (((j : Int) + 1, 0, Q2) : VT))
          have hw8 := hn2.size
          clear OW
          go_wp2_with fail
          refine (P3.out _).mono ?_
          rintro e w2 ⟨rfl, rfl⟩
          clear P3
          go_wp2_with (at_builtin; refine wpList_append_one rfl _ _ 22 rfl w.heap.size 27 i0 _ 24 Try.underlying22 hii hz0 hz1 hz2 rfl (by decide) vcs_len vcs_one S ⟨_, rfl, O3.out⟩ (((j : Int) + 1, 0, Q2) : VT) (wr.heap.size + 1) 1 rfl hnw.out hL (by decide) hw8 ?_; intro v7 w7 ho7 hg7 hb7)
          have OW2 : Hid (OwnV w7 w.heap.size v7 (viasN k l (j + 1))) := Lib.hid (by rw [HS.out, HV.out]; exact ho7)
          have hn3 := hn2.trans hb7
          clear HS HV ho7 hg7 O3 hnw
          go_roundw
          case rel => exact ⟨j + 1, by go_num, by omega, by omega, hn3, OW2⟩
          case measure => simp [intOf]; omega
        · rw [if_neg hz3] at HV
          have O3 := Lib.hid ((OW.out.alloc (objV (((j : Int) + 1, Q1, 0) : VT))).alloc (objV (((j : Int) + 1, Q1, 0) : VT)))
          have hnw := Lib.hid (cell_new (wr.alloc (objV (((j : Int) + 1, Q1, 0) : VT))) (vcs (((j : Int) + 1, Q1, 0) : VT)) 27)
          simp only [World.size_alloc] at hnw
          have hn2 := (hnx.alloc hnx.size (objV (((j : Int) + 1, Q1, 0) : VT))).alloc (Nat.le_trans hnx.size (by simp)) (objV (((j : Int) + 1, Q1, 0) : VT))
          have hw8 := hn2.size
          clear OW
          go_wp2_with (at_builtin; refine wpList_append_one rfl _ _ 22 rfl w.heap.size 27 i0 _ 24 Try.underlying22 hii hz0 hz1 hz2 rfl (by decide) vcs_len vcs_one S ⟨_, rfl, O3.out⟩ (((j : Int) + 1, Q1, 0) : VT) (wr.heap.size + 1) 1 rfl hnw.out hL (by decide) hw8 ?_; intro v7 w7 ho7 hg7 hb7)
          have OW2 : Hid (OwnV w7 w.heap.size v7 (viasN k l (j + 1))) := Lib.hid (by rw [HS.out, HV.out]; exact ho7)
          have hn3 := hn2.trans hb7
          clear HS HV ho7 hg7 O3 hnw
          go_roundw
          case rel => exact ⟨j + 1, by go_num, by omega, by omega, hn3, OW2⟩
          case measure => simp [intOf]; omega
      · obtain rfl : m = j := by omega
        have hm2 : min k m = m := by omega
        clear AT
        go_wp2_with fail
        go_ret
        exact ⟨_, rfl, by rw [hm2]; exact OW.out, hnx⟩
    · obtain rfl : k = j := by omega
      have hm2 : min k m = k := by omega
      clear AT
      go_wp2_with fail
      go_ret
      exact ⟨_, rfl, by rw [hm2]; exact OW.out, hnx⟩
end Go.Proofs.Ytgajepmnklbmpaa
