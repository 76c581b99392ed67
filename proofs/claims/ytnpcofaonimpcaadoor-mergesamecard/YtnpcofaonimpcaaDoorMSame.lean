/-
  whipcordkeep.MergeSame: what is merged has the same addresses; merged again it is itself, in whatever order, and however often.
-/
import Derived.Test.YtnpcofaonimpcaaDoorSAlg
namespace Go.Proofs.YtnpcofaonimpcaaDoor
open Go.RowKit
set_option linter.unusedVariables false
set_option linter.unusedSimpArgs false

theorem tS_sub {O A : List PT} (hA : Four A) (hO : ∀ q ∈ O, q ∈ A) {a : Nat} (h : tS O a) : tS A a := by
  have fO : Four O := ⟨fun p hp => hA.1 p (hO p hp), fun p hp => hA.2 p (hO p hp)⟩
  obtain ⟨p, hp, hi⟩ := (tS_mem fO a).1 h
  exact (tS_mem hA a).2 ⟨p, hO p hp, hi⟩
open Classical in
theorem ms_math (A : List PT) (hA : Made 30 A) (a : Nat) (ha : inB 0 (wideN false) a) : ∃ (X : List PT) (bx : Bool),
    X.length ≤ A.length ∧ MergeTo A X ∧ MergeTo X X ∧ (∀ O : List PT, (∀ q ∈ O, q ∈ A) → O.length ≤ 30 → MergeTo (O ++ A) X) ∧ NeatC false X ∧ Four A ∧ Four X ∧ (bx = true ↔ tS A a) ∧ (bx = true ↔ tS X a) := by
  have fA : Four A := ⟨hA.1, hA.2.1⟩
  have nA := hA.2.2
  have nX : (cn false (tS A) (wideN false) 0).length ≤ A.length := by
    unfold cn
    rw [List.length_map]
    have := canon_merge_len (fb_four_al fA) (AL.top false)
    have e := fb_len false A
    have e2 : canon (tS A) (wideN false) 0 = canon (inS (fb false A)) (wideN false) 0 := rfl
    rw [e2]; omega
  refine ⟨cn false (tS A) (wideN false) 0, decide (tS A a), nX, mergeTo fA (by omega) fun a _ => Iff.rfl, mergeTo Four.cn (by omega) fun a ha => by rw [tS_cn]; exact ⟨fun h => h.2, fun h => ⟨ha, h⟩⟩, fun O hO nO => ?_, neat_cn.told, fA, Four.cn, decide_eq_true_iff, ?_⟩
  · have fO : Four O := ⟨fun p hp => fA.1 p (hO p hp), fun p hp => fA.2 p (hO p hp)⟩
    refine mergeTo (fO.app fA) (by rw [List.length_append]; omega) fun a ha => ?_
    rw [tS_app]
    exact ⟨fun h => h.elim (tS_sub fA hO) id, .inr⟩
  · rw [tS_cn, decide_eq_true_iff]
    exact ⟨fun h => ⟨ha, h⟩, fun h => h.2⟩
set_option maxHeartbeats 16000000 in
set_option maxRecDepth 100000 in
theorem MergeSame.walk (v0 : Value) (l0 : List Int) (n turn : Int) (ok0 : IntsOK l0) (n0 : l0.length ≤ 9223372036854775807) (nn0 : -9223372036854775808 ≤ n) (nn1 : n ≤ 9223372036854775807) (t0 : -9223372036854775808 ≤ turn) (t1 : turn ≤ 9223372036854775807) (w : World) (row0 : RowI w v0 l0) (hT : FamAt w) :
    Calls Tryd.prog 4 #[v0, .int .i64 n, .int .i64 turn] w fun e w' => e = .returned (.bool true) ∧ Below w.heap.size w w' := by
  obtain ⟨i0, hii, hz0, hz1, hz2⟩ := info_parts info_pre
  obtain ⟨a, haa, ha32⟩ : ∃ a : Nat, (a : Int) = 167772152 + n % 540 ∧ a < 2 ^ wideN false := ⟨(167772152 + n % 540).toNat, by omega, by show _ < 4294967296; omega⟩
  have hin : inB 0 (wideN false) a := ⟨Nat.zero_le _, by rw [Nat.zero_add]; exact ha32⟩
  have NR := Lib.hid (fun W : World => near_calls n nn0 nn1 a haa W)
  have FM := Lib.hid hT
  have I0 := Lib.hid row0
  have PR0 := Lib.hid (fun (W : World) h => pres_calls l0 ok0 30 (by decide) v0 W h)
  have b0 := Below.refl w.heap.size w
  clear hT row0 ok0 n0 nn0 nn1 haa
  go_enter Tryd.func4, Tryd.ntmps4
  go_wp2_with fail
  refine (PR0.out _ I0.out).mono ?_
  rintro e w1 ⟨A, mA, vA, rfl, o1, hb1⟩
  have b1 := thenBelow b0 hb1
  have FM := Lib.hid (FM.out.keep hb1)
  clear I0
  have HA : Hid (Has w1 vA A) := Lib.hid ⟨_, o1⟩
  clear o1 hb1 b0 PR0
  obtain ⟨X, bx, nXA, KX, KY, KM, NX, fA, fX, hbi, hbx⟩ := ms_math A mA a hin
  have KX := Lib.hid KX
  have KY := Lib.hid KY
  have KM := Lib.hid KM
  have nA30 : A.length ≤ 30 := mA.2.2
  have nA : A.length ≤ 1000000000 := by omega
  have nX : X.length ≤ 1000000000 := by omega
  have YA := Lib.hid (fun (v : Value) (W : World) h => anyHas_calls A fA nA a ha32 bx hbi v W h)
  have YX := Lib.hid (fun (v : Value) (W : World) h => anyHas_calls X fX nX a ha32 bx hbx v W h)
  have PX := Lib.hid (fun (v : Value) (W : World) h => plain_calls false X NX nX v W h)
  clear mA fA fX hbi hbx NX ha32 hin
  go_wp2_with fail
  refine (copied' A _ nA _ HA.out).mono ?_
  rintro e w2 ⟨vt1, rfl, o2, hb2⟩
  have b2 := thenBelow b1 hb2
  have FM := Lib.hid (FM.out.keep hb2)
  have HA := Lib.hid (HA.out.keep hb2)
  have Ht1 : Hid (Has w2 vt1 A) := Lib.hid ⟨_, o2⟩
  clear o2
  clear hb2 b1
  go_wp2_with fail
  refine (KX.out _ _ Ht1.out.row FM.out).mono ?_
  rintro e w3 ⟨vx, rfl, o3, hb3⟩
  have b3 := thenBelow b2 hb3
  have FM := Lib.hid (FM.out.keep hb3)
  have HA := Lib.hid (HA.out.keep hb3)
  clear Ht1
  have Hx : Hid (Has w3 vx X) := Lib.hid ⟨_, o3⟩
  clear o3
  clear hb3 b2
  obtain ⟨px, kx, rfl⟩ := Hx.out.row.form
  go_wp2_with fail
  refine (copied' X _ nX _ Hx.out).mono ?_
  rintro e w4 ⟨vt2, rfl, o4, hb4⟩
  have b4 := thenBelow b3 hb4
  have FM := Lib.hid (FM.out.keep hb4)
  have HA := Lib.hid (HA.out.keep hb4)
  have Hx := Lib.hid (Hx.out.keep hb4)
  have Ht2 : Hid (Has w4 vt2 X) := Lib.hid ⟨_, o4⟩
  clear o4
  clear hb4 b3
  go_wp2_with fail
  refine (KY.out _ _ Ht2.out.row FM.out).mono ?_
  rintro e w5 ⟨vy, rfl, o5, hb5⟩
  have b5 := thenBelow b4 hb5
  have FM := Lib.hid (FM.out.keep hb5)
  have HA := Lib.hid (HA.out.keep hb5)
  have Hx := Lib.hid (Hx.out.keep hb5)
  clear Ht2
  have Hy : Hid (Has w5 vy X) := Lib.hid ⟨_, o5⟩
  clear o5
  clear hb5 b4
  obtain ⟨pA, kA, rfl, hcA⟩ := HA.out.row.at
  have HCA := Lib.hid hcA
  clear hcA
  go_wp2_with fail
  go_loopw [12, 13] (fun u i wr => ∃ (k : Nat) (O : List PT), k ≤ A.length ∧ i = .int .i64 k ∧ O.length = k ∧ Owned wr w5.heap.size u O ∧ Below w5.heap.size w5 wr ∧ Hid (∀ q ∈ O, q ∈ A)) (fun _ i _ => A.length - (intOf i).toNat)
  case atStart => exact ⟨0, [], Nat.zero_le _, rfl, rfl, owned_nil _ _, Below.refl _ _, Lib.hid (fun q hq => by cases hq)⟩
  case round =>
    obtain ⟨k, O, hk, rfl, hOl, hown, hnx, hsub⟩ := hrel
    have hsz := hnx.size
    by_cases hlt : k < A.length
    · have hpos : (0 : Int) < (A.length : Int) := by omega
      have k0 : 0 ≤ turn % (A.length : Int) := Int.emod_nonneg _ (by omega)
      have k1 : turn % (A.length : Int) < (A.length : Int) := Int.emod_lt_of_pos _ hpos
      have PK : Hid (∀ W : World, Calls Tryd.prog 8 #[.int .i64 turn, .int .i64 (A.length : Int)] W fun e w' => e = .returned (.int .i64 (turn % (A.length : Int))) ∧ W = w') := Lib.hid fun W => picked_calls turn (A.length : Int) hpos (by omega) t0 t1 W
      obtain ⟨T, hT⟩ : ∃ T : Nat, turn % (A.length : Int) = T := ⟨(turn % (A.length : Int)).toNat, by omega⟩
      rw [hT] at PK k1
      clear k0 hT
      obtain ⟨R, hR, hRl⟩ : ∃ R : Nat, ((k : Int) + (T : Int)).tmod (A.length : Int) = R ∧ R < A.length := ⟨(k + T) % A.length, by rw [Int.tmod_eq_emod_of_nonneg (by omega)]; simp, Nat.mod_lt _ (by omega)⟩
      obtain ⟨g, ofs, rfl, hg, hP⟩ := HCA.out R hRl
      have hP := hP.keep hg hnx
      obtain ⟨x0, x1, x2, x3⟩ := hP
      have hmem : Hid (∀ q ∈ O ++ [A[R]], q ∈ A) := Lib.hid fun q hq => (List.mem_append.1 hq).elim (hsub.out q) fun h => by rw [List.mem_singleton] at h; rw [h]; exact List.getElem_mem hRl
      generalize A[R] = e at x0 x1 x2 x3 hmem
      obtain ⟨es, ex, en⟩ := e
      simp only at x0 x1 x2 x3
      have hr1 : ¬ (R : Int) < 0 := by omega
      have hr2 : (R : Int) < (A.length : Int) := by omega
      have hl0 : ((A.length : Int) == 0) = false := by rw [beq_eq_false_iff_ne]; omega
      have hl1 : ¬ (A.length : Int) = 0 := by omega
      have hkT : (k : Int) + (T : Int) ≤ 100 := by omega
      have hkT0 : (0 : Int) ≤ (k : Int) + (T : Int) := by omega
      clear hsub
      go_wp2_with fail
      refine (PK.out _).mono ?_
      rintro e w' ⟨rfl, rfl⟩
      go_wp2_with (first
        | (at_builtin; refine wpList_append_own _ rfl _ _ 32 rfl w5.heap.size 40 i0 _ 4 32 Tryd.underlying32 hii hz0 hz1 hz2 rfl (by decide) _ _ _ rfl (hown.alloc _) ⟨wr.heap.size, 0, none⟩ 1 1 [.bool es, .int .u64 (aH ex), .int .u64 (aL ex), .int .i64 en] rfl rfl ?c1 ?c2 ?c3 ?c4 ?c5 ?_))
      case c1 => exact World.news_of_block (heap_alloc_new wr _)
      case c2 => exact pRow_one [(es, ex, en)]
      case c3 => unfold maxLen; omega
      case c4 => omega
      case c5 => simp; omega
      intro v' w4 hown' hgrow _
      have hb4 := below_app hnx (Nat.le_refl _) (Nat.le_refl _) hown hgrow
      have hown4 : Owned w4 w5.heap.size v' (O ++ [(es, ex, en)]) := by
        unfold Owned
        rw [pRow_app, List.length_append, hOl]
        exact hown'
      clear hown' hgrow hown hnx x0 x1 x2 x3
      go_wp2
      go_roundw
      case rel => exact ⟨k + 1, O ++ [(es, ex, en)], by omega, by go_num, by rw [List.length_append]; simp; omega, hown4, hb4, hmem⟩
      case measure => simp [intOf]; omega
    · obtain rfl : k = A.length := by omega
      have hle : ¬ (A.length : Int) < (A.length : Int) := by omega
      have KM := Lib.hid (KM.out O hsub.out (by omega))
      clear HCA
      obtain ⟨bA, oA⟩ := HA.out.keep hnx
      have hby : (O.length + A.length) * 32 ≤ 140737488355328 := by omega
      have h63 : O.length + A.length ≤ maxLen := by unfold maxLen; omega
      go_wp2_with (first
        | (at_builtin; refine wpList_append_two (by rfl) _ _ _ (by rfl) w5.heap.size 40 i0 _ 4 32 Tryd.underlying32 hii hz0 hz1 hz2 rfl (by decide) _ _ _ (by rfl) hown _ _ _ _ (by rfl) oA (pRow_one _) hby h63 hsz ?_; intro ve we he be; have OE : Has we ve (O ++ A) := ⟨_, (by unfold Owned; rw [List.length_append, pRow_app]; exact he)⟩; have bje := hnx.trans be)
        | (go_at_call 15; refine (KM.out _ _ OE.row (FM.out.keep bje)).mono ?_; rintro e w6 ⟨vz, rfl, o6, hb6⟩))
      have bjj := thenBelow bje hb6
      have b6 := thenBelow b5 bjj
      have FM := Lib.hid (FM.out.keep bjj)
      have HA := Lib.hid (HA.out.keep bjj)
      have Hx := Lib.hid (Hx.out.keep bjj)
      have Hy := Lib.hid (Hy.out.keep bjj)
      have Hz : Hid (Has w6 vz X) := Lib.hid ⟨_, o6⟩
      clear o6 oA he OE be bje bjj hby h63 hb6 b5 hown hnx
      go_wp2_with fail
      refine (NR.out _).mono ?_
      rintro e w7 ⟨rfl, hb7⟩
      have b7 := thenBelow b6 hb7
      have FM := Lib.hid (FM.out.keep hb7)
      have HA := Lib.hid (HA.out.keep hb7)
      have Hx := Lib.hid (Hx.out.keep hb7)
      have Hy := Lib.hid (Hy.out.keep hb7)
      have Hz := Lib.hid (Hz.out.keep hb7)
      clear hb7 b6 NR
      have bz : Below w7.heap.size w7 (w7.alloc (.cells #[.bool false, .int .u64 (aH a), .int .u64 (aL a)] 25)) := (Below.refl _ w7).alloc (Nat.le_refl _) _
      have FM := Lib.hid (FM.out.keep bz)
      have HA := Lib.hid (HA.out.keep bz)
      have Hx := Lib.hid (Hx.out.keep bz)
      have Hy := Lib.hid (Hy.out.keep bz)
      have Hz := Lib.hid (Hz.out.keep bz)
      have HZ := Lib.hid (AddrAt.new w7 false (aH a) (aL a) 25)
      have b8 := thenBelow b7 bz
      clear bz b7
      go_wp2_with fail
      revert b8 FM HA Hx Hy Hz HZ
      obtain ⟨AB, hAB⟩ : ∃ AB, w7.heap.size = AB := ⟨_, rfl⟩
      rw [hAB]
      clear hAB
      generalize w7.alloc (.cells #[.bool false, .int .u64 (aH a), .int .u64 (aL a)] 25) = w8
      intro FM HA Hx Hy Hz HZ b8
      have hxa : (X.length : Int) ≤ (A.length : Int) := by omega
      cases bx
      all_goals
        have bd : Below w8.heap.size w8 w8.drew := (Below.refl _ _).drew
        have FM := Lib.hid (FM.out.keep bd)
        have HA := Lib.hid (HA.out.keep bd)
        have Hx := Lib.hid (Hx.out.keep bd)
        have Hy := Lib.hid (Hy.out.keep bd)
        have Hz := Lib.hid (Hz.out.keep bd)
        have HZ := Lib.hid (HZ.out.keep bd)
        have bb := thenBelow b8 bd
        clear bd b8
        obtain ⟨a_0, a_1, a_2, a_l⟩ := HZ.out
        go_wp2_with fail
        go_region_held3 (fun w' => w'.cell? ⟨AB, 0, none⟩ = some (.bool false) ∧ w'.cell? ⟨AB, 1, none⟩ = some (.int .u64 (aH a)) ∧ w'.cell? ⟨AB, 2, none⟩ = some (.int .u64 (aL a)))
          (first | (simp [go_sem, a_0, a_1, a_2]; done) | fail)
          (first
            | (go_at_call 9; refine (cidrSure_calls _ FM.out).mono ?_; rintro e wn ⟨rfl, hbn⟩; have FM := Lib.hid (FM.out.keep hbn); have HA := Lib.hid (HA.out.keep hbn); have Hx := Lib.hid (Hx.out.keep hbn); have Hy := Lib.hid (Hy.out.keep hbn); have Hz := Lib.hid (Hz.out.keep hbn); have HZ := Lib.hid (HZ.out.keep hbn); have bb := thenBelow bb hbn; obtain ⟨a_0, a_1, a_2, a_l⟩ := HZ.out)
            | (go_at_call 11; refine (PX.out _ _ Hx.out.row).mono ?_; rintro e wn ⟨rfl, hbn⟩; have FM := Lib.hid (FM.out.keep hbn); have HA := Lib.hid (HA.out.keep hbn); have Hx := Lib.hid (Hx.out.keep hbn); have Hy := Lib.hid (Hy.out.keep hbn); have Hz := Lib.hid (Hz.out.keep hbn); have HZ := Lib.hid (HZ.out.keep hbn); have bb := thenBelow bb hbn; obtain ⟨a_0, a_1, a_2, a_l⟩ := HZ.out)
            | (go_at_call 18; (with_reducible refine (YX.out _ _ Hx.out.row).mono ?_); rintro e wn ⟨rfl, hbn⟩; have FM := Lib.hid (FM.out.keep hbn); have HA := Lib.hid (HA.out.keep hbn); have Hx := Lib.hid (Hx.out.keep hbn); have Hy := Lib.hid (Hy.out.keep hbn); have Hz := Lib.hid (Hz.out.keep hbn); have HZ := Lib.hid (HZ.out.keep hbn); have bb := thenBelow bb hbn; obtain ⟨a_0, a_1, a_2, a_l⟩ := HZ.out)
            | (go_at_call 18; (with_reducible refine (YA.out _ _ HA.out.row).mono ?_); rintro e wn ⟨rfl, hbn⟩; have FM := Lib.hid (FM.out.keep hbn); have HA := Lib.hid (HA.out.keep hbn); have Hx := Lib.hid (Hx.out.keep hbn); have Hy := Lib.hid (Hy.out.keep hbn); have Hz := Lib.hid (Hz.out.keep hbn); have HZ := Lib.hid (HZ.out.keep hbn); have bb := thenBelow bb hbn; obtain ⟨a_0, a_1, a_2, a_l⟩ := HZ.out)
            | (go_at_call 19; (with_reducible refine (same' _ _ X nX _ Hx.out Hy.out).mono ?_); rintro e wn ⟨rfl, hbn⟩; have FM := Lib.hid (FM.out.keep hbn); have HA := Lib.hid (HA.out.keep hbn); have Hx := Lib.hid (Hx.out.keep hbn); have Hy := Lib.hid (Hy.out.keep hbn); have Hz := Lib.hid (Hz.out.keep hbn); have HZ := Lib.hid (HZ.out.keep hbn); have bb := thenBelow bb hbn; obtain ⟨a_0, a_1, a_2, a_l⟩ := HZ.out)
            | (go_at_call 19; (with_reducible refine (same' _ _ X nX _ Hx.out Hz.out).mono ?_); rintro e wn ⟨rfl, hbn⟩; have FM := Lib.hid (FM.out.keep hbn); have HA := Lib.hid (HA.out.keep hbn); have Hx := Lib.hid (Hx.out.keep hbn); have Hy := Lib.hid (Hy.out.keep hbn); have Hz := Lib.hid (Hz.out.keep hbn); have HZ := Lib.hid (HZ.out.keep hbn); have bb := thenBelow bb hbn; obtain ⟨a_0, a_1, a_2, a_l⟩ := HZ.out)
            | fail)
        all_goals
          go_wp2
          go_ret
          exact ⟨rfl, bb⟩
end Go.Proofs.YtnpcofaonimpcaaDoor
