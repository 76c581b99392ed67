/-
  whipcordkeep.SetAlgebra: difference and intersection, and both together.
-/
import Derived.Test.YtnpcofaonimpcaaDoorG2
import Derived.Test.YtnpcofaonimpcaaDoorKeepH
namespace Go.Proofs.YtnpcofaonimpcaaDoor
open Go.RowKit
set_option linter.unusedVariables false
set_option linter.unusedSimpArgs false

theorem four_merge_len {l : List PT} (hl : Four l) (n1 : l.length ≤ 80) : (cn false (tS l) (wideN false) 0).length ≤ 1000000000 := by
  have e : cn false (tS l) (wideN false) 0 = cn false (fun a => tS l a ∧ ¬ tS [] a) (wideN false) 0 := cn_ext fun a _ => ⟨fun h => ⟨h, fun ⟨q, hq, _⟩ => by simp [fb] at hq⟩, fun h => h.1⟩
  rw [e]
  exact four_minus_len hl four_nil n1 (by simp)
open Classical in
theorem sa_math (A B : List PT) (hA : Made 20 A) (hB : Made 20 B) (a : Nat) (ha : inB 0 (wideN false) a) : ∃ (X Y U : List PT) (bi bo bx bd : Bool),
    X.length ≤ 1000000000 ∧ Y.length ≤ 1000000000 ∧ U.length ≤ 1000000000 ∧ MinusTo A B X ∧ BothTo A B Y ∧ BothTo B A Y ∧ MergeTo A U ∧ NeatC false X ∧ NeatC false Y ∧ Four A ∧ Four B ∧ Four X ∧ Four Y ∧ (X.length + Y.length ≤ 80 → MergeTo (X ++ Y) U) ∧
      (bi = true ↔ tS A a) ∧ (bo = true ↔ tS B a) ∧ (bx = true ↔ tS X a) ∧ (bd = true ↔ tS Y a) ∧ bx = (bi && !bo) ∧ bd = (bi && bo) := by
  have fA : Four A := ⟨hA.1, hA.2.1⟩
  have fB : Four B := ⟨hB.1, hB.2.1⟩
  have nA := hA.2.2
  have nB := hB.2.2
  have nY := four_both_len fA fB
  refine ⟨cn false (fun a => tS A a ∧ ¬ tS B a) (wideN false) 0, cn false (fun a => tS A a ∧ tS B a) (wideN false) 0, cn false (tS A) (wideN false) 0, decide (tS A a), decide (tS B a), decide (tS A a) && !decide (tS B a), decide (tS A a) && decide (tS B a),
    four_minus_len fA fB (by omega) (by omega), by omega, four_merge_len fA (by omega), minusTo fA fB (by omega) (by omega) fun a _ => Iff.rfl, bothTo fA fB (by omega) (by omega) fun a _ => Iff.rfl, bothTo fB fA (by omega) (by omega) fun a _ => and_comm,
    mergeTo fA (by omega) fun a _ => Iff.rfl, neat_cn.told, neat_cn.told, fA, fB, Four.cn, Four.cn, fun hx => ?_, decide_eq_true_iff, decide_eq_true_iff, ?_, ?_, rfl, rfl⟩
  · refine mergeTo (Four.cn.app Four.cn) (by rw [List.length_append]; exact hx) fun a ha => ?_
    rw [tS_app, tS_cn, tS_cn]
    constructor
    · rintro (h | h)
      · exact h.2.1
      · exact h.2.1
    · intro h
      by_cases c : tS B a
      · exact .inr ⟨ha, h, c⟩
      · exact .inl ⟨ha, h, c⟩
  · rw [tS_cn, Bool.and_eq_true, Bool.not_eq_true', decide_eq_true_iff, decide_eq_false_iff_not]
    exact ⟨fun h => ⟨ha, h⟩, fun h => h.2⟩
  · rw [tS_cn, Bool.and_eq_true, decide_eq_true_iff, decide_eq_true_iff]
    exact ⟨fun h => ⟨ha, h⟩, fun h => h.2⟩
set_option maxHeartbeats 16000000 in
set_option maxRecDepth 100000 in
theorem SetAlgebra.walk (v0 : Value) (l0 : List Int) (v1 : Value) (l1 : List Int) (n : Int) (ok0 : IntsOK l0) (n0 : l0.length ≤ 9223372036854775807) (ok1 : IntsOK l1) (n1 : l1.length ≤ 9223372036854775807) (nn0 : -9223372036854775808 ≤ n) (nn1 : n ≤ 9223372036854775807) (w : World) (row0 : RowI w v0 l0) (row1 : RowI w v1 l1) (hT : FamAt w) :
    Calls Tryd.prog 5 #[v0, v1, .int .i64 n] w fun e w' => e = .returned (.bool true) ∧ Below w.heap.size w w' := by
  obtain ⟨i0, hii, hz0, hz1, hz2⟩ := info_parts info_pre
  obtain ⟨a, haa, ha32⟩ : ∃ a : Nat, (a : Int) = 167772152 + n % 540 ∧ a < 2 ^ wideN false := ⟨(167772152 + n % 540).toNat, by omega, by show _ < 4294967296; omega⟩
  have hin : inB 0 (wideN false) a := ⟨Nat.zero_le _, by rw [Nat.zero_add]; exact ha32⟩
  have NR := Lib.hid (fun W : World => near_calls n nn0 nn1 a haa W)
  have FM := Lib.hid hT
  have I0 := Lib.hid row0
  have I1 := Lib.hid row1
  have PR0 := Lib.hid (fun (W : World) h => pres_calls l0 ok0 20 (by decide) v0 W h)
  have PR1 := Lib.hid (fun (W : World) h => pres_calls l1 ok1 20 (by decide) v1 W h)
  have b0 := Below.refl w.heap.size w
  clear hT row0 row1 ok0 ok1 n0 n1 nn0 nn1 haa
  go_enter Tryd.func5, Tryd.ntmps5
  go_wp2_with fail
  refine (PR0.out _ I0.out).mono ?_
  rintro e w1 ⟨A, mA, vA, rfl, o1, hb1⟩
  have b1 := thenBelow b0 hb1
  have FM := Lib.hid (FM.out.keep hb1)
  clear I0
  have I1 := Lib.hid (I1.out.keep hb1)
  have HA : Hid (Has w1 vA A) := Lib.hid ⟨_, o1⟩
  clear o1 hb1 b0 PR0
  go_wp2_with fail
  refine (PR1.out _ I1.out).mono ?_
  rintro e w2 ⟨B, mB, vB, rfl, o2, hb2⟩
  have b2 := thenBelow b1 hb2
  have FM := Lib.hid (FM.out.keep hb2)
  clear I1
  have HA := Lib.hid (HA.out.keep hb2)
  have HB : Hid (Has w2 vB B) := Lib.hid ⟨_, o2⟩
  clear o2 hb2 b1 PR1
  obtain ⟨X, Y, U, bi, bo, bx, bd, nX, nY, nU, KX, KY, KZ, KU, NX, NY, fA, fB, fX, fY, KM, hbi, hbo, hbx, hbd, ex, ed⟩ := sa_math A B mA mB a hin
  have KX := Lib.hid KX
  have KY := Lib.hid KY
  have KZ := Lib.hid KZ
  have KU := Lib.hid KU
  have KM := Lib.hid KM
  have nA : A.length ≤ 1000000000 := by have := mA.2.2; omega
  have nB : B.length ≤ 1000000000 := by have := mB.2.2; omega
  have YA := Lib.hid (fun (v : Value) (W : World) h => anyHas_calls A fA nA a ha32 bi hbi v W h)
  have YB := Lib.hid (fun (v : Value) (W : World) h => anyHas_calls B fB nB a ha32 bo hbo v W h)
  have YX := Lib.hid (fun (v : Value) (W : World) h => anyHas_calls X fX nX a ha32 bx hbx v W h)
  have YY := Lib.hid (fun (v : Value) (W : World) h => anyHas_calls Y fY nY a ha32 bd hbd v W h)
  have PX := Lib.hid (fun (v : Value) (W : World) h => plain_calls false X NX nX v W h)
  have PY := Lib.hid (fun (v : Value) (W : World) h => plain_calls false Y NY nY v W h)
  clear mA mB fA fB fX fY hbi hbo hbx hbd NX NY ha32 hin
  go_wp2_with fail
  refine (NR.out _).mono ?_
  rintro e w3 ⟨rfl, hb3⟩
  have b3 := thenBelow b2 hb3
  have FM := Lib.hid (FM.out.keep hb3)
  have HA := Lib.hid (HA.out.keep hb3)
  have HB := Lib.hid (HB.out.keep hb3)
  clear hb3 b2 NR
  have bz : Below w3.heap.size w3 (w3.alloc (.cells #[.bool false, .int .u64 (aH a), .int .u64 (aL a)] 25)) := (Below.refl _ w3).alloc (Nat.le_refl _) _
  have FM := Lib.hid (FM.out.keep bz)
  have HA := Lib.hid (HA.out.keep bz)
  have HB := Lib.hid (HB.out.keep bz)
  have HZ := Lib.hid (AddrAt.new w3 false (aH a) (aL a) 25)
  have b4 := thenBelow b3 bz
  clear bz b3
  go_wp2_with fail
  revert b4 FM HA HB HZ
  obtain ⟨AB, hAB⟩ : ∃ AB, w3.heap.size = AB := ⟨_, rfl⟩
  rw [hAB]
  clear hAB
  generalize w3.alloc (.cells #[.bool false, .int .u64 (aH a), .int .u64 (aL a)] 25) = w4
  intro FM HA HB HZ b4
  go_wp2_with fail
  refine (copied' A _ nA _ HA.out).mono ?_
  rintro e w5 ⟨vt1, rfl, o5, hb5⟩
  have b5 := thenBelow b4 hb5
  have FM := Lib.hid (FM.out.keep hb5)
  have HA := Lib.hid (HA.out.keep hb5)
  have HB := Lib.hid (HB.out.keep hb5)
  have HZ := Lib.hid (HZ.out.keep hb5)
  have Ht1 : Hid (Has w5 vt1 A) := Lib.hid ⟨_, o5⟩
  clear o5
  clear hb5 b4
  go_wp2_with fail
  refine (copied' B _ nB _ HB.out).mono ?_
  rintro e w6 ⟨vt2, rfl, o6, hb6⟩
  have b6 := thenBelow b5 hb6
  have FM := Lib.hid (FM.out.keep hb6)
  have HA := Lib.hid (HA.out.keep hb6)
  have HB := Lib.hid (HB.out.keep hb6)
  have HZ := Lib.hid (HZ.out.keep hb6)
  have Ht1 := Lib.hid (Ht1.out.keep hb6)
  have Ht2 : Hid (Has w6 vt2 B) := Lib.hid ⟨_, o6⟩
  clear o6
  clear hb6 b5
  go_wp2_with fail
  refine (KX.out _ _ _ Ht1.out.row Ht2.out.row FM.out).mono ?_
  rintro e w7 ⟨vx, rfl, o7, hb7⟩
  have b7 := thenBelow b6 hb7
  have FM := Lib.hid (FM.out.keep hb7)
  have HA := Lib.hid (HA.out.keep hb7)
  have HB := Lib.hid (HB.out.keep hb7)
  have HZ := Lib.hid (HZ.out.keep hb7)
  clear Ht1
  clear Ht2
  have Hx : Hid (Has w7 vx X) := Lib.hid ⟨_, o7⟩
  clear o7
  clear hb7 b6
  obtain ⟨px, kx, rfl⟩ := Hx.out.row.form
  go_wp2_with fail
  refine (copied' A _ nA _ HA.out).mono ?_
  rintro e w8 ⟨vt3, rfl, o8, hb8⟩
  have b8 := thenBelow b7 hb8
  have FM := Lib.hid (FM.out.keep hb8)
  have HA := Lib.hid (HA.out.keep hb8)
  have HB := Lib.hid (HB.out.keep hb8)
  have HZ := Lib.hid (HZ.out.keep hb8)
  have Hx := Lib.hid (Hx.out.keep hb8)
  have Ht3 : Hid (Has w8 vt3 A) := Lib.hid ⟨_, o8⟩
  clear o8
  clear hb8 b7
  go_wp2_with fail
  refine (copied' B _ nB _ HB.out).mono ?_
  rintro e w9 ⟨vt4, rfl, o9, hb9⟩
  have b9 := thenBelow b8 hb9
  have FM := Lib.hid (FM.out.keep hb9)
  have HA := Lib.hid (HA.out.keep hb9)
  have HB := Lib.hid (HB.out.keep hb9)
  have HZ := Lib.hid (HZ.out.keep hb9)
  have Hx := Lib.hid (Hx.out.keep hb9)
  have Ht3 := Lib.hid (Ht3.out.keep hb9)
  have Ht4 : Hid (Has w9 vt4 B) := Lib.hid ⟨_, o9⟩
  clear o9
  clear hb9 b8
  go_wp2_with fail
  refine (KY.out _ _ _ Ht3.out.row Ht4.out.row FM.out).mono ?_
  rintro e w10 ⟨vy, rfl, o10, hb10⟩
  have b10 := thenBelow b9 hb10
  have FM := Lib.hid (FM.out.keep hb10)
  have HA := Lib.hid (HA.out.keep hb10)
  have HB := Lib.hid (HB.out.keep hb10)
  have HZ := Lib.hid (HZ.out.keep hb10)
  have Hx := Lib.hid (Hx.out.keep hb10)
  clear Ht3
  clear Ht4
  have Hy : Hid (Has w10 vy Y) := Lib.hid ⟨_, o10⟩
  clear o10
  clear hb10 b9
  obtain ⟨py, ky, rfl⟩ := Hy.out.row.form
  go_wp2_with fail
  refine (copied' B _ nB _ HB.out).mono ?_
  rintro e w11 ⟨vt5, rfl, o11, hb11⟩
  have b11 := thenBelow b10 hb11
  have FM := Lib.hid (FM.out.keep hb11)
  have HA := Lib.hid (HA.out.keep hb11)
  have HB := Lib.hid (HB.out.keep hb11)
  have HZ := Lib.hid (HZ.out.keep hb11)
  have Hx := Lib.hid (Hx.out.keep hb11)
  have Hy := Lib.hid (Hy.out.keep hb11)
  have Ht5 : Hid (Has w11 vt5 B) := Lib.hid ⟨_, o11⟩
  clear o11
  clear hb11 b10
  go_wp2_with fail
  refine (copied' A _ nA _ HA.out).mono ?_
  rintro e w12 ⟨vt6, rfl, o12, hb12⟩
  have b12 := thenBelow b11 hb12
  have FM := Lib.hid (FM.out.keep hb12)
  have HA := Lib.hid (HA.out.keep hb12)
  have HB := Lib.hid (HB.out.keep hb12)
  have HZ := Lib.hid (HZ.out.keep hb12)
  have Hx := Lib.hid (Hx.out.keep hb12)
  have Hy := Lib.hid (Hy.out.keep hb12)
  have Ht5 := Lib.hid (Ht5.out.keep hb12)
  have Ht6 : Hid (Has w12 vt6 A) := Lib.hid ⟨_, o12⟩
  clear o12
  clear hb12 b11
  go_wp2_with fail
  refine (KZ.out _ _ _ Ht5.out.row Ht6.out.row FM.out).mono ?_
  rintro e w13 ⟨vz, rfl, o13, hb13⟩
  have b13 := thenBelow b12 hb13
  have FM := Lib.hid (FM.out.keep hb13)
  have HA := Lib.hid (HA.out.keep hb13)
  have HB := Lib.hid (HB.out.keep hb13)
  have HZ := Lib.hid (HZ.out.keep hb13)
  have Hx := Lib.hid (Hx.out.keep hb13)
  have Hy := Lib.hid (Hy.out.keep hb13)
  clear Ht5
  clear Ht6
  have Hz : Hid (Has w13 vz Y) := Lib.hid ⟨_, o13⟩
  clear o13
  clear hb13 b12
  go_wp2_with fail
  refine (copied' A _ nA _ HA.out).mono ?_
  rintro e w14 ⟨vt7, rfl, o14, hb14⟩
  have b14 := thenBelow b13 hb14
  have FM := Lib.hid (FM.out.keep hb14)
  have HA := Lib.hid (HA.out.keep hb14)
  have HB := Lib.hid (HB.out.keep hb14)
  have HZ := Lib.hid (HZ.out.keep hb14)
  have Hx := Lib.hid (Hx.out.keep hb14)
  have Hy := Lib.hid (Hy.out.keep hb14)
  have Hz := Lib.hid (Hz.out.keep hb14)
  have Ht7 : Hid (Has w14 vt7 A) := Lib.hid ⟨_, o14⟩
  clear o14
  clear hb14 b13
  go_wp2_with fail
  refine (KU.out _ _ Ht7.out.row FM.out).mono ?_
  rintro e w15 ⟨vu, rfl, o15, hb15⟩
  have b15 := thenBelow b14 hb15
  have FM := Lib.hid (FM.out.keep hb15)
  have HA := Lib.hid (HA.out.keep hb15)
  have HB := Lib.hid (HB.out.keep hb15)
  have HZ := Lib.hid (HZ.out.keep hb15)
  have Hx := Lib.hid (Hx.out.keep hb15)
  have Hy := Lib.hid (Hy.out.keep hb15)
  have Hz := Lib.hid (Hz.out.keep hb15)
  clear Ht7
  have Hu : Hid (Has w15 vu U) := Lib.hid ⟨_, o15⟩
  clear o15
  clear hb15 b14
  obtain ⟨a_0, a_1, a_2, a_l⟩ := HZ.out
  go_wp2_with fail
  refine (YA.out _ _ HA.out.row).mono ?_
  rintro e w16 ⟨rfl, hb16⟩
  have b16 := thenBelow b15 hb16
  have FM := Lib.hid (FM.out.keep hb16)
  have HA := Lib.hid (HA.out.keep hb16)
  have HB := Lib.hid (HB.out.keep hb16)
  have HZ := Lib.hid (HZ.out.keep hb16)
  have Hx := Lib.hid (Hx.out.keep hb16)
  have Hy := Lib.hid (Hy.out.keep hb16)
  have Hz := Lib.hid (Hz.out.keep hb16)
  have Hu := Lib.hid (Hu.out.keep hb16)
  clear hb16 b15
  clear a_0 a_1 a_2 a_l
  obtain ⟨a_0, a_1, a_2, a_l⟩ := HZ.out
  go_wp2_with fail
  refine (YB.out _ _ HB.out.row).mono ?_
  rintro e w17 ⟨rfl, hb17⟩
  have b17 := thenBelow b16 hb17
  have FM := Lib.hid (FM.out.keep hb17)
  have HA := Lib.hid (HA.out.keep hb17)
  have HB := Lib.hid (HB.out.keep hb17)
  have HZ := Lib.hid (HZ.out.keep hb17)
  have Hx := Lib.hid (Hx.out.keep hb17)
  have Hy := Lib.hid (Hy.out.keep hb17)
  have Hz := Lib.hid (Hz.out.keep hb17)
  have Hu := Lib.hid (Hu.out.keep hb17)
  clear hb17 b16
  clear a_0 a_1 a_2 a_l
  cases bi <;> cases bo <;> simp only [Bool.and_true, Bool.and_false, Bool.false_and, Bool.not_true, Bool.not_false] at ex ed <;> subst ex <;> subst ed
  all_goals
    go_wp2_with fail
    refine (cidrSure_calls _ FM.out).mono ?_
    rintro e w18 ⟨rfl, hb18⟩
    have b18 := thenBelow b17 hb18
    have FM := Lib.hid (FM.out.keep hb18)
    have HA := Lib.hid (HA.out.keep hb18)
    have HB := Lib.hid (HB.out.keep hb18)
    have HZ := Lib.hid (HZ.out.keep hb18)
    have Hx := Lib.hid (Hx.out.keep hb18)
    have Hy := Lib.hid (Hy.out.keep hb18)
    have Hz := Lib.hid (Hz.out.keep hb18)
    have Hu := Lib.hid (Hu.out.keep hb18)
    clear hb18 b17
    obtain ⟨a_0, a_1, a_2, a_l⟩ := HZ.out
    go_wp2_with fail
    refine (YX.out _ _ Hx.out.row).mono ?_
    rintro e w19 ⟨rfl, hb19⟩
    have b19 := thenBelow b18 hb19
    have FM := Lib.hid (FM.out.keep hb19)
    have HA := Lib.hid (HA.out.keep hb19)
    have HB := Lib.hid (HB.out.keep hb19)
    have HZ := Lib.hid (HZ.out.keep hb19)
    have Hx := Lib.hid (Hx.out.keep hb19)
    have Hy := Lib.hid (Hy.out.keep hb19)
    have Hz := Lib.hid (Hz.out.keep hb19)
    have Hu := Lib.hid (Hu.out.keep hb19)
    clear hb19 b18
    clear a_0 a_1 a_2 a_l
    obtain ⟨a_0, a_1, a_2, a_l⟩ := HZ.out
    go_wp2_with fail
    refine (YY.out _ _ Hy.out.row).mono ?_
    rintro e w20 ⟨rfl, hb20⟩
    have b20 := thenBelow b19 hb20
    have FM := Lib.hid (FM.out.keep hb20)
    have HA := Lib.hid (HA.out.keep hb20)
    have HB := Lib.hid (HB.out.keep hb20)
    have HZ := Lib.hid (HZ.out.keep hb20)
    have Hx := Lib.hid (Hx.out.keep hb20)
    have Hy := Lib.hid (Hy.out.keep hb20)
    have Hz := Lib.hid (Hz.out.keep hb20)
    have Hu := Lib.hid (Hu.out.keep hb20)
    clear hb20 b19
    clear a_0 a_1 a_2 a_l
    go_wp2_with fail
    refine (same' _ _ Y nY _ Hy.out Hz.out).mono ?_
    rintro e w21 ⟨rfl, hb21⟩
    have b21 := thenBelow b20 hb21
    have FM := Lib.hid (FM.out.keep hb21)
    have HA := Lib.hid (HA.out.keep hb21)
    have HB := Lib.hid (HB.out.keep hb21)
    have HZ := Lib.hid (HZ.out.keep hb21)
    have Hx := Lib.hid (Hx.out.keep hb21)
    have Hy := Lib.hid (Hy.out.keep hb21)
    have Hz := Lib.hid (Hz.out.keep hb21)
    have Hu := Lib.hid (Hu.out.keep hb21)
    clear hb21 b20
    go_wp2_with fail
    refine (PX.out _ _ Hx.out.row).mono ?_
    rintro e w22 ⟨rfl, hb22⟩
    have b22 := thenBelow b21 hb22
    have FM := Lib.hid (FM.out.keep hb22)
    have HA := Lib.hid (HA.out.keep hb22)
    have HB := Lib.hid (HB.out.keep hb22)
    have HZ := Lib.hid (HZ.out.keep hb22)
    have Hx := Lib.hid (Hx.out.keep hb22)
    have Hy := Lib.hid (Hy.out.keep hb22)
    have Hz := Lib.hid (Hz.out.keep hb22)
    have Hu := Lib.hid (Hu.out.keep hb22)
    clear hb22 b21
    go_wp2_with fail
    refine (PY.out _ _ Hy.out.row).mono ?_
    rintro e w23 ⟨rfl, hb23⟩
    have b23 := thenBelow b22 hb23
    have FM := Lib.hid (FM.out.keep hb23)
    have HA := Lib.hid (HA.out.keep hb23)
    have HB := Lib.hid (HB.out.keep hb23)
    have HZ := Lib.hid (HZ.out.keep hb23)
    have Hx := Lib.hid (Hx.out.keep hb23)
    have Hy := Lib.hid (Hy.out.keep hb23)
    have Hz := Lib.hid (Hz.out.keep hb23)
    have Hu := Lib.hid (Hu.out.keep hb23)
    clear hb23 b22
    by_cases hv : X.length + Y.length ≤ 80
    · have hv2 : ¬ (80 : Int) < (X.length : Int) + (Y.length : Int) := by omega
      have KM := Lib.hid (KM.out hv)
      go_wp2_with fail
      refine (copied' X _ nX _ Hx.out).mono ?_
      rintro e w24 ⟨vq, rfl, oq, hb24⟩
      have hq := hb24.size
      obtain ⟨bs, os⟩ := (Hy.out.keep hb24)
      have hby : (X.length + Y.length) * 32 ≤ 140737488355328 := by omega
      have h63 : X.length + Y.length ≤ maxLen := by unfold maxLen; omega
      go_wp2_with (first
        | (at_builtin; refine wpList_append_two (by rfl) _ _ _ (by rfl) w23.heap.size 40 i0 _ 4 32 Tryd.underlying32 hii hz0 hz1 hz2 rfl (by decide) _ _ _ (by rfl) oq _ _ _ _ (by rfl) os (pRow_one _) hby h63 hq ?_; intro ve we he be; have OE : Has we ve (X ++ Y) := ⟨_, (by unfold Owned; rw [List.length_append, pRow_app]; exact he)⟩; have bje := hb24.trans be)
        | (go_at_call 15; refine (KM.out _ _  OE.row (FM.out.keep bje)).mono ?_; rintro e w25 ⟨vall, rfl, o25, hb25⟩))
      have bjj := thenBelow bje hb25
      have b25 := thenBelow b23 bjj
      have FM := Lib.hid (FM.out.keep bjj)
      have HA := Lib.hid (HA.out.keep bjj)
      have HB := Lib.hid (HB.out.keep bjj)
      have HZ := Lib.hid (HZ.out.keep bjj)
      have Hx := Lib.hid (Hx.out.keep bjj)
      have Hy := Lib.hid (Hy.out.keep bjj)
      have Hz := Lib.hid (Hz.out.keep bjj)
      have Hu := Lib.hid (Hu.out.keep bjj)
      have Hall : Hid (Has w25 vall U) := Lib.hid ⟨_, o25⟩
      clear o25 oq os he OE be bje bjj hq hby h63 hb25 hb24 b23
      go_wp2_with fail
      refine (same' _ _ U nU _ Hall.out Hu.out).mono ?_
      rintro e w26 ⟨rfl, hb26⟩
      have b26 := thenBelow b25 hb26
      have FM := Lib.hid (FM.out.keep hb26)
      have HA := Lib.hid (HA.out.keep hb26)
      have HB := Lib.hid (HB.out.keep hb26)
      have HZ := Lib.hid (HZ.out.keep hb26)
      have Hx := Lib.hid (Hx.out.keep hb26)
      have Hy := Lib.hid (Hy.out.keep hb26)
      have Hz := Lib.hid (Hz.out.keep hb26)
      have Hu := Lib.hid (Hu.out.keep hb26)
      have Hall := Lib.hid (Hall.out.keep hb26)
      clear hb26 b25
      go_wp2
      go_ret
      exact ⟨rfl, b26⟩
    · have hv2 : (80 : Int) < (X.length : Int) + (Y.length : Int) := by omega
      go_wp2
      go_ret
      exact ⟨rfl, b23⟩
end Go.Proofs.YtnpcofaonimpcaaDoor
