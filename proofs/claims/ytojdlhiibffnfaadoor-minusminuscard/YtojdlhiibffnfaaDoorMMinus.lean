/-
  whipcordkeep.MinusMinus: taken away one by one, or all at once.
-/
import Derived.Test.YtojdlhiibffnfaaDoorKeepD
namespace Go.Proofs.YtojdlhiibffnfaaDoor
open Go.RowKit
set_option linter.unusedVariables false
set_option linter.unusedSimpArgs false

/-- A list that a call has made, and that lies there. -/
def Has (w : World) (v : Value) (l : List PT) : Prop := ∃ base, Owned w base v l
theorem Has.keep {w w' : World} {v : Value} {l : List PT} (h : Has w v l) (hb : Below w.heap.size w w') : Has w' v l := h.imp fun _ o => ownsKeep o hb
theorem Has.row {w : World} {v : Value} {l : List PT} (h : Has w v l) : RowP w v l := let ⟨_, o⟩ := h; RowP.owned o
theorem copied' (l : List PT) (v : Value) (hlen : l.length ≤ 1000000000) (w : World) (h : Has w v l) : Calls Tryd.prog 29 #[v] w (PresOut l w) := let ⟨b, o⟩ := h; copied_calls l v b hlen w o
theorem same' (v1 v2 : Value) (l : List PT) (hlen : l.length ≤ 1000000000) (w : World) (h1 : Has w v1 l) (h2 : Has w v2 l) : Calls Tryd.prog 32 #[v1, v2] w fun e w' => e = .returned (.bool true) ∧ Below w.heap.size w w' :=
  let ⟨b1, o1⟩ := h1; let ⟨b2, o2⟩ := h2; keepSame_calls b1 b2 v1 v2 l hlen w o1 o2
set_option maxHeartbeats 16000000 in
set_option maxRecDepth 100000 in
theorem MinusMinus.walk (v0 : Value) (l0 : List Int) (v1 : Value) (l1 : List Int) (v2 : Value) (l2 : List Int) (ok0 : IntsOK l0) (n0 : l0.length ≤ 9223372036854775807) (ok1 : IntsOK l1) (n1 : l1.length ≤ 9223372036854775807) (ok2 : IntsOK l2) (n2 : l2.length ≤ 9223372036854775807) (w : World) (row0 : RowI w v0 l0) (row1 : RowI w v1 l1) (row2 : RowI w v2 l2) (hT : FamAt w) :
    Calls Tryd.prog 11 #[v0, v1, v2] w fun e w' => e = .returned (.bool true) ∧ Below w.heap.size w w' := by
  obtain ⟨i0, hii, hz0, hz1, hz2⟩ := info_parts info_pre
  have FM := Lib.hid hT
  have I0 := Lib.hid row0
  have I1 := Lib.hid row1
  have I2 := Lib.hid row2
  have PR0 := Lib.hid (fun (W : World) h => pres_calls l0 ok0 12 (by decide) v0 W h)
  have PR1 := Lib.hid (fun (W : World) h => pres_calls l1 ok1 12 (by decide) v1 W h)
  have PR2 := Lib.hid (fun (W : World) h => pres_calls l2 ok2 12 (by decide) v2 W h)
  have b0 := Below.refl w.heap.size w
  clear hT row0 row1 row2 ok0 ok1 ok2 n0 n1 n2
  go_enter Tryd.func11, Tryd.ntmps11
  go_wp2_with fail
  refine (PR0.out _ I0.out).mono ?_
  rintro e w1 ⟨A, mA, vA, rfl, o1, hb1⟩
  have b1 := thenBelow b0 hb1
  have FM := Lib.hid (FM.out.keep hb1)
  clear I0
  have I1 := Lib.hid (I1.out.keep hb1)
  have I2 := Lib.hid (I2.out.keep hb1)
  have HA : Hid (Has w1 vA A) := Lib.hid ⟨_, o1⟩
  clear o1 hb1 b0 PR0
  go_wp2_with fail
  refine (PR1.out _ I1.out).mono ?_
  rintro e w2 ⟨B, mB, vB, rfl, o2, hb2⟩
  have b2 := thenBelow b1 hb2
  have FM := Lib.hid (FM.out.keep hb2)
  clear I1
  have I2 := Lib.hid (I2.out.keep hb2)
  have HA := Lib.hid (HA.out.keep hb2)
  have HB : Hid (Has w2 vB B) := Lib.hid ⟨_, o2⟩
  clear o2 hb2 b1 PR1
  go_wp2_with fail
  refine (PR2.out _ I2.out).mono ?_
  rintro e w3 ⟨C, mC, vC, rfl, o3, hb3⟩
  have b3 := thenBelow b2 hb3
  have FM := Lib.hid (FM.out.keep hb3)
  clear I2
  have HA := Lib.hid (HA.out.keep hb3)
  have HB := Lib.hid (HB.out.keep hb3)
  have HC : Hid (Has w3 vC C) := Lib.hid ⟨_, o3⟩
  clear o3 hb3 b2 PR2
  obtain ⟨X, Y, O, U, V, nX, nY, nO, nU, nV, KX, KY, KZ, KO, KU, KV, KM⟩ := mm_math A B C mA mB mC
  have KX := Lib.hid KX
  have KY := Lib.hid KY
  have KZ := Lib.hid KZ
  have KO := Lib.hid KO
  have KU := Lib.hid KU
  have KV := Lib.hid KV
  have KM := Lib.hid KM
  have nA : A.length ≤ 1000000000 := by have := mA.2.2; omega
  have nB : B.length ≤ 1000000000 := by have := mB.2.2; omega
  have nC : C.length ≤ 1000000000 := by have := mC.2.2; omega
  have hbc : B.length + C.length ≤ 1000 := by have := mB.2.2; have := mC.2.2; omega
  have nO : O.length ≤ 1000000000 := by omega
  clear mA mB mC
  go_wp2_with fail
  refine (copied' A _ nA _ HA.out).mono ?_
  rintro e w4 ⟨vt1, rfl, o4, hb4⟩
  have b4 := thenBelow b3 hb4
  have FM := Lib.hid (FM.out.keep hb4)
  have HA := Lib.hid (HA.out.keep hb4)
  have HB := Lib.hid (HB.out.keep hb4)
  have HC := Lib.hid (HC.out.keep hb4)
  have Ht1 : Hid (Has w4 vt1 A) := Lib.hid ⟨_, o4⟩
  clear o4
  clear hb4 b3
  go_wp2_with fail
  refine (copied' B _ nB _ HB.out).mono ?_
  rintro e w5 ⟨vt2, rfl, o5, hb5⟩
  have b5 := thenBelow b4 hb5
  have FM := Lib.hid (FM.out.keep hb5)
  have HA := Lib.hid (HA.out.keep hb5)
  have HB := Lib.hid (HB.out.keep hb5)
  have HC := Lib.hid (HC.out.keep hb5)
  have Ht1 := Lib.hid (Ht1.out.keep hb5)
  have Ht2 : Hid (Has w5 vt2 B) := Lib.hid ⟨_, o5⟩
  clear o5
  clear hb5 b4
  go_wp2_with fail
  refine (KX.out _ _ _ Ht1.out.row Ht2.out.row FM.out).mono ?_
  rintro e w6 ⟨vx, rfl, o6, hb6⟩
  have b6 := thenBelow b5 hb6
  have FM := Lib.hid (FM.out.keep hb6)
  have HA := Lib.hid (HA.out.keep hb6)
  have HB := Lib.hid (HB.out.keep hb6)
  have HC := Lib.hid (HC.out.keep hb6)
  clear Ht1
  clear Ht2
  have Hx : Hid (Has w6 vx X) := Lib.hid ⟨_, o6⟩
  clear o6
  clear hb6 b5
  obtain ⟨px, kx, rfl⟩ := Hx.out.row.form
  by_cases hx : X.length ≤ 80
  · have hx2 : ¬ (80 : Int) < (X.length : Int) := by omega
    have KY := Lib.hid (KY.out hx)
    clear hx
    go_wp2_with fail
    refine (copied' C _ nC _ HC.out).mono ?_
    rintro e w7 ⟨vt3, rfl, o7, hb7⟩
    have b7 := thenBelow b6 hb7
    have FM := Lib.hid (FM.out.keep hb7)
    have HA := Lib.hid (HA.out.keep hb7)
    have HB := Lib.hid (HB.out.keep hb7)
    have HC := Lib.hid (HC.out.keep hb7)
    have Hx := Lib.hid (Hx.out.keep hb7)
    have Ht3 : Hid (Has w7 vt3 C) := Lib.hid ⟨_, o7⟩
    clear o7
    clear hb7 b6
    go_wp2_with fail
    refine (KY.out _ _ _ Hx.out.row Ht3.out.row FM.out).mono ?_
    rintro e w8 ⟨vy, rfl, o8, hb8⟩
    have b8 := thenBelow b7 hb8
    have FM := Lib.hid (FM.out.keep hb8)
    have HA := Lib.hid (HA.out.keep hb8)
    have HB := Lib.hid (HB.out.keep hb8)
    have HC := Lib.hid (HC.out.keep hb8)
    have Hx := Lib.hid (Hx.out.keep hb8)
    clear Ht3
    have Hy : Hid (Has w8 vy Y) := Lib.hid ⟨_, o8⟩
    clear o8
    clear hb8 b7
    go_wp2_with fail
    refine (copied' A _ nA _ HA.out).mono ?_
    rintro e w9 ⟨vt4, rfl, o9, hb9⟩
    have b9 := thenBelow b8 hb9
    have FM := Lib.hid (FM.out.keep hb9)
    have HA := Lib.hid (HA.out.keep hb9)
    have HB := Lib.hid (HB.out.keep hb9)
    have HC := Lib.hid (HC.out.keep hb9)
    have Hx := Lib.hid (Hx.out.keep hb9)
    have Hy := Lib.hid (Hy.out.keep hb9)
    have Ht4 : Hid (Has w9 vt4 A) := Lib.hid ⟨_, o9⟩
    clear o9
    clear hb9 b8
    go_wp2_with fail
    refine (copied' B _ nB _ HB.out).mono ?_
    rintro e w10 ⟨vq, rfl, oq, hb10⟩
    have hq := hb10.size
    obtain ⟨bs, os⟩ := (HC.out.keep hb10)
    have hby : (B.length + C.length) * 32 ≤ 140737488355328 := by omega
    have h63 : B.length + C.length ≤ maxLen := by unfold maxLen; omega
    go_wp2_with (first
      | (at_builtin; refine wpList_append_two (by rfl) _ _ _ (by rfl) w9.heap.size 44 i0 _ 4 32 Tryd.underlying25 hii hz0 hz1 hz2 rfl (by decide) _ _ _ (by rfl) oq _ _ _ _ (by rfl) os (pRow_one _) hby h63 hq ?_; intro ve we he be; have OE : Has we ve (B ++ C) := ⟨_, (by unfold Owned; rw [List.length_append, pRow_app]; exact he)⟩; have bje := hb10.trans be)
      | (go_at_call 17; refine (KZ.out _ _ _ (Ht4.out.keep bje).row OE.row (FM.out.keep bje)).mono ?_; rintro e w11 ⟨vz, rfl, o11, hb11⟩))
    have bjj := thenBelow bje hb11
    have b11 := thenBelow b9 bjj
    have FM := Lib.hid (FM.out.keep bjj)
    have HA := Lib.hid (HA.out.keep bjj)
    have HB := Lib.hid (HB.out.keep bjj)
    have HC := Lib.hid (HC.out.keep bjj)
    have Hx := Lib.hid (Hx.out.keep bjj)
    have Hy := Lib.hid (Hy.out.keep bjj)
    clear Ht4
    have Hz : Hid (Has w11 vz Y) := Lib.hid ⟨_, o11⟩
    clear o11 oq os he OE be bje bjj hq hby h63 hb11 hb10 b9
    go_wp2_with fail
    refine (copied' B _ nB _ HB.out).mono ?_
    rintro e w12 ⟨vt5, rfl, o12, hb12⟩
    have b12 := thenBelow b11 hb12
    have FM := Lib.hid (FM.out.keep hb12)
    have HA := Lib.hid (HA.out.keep hb12)
    have HB := Lib.hid (HB.out.keep hb12)
    have HC := Lib.hid (HC.out.keep hb12)
    have Hx := Lib.hid (Hx.out.keep hb12)
    have Hy := Lib.hid (Hy.out.keep hb12)
    have Hz := Lib.hid (Hz.out.keep hb12)
    have Ht5 : Hid (Has w12 vt5 B) := Lib.hid ⟨_, o12⟩
    clear o12
    clear hb12 b11
    go_wp2_with fail
    refine (copied' C _ nC _ HC.out).mono ?_
    rintro e w13 ⟨vt6, rfl, o13, hb13⟩
    have b13 := thenBelow b12 hb13
    have FM := Lib.hid (FM.out.keep hb13)
    have HA := Lib.hid (HA.out.keep hb13)
    have HB := Lib.hid (HB.out.keep hb13)
    have HC := Lib.hid (HC.out.keep hb13)
    have Hx := Lib.hid (Hx.out.keep hb13)
    have Hy := Lib.hid (Hy.out.keep hb13)
    have Hz := Lib.hid (Hz.out.keep hb13)
    have Ht5 := Lib.hid (Ht5.out.keep hb13)
    have Ht6 : Hid (Has w13 vt6 C) := Lib.hid ⟨_, o13⟩
    clear o13
    clear hb13 b12
    go_wp2_with fail
    refine (KO.out _ _ _ Ht5.out.row Ht6.out.row FM.out).mono ?_
    rintro e w14 ⟨vo, rfl, o14, hb14⟩
    have b14 := thenBelow b13 hb14
    have FM := Lib.hid (FM.out.keep hb14)
    have HA := Lib.hid (HA.out.keep hb14)
    have HB := Lib.hid (HB.out.keep hb14)
    have HC := Lib.hid (HC.out.keep hb14)
    have Hx := Lib.hid (Hx.out.keep hb14)
    have Hy := Lib.hid (Hy.out.keep hb14)
    have Hz := Lib.hid (Hz.out.keep hb14)
    clear Ht5
    clear Ht6
    have Ho : Hid (Has w14 vo O) := Lib.hid ⟨_, o14⟩
    clear o14
    clear hb14 b13
    go_wp2_with fail
    refine (copied' A _ nA _ HA.out).mono ?_
    rintro e w15 ⟨vt7, rfl, o15, hb15⟩
    have b15 := thenBelow b14 hb15
    have FM := Lib.hid (FM.out.keep hb15)
    have HA := Lib.hid (HA.out.keep hb15)
    have HB := Lib.hid (HB.out.keep hb15)
    have HC := Lib.hid (HC.out.keep hb15)
    have Hx := Lib.hid (Hx.out.keep hb15)
    have Hy := Lib.hid (Hy.out.keep hb15)
    have Hz := Lib.hid (Hz.out.keep hb15)
    have Ho := Lib.hid (Ho.out.keep hb15)
    have Ht7 : Hid (Has w15 vt7 A) := Lib.hid ⟨_, o15⟩
    clear o15
    clear hb15 b14
    go_wp2_with fail
    refine (KU.out _ _ _ Ht7.out.row Ho.out.row FM.out).mono ?_
    rintro e w16 ⟨vu, rfl, o16, hb16⟩
    have b16 := thenBelow b15 hb16
    have FM := Lib.hid (FM.out.keep hb16)
    have HA := Lib.hid (HA.out.keep hb16)
    have HB := Lib.hid (HB.out.keep hb16)
    have HC := Lib.hid (HC.out.keep hb16)
    have Hx := Lib.hid (Hx.out.keep hb16)
    have Hy := Lib.hid (Hy.out.keep hb16)
    have Hz := Lib.hid (Hz.out.keep hb16)
    have Ho := Lib.hid (Ho.out.keep hb16)
    clear Ht7
    have Hu : Hid (Has w16 vu U) := Lib.hid ⟨_, o16⟩
    clear o16
    clear hb16 b15
    go_wp2_with fail
    refine (copied' A _ nA _ HA.out).mono ?_
    rintro e w17 ⟨vt8, rfl, o17, hb17⟩
    have b17 := thenBelow b16 hb17
    have FM := Lib.hid (FM.out.keep hb17)
    have HA := Lib.hid (HA.out.keep hb17)
    have HB := Lib.hid (HB.out.keep hb17)
    have HC := Lib.hid (HC.out.keep hb17)
    have Hx := Lib.hid (Hx.out.keep hb17)
    have Hy := Lib.hid (Hy.out.keep hb17)
    have Hz := Lib.hid (Hz.out.keep hb17)
    have Ho := Lib.hid (Ho.out.keep hb17)
    have Hu := Lib.hid (Hu.out.keep hb17)
    have Ht8 : Hid (Has w17 vt8 A) := Lib.hid ⟨_, o17⟩
    clear o17
    clear hb17 b16
    go_wp2_with fail
    refine (copied' C _ nC _ HC.out).mono ?_
    rintro e w18 ⟨vt9, rfl, o18, hb18⟩
    have b18 := thenBelow b17 hb18
    have FM := Lib.hid (FM.out.keep hb18)
    have HA := Lib.hid (HA.out.keep hb18)
    have HB := Lib.hid (HB.out.keep hb18)
    have HC := Lib.hid (HC.out.keep hb18)
    have Hx := Lib.hid (Hx.out.keep hb18)
    have Hy := Lib.hid (Hy.out.keep hb18)
    have Hz := Lib.hid (Hz.out.keep hb18)
    have Ho := Lib.hid (Ho.out.keep hb18)
    have Hu := Lib.hid (Hu.out.keep hb18)
    have Ht8 := Lib.hid (Ht8.out.keep hb18)
    have Ht9 : Hid (Has w18 vt9 C) := Lib.hid ⟨_, o18⟩
    clear o18
    clear hb18 b17
    go_wp2_with fail
    refine (KV.out _ _ _ Ht8.out.row Ht9.out.row FM.out).mono ?_
    rintro e w19 ⟨vv, rfl, o19, hb19⟩
    have b19 := thenBelow b18 hb19
    have FM := Lib.hid (FM.out.keep hb19)
    have HA := Lib.hid (HA.out.keep hb19)
    have HB := Lib.hid (HB.out.keep hb19)
    have HC := Lib.hid (HC.out.keep hb19)
    have Hx := Lib.hid (Hx.out.keep hb19)
    have Hy := Lib.hid (Hy.out.keep hb19)
    have Hz := Lib.hid (Hz.out.keep hb19)
    have Ho := Lib.hid (Ho.out.keep hb19)
    have Hu := Lib.hid (Hu.out.keep hb19)
    clear Ht8
    clear Ht9
    have Hv : Hid (Has w19 vv V) := Lib.hid ⟨_, o19⟩
    clear o19
    clear hb19 b18
    obtain ⟨pv, kv, rfl⟩ := Hv.out.row.form
    go_wp2_with fail
    refine (copied' A _ nA _ HA.out).mono ?_
    rintro e w20 ⟨vt10, rfl, o20, hb20⟩
    have b20 := thenBelow b19 hb20
    have FM := Lib.hid (FM.out.keep hb20)
    have HA := Lib.hid (HA.out.keep hb20)
    have HB := Lib.hid (HB.out.keep hb20)
    have HC := Lib.hid (HC.out.keep hb20)
    have Hx := Lib.hid (Hx.out.keep hb20)
    have Hy := Lib.hid (Hy.out.keep hb20)
    have Hz := Lib.hid (Hz.out.keep hb20)
    have Ho := Lib.hid (Ho.out.keep hb20)
    have Hu := Lib.hid (Hu.out.keep hb20)
    have Hv := Lib.hid (Hv.out.keep hb20)
    have Ht10 : Hid (Has w20 vt10 A) := Lib.hid ⟨_, o20⟩
    clear o20
    clear hb20 b19
    go_wp2_with fail
    refine (copied' B _ nB _ HB.out).mono ?_
    rintro e w21 ⟨vt11, rfl, o21, hb21⟩
    have b21 := thenBelow b20 hb21
    have FM := Lib.hid (FM.out.keep hb21)
    have HA := Lib.hid (HA.out.keep hb21)
    have HB := Lib.hid (HB.out.keep hb21)
    have HC := Lib.hid (HC.out.keep hb21)
    have Hx := Lib.hid (Hx.out.keep hb21)
    have Hy := Lib.hid (Hy.out.keep hb21)
    have Hz := Lib.hid (Hz.out.keep hb21)
    have Ho := Lib.hid (Ho.out.keep hb21)
    have Hu := Lib.hid (Hu.out.keep hb21)
    have Hv := Lib.hid (Hv.out.keep hb21)
    have Ht10 := Lib.hid (Ht10.out.keep hb21)
    have Ht11 : Hid (Has w21 vt11 B) := Lib.hid ⟨_, o21⟩
    clear o21
    clear hb21 b20
    go_wp2_with fail
    refine (KX.out _ _ _ Ht10.out.row Ht11.out.row FM.out).mono ?_
    rintro e w22 ⟨vg, rfl, o22, hb22⟩
    have b22 := thenBelow b21 hb22
    have FM := Lib.hid (FM.out.keep hb22)
    have HA := Lib.hid (HA.out.keep hb22)
    have HB := Lib.hid (HB.out.keep hb22)
    have HC := Lib.hid (HC.out.keep hb22)
    have Hx := Lib.hid (Hx.out.keep hb22)
    have Hy := Lib.hid (Hy.out.keep hb22)
    have Hz := Lib.hid (Hz.out.keep hb22)
    have Ho := Lib.hid (Ho.out.keep hb22)
    have Hu := Lib.hid (Hu.out.keep hb22)
    have Hv := Lib.hid (Hv.out.keep hb22)
    clear Ht10
    clear Ht11
    have Hg : Hid (Has w22 vg X) := Lib.hid ⟨_, o22⟩
    clear o22
    clear hb22 b21
    obtain ⟨pg, kg, rfl⟩ := Hg.out.row.form
    go_wp2_with fail
    refine (cidrSure_calls _ FM.out).mono ?_
    rintro e w23 ⟨rfl, hb23⟩
    have b23 := thenBelow b22 hb23
    have FM := Lib.hid (FM.out.keep hb23)
    have HA := Lib.hid (HA.out.keep hb23)
    have HB := Lib.hid (HB.out.keep hb23)
    have HC := Lib.hid (HC.out.keep hb23)
    have Hx := Lib.hid (Hx.out.keep hb23)
    have Hy := Lib.hid (Hy.out.keep hb23)
    have Hz := Lib.hid (Hz.out.keep hb23)
    have Ho := Lib.hid (Ho.out.keep hb23)
    have Hu := Lib.hid (Hu.out.keep hb23)
    have Hv := Lib.hid (Hv.out.keep hb23)
    have Hg := Lib.hid (Hg.out.keep hb23)
    clear hb23 b22
    go_wp2_with fail
    refine (same' _ _ Y nY _ Hy.out Hz.out).mono ?_
    rintro e w24 ⟨rfl, hb24⟩
    have b24 := thenBelow b23 hb24
    have FM := Lib.hid (FM.out.keep hb24)
    have HA := Lib.hid (HA.out.keep hb24)
    have HB := Lib.hid (HB.out.keep hb24)
    have HC := Lib.hid (HC.out.keep hb24)
    have Hx := Lib.hid (Hx.out.keep hb24)
    have Hy := Lib.hid (Hy.out.keep hb24)
    have Hz := Lib.hid (Hz.out.keep hb24)
    have Ho := Lib.hid (Ho.out.keep hb24)
    have Hu := Lib.hid (Hu.out.keep hb24)
    have Hv := Lib.hid (Hv.out.keep hb24)
    have Hg := Lib.hid (Hg.out.keep hb24)
    clear hb24 b23
    by_cases hv : V.length + X.length ≤ 80
    · have hv2 : ¬ (80 : Int) < (V.length : Int) + (X.length : Int) := by omega
      have KM := Lib.hid (KM.out hv)
      go_wp2_with fail
      refine (copied' V _ nV _ Hv.out).mono ?_
      rintro e w25 ⟨vq, rfl, oq, hb25⟩
      have hq := hb25.size
      obtain ⟨bs, os⟩ := (Hg.out.keep hb25)
      have hby : (V.length + X.length) * 32 ≤ 140737488355328 := by omega
      have h63 : V.length + X.length ≤ maxLen := by unfold maxLen; omega
      go_wp2_with (first
        | (at_builtin; refine wpList_append_two (by rfl) _ _ _ (by rfl) w24.heap.size 44 i0 _ 4 32 Tryd.underlying25 hii hz0 hz1 hz2 rfl (by decide) _ _ _ (by rfl) oq _ _ _ _ (by rfl) os (pRow_one _) hby h63 hq ?_; intro ve we he be; have OE : Has we ve (V ++ X) := ⟨_, (by unfold Owned; rw [List.length_append, pRow_app]; exact he)⟩; have bje := hb25.trans be)
        | (go_at_call 15; refine (KM.out _ _  OE.row (FM.out.keep bje)).mono ?_; rintro e w26 ⟨vall, rfl, o26, hb26⟩))
      have bjj := thenBelow bje hb26
      have b26 := thenBelow b24 bjj
      have FM := Lib.hid (FM.out.keep bjj)
      have HA := Lib.hid (HA.out.keep bjj)
      have HB := Lib.hid (HB.out.keep bjj)
      have HC := Lib.hid (HC.out.keep bjj)
      have Hx := Lib.hid (Hx.out.keep bjj)
      have Hy := Lib.hid (Hy.out.keep bjj)
      have Hz := Lib.hid (Hz.out.keep bjj)
      have Ho := Lib.hid (Ho.out.keep bjj)
      have Hu := Lib.hid (Hu.out.keep bjj)
      have Hv := Lib.hid (Hv.out.keep bjj)
      have Hg := Lib.hid (Hg.out.keep bjj)
      have Hall : Hid (Has w26 vall U) := Lib.hid ⟨_, o26⟩
      clear o26 oq os he OE be bje bjj hq hby h63 hb26 hb25 b24
      go_wp2_with fail
      refine (same' _ _ U nU _ Hall.out Hu.out).mono ?_
      rintro e w27 ⟨rfl, hb27⟩
      have b27 := thenBelow b26 hb27
      have FM := Lib.hid (FM.out.keep hb27)
      have HA := Lib.hid (HA.out.keep hb27)
      have HB := Lib.hid (HB.out.keep hb27)
      have HC := Lib.hid (HC.out.keep hb27)
      have Hx := Lib.hid (Hx.out.keep hb27)
      have Hy := Lib.hid (Hy.out.keep hb27)
      have Hz := Lib.hid (Hz.out.keep hb27)
      have Ho := Lib.hid (Ho.out.keep hb27)
      have Hu := Lib.hid (Hu.out.keep hb27)
      have Hv := Lib.hid (Hv.out.keep hb27)
      have Hg := Lib.hid (Hg.out.keep hb27)
      have Hall := Lib.hid (Hall.out.keep hb27)
      clear hb27 b26
      go_wp2
      go_ret
      exact ⟨rfl, b27⟩
    · have hv2 : (80 : Int) < (V.length : Int) + (X.length : Int) := by omega
      go_wp2
      go_ret
      exact ⟨rfl, b24⟩
  · have hx2 : (80 : Int) < (X.length : Int) := by omega
    go_wp2_with fail
    refine (cidrSure_calls _ FM.out).mono ?_
    rintro e w7 ⟨rfl, hb7⟩
    have b7 := thenBelow b6 hb7
    have FM := Lib.hid (FM.out.keep hb7)
    have HA := Lib.hid (HA.out.keep hb7)
    have HB := Lib.hid (HB.out.keep hb7)
    have HC := Lib.hid (HC.out.keep hb7)
    have Hx := Lib.hid (Hx.out.keep hb7)
    clear hb7 b6
    go_wp2
    go_ret
    exact ⟨rfl, b7⟩
end Go.Proofs.YtojdlhiibffnfaaDoor
