/-
  fewest.Same: does each address where something may turn go the same way?
-/
import Derived.Test.YtmjlmfbceccjdaaAnyD
import Derived.Test.YtmjlmfbceccjdaaG23
import Derived.Test.YtmjlmfbceccjdaaG9
import Derived.Test.YtmjlmfbceccjdaaTabH
import Derived.Deep.Cut
namespace Go.Proofs.Ytmjlmfbceccjdaa
open Go.RowKit
set_option linter.unusedVariables false
set_option linter.unusedSimpArgs false
/-- Do two tables send this address elsewhere? -/
def difA (l m : List RT) (c : Bool × Nat) : Bool := !decide ((lookA l c.1 c.2).1 = (lookA m c.1 c.2).1)
set_option maxHeartbeats 2000000 in
theorem differs_calls (l m : List RT) (v1 v2 : Value) (b1 b2 : Nat) (c : Bool × Nat) (wl : WordsR l) (wm : WordsR m) (ll : l.length ≤ 1000) (lm : m.length ≤ 1000) (hc : c.2 < 2 ^ 128) (w : World) (r1 : RowR w v1 l) (r2 : RowR w v2 m)
    (c1 : w.cell? ⟨b1, 0, none⟩ = some v1) (c2 : w.cell? ⟨b2, 0, none⟩ = some v2) (hb1 : b1 < w.heap.size) (hb2 : b2 < w.heap.size) :
    Calls Try.prog 40 #[.agg #[.bool c.1, .int .u64 (aH c.2), .int .u64 (aL c.2)], .pointer (some ⟨b1, 0, none⟩), .pointer (some ⟨b2, 0, none⟩)] w fun e w' => e = .returned (.bool (difA l m c)) ∧ Below w.heap.size w w' := by
  have bA := (Below.refl w.heap.size w).alloc (Nat.le_refl _) (.cells #[.bool c.1, .int .u64 (aH c.2), .int .u64 (aL c.2)] 30)
  have A0 := AddrAt.new w c.1 (aH c.2) (aL c.2) 30
  have L1 := Lib.hid (fun (W : World) (r : RowR W v1 l) => tableLook_calls l v1 c.1 c.2 (by omega) wl hc W r)
  have L2 := Lib.hid (fun (W : World) (r : RowR W v2 m) => tableLook_calls m v2 c.1 c.2 (by omega) wm hc W r)
  have R1 := Lib.hid (r1.keep bA)
  have R2 := Lib.hid (r2.keep bA)
  have k1 := (bA.cell (p := ⟨b1, 0, none⟩) hb1).trans c1
  have k2 := (bA.cell (p := ⟨b2, 0, none⟩) hb2).trans c2
  obtain ⟨p1, q1, rfl⟩ := r1.form
  obtain ⟨p2, q2, rfl⟩ := r2.form
  obtain ⟨X, hX⟩ : ∃ X, lookA l c.1 c.2 = X := ⟨_, rfl⟩
  obtain ⟨Y, hY⟩ : ∃ Y, lookA m c.1 c.2 = Y := ⟨_, rfl⟩
  rw [hX] at L1
  rw [hY] at L2
  obtain ⟨rb, hrb⟩ : ∃ rb, difA l m c = rb := ⟨_, rfl⟩
  have HR : Hid ((!decide (X.1 = Y.1)) = rb) := Lib.hid (by rw [← hrb, difA, hX, hY])
  rw [hrb]
  have h0 : b2 < (w.alloc (.cells #[.bool c.1, .int .u64 (aH c.2), .int .u64 (aL c.2)] 30)).heap.size := by simp; omega
  clear r1 r2 hX hY hrb c1 c2
  go_enter Try.func40, Try.ntmps40
  obtain ⟨f0, f1, f2, fl⟩ := A0
  go_wp2_with fail
  refine (L1.out _ R1.out).mono ?_
  rintro e w1 ⟨rfl, hw1⟩
  have A1 := (AddrAt.keep ⟨f0, f1, f2, fl⟩ hw1).alloc (.cells #[.int .i64 0, .int .i64 X.1, .int .i64 X.2] 79)
  have V1 := AnsV.new w1 0 X.1 X.2 79
  have bB := (thenBelow bA hw1).alloc (thenBelow bA hw1).size (.cells #[.int .i64 0, .int .i64 X.1, .int .i64 X.2] 79)
  have R2' := Lib.hid ((R2.out.keep hw1).keep ((Below.refl w1.heap.size w1).alloc (Nat.le_refl _) (.cells #[.int .i64 0, .int .i64 X.1, .int .i64 X.2] 79)))
  have k2' := (((Below.refl w1.heap.size w1).alloc (Nat.le_refl _) (.cells #[.int .i64 0, .int .i64 X.1, .int .i64 X.2] 79)).cell (p := ⟨b2, 0, none⟩) (Nat.lt_of_lt_of_le h0 hw1.size)).trans ((hw1.cell (p := ⟨b2, 0, none⟩) h0).trans k2)
  obtain ⟨a0, a1, a2, al⟩ := A1
  clear L1 R1 R2 k1 k2 f0 f1 f2 fl hw1 bA h0
  go_wp2_with fail
  refine (L2.out _ R2'.out).mono ?_
  rintro e w2 ⟨rfl, hw2⟩
  have V2 := V1.keep hw2 V1.2.2.2.2
  have bC := thenBelow bB hw2
  obtain ⟨z0, z1, z2, _, zl⟩ := V2
  have hz : ¬ w1.heap.size = w2.heap.size := by omega
  clear a0 a1 a2 al R2' k2' hw2 bB V1 L2 z0 z2
  by_cases he : X.1 = Y.1
  · have HE := Lib.hid (show false = rb by rw [← HR.out]; simp [he])
    have hb' : (X.1 == Y.1) = true := by simp [he]
    have HE1 := Lib.hid he
    clear he HR
    go_wp2
    go_ret
    exact ⟨by rw [← HE.out]; simp [HE1.out], bC.alloc bC.size _⟩
  · have HE := Lib.hid (show true = rb by rw [← HR.out]; simp [he])
    have hb' : (X.1 == Y.1) = false := by simp [he]
    have HE1 := Lib.hid he
    clear he HR
    go_wp2
    go_ret
    exact ⟨by rw [← HE.out]; simp [HE1.out], bC.alloc bC.size _⟩
theorem same_dif {l m : List RT} (hl : tabE l = 0) (hm : tabE m = 0) : ((chgL (l ++ m)).any (difA l m) = false) ↔ SameW l m := by
  have vl := (tabE_val hl).1
  have vm := (tabE_val hm).1
  have v2 : ValR (l ++ m) := fun r hr => (List.mem_append.1 hr).elim (vl r) (vm r)
  have look : ∀ (k : List RT), tabE k = 0 → ∀ c : Bool × Nat, c.2 < 2 ^ wideN c.1 → lookA k c.1 c.2 = bestA c.1 c.2 k := fun k hk c hc => by
    have : lookE k c.1 c.2 = 0 := by rw [lookE, if_pos hk, if_pos hc]
    rw [lookA, if_pos this]
  rw [← same_chg vl vm, List.any_eq_false]
  refine ⟨fun h c hc => ?_, fun h c hc => ?_⟩
  · have hv := chg_valid v2 c hc
    have := h c hc
    unfold difA at this
    rw [look l hl c hv, look m hm c hv] at this
    simpa using this
  · have hv := chg_valid v2 c hc
    unfold difA
    rw [look l hl c hv, look m hm c hv]
    simpa using h c hc
set_option maxHeartbeats 4000000 in
set_option maxRecDepth 100000 in
theorem same_ok (l m : List RT) (v1 v2 : Value) (hl : tabE l = 0) (hm : tabE m = 0) (wl : WordsR l) (wm : WordsR m) (w : World) (r1 : RowR w v1 l) (r2 : RowR w v2 m) :
    Calls Try.prog 16 #[v1, v2] w fun e w' => e = .returned (.tuple #[.bool (!(chgL (l ++ m)).any (difA l m)), .int .i64 0]) ∧ Below w.heap.size w w' := by
  have ll := (tabE_val hl).2.2
  have lm := (tabE_val hm).2.2
  have v2' : ValR (l ++ m) := fun r hr => (List.mem_append.1 hr).elim ((tabE_val hl).1 r) ((tabE_val hm).1 r)
  have K1 := Lib.hid (fun (W : World) (r : RowR W v1 l) => tableCheck_calls l v1 (by omega) wl W r)
  have K2 := Lib.hid (fun (W : World) (r : RowR W v2 m) => tableCheck_calls m v2 (by omega) wm W r)
  rw [hl] at K1
  rw [hm] at K2
  have CO := Lib.hid (fun (b : Nat) (W : World) (r1 : RowR W v1 l) (r2 : RowR W v2 m) (c0 : W.cell? ⟨b, 0, none⟩ = some v1) (c1 : W.cell? ⟨b, 1, none⟩ = some v2) (hb : b < W.heap.size) => concatR_calls l m v1 v2 b (by omega) (by omega) W r1 r2 c0 c1 hb)
  have CH := Lib.hid (fun (u : Value) (W : World) (r : RowR W u (l ++ m)) => changes_calls (l ++ m) u v2' (by rw [List.length_append]; omega) W r)
  have hcl := chgL_len (l ++ m)
  rw [List.length_append] at hcl
  have DF := Lib.hid (fun (b1 b2 : Nat) (c : Bool × Nat) (hc : c.2 < 2 ^ 128) (W : World) (r1 : RowR W v1 l) (r2 : RowR W v2 m) (c1 : W.cell? ⟨b1, 0, none⟩ = some v1) (c2 : W.cell? ⟨b2, 0, none⟩ = some v2) (hb1 : b1 < W.heap.size) (hb2 : b2 < W.heap.size) => differs_calls l m v1 v2 b1 b2 c wl wm (by omega) (by omega) hc W r1 r2 c1 c2 hb1 hb2)
  have VC := Lib.hid (fun c (hc : c ∈ chgL (l ++ m)) => lt128 (chg_valid v2' c hc))
  have bA := ((Below.refl w.heap.size w).alloc (Nat.le_refl _) (.cells #[v1] 23)).alloc (by simp) (.cells #[v2] 23)
  have hA0 : ((w.alloc (.cells #[v1] 23)).alloc (.cells #[v2] 23)).cell? ⟨w.heap.size, 0, none⟩ = some v1 := by simp
  have hA1 : ((w.alloc (.cells #[v1] 23)).alloc (.cells #[v2] 23)).cell? ⟨w.heap.size + 1, 0, none⟩ = some v2 := by simp
  have R1 := Lib.hid (r1.keep bA)
  have R2 := Lib.hid (r2.keep bA)
  obtain ⟨p1, q1, rfl⟩ := r1.form
  obtain ⟨p2, q2, rfl⟩ := r2.form
  have hsA : w.heap.size + 1 < ((w.alloc (.cells #[.slice p1 l.length q1] 23)).alloc (.cells #[.slice p2 m.length q2] 23)).heap.size := by simp
  obtain ⟨X, hX⟩ : ∃ X, chgL (l ++ m) = X := ⟨_, rfl⟩
  rw [hX] at CH hcl VC ⊢
  obtain ⟨rb, hrb⟩ : ∃ rb, X.any (difA l m) = rb := ⟨_, rfl⟩
  have HRB := Lib.hid hrb
  rw [hrb]
  clear r1 r2 hX hrb
  go_enter Try.func16, Try.ntmps16
  go_upto_region 1 with fail
  generalize (w.alloc (.cells #[.slice p1 l.length q1] 23)).alloc (.cells #[.slice p2 m.length q2] 23) = Y at bA hA0 hA1 R1 R2 hsA ⊢
  obtain ⟨B1, hB1⟩ : ∃ b, w.heap.size + 1 = b := ⟨_, rfl⟩
  obtain ⟨B, hB⟩ : ∃ b, w.heap.size = b := ⟨_, rfl⟩
  rw [hB1] at hA1 hsA ⊢
  rw [hB] at hA0 bA ⊢
  have hBY : B < Y.heap.size := by omega
  have HB := Lib.hid hB
  clear hB1 hB
  go_wp2_with fail
  refine (K1.out _ R1.out).mono ?_
  rintro e w1 ⟨rfl, hb1⟩
  have b1 : Below B w w1 := bA.trans (hb1.mono (by omega))
  have d0 := (hb1.cell (p := ⟨B, 0, none⟩) hBY).trans hA0
  have d1 := (hb1.cell (p := ⟨B1, 0, none⟩) hsA).trans hA1
  have R11 := Lib.hid (R1.out.keep hb1)
  have R21 := Lib.hid (R2.out.keep hb1)
  have h0 : B < w1.heap.size := Nat.lt_of_lt_of_le hBY hb1.size
  have h1 : B1 < w1.heap.size := Nat.lt_of_lt_of_le hsA hb1.size
  clear hb1 R1 R2 K1 hA0 hA1 bA hsA hBY
  go_wp2_with fail
  refine (K2.out _ R21.out).mono ?_
  rintro e w2 ⟨rfl, hb2⟩
  have b2 : Below B w w2 := b1.trans (hb2.mono (by omega))
  have e0 := (hb2.cell (p := ⟨B, 0, none⟩) h0).trans d0
  have e1 := (hb2.cell (p := ⟨B1, 0, none⟩) h1).trans d1
  have R12 := Lib.hid (R11.out.keep hb2)
  have R22 := Lib.hid (R21.out.keep hb2)
  have k0 : B < w2.heap.size := Nat.lt_of_lt_of_le h0 hb2.size
  have k1 : B1 < w2.heap.size := Nat.lt_of_lt_of_le h1 hb2.size
  clear hb2 R11 R21 K2 d0 d1 b1 h0 h1
  have bS := (Below.refl w2.heap.size w2).alloc (Nat.le_refl _) (.cells #[.slice p1 l.length q1, .slice p2 m.length q2] 23)
  have C1 := Lib.hid (CO.out w2.heap.size (w2.alloc (.cells #[.slice p1 l.length q1, .slice p2 m.length q2] 23)) (R12.out.keep bS) (R22.out.keep bS) (by simp) (by simp) (by simp))
  go_wp2_with fail
  refine C1.out.mono ?_
  rintro e w3 ⟨u3, rfl, ho3, hb3⟩
  have hs3 := bS.size
  have b3 : Below w2.heap.size w2 w3 := thenBelow bS hb3
  have RC := Lib.hid (OwnR.row ho3)
  clear C1 CO ho3 hb3 bS hs3
  go_wp2_with fail
  refine (CH.out _ _ RC.out).mono ?_
  rintro e w4 ⟨u4, rfl, ho4, hb4⟩
  have b4 := thenBelow b3 hb4
  have RX := Lib.hid (OwnD.row ho4)
  have f0 := (b4.cell (p := ⟨B, 0, none⟩) k0).trans e0
  have f1 := (b4.cell (p := ⟨B1, 0, none⟩) k1).trans e1
  have R14 := Lib.hid (R12.out.keep b4)
  have R24 := Lib.hid (R22.out.keep b4)
  have j0 : B < w4.heap.size := Nat.lt_of_lt_of_le k0 b4.size
  have j1 : B1 < w4.heap.size := Nat.lt_of_lt_of_le k1 b4.size
  have b5 : Below B w w4 := b2.trans (b4.mono (by omega))
  have CF := Lib.hid (containsD_calls X u4 40 #[.pointer (some ⟨B, 0, none⟩), .pointer (some ⟨B1, 0, none⟩)] (difA l m) (by omega) w4 RX.out (enters_of Try.func40 (by kernel_rfl) rfl)
    (Lib.hid fun c hc W hW => DF.out B B1 c (VC.out c hc) W (R14.out.keep hW) (R24.out.keep hW) ((hW.cell (p := ⟨B, 0, none⟩) j0).trans f0) ((hW.cell (p := ⟨B1, 0, none⟩) j1).trans f1) (Nat.lt_of_lt_of_le j0 hW.size) (Nat.lt_of_lt_of_le j1 hW.size)))
  rw [HRB.out] at CF
  clear b3 hb4 ho4 CH RC R12 R22 e0 e1 b2 R14 R24 f0 f1 DF VC HRB
  go_wp2_with fail
  refine CF.out.mono ?_
  rintro e w5 ⟨rfl, hb5⟩
  have b6 : Below B w w5 := b5.trans (hb5.mono (by omega))
  clear CF RX b4 hb5
  go_wp2
  go_ret2
  exact ⟨by simp, by rw [HB.out]; exact b6⟩
end Go.Proofs.Ytmjlmfbceccjdaa
