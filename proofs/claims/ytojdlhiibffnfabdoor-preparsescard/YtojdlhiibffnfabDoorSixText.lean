/-
  The contracts of addr.split, addr.longestZeros, addr.sixText.
-/
import Derived.Test.YtojdlhiibffnfabDoorGroupsText
namespace Go.Proofs.YtojdlhiibffnfabDoor
open Go.RowKit Go.Sort
set_option linter.unusedVariables false
set_option linter.unusedSimpArgs false

theorem and65535 (x : Nat) (h : x < 18446744073709551616) : bits .and .u64 (x : Int) 65535 = ((x % 65536 : Nat) : Int) := by
  have h2 := bits_and_u64_nat x 65535 (by omega) (by omega)
  rw [show (65535 : Nat) = 2 ^ 16 - 1 from rfl, Nat.and_two_pow_sub_one_eq_mod] at h2
  exact h2

set_option maxHeartbeats 2000000 in
set_option maxRecDepth 100000 in
theorem split_calls (six : Bool) (H L g0 g1 g2 g3 g4 g5 g6 g7 : Nat) (h1 : H < 18446744073709551616) (l1 : L < 18446744073709551616) (e0 : H / 281474976710656 % 65536 = g0) (e1 : H / 4294967296 % 65536 = g1) (e2 : H / 65536 % 65536 = g2) (e3 : H % 65536 = g3) (e4 : L / 281474976710656 % 65536 = g4) (e5 : L / 4294967296 % 65536 = g5) (e6 : L / 65536 % 65536 = g6) (e7 : L % 65536 = g7) (w : World) :
    Calls Tryd.prog 36 #[.agg #[.bool six, .int .u64 (H : Int), .int .u64 (L : Int)]] w fun e w' => e = .returned (.agg #[.int .u64 (g0 : Int), .int .u64 (g1 : Int), .int .u64 (g2 : Int), .int .u64 (g3 : Int), .int .u64 (g4 : Int), .int .u64 (g5 : Int), .int .u64 (g6 : Int), .int .u64 (g7 : Int)]) ∧ Below w.heap.size w w' := by
  have a0 : bits .and .u64 (((H : Nat) : Int) / 281474976710656) 65535 = (g0 : Int) := by rw [← e0]; have := and65535 (H / 281474976710656) (by omega); simpa using this
  have a1 : bits .and .u64 (((H : Nat) : Int) / 4294967296) 65535 = (g1 : Int) := by rw [← e1]; have := and65535 (H / 4294967296) (by omega); simpa using this
  have a2 : bits .and .u64 (((H : Nat) : Int) / 65536) 65535 = (g2 : Int) := by rw [← e2]; have := and65535 (H / 65536) (by omega); simpa using this
  have a3 : bits .and .u64 (((H : Nat) : Int)) 65535 = (g3 : Int) := by rw [← e3]; have := and65535 (H) (by omega); simpa using this
  have a4 : bits .and .u64 (((L : Nat) : Int) / 281474976710656) 65535 = (g4 : Int) := by rw [← e4]; have := and65535 (L / 281474976710656) (by omega); simpa using this
  have a5 : bits .and .u64 (((L : Nat) : Int) / 4294967296) 65535 = (g5 : Int) := by rw [← e5]; have := and65535 (L / 4294967296) (by omega); simpa using this
  have a6 : bits .and .u64 (((L : Nat) : Int) / 65536) 65535 = (g6 : Int) := by rw [← e6]; have := and65535 (L / 65536) (by omega); simpa using this
  have a7 : bits .and .u64 (((L : Nat) : Int)) 65535 = (g7 : Int) := by rw [← e7]; have := and65535 (L) (by omega); simpa using this
  clear e0 e1 e2 e3 e4 e5 e6 e7
  go_enter Tryd.func36, Tryd.ntmps36
  go_wp2
  go_rounds 9
  go_returns
  exact ⟨rfl, by go_grown⟩

theorem getD_zero (l : List Nat) (k : Nat) (h : k < l.length) : (l.map (· == 0)).getD k false = (l.getD k 0 == 0) := by
  simp [List.getD_eq_getElem?_getD, h]

/-- One group more: where the run of zeros began; where the longest one begins and has ended. -/
def lzStep (s : Int × Int × Int) (i : Int) (z : Bool) : Int × Int × Int :=
  if z then (if s.2.2 - s.2.1 < i + 1 - s.1 then (s.1, s.1, i + 1) else s) else (i + 1, s.2.1, s.2.2)
def lzTo (zs : List Bool) : Nat → Int × Int × Int
  | 0 => (0, 0, 0)
  | k + 1 => lzStep (lzTo zs k) k (zs.getD k false)
theorem lzTo_bd (zs : List Bool) (k : Nat) : 0 ≤ (lzTo zs k).1 ∧ (lzTo zs k).1 ≤ k ∧ 0 ≤ (lzTo zs k).2.1 ∧ (lzTo zs k).2.1 ≤ (lzTo zs k).2.2 ∧ (lzTo zs k).2.2 ≤ k := by
  induction k with
  | zero => simp [lzTo]
  | succ k ih =>
    simp only [lzTo, lzStep]
    split
    · split
      · simp only; omega
      · omega
    · simp only; omega

theorem index8 (k : Nat) (hk : k < 8) (g0 g1 g2 g3 g4 g5 g6 g7 : Nat) (W : World) : (Instr.index 62 (.agg #[.int .u64 (g0 : Int), .int .u64 (g1 : Int), .int .u64 (g2 : Int), .int .u64 (g3 : Int), .int .u64 (g4 : Int), .int .u64 (g5 : Int), .int .u64 (g6 : Int), .int .u64 (g7 : Int)]) (.int .i64 (k : Int))).run Tryd.prog W = .ok (.int .u64 ((([g0, g1, g2, g3, g4, g5, g6, g7] : List Nat).getD k 0 : Nat) : Int)) W := by
  have hn : k = 0 ∨ k = 1 ∨ k = 2 ∨ k = 3 ∨ k = 4 ∨ k = 5 ∨ k = 6 ∨ k = 7 := by omega
  have i0 : (Instr.index 62 (.agg #[.int .u64 (g0 : Int), .int .u64 (g1 : Int), .int .u64 (g2 : Int), .int .u64 (g3 : Int), .int .u64 (g4 : Int), .int .u64 (g5 : Int), .int .u64 (g6 : Int), .int .u64 (g7 : Int)]) (.int .i64 0)).run Tryd.prog W = .ok (.int .u64 (g0 : Int)) W := by kernel_rfl
  have i1 : (Instr.index 62 (.agg #[.int .u64 (g0 : Int), .int .u64 (g1 : Int), .int .u64 (g2 : Int), .int .u64 (g3 : Int), .int .u64 (g4 : Int), .int .u64 (g5 : Int), .int .u64 (g6 : Int), .int .u64 (g7 : Int)]) (.int .i64 1)).run Tryd.prog W = .ok (.int .u64 (g1 : Int)) W := by kernel_rfl
  have i2 : (Instr.index 62 (.agg #[.int .u64 (g0 : Int), .int .u64 (g1 : Int), .int .u64 (g2 : Int), .int .u64 (g3 : Int), .int .u64 (g4 : Int), .int .u64 (g5 : Int), .int .u64 (g6 : Int), .int .u64 (g7 : Int)]) (.int .i64 2)).run Tryd.prog W = .ok (.int .u64 (g2 : Int)) W := by kernel_rfl
  have i3 : (Instr.index 62 (.agg #[.int .u64 (g0 : Int), .int .u64 (g1 : Int), .int .u64 (g2 : Int), .int .u64 (g3 : Int), .int .u64 (g4 : Int), .int .u64 (g5 : Int), .int .u64 (g6 : Int), .int .u64 (g7 : Int)]) (.int .i64 3)).run Tryd.prog W = .ok (.int .u64 (g3 : Int)) W := by kernel_rfl
  have i4 : (Instr.index 62 (.agg #[.int .u64 (g0 : Int), .int .u64 (g1 : Int), .int .u64 (g2 : Int), .int .u64 (g3 : Int), .int .u64 (g4 : Int), .int .u64 (g5 : Int), .int .u64 (g6 : Int), .int .u64 (g7 : Int)]) (.int .i64 4)).run Tryd.prog W = .ok (.int .u64 (g4 : Int)) W := by kernel_rfl
  have i5 : (Instr.index 62 (.agg #[.int .u64 (g0 : Int), .int .u64 (g1 : Int), .int .u64 (g2 : Int), .int .u64 (g3 : Int), .int .u64 (g4 : Int), .int .u64 (g5 : Int), .int .u64 (g6 : Int), .int .u64 (g7 : Int)]) (.int .i64 5)).run Tryd.prog W = .ok (.int .u64 (g5 : Int)) W := by kernel_rfl
  have i6 : (Instr.index 62 (.agg #[.int .u64 (g0 : Int), .int .u64 (g1 : Int), .int .u64 (g2 : Int), .int .u64 (g3 : Int), .int .u64 (g4 : Int), .int .u64 (g5 : Int), .int .u64 (g6 : Int), .int .u64 (g7 : Int)]) (.int .i64 6)).run Tryd.prog W = .ok (.int .u64 (g6 : Int)) W := by kernel_rfl
  have i7 : (Instr.index 62 (.agg #[.int .u64 (g0 : Int), .int .u64 (g1 : Int), .int .u64 (g2 : Int), .int .u64 (g3 : Int), .int .u64 (g4 : Int), .int .u64 (g5 : Int), .int .u64 (g6 : Int), .int .u64 (g7 : Int)]) (.int .i64 7)).run Tryd.prog W = .ok (.int .u64 (g7 : Int)) W := by kernel_rfl
  rcases hn with rfl | rfl | rfl | rfl | rfl | rfl | rfl | rfl
  · exact i0
  · exact i1
  · exact i2
  · exact i3
  · exact i4
  · exact i5
  · exact i6
  · exact i7

set_option maxHeartbeats 2000000 in
set_option maxRecDepth 100000 in
theorem longestZeros_calls (g0 g1 g2 g3 g4 g5 g6 g7 : Nat) (zs : List Bool) (hz : zs = ([g0, g1, g2, g3, g4, g5, g6, g7] : List Nat).map (· == 0)) (w : World) :
    Calls Tryd.prog 37 #[.agg #[.int .u64 (g0 : Int), .int .u64 (g1 : Int), .int .u64 (g2 : Int), .int .u64 (g3 : Int), .int .u64 (g4 : Int), .int .u64 (g5 : Int), .int .u64 (g6 : Int), .int .u64 (g7 : Int)]] w fun e w' => e = .returned (.tuple #[.int .i64 (lzTo zs 8).2.1, .int .i64 (lzTo zs 8).2.2]) ∧ Below w.heap.size w w' := by
  have HZ := Lib.hid hz
  clear hz
  go_enter Tryd.func37, Tryd.ntmps37
  go_wp2
  go_loop [2, 3, 4, 8] (fun f t s i => ∃ k : Nat, k ≤ 8 ∧ i = .int .i64 k ∧ s = .int .i64 (lzTo zs k).1 ∧ f = .int .i64 (lzTo zs k).2.1 ∧ t = .int .i64 (lzTo zs k).2.2)
    (fun _ _ _ i => 8 - (intOf i).toNat)
  case atStart => exact ⟨0, by omega, rfl, rfl, rfl, rfl⟩
  case round =>
    obtain ⟨k, hk, rfl, rfl, rfl, rfl⟩ := hrel
    obtain ⟨b1, b2, b3, b4, b5⟩ := lzTo_bd zs k
    by_cases hlt : k < 8
    · have hix := index8 k hlt g0 g1 g2 g3 g4 g5 g6 g7
      obtain ⟨p, hp⟩ : ∃ p, ([g0, g1, g2, g3, g4, g5, g6, g7] : List Nat).getD k 0 = p := ⟨_, rfl⟩
      have hzk : zs.getD k false = (p == 0) := by
        rw [HZ.out, ← hp]
        exact getD_zero _ k hlt
      rw [hp] at hix
      have HS : Hid (lzTo zs (k + 1) = lzStep (lzTo zs k) k (p == 0)) := by show lzTo zs (k + 1) = _; rw [← hzk]; rfl
      clear hp hzk
      obtain ⟨s, hs⟩ : ∃ s, (lzTo zs k).1 = s := ⟨_, rfl⟩
      obtain ⟨f, hf⟩ : ∃ f, (lzTo zs k).2.1 = f := ⟨_, rfl⟩
      obtain ⟨t, ht⟩ : ∃ t, (lzTo zs k).2.2 = t := ⟨_, rfl⟩
      have he : lzTo zs k = (s, f, t) := by rw [← hs, ← hf, ← ht]
      rw [hs, hf, ht]
      rw [hs] at b1 b2; rw [hf] at b3 b4; rw [ht] at b4 b5
      have HE := Lib.hid he
      clear he hs hf ht
      by_cases h0 : p = 0
      · subst h0
        by_cases hl : t - f < k + 1 - s
        · have hfin : Hid (lzTo zs (k + 1) = (s, s, (k : Int) + 1)) := by show _ = _; rw [HS.out, HE.out]; simp [lzStep, hl]
          go_wp2
          go_round
          case rel => exact ⟨k + 1, by omega, by go_num, by rw [hfin.out], by rw [hfin.out], by rw [hfin.out]⟩
          case measure => simp [intOf]; omega
        · have hfin : Hid (lzTo zs (k + 1) = (s, f, t)) := by show _ = _; rw [HS.out, HE.out]; simp [lzStep, hl]
          go_wp2
          go_round
          case rel => exact ⟨k + 1, by omega, by go_num, by rw [hfin.out], by rw [hfin.out], by rw [hfin.out]⟩
          case measure => simp [intOf]; omega
      · have hne : ((p : Int) != 0) = true := by simp; omega
        have hfin : Hid (lzTo zs (k + 1) = ((k : Int) + 1, f, t)) := by show _ = _; rw [HS.out, HE.out]; simp [lzStep, h0]
        clear h0
        go_wp2
        go_round
        case rel => exact ⟨k + 1, by omega, by go_num, by rw [hfin.out], by rw [hfin.out], by rw [hfin.out]⟩
        case measure => simp [intOf]; omega
    · obtain rfl : k = 8 := by omega
      go_wp2
      go_ret2
      exact ⟨rfl, by go_grown⟩

/-- The eight groups. -/
def grpP (H L : Nat) : List Nat := [H / 281474976710656 % 65536, H / 4294967296 % 65536, H / 65536 % 65536, H % 65536, L / 281474976710656 % 65536, L / 4294967296 % 65536, L / 65536 % 65536, L % 65536]
def zeroP (gs : List Nat) : List Bool := gs.map (· == 0)
/-- The text of an IPv6 address with these groups. -/
def sixT (gs : List Nat) : List UInt8 :=
  let f := (lzTo (zeroP gs) 8).2.1
  let t := (lzTo (zeroP gs) 8).2.2
  if t - f < 2 then Lib.join (hexT gs) [58] else Lib.join (hexT (gs.take f.toNat)) [58] ++ [58, 58] ++ Lib.join (hexT (gs.drop t.toNat)) [58]

theorem hexJoin_len (gs : List Nat) (h : gs.length ≤ 8) : (Lib.join (hexT gs) [58]).length ≤ 40 := by
  have hj := join_len_le (hexT gs) [58] 4 (fun t ht => by
    simp only [hexT, List.mem_map] at ht
    obtain ⟨p, _, rfl⟩ := ht
    exact numText16_len p)
  have : (hexT gs).length = gs.length := by simp [hexT]
  rw [this] at hj
  simp at hj
  omega
/-- The groups lie in block b, and the tables are there. -/
def GrpAt (w : World) (b : Nat) (gs : List Nat) : Prop := (∀ (j u : Nat), gs[j]? = some u → w.cell? ⟨b, j, none⟩ = some (.int .u64 (u : Int))) ∧ b < w.heap.size ∧ Tabs w
theorem GrpAt.keep {w w' : World} {b : Nat} {gs : List Nat} (h : GrpAt w b gs) (hb : Below w.heap.size w w') : GrpAt w' b gs :=
  ⟨fun j u hj => (hb.cell (p := ⟨b, j, none⟩) h.2.1).trans (h.1 j u hj), Nat.lt_of_lt_of_le h.2.1 hb.size, h.2.2.keep hb⟩
theorem gt_head {w : World} {b : Nat} {gs : List Nat} (h : GrpAt w b gs) (hl : gs.length = 8) (hg : ∀ u ∈ gs, u < 65536) (f cap : Nat) (hf : f ≤ 8) :
    Calls Tryd.prog 38 #[.slice (some ⟨b, 0, none⟩) f cap] w fun e w' => e = .returned (.string ⟨(Lib.join (hexT (gs.take f)) [58]).toArray⟩) ∧ Below w.heap.size w w' :=
  groupsText_calls (gs.take f) f (by rw [List.length_take]; omega) hf (fun u hu => hg u (List.mem_of_mem_take hu)) b 0 cap w h.2.1 (fun j u hj => by
    have hjf : j < f := by have := (List.getElem?_eq_some_iff.1 hj).1; rw [List.length_take] at this; omega
    rw [List.getElem?_take_of_lt hjf] at hj
    rw [Nat.zero_add]; exact h.1 j u hj) h.2.2
theorem gt_tail {w : World} {b : Nat} {gs : List Nat} (h : GrpAt w b gs) (hl : gs.length = 8) (hg : ∀ u ∈ gs, u < 65536) (t o n cap : Nat) (ht : t ≤ 8) (hn : n = 8 - t) (ho : t < 8 → o = t) :
    Calls Tryd.prog 38 #[.slice (some ⟨b, o, none⟩) n cap] w fun e w' => e = .returned (.string ⟨(Lib.join (hexT (gs.drop t)) [58]).toArray⟩) ∧ Below w.heap.size w w' :=
  groupsText_calls (gs.drop t) n (by rw [List.length_drop]; omega) (by omega) (fun u hu => hg u (List.mem_of_mem_drop hu)) b o cap w h.2.1 (fun j u hj => by
    have hjl : j < 8 - t := by have := (List.getElem?_eq_some_iff.1 hj).1; rw [List.length_drop] at this; omega
    rw [List.getElem?_drop] at hj
    rw [ho (by omega)]; exact h.1 (t + j) u hj) h.2.2

set_option maxHeartbeats 2000000 in
set_option maxRecDepth 100000 in
theorem sixText_calls (six : Bool) (H L : Nat) (h1 : H < 18446744073709551616) (l1 : L < 18446744073709551616) (w : World) (ht : Tabs w) :
    Calls Tryd.prog 22 #[.agg #[.bool six, .int .u64 (H : Int), .int .u64 (L : Int)]] w fun e w' => e = .returned (.string ⟨(sixT (grpP H L)).toArray⟩) ∧ Below w.heap.size w w' := by
  have HT := Lib.hid ht
  clear ht
  obtain ⟨g0, e0⟩ : ∃ g, H / 281474976710656 % 65536 = g := ⟨_, rfl⟩
  obtain ⟨g1, e1⟩ : ∃ g, H / 4294967296 % 65536 = g := ⟨_, rfl⟩
  obtain ⟨g2, e2⟩ : ∃ g, H / 65536 % 65536 = g := ⟨_, rfl⟩
  obtain ⟨g3, e3⟩ : ∃ g, H % 65536 = g := ⟨_, rfl⟩
  obtain ⟨g4, e4⟩ : ∃ g, L / 281474976710656 % 65536 = g := ⟨_, rfl⟩
  obtain ⟨g5, e5⟩ : ∃ g, L / 4294967296 % 65536 = g := ⟨_, rfl⟩
  obtain ⟨g6, e6⟩ : ∃ g, L / 65536 % 65536 = g := ⟨_, rfl⟩
  obtain ⟨g7, e7⟩ : ∃ g, L % 65536 = g := ⟨_, rfl⟩
  have hG : grpP H L = [g0, g1, g2, g3, g4, g5, g6, g7] := by unfold grpP; rw [e0, e1, e2, e3, e4, e5, e6, e7]
  have hlt : ∀ u ∈ [g0, g1, g2, g3, g4, g5, g6, g7], u < 65536 := by
    intro u hu
    simp only [List.mem_cons, List.mem_nil_iff, or_false] at hu
    omega
  rw [hG]
  have C1 := Lib.hid (fun W => split_calls six H L g0 g1 g2 g3 g4 g5 g6 g7 h1 l1 e0 e1 e2 e3 e4 e5 e6 e7 W)
  have C2 := Lib.hid (fun W => longestZeros_calls g0 g1 g2 g3 g4 g5 g6 g7 _ rfl W)
  have HLT := Lib.hid hlt
  clear hG hlt e0 e1 e2 e3 e4 e5 e6 e7
  obtain ⟨zs, hzs⟩ : ∃ zs, ([g0, g1, g2, g3, g4, g5, g6, g7] : List Nat).map (· == 0) = zs := ⟨_, rfl⟩
  rw [hzs] at C2
  have hsix : sixT [g0, g1, g2, g3, g4, g5, g6, g7] = if (lzTo zs 8).2.2 - (lzTo zs 8).2.1 < 2 then Lib.join (hexT [g0, g1, g2, g3, g4, g5, g6, g7]) [58] else Lib.join (hexT (([g0, g1, g2, g3, g4, g5, g6, g7] : List Nat).take (lzTo zs 8).2.1.toNat)) [58] ++ [58, 58] ++ Lib.join (hexT (([g0, g1, g2, g3, g4, g5, g6, g7] : List Nat).drop (lzTo zs 8).2.2.toNat)) [58] := by rw [← hzs]; rfl
  obtain ⟨b1, b2, b3, b4, b5⟩ := lzTo_bd zs 8
  obtain ⟨f, hf⟩ := Int.eq_ofNat_of_zero_le b3
  obtain ⟨t, ht⟩ := Int.eq_ofNat_of_zero_le (Int.le_trans b3 b4)
  rw [hf, ht] at hsix C2
  rw [hf] at b3 b4; rw [ht] at b4 b5
  simp only [Int.toNat_natCast] at hsix
  have HSX := Lib.hid hsix
  clear hsix hf ht b1 b2 b3 hzs
  obtain ⟨T, hT⟩ : ∃ T, sixT [g0, g1, g2, g3, g4, g5, g6, g7] = T := ⟨_, rfl⟩
  rw [hT]
  rw [hT] at HSX
  clear hT
  go_enter Tryd.func22, Tryd.ntmps22
  go_wp2_with fail
  refine (C1.out _).mono ?_
  rintro e w1 ⟨rfl, hb1⟩
  have bb1 := thenBelow ((Below.refl _ w).alloc (Nat.le_refl _) _) hb1
  clear hb1
  go_wp2_with fail
  refine (C2.out _).mono ?_
  rintro e w2 ⟨rfl, hb2⟩
  have bb2 := thenBelow (bb1.alloc bb1.size _) hb2
  have row : ∀ (j u : Nat), ([g0, g1, g2, g3, g4, g5, g6, g7] : List Nat)[j]? = some u → w2.cell? ⟨w1.heap.size, j, none⟩ = some (.int .u64 (u : Int)) := by
    intro j u hj
    have hj8 : j < 8 := (List.getElem?_eq_some_iff.1 hj).1
    rw [hb2.cell (p := ⟨w1.heap.size, j, none⟩) (by simp), World.cell?_alloc_new]
    match j, hj8 with
    | 0, _ => simp at hj; subst hj; rfl
    | 1, _ => simp at hj; subst hj; rfl
    | 2, _ => simp at hj; subst hj; rfl
    | 3, _ => simp at hj; subst hj; rfl
    | 4, _ => simp at hj; subst hj; rfl
    | 5, _ => simp at hj; subst hj; rfl
    | 6, _ => simp at hj; subst hj; rfl
    | 7, _ => simp at hj; subst hj; rfl
  have G2 : GrpAt w2 w1.heap.size [g0, g1, g2, g3, g4, g5, g6, g7] := ⟨row, by have := hb2.size; simp at this; omega, HT.out.keep bb2⟩
  clear row hb2
  by_cases hs : (t : Int) - f < 2
  · have hx := HSX.out
    rw [if_pos hs] at hx
    have HX := Lib.hid hx
    have c := gt_head G2 rfl HLT.out 8 8 (by omega)
    have C := Lib.hid c
    clear c hx
    go_wp2_with (go_at_call 38; refine C.out.mono ?_; rintro e w3 ⟨rfl, hb3⟩)
    go_ret
    exact ⟨by rw [HX.out]; rfl, thenBelow bb2 hb3⟩
  · have hx := HSX.out
    rw [if_neg hs] at hx
    have HX := Lib.hid hx
    clear hx
    have hal : Tryd.prog.arrayLen 62 = 8 := by kernel_rfl
    have hsl1 : ∀ W, (Instr.sliceAt 62 (.pointer (some ⟨w1.heap.size, 0, none⟩)) none (some (.int .i64 (f : Int))) none).run Tryd.prog W = .ok (.slice (some ⟨w1.heap.size, 0, none⟩) f 8) W := fun W => by
      rw [run_sliceAt_array_h W 62 ⟨w1.heap.size, 0, none⟩ (by kernel_rfl) .i64 (f : Int) (by omega) (by rw [hal]; omega), hal]
      go_simp
    have hsl2 : ∀ W, (Instr.sliceAt 62 (.pointer (some ⟨w1.heap.size, 0, none⟩)) (some (.int .i64 (t : Int))) none none).run Tryd.prog W = .ok (.slice (some ⟨w1.heap.size, if t < 8 then t else 0, none⟩) (8 - t) (8 - t)) W := fun W => by
      rw [run_sliceAt_array_l W 62 ⟨w1.heap.size, 0, none⟩ (by kernel_rfl) .i64 (t : Int) (by omega) (by rw [hal]; omega), hal]
      by_cases h8 : t < 8
      · rw [if_pos h8]
        have : ¬ 8 = t := by omega
        go_simp
      · obtain rfl : t = 8 := by omega
        go_simp
    clear hal
    obtain ⟨o, ho⟩ : ∃ o, (if t < 8 then t else 0) = o := ⟨_, rfl⟩
    have HO : Hid (t < 8 → o = t) := fun h => by rw [← ho, if_pos h]
    rw [ho] at hsl2
    clear ho
    obtain ⟨A, hA⟩ : ∃ A, Lib.join (hexT (([g0, g1, g2, g3, g4, g5, g6, g7] : List Nat).take f)) [58] = A := ⟨_, rfl⟩
    obtain ⟨B, hB⟩ : ∃ B, Lib.join (hexT (([g0, g1, g2, g3, g4, g5, g6, g7] : List Nat).drop t)) [58] = B := ⟨_, rfl⟩
    have lA : A.length ≤ 40 := by rw [← hA]; exact hexJoin_len _ (by rw [List.length_take]; exact Nat.min_le_right _ _)
    have lB : B.length ≤ 40 := by rw [← hB]; exact hexJoin_len _ (by rw [List.length_drop]; simp)
    have ha1 : ∀ W, (Op.stringOp .add ⟨A.toArray⟩ ⟨#[58, 58]⟩).run Tryd.prog W = .ok (.string ⟨(A ++ [58, 58]).toArray⟩) W := fun W => run_string_add_lists W A [58, 58] (by omega) (by simp)
    have ha2 : ∀ W, (Op.stringOp .add ⟨(A ++ [58, 58]).toArray⟩ ⟨B.toArray⟩).run Tryd.prog W = .ok (.string ⟨(A ++ [58, 58] ++ B).toArray⟩) W := fun W => run_string_add_lists W (A ++ [58, 58]) B (by simp; omega) (by omega)
    obtain ⟨AC, hAC⟩ : ∃ AC, A ++ [58, 58] = AC := ⟨_, rfl⟩
    obtain ⟨D, hD⟩ : ∃ D, AC ++ B = D := ⟨_, rfl⟩
    rw [hAC] at ha1 ha2
    rw [hD] at ha2
    have HX2 : Hid (T = D) := by show T = D; rw [HX.out, hA, hB, hAC, hD]
    have K1 : Hid (∀ W, GrpAt W w1.heap.size [g0, g1, g2, g3, g4, g5, g6, g7] → Calls Tryd.prog 38 #[.slice (some ⟨w1.heap.size, 0, none⟩) f 8] W fun e w' => e = .returned (.string ⟨A.toArray⟩) ∧ Below W.heap.size W w') := fun W hW => by rw [← hA]; exact gt_head hW rfl HLT.out f 8 (by omega)
    have K2 : Hid (∀ W, GrpAt W w1.heap.size [g0, g1, g2, g3, g4, g5, g6, g7] → Calls Tryd.prog 38 #[.slice (some ⟨w1.heap.size, o, none⟩) (8 - t) (8 - t)] W fun e w' => e = .returned (.string ⟨B.toArray⟩) ∧ Below W.heap.size W w') := fun W hW => by rw [← hB]; exact gt_tail hW rfl HLT.out t o (8 - t) (8 - t) (by omega) rfl HO.out
    clear hA hB hAC hD HX lA lB
    go_wp2
    go_region_held3 (fun w' => GrpAt w' w1.heap.size [g0, g1, g2, g3, g4, g5, g6, g7]) (first | assumption | exact G3 | exact G4)
      (first
        | (go_at_call 38; (with_reducible refine (K1.out _ ?_).mono ?_); (focus assumption); rintro e w3 ⟨rfl, hb3⟩; have G3 := GrpAt.keep (by assumption) hb3)
        | (go_at_call 38; (with_reducible refine (K2.out _ ?_).mono ?_); (focus assumption); rintro e w4 ⟨rfl, hb4⟩; have G4 := GrpAt.keep (by assumption) hb4))
    go_wp2
    go_ret
    exact ⟨by rw [HX2.out]; rfl, thenBelow (thenBelow (show Below w.heap.size w w2.drew from bb2.drew) hb3) hb4⟩
end Go.Proofs.YtojdlhiibffnfabDoor
