/-
  The contracts of the document's addrOf and AddrNext.
-/
import Derived.Test.YtnmocjlleejijaaNext
import Derived.Test.YtnmocjlleejijaaBitsOf
namespace Go.Proofs.Ytnmocjlleejijaa
open Go.RowKit
set_option linter.unusedVariables false
set_option linter.unusedSimpArgs false

theorem two_alloc {w : World} {g k : Nat} {u : Value} (hg : g < w.heap.size) (h : w.cell? ⟨g, k, none⟩ = some u) (o1 o2 : Obj) : ((w.alloc o1).alloc o2).cell? ⟨g, k, none⟩ = some u := by
  rw [World.cell?_alloc_lt _ _ _ (by simp; omega), World.cell?_alloc_lt _ _ _ hg]; exact h

set_option maxHeartbeats 1000000 in
set_option maxRecDepth 100000 in
theorem addrOf_six (l : List Int) (hl : l.length = 128) (h01 : ∀ b ∈ l, b = 0 ∨ b = 1) (g cap : Nat) (w : World) (hg : g < w.heap.size) (hc : ∀ j u, l[j]? = some u → w.cell? ⟨g, j, none⟩ = some (.int .i64 u)) :
    Calls Try.prog 22 #[.slice (some ⟨g, 0, none⟩) 128 cap] w fun e w' => e = .returned (.agg #[.bool true, .int .u64 (spell (l.take 64)), .int .u64 (spell (l.drop 64))]) ∧ Below w.heap.size w w' := by
  have HL := Lib.hid hl; have H01 := Lib.hid h01; have HC := Lib.hid hc
  clear hl h01 hc
  go_enter Try.func22, Try.ntmps22
  go_wp2
  go_loopw [12] (fun i wr => ∃ k : Nat, k ≤ 128 ∧ i = .int .i64 k ∧ wr = (w.alloc (.cells #[.bool false, .int .u64 0, .int .u64 0] 24)).alloc (.cells #[.bool true, .int .u64 (hiTo l k), .int .u64 (loTo l k)] 24))
    (fun i _ => 128 - (intOf i).toNat)
  case atStart => exact ⟨0, by omega, rfl, by simp [hiTo, loTo, spell_nil]⟩
  case round =>
    obtain ⟨k, hk, rfl, rfl⟩ := hrel
    by_cases hlt : k < 128
    · have hkl : k < l.length := by rw [HL.out]; exact hlt
      obtain ⟨b, hb⟩ : ∃ b, b = l[k] := ⟨_, rfl⟩
      have HB := Lib.hid hb
      have hcell := two_alloc hg (HC.out k b (by rw [hb]; exact List.getElem?_eq_getElem hkl))
      have hb01 : b = 0 ∨ b = 1 := H01.out b (by rw [hb]; exact List.getElem_mem hkl)
      have hb0 : 0 ≤ b := by omega
      have hb1 : b ≤ 1 := by omega
      clear hb01 hb
      by_cases h64 : k < 64
      · have bd := hiTo_bd l k h64 H01.out
        have S1 := Lib.hid (hiTo_lt l k h64 hkl)
        have S2 := Lib.hid (loTo_lt l k h64)
        obtain ⟨bd0, bd1⟩ := bd
        go_wp2
        go_roundw
        case rel => exact ⟨k + 1, by omega, by go_num, by rw [S1.out, S2.out, HB.out]⟩
        case measure => simp [intOf]; omega
      · have bd := loTo_bd l k hlt H01.out
        have S1 := Lib.hid (hiTo_ge l k (by omega))
        have S2 := Lib.hid (loTo_ge l k (by omega) hkl)
        obtain ⟨bd0, bd1⟩ := bd
        go_wp2
        go_roundw
        case rel => exact ⟨k + 1, by omega, by go_num, by rw [S1.out, S2.out, HB.out]⟩
        case measure => simp [intOf]; omega
    · obtain rfl : k = 128 := by omega
      have e1 : hiTo l 128 = spell (l.take 64) := by simp [hiTo]
      have e2 : loTo l 128 = spell (l.drop 64) := by unfold loTo; rw [List.take_of_length_le (by rw [HL.out]; omega)]
      rw [e1, e2]
      clear e1 e2
      go_wp2
      go_returns
      exact ⟨rfl, by go_grown⟩

set_option maxHeartbeats 1000000 in
set_option maxRecDepth 100000 in
theorem addrOf_four (l : List Int) (hl : l.length = 32) (h01 : ∀ b ∈ l, b = 0 ∨ b = 1) (g cap : Nat) (w : World) (hg : g < w.heap.size) (hc : ∀ j u, l[j]? = some u → w.cell? ⟨g, j, none⟩ = some (.int .i64 u)) :
    Calls Try.prog 22 #[.slice (some ⟨g, 0, none⟩) 32 cap] w fun e w' => e = .returned (.agg #[.bool false, .int .u64 0, .int .u64 (spell l)]) ∧ Below w.heap.size w w' := by
  have HL := Lib.hid hl; have H01 := Lib.hid h01; have HC := Lib.hid hc
  clear hl h01 hc
  go_enter Try.func22, Try.ntmps22
  go_wp2
  go_loopw [12] (fun i wr => ∃ k : Nat, k ≤ 32 ∧ i = .int .i64 k ∧ wr = (w.alloc (.cells #[.bool false, .int .u64 0, .int .u64 0] 24)).alloc (.cells #[.bool false, .int .u64 0, .int .u64 (fourTo l k)] 24))
    (fun i _ => 32 - (intOf i).toNat)
  case atStart => exact ⟨0, by omega, rfl, by simp [fourTo, spell_nil]⟩
  case round =>
    obtain ⟨k, hk, rfl, rfl⟩ := hrel
    by_cases hlt : k < 32
    · have hkl : k < l.length := by rw [HL.out]; exact hlt
      obtain ⟨b, hb⟩ : ∃ b, b = l[k] := ⟨_, rfl⟩
      have HB := Lib.hid hb
      have hcell := two_alloc hg (HC.out k b (by rw [hb]; exact List.getElem?_eq_getElem hkl))
      have hb01 : b = 0 ∨ b = 1 := H01.out b (by rw [hb]; exact List.getElem_mem hkl)
      have hb0 : 0 ≤ b := by omega
      have hb1 : b ≤ 1 := by omega
      clear hb01 hb
      have bd := fourTo_bd l k (by omega) H01.out
      have S1 := Lib.hid (fourTo_succ l k hkl)
      obtain ⟨bd0, bd1⟩ := bd
      go_wp2
      go_roundw
      case rel => exact ⟨k + 1, by omega, by go_num, by rw [S1.out, HB.out]⟩
      case measure => simp [intOf]; omega
    · obtain rfl : k = 32 := by omega
      have e1 : fourTo l 32 = spell l := by unfold fourTo; rw [List.take_of_length_le (by rw [HL.out]; omega)]
      rw [e1]
      clear e1
      go_wp2
      go_returns
      exact ⟨rfl, by go_grown⟩

theorem bitsL_01 (six : Bool) (hi lo : Int) : ∀ b ∈ bitsL six hi lo, b = 0 ∨ b = 1 := by
  cases six
  · exact bitsTo_01 lo 32 32
  · intro b hb
    simp only [bitsL, if_true, List.mem_append] at hb
    rcases hb with hb | hb
    · exact bitsTo_01 _ _ _ b hb
    · exact bitsTo_01 _ _ _ b hb

theorem three {W w' : World} {B b : Nat} (h : Below B W w') (hb : b < B) : w'.cell? ⟨b, 0, none⟩ = W.cell? ⟨b, 0, none⟩ ∧ w'.cell? ⟨b, 1, none⟩ = W.cell? ⟨b, 1, none⟩ ∧ w'.cell? ⟨b, 2, none⟩ = W.cell? ⟨b, 2, none⟩ ∧ w'.frozen? ⟨b, 0, none⟩ = W.frozen? ⟨b, 0, none⟩ ∧ w'.frozen? ⟨b, 1, none⟩ = W.frozen? ⟨b, 1, none⟩ ∧ w'.frozen? ⟨b, 2, none⟩ = W.frozen? ⟨b, 2, none⟩ :=
  ⟨h.cell (p := ⟨b, 0, none⟩) hb, h.cell (p := ⟨b, 1, none⟩) hb, h.cell (p := ⟨b, 2, none⟩) hb, h.frozen (p := ⟨b, 0, none⟩) hb, h.frozen (p := ⟨b, 1, none⟩) hb, h.frozen (p := ⟨b, 2, none⟩) hb⟩
theorem set_mix (l A : List Int) (k : Nat) (hk : k < l.length) (x : Int) : (l.take (k + 1) ++ A).set k x = l.take k ++ x :: A := by
  rw [List.take_succ_eq_append_getElem hk, List.append_assoc, List.set_append_right _ _ (by rw [List.length_take]; omega), List.length_take, Nat.min_eq_left (by omega), Nat.sub_self]
  rfl
theorem addBits_step (l : List Int) (c : Int) (k : Nat) (hk : k < l.length) : addBits (l.drop k) c = ((l[k] + (addBits (l.drop (k + 1)) c).2) % 2 :: (addBits (l.drop (k + 1)) c).1, (l[k] + (addBits (l.drop (k + 1)) c).2) / 2) := by
  rw [List.drop_eq_getElem_cons hk, addBits]

set_option maxHeartbeats 1000000 in
set_option maxRecDepth 100000 in
theorem refNext_six (hi lo by' : Int) (h0 : 0 ≤ hi) (h1 : hi ≤ 18446744073709551615) (l0 : 0 ≤ lo) (l1 : lo ≤ 18446744073709551615) (b0 : -1099511627776 ≤ by') (b1 : by' ≤ 1099511627776) (l : List Int) (hl : bitsL true hi lo = l) (w : World) :
    Calls Try.prog 14 #[.agg #[.bool true, .int .u64 hi, .int .u64 lo], .int .i64 by'] w fun e w' => ((addBits l by').2 = 0 → e = .returned (.tuple #[.agg #[.bool true, .int .u64 (spell ((addBits l by').1.take 64)), .int .u64 (spell ((addBits l by').1.drop 64))], .int .i64 0])) ∧ ((addBits l by').2 ≠ 0 → e = .returned (.tuple #[.agg #[.bool false, .int .u64 0, .int .u64 0], .int .i64 2])) ∧ Below w.heap.size w w' := by
  have hlen : l.length = 128 := by rw [← hl, bitsL_length]; rfl
  have h01 : ∀ b ∈ l, b = 0 ∨ b = 1 := by rw [← hl]; exact bitsL_01 true hi lo
  have HL := Lib.hid hlen; have H01 := Lib.hid h01; have HLL := Lib.hid hl
  clear hl hlen h01
  go_enter Try.func14, Try.ntmps14
  go_wp2_with (first
    | (go_at_call 20; refine (bitsOf_six' hi lo h0 h1 l0 l1 _).mono ?_; rintro e w1 ⟨g, cap, rfl, hown, hb⟩; rw [HLL.out] at hown)
    | go_in)
  have hs := hb.size
  simp only [World.size_alloc] at hs hb hown
  have hg1 := (hown.lt g rfl).1
  have hg2 := (hown.lt g rfl).2
  go_loopw [7, 8] (fun c i wr => ∃ m : Nat, m ≤ 128 ∧ i = .int .i64 ((m : Int) - 1) ∧ c = .int .i64 (addBits (l.drop m) by').2 ∧ wr.ownsRow (w.heap.size + 1 + 1 + 1 + 1) 3 1 (.slice (some ⟨g, 0, none⟩) 128 cap) 128 ((l.take m ++ (addBits (l.drop m) by').1).map (Value.int .i64)) ∧ Below (w.heap.size + 1 + 1 + 1) w1 wr)
    (fun _ i _ => (intOf i + 1).toNat)
  case atStart =>
    refine ⟨128, by omega, rfl, ?_, ?_, Below.refl _ _⟩
    · rw [List.drop_of_length_le (by rw [HL.out]; omega)]; rfl
    · rw [List.drop_of_length_le (by rw [HL.out]; omega), List.take_of_length_le (by rw [HL.out]; omega)]; simpa [addBits] using hown
  case round =>
    clear hown
    obtain ⟨m, hm, rfl, rfl, hown, hnx⟩ := hrel
    have hsz := hnx.size
    by_cases hlt : 0 < m
    · obtain ⟨k, rfl⟩ : ∃ k, m = k + 1 := ⟨m - 1, by omega⟩
      have hkl : k < l.length := by rw [HL.out]; omega
      rw [show ((k + 1 : Nat) : Int) - 1 = (k : Int) from by omega]
      have bd := addBits_bd (l.drop (k + 1)) by' 1099511627776 (by omega) (fun b hb => H01.out b (List.mem_of_mem_drop hb)) ⟨b0, b1⟩
      have ST := Lib.hid (addBits_step l by' k hkl)
      obtain ⟨b, hbe⟩ : ∃ b, l[k] = b := ⟨_, rfl⟩
      obtain ⟨A, hA⟩ : ∃ A, (addBits (l.drop (k + 1)) by').1 = A := ⟨_, rfl⟩
      obtain ⟨c, hc⟩ : ∃ c, (addBits (l.drop (k + 1)) by').2 = c := ⟨_, rfl⟩
      have hcell : wr.cell? ⟨g, k, none⟩ = some (.int .i64 b) := by
        rw [hown.cellAt k (by omega), List.getElem?_map, List.getElem?_append_left (by rw [List.length_take]; omega), List.getElem?_take_of_lt (by omega), List.getElem?_eq_getElem hkl, hbe]; rfl
      have hfr := hown.frozenAt k
      have hb01 : b = 0 ∨ b = 1 := H01.out b (by rw [← hbe]; exact List.getElem_mem hkl)
      have hst := hown.stored k (.int .i64 ((b + c) % 2))
      rw [← List.map_set, set_mix l _ k hkl, hA] at hst
      have HST := Lib.hid hst
      rw [hc]
      rw [hc] at bd
      have ST2 : Hid (addBits (l.drop k) by' = ((b + c) % 2 :: A, (b + c) / 2)) := by rw [← hbe, ← hA, ← hc]; exact ST.out
      have hand : bits .and .i64 (b + c) 1 = (b + c) % 2 := and1_i64 _
      have htd : (b + c - (b + c) % 2).tdiv 2 = (b + c) / 2 := tdiv2 _
      clear hst hown hA hc hbe ST
      have hb0 : 0 ≤ b := by omega
      have hb1 : b ≤ 1 := by omega
      obtain ⟨bd0, bd1⟩ := bd
      clear hb01
      go_wp2
      go_roundw
      case rel => exact ⟨k, by omega, by go_num, by rw [ST2.out], by rw [ST2.out]; exact HST.out.1, hnx.setCell (by simp; omega) _⟩
      case measure => simp [intOf]
    · obtain rfl : m = 0 := by omega
      simp only [List.take_zero, List.drop_zero, List.nil_append] at hown ⊢
      by_cases hc : (addBits l by').2 = 0
      · rw [hc]
        have hl2 := addBits_length l by'
        rw [HL.out] at hl2
        have hcs : ∀ j u, (addBits l by').1[j]? = some u → wr.cell? ⟨g, j, none⟩ = some (.int .i64 u) := by
          intro j u hj
          have hjl : j < (addBits l by').1.length := (List.getElem?_eq_some_iff.1 hj).1
          rw [hown.cellAt j (by omega), List.getElem?_map, hj]; rfl
        have h012 := addBits_01 l by'
        have hgw : g < wr.heap.size := by omega
        have c := addrOf_six (addBits l by').1 hl2 h012 g cap wr hgw hcs
        have C := Lib.hid c
        have hall := hb.trans hnx
        obtain ⟨p0, p1, p2, f0, f1, f2⟩ := three hall (b := w.heap.size + 1) (by omega)
        simp [go_sem] at p0 p1 p2 f0 f1 f2
        have HC0 := Lib.hid hc
        clear c hcs hl2 h012 hown hc
        go_wp2_with (go_at_call 22; refine C.out.mono ?_; rintro e w2 ⟨rfl, hb2⟩; obtain ⟨q0, q1, q2, g0, g1, g2⟩ := three hb2 (b := w.heap.size + 1) (by omega); rw [p0] at q0; rw [p1] at q1; rw [p2] at q2; rw [f0] at g0; rw [f1] at g1; rw [f2] at g2)
        refine bodyPost_ret (v := .tuple #[.agg #[.bool true, .int .u64 (spell ((addBits l by').1.take 64)), .int .u64 (spell ((addBits l by').1.drop 64))], .int .i64 0]) (by simp [results, Try.results14, go_sem, q0, q1, q2]) rfl ⟨fun _ => rfl, fun h => absurd HC0.out h, ?_⟩
        have hbw : Below w.heap.size w wr := ((((Below.refl _ w).alloc (Nat.le_refl _) _).alloc (by simp) _).alloc (by simp; omega) _).trans (hall.mono (by omega))
        exact (((hbw.trans (hb2.mono (by omega))).setCell (by simp) _).setCell (by simp) _).setCell (by simp) _
      · have hcn : ((addBits l by').2 != 0) = true := by simpa using hc
        have HC0 := Lib.hid hc
        have hall := hb.trans hnx
        obtain ⟨p0, p1, p2, f0, f1, f2⟩ := three hall (b := w.heap.size + 1) (by omega)
        simp [go_sem] at p0 p1 p2 f0 f1 f2
        clear hc hown
        go_wp2
        refine bodyPost_ret (v := .tuple #[.agg #[.bool false, .int .u64 0, .int .u64 0], .int .i64 2]) (by simp [results, Try.results14, go_sem, p0, p1, p2]) rfl ⟨fun h => absurd h HC0.out, fun _ => rfl, ?_⟩
        have hbw : Below w.heap.size w wr := ((((Below.refl _ w).alloc (Nat.le_refl _) _).alloc (by simp) _).alloc (by simp; omega) _).trans (hall.mono (by omega))
        exact ((hbw.setCell (by simp) _).setCell (by simp) _).setCell (by simp) _

set_option maxHeartbeats 1000000 in
set_option maxRecDepth 100000 in
theorem refNext_four (lo by' : Int) (l0 : 0 ≤ lo) (l1 : lo ≤ 4294967295) (b0 : -1099511627776 ≤ by') (b1 : by' ≤ 1099511627776) (l : List Int) (hl : bitsL false 0 lo = l) (w : World) :
    Calls Try.prog 14 #[.agg #[.bool false, .int .u64 0, .int .u64 lo], .int .i64 by'] w fun e w' => ((addBits l by').2 = 0 → e = .returned (.tuple #[.agg #[.bool false, .int .u64 0, .int .u64 (spell (addBits l by').1)], .int .i64 0])) ∧ ((addBits l by').2 ≠ 0 → e = .returned (.tuple #[.agg #[.bool false, .int .u64 0, .int .u64 0], .int .i64 2])) ∧ Below w.heap.size w w' := by
  have hlen : l.length = 32 := by rw [← hl, bitsL_length]; rfl
  have h01 : ∀ b ∈ l, b = 0 ∨ b = 1 := by rw [← hl]; exact bitsL_01 false 0 lo
  have HL := Lib.hid hlen; have H01 := Lib.hid h01; have HLL := Lib.hid hl
  clear hl hlen h01
  go_enter Try.func14, Try.ntmps14
  go_wp2_with (first
    | (go_at_call 20; refine (bitsOf_four' 0 lo l0 (by omega) _).mono ?_; rintro e w1 ⟨g, cap, rfl, hown, hb⟩; rw [HLL.out] at hown)
    | go_in)
  have hs := hb.size
  simp only [World.size_alloc] at hs hb hown
  have hg1 := (hown.lt g rfl).1
  have hg2 := (hown.lt g rfl).2
  go_loopw [7, 8] (fun c i wr => ∃ m : Nat, m ≤ 32 ∧ i = .int .i64 ((m : Int) - 1) ∧ c = .int .i64 (addBits (l.drop m) by').2 ∧ wr.ownsRow (w.heap.size + 1 + 1 + 1 + 1) 3 1 (.slice (some ⟨g, 0, none⟩) 32 cap) 32 ((l.take m ++ (addBits (l.drop m) by').1).map (Value.int .i64)) ∧ Below (w.heap.size + 1 + 1 + 1) w1 wr)
    (fun _ i _ => (intOf i + 1).toNat)
  case atStart =>
    refine ⟨32, by omega, rfl, ?_, ?_, Below.refl _ _⟩
    · rw [List.drop_of_length_le (by rw [HL.out]; omega)]; rfl
    · rw [List.drop_of_length_le (by rw [HL.out]; omega), List.take_of_length_le (by rw [HL.out]; omega)]; simpa [addBits] using hown
  case round =>
    clear hown
    obtain ⟨m, hm, rfl, rfl, hown, hnx⟩ := hrel
    have hsz := hnx.size
    by_cases hlt : 0 < m
    · obtain ⟨k, rfl⟩ : ∃ k, m = k + 1 := ⟨m - 1, by omega⟩
      have hkl : k < l.length := by rw [HL.out]; omega
      rw [show ((k + 1 : Nat) : Int) - 1 = (k : Int) from by omega]
      have bd := addBits_bd (l.drop (k + 1)) by' 1099511627776 (by omega) (fun b hb => H01.out b (List.mem_of_mem_drop hb)) ⟨b0, b1⟩
      have ST := Lib.hid (addBits_step l by' k hkl)
      obtain ⟨b, hbe⟩ : ∃ b, l[k] = b := ⟨_, rfl⟩
      obtain ⟨A, hA⟩ : ∃ A, (addBits (l.drop (k + 1)) by').1 = A := ⟨_, rfl⟩
      obtain ⟨c, hc⟩ : ∃ c, (addBits (l.drop (k + 1)) by').2 = c := ⟨_, rfl⟩
      have hcell : wr.cell? ⟨g, k, none⟩ = some (.int .i64 b) := by
        rw [hown.cellAt k (by omega), List.getElem?_map, List.getElem?_append_left (by rw [List.length_take]; omega), List.getElem?_take_of_lt (by omega), List.getElem?_eq_getElem hkl, hbe]; rfl
      have hfr := hown.frozenAt k
      have hb01 : b = 0 ∨ b = 1 := H01.out b (by rw [← hbe]; exact List.getElem_mem hkl)
      have hst := hown.stored k (.int .i64 ((b + c) % 2))
      rw [← List.map_set, set_mix l _ k hkl, hA] at hst
      have HST := Lib.hid hst
      rw [hc]
      rw [hc] at bd
      have ST2 : Hid (addBits (l.drop k) by' = ((b + c) % 2 :: A, (b + c) / 2)) := by rw [← hbe, ← hA, ← hc]; exact ST.out
      have hand : bits .and .i64 (b + c) 1 = (b + c) % 2 := and1_i64 _
      have htd : (b + c - (b + c) % 2).tdiv 2 = (b + c) / 2 := tdiv2 _
      clear hst hown hA hc hbe ST
      have hb0 : 0 ≤ b := by omega
      have hb1 : b ≤ 1 := by omega
      obtain ⟨bd0, bd1⟩ := bd
      clear hb01
      go_wp2
      go_roundw
      case rel => exact ⟨k, by omega, by go_num, by rw [ST2.out], by rw [ST2.out]; exact HST.out.1, hnx.setCell (by simp; omega) _⟩
      case measure => simp [intOf]
    · obtain rfl : m = 0 := by omega
      simp only [List.take_zero, List.drop_zero, List.nil_append] at hown ⊢
      by_cases hc : (addBits l by').2 = 0
      · rw [hc]
        have hl2 := addBits_length l by'
        rw [HL.out] at hl2
        have hcs : ∀ j u, (addBits l by').1[j]? = some u → wr.cell? ⟨g, j, none⟩ = some (.int .i64 u) := by
          intro j u hj
          have hjl : j < (addBits l by').1.length := (List.getElem?_eq_some_iff.1 hj).1
          rw [hown.cellAt j (by omega), List.getElem?_map, hj]; rfl
        have h012 := addBits_01 l by'
        have hgw : g < wr.heap.size := by omega
        have c := addrOf_four (addBits l by').1 hl2 h012 g cap wr hgw hcs
        have C := Lib.hid c
        have hall := hb.trans hnx
        obtain ⟨p0, p1, p2, f0, f1, f2⟩ := three hall (b := w.heap.size + 1) (by omega)
        simp [go_sem] at p0 p1 p2 f0 f1 f2
        have HC0 := Lib.hid hc
        clear c hcs hl2 h012 hown hc
        go_wp2_with (go_at_call 22; refine C.out.mono ?_; rintro e w2 ⟨rfl, hb2⟩; obtain ⟨q0, q1, q2, g0, g1, g2⟩ := three hb2 (b := w.heap.size + 1) (by omega); rw [p0] at q0; rw [p1] at q1; rw [p2] at q2; rw [f0] at g0; rw [f1] at g1; rw [f2] at g2)
        refine bodyPost_ret (v := .tuple #[.agg #[.bool false, .int .u64 0, .int .u64 (spell (addBits l by').1)], .int .i64 0]) (by simp [results, Try.results14, go_sem, q0, q1, q2]) rfl ⟨fun _ => rfl, fun h => absurd HC0.out h, ?_⟩
        have hbw : Below w.heap.size w wr := ((((Below.refl _ w).alloc (Nat.le_refl _) _).alloc (by simp) _).alloc (by simp; omega) _).trans (hall.mono (by omega))
        exact (((hbw.trans (hb2.mono (by omega))).setCell (by simp) _).setCell (by simp) _).setCell (by simp) _
      · have hcn : ((addBits l by').2 != 0) = true := by simpa using hc
        have HC0 := Lib.hid hc
        have hall := hb.trans hnx
        obtain ⟨p0, p1, p2, f0, f1, f2⟩ := three hall (b := w.heap.size + 1) (by omega)
        simp [go_sem] at p0 p1 p2 f0 f1 f2
        clear hc hown
        go_wp2
        refine bodyPost_ret (v := .tuple #[.agg #[.bool false, .int .u64 0, .int .u64 0], .int .i64 2]) (by simp [results, Try.results14, go_sem, p0, p1, p2]) rfl ⟨fun h => absurd h HC0.out, fun _ => rfl, ?_⟩
        have hbw : Below w.heap.size w wr := ((((Below.refl _ w).alloc (Nat.le_refl _) _).alloc (by simp) _).alloc (by simp; omega) _).trans (hall.mono (by omega))
        exact ((hbw.setCell (by simp) _).setCell (by simp) _).setCell (by simp) _

set_option maxHeartbeats 400000 in
theorem refNext_no (hi lo by' : Int) (h0 : 0 ≤ hi) (l0 : 0 ≤ lo) (hm : mayB false hi lo = false) (w : World) :
    Calls Try.prog 14 #[.agg #[.bool false, .int .u64 hi, .int .u64 lo], .int .i64 by'] w fun e w' => e = .returned (.tuple #[.agg #[.bool false, .int .u64 0, .int .u64 0], .int .i64 4]) ∧ Below w.heap.size w w' := by
  by_cases hz : hi = 0
  · subst hz
    have hl : ¬ lo ≤ 4294967295 := by simp [mayB] at hm; omega
    clear hm
    go_enter Try.func14, Try.ntmps14
    go_wp2
    go_returns
    exact ⟨rfl, by go_grown⟩
  · have hz' : (hi == 0) = false := by simpa using hz
    clear hm
    go_enter Try.func14, Try.ntmps14
    go_wp2
    go_returns
    exact ⟨rfl, by go_grown⟩

set_option maxHeartbeats 400000 in
theorem refNext_far_six (hi lo by' : Int) (hr : by' < -1099511627776 ∨ 1099511627776 < by') (w : World) :
    Calls Try.prog 14 #[.agg #[.bool true, .int .u64 hi, .int .u64 lo], .int .i64 by'] w fun e w' => e = .returned (.tuple #[.agg #[.bool false, .int .u64 0, .int .u64 0], .int .i64 2]) ∧ Below w.heap.size w w' := by
  rcases hr with hr | hr
  · have hr' : ¬ 1099511627776 < by' := by omega
    go_enter Try.func14, Try.ntmps14
    go_wp2
    go_returns
    exact ⟨rfl, by go_grown⟩
  · go_enter Try.func14, Try.ntmps14
    go_wp2
    go_returns
    exact ⟨rfl, by go_grown⟩

set_option maxHeartbeats 400000 in
theorem refNext_far_four (lo by' : Int) (l0 : 0 ≤ lo) (l1 : lo ≤ 4294967295) (hr : by' < -1099511627776 ∨ 1099511627776 < by') (w : World) :
    Calls Try.prog 14 #[.agg #[.bool false, .int .u64 0, .int .u64 lo], .int .i64 by'] w fun e w' => e = .returned (.tuple #[.agg #[.bool false, .int .u64 0, .int .u64 0], .int .i64 2]) ∧ Below w.heap.size w w' := by
  rcases hr with hr | hr
  · have hr' : ¬ 1099511627776 < by' := by omega
    go_enter Try.func14, Try.ntmps14
    go_wp2
    go_returns
    exact ⟨rfl, by go_grown⟩
  · go_enter Try.func14, Try.ntmps14
    go_wp2
    go_returns
    exact ⟨rfl, by go_grown⟩

theorem two128 : (2 : Int) ^ 128 = 340282366920938463463374607431768211456 := by decide
theorem two64 : (2 : Int) ^ 64 = 18446744073709551616 := by decide
theorem two32 : (2 : Int) ^ 32 = 4294967296 := by decide
theorem spell_six (hi lo : Int) (h0 : 0 ≤ hi) (h1 : hi ≤ 18446744073709551615) (l0 : 0 ≤ lo) (l1 : lo ≤ 18446744073709551615) : spell (bitsL true hi lo) = hi * 18446744073709551616 + lo := by
  simp only [bitsL, if_true]
  rw [spell_append, bitsTo_length, spell_bits hi 64 h0 (by rw [two64]; omega), spell_bits lo 64 l0 (by rw [two64]; omega), two64]
theorem spell_four (lo : Int) (l0 : 0 ≤ lo) (l1 : lo ≤ 4294967295) : spell (bitsL false 0 lo) = lo := by
  show spell (bitsTo lo 32 32) = lo
  exact spell_bits lo 32 l0 (by rw [two32]; omega)
/-- The sum, word by word, and when something is carried out. -/
theorem sum_six (hi lo by' : Int) (h0 : 0 ≤ hi) (h1 : hi ≤ 18446744073709551615) (l0 : 0 ≤ lo) (l1 : lo ≤ 18446744073709551615) :
    ((addBits (bitsL true hi lo) by').2 = 0 ↔ 0 ≤ numN hi lo by' ∧ numN hi lo by' < 340282366920938463463374607431768211456) ∧
    ((addBits (bitsL true hi lo) by').2 = 0 → spell ((addBits (bitsL true hi lo) by').1.take 64) = numN hi lo by' / 18446744073709551616 ∧ spell ((addBits (bitsL true hi lo) by').1.drop 64) = numN hi lo by' % 18446744073709551616) := by
  have hs := addBits_sum (bitsL true hi lo) by'
  have hl := bitsL_length true hi lo
  simp only [if_true] at hl
  have hl2 := addBits_length (bitsL true hi lo) by'
  have h01 := addBits_01 (bitsL true hi lo) by'
  have hb := spell_bd _ h01
  rw [spell_six hi lo h0 h1 l0 l1, hl, two128] at hs
  rw [hl2, hl, two128] at hb
  have hd := spell_append ((addBits (bitsL true hi lo) by').1.take 64) ((addBits (bitsL true hi lo) by').1.drop 64)
  rw [List.take_append_drop, List.length_drop, hl2, hl, two64] at hd
  have hdb := spell_bd ((addBits (bitsL true hi lo) by').1.drop 64) (fun b hb => h01 b (List.mem_of_mem_drop hb))
  rw [List.length_drop, hl2, hl, two64] at hdb
  unfold numN
  generalize (addBits (bitsL true hi lo) by').2 = c at *
  generalize spell ((addBits (bitsL true hi lo) by').1.take 64) = a at *
  generalize spell ((addBits (bitsL true hi lo) by').1.drop 64) = d at *
  generalize spell (addBits (bitsL true hi lo) by').1 = s at *
  constructor
  · omega
  · intro hc; omega
theorem sum_four (lo by' : Int) (l0 : 0 ≤ lo) (l1 : lo ≤ 4294967295) :
    ((addBits (bitsL false 0 lo) by').2 = 0 ↔ 0 ≤ numN 0 lo by' ∧ numN 0 lo by' < 4294967296) ∧
    ((addBits (bitsL false 0 lo) by').2 = 0 → spell (addBits (bitsL false 0 lo) by').1 = numN 0 lo by') := by
  have hs := addBits_sum (bitsL false 0 lo) by'
  have hl : (bitsL false 0 lo).length = 32 := bitsL_length false 0 lo
  have hl2 := addBits_length (bitsL false 0 lo) by'
  have hb := spell_bd _ (addBits_01 (bitsL false 0 lo) by')
  rw [spell_four lo l0 l1, hl, two32] at hs
  rw [hl2, hl, two32] at hb
  unfold numN
  generalize (addBits (bitsL false 0 lo) by').2 = c at *
  generalize spell (addBits (bitsL false 0 lo) by').1 = s at *
  constructor
  · omega
  · intro hc; omega

theorem refNext_calls (six : Bool) (hi lo by' : Int) (h0 : 0 ≤ hi) (h1 : hi ≤ 18446744073709551615) (l0 : 0 ≤ lo) (l1 : lo ≤ 18446744073709551615) (w : World) :
    Calls Try.prog 14 #[.agg #[.bool six, .int .u64 hi, .int .u64 lo], .int .i64 by'] w fun e w' => e = .returned (.tuple #[.agg #[.bool (nextS six hi lo by'), .int .u64 (nextH six hi lo by'), .int .u64 (nextL six hi lo by')], .int .i64 (nextE six hi lo by')]) ∧ Below w.heap.size w w' := by
  refine next_ways (Q := fun v n => Calls Try.prog 14 #[.agg #[.bool six, .int .u64 hi, .int .u64 lo], .int .i64 by'] w fun e w' => e = .returned (.tuple #[v, .int .i64 n]) ∧ Below w.heap.size w w') six hi lo by' h0 h1 l0 l1 ?_ ?_ ?_ ?_ ?_ ?_ ?_
  · rintro rfl hm
    exact refNext_no hi lo by' h0 l0 hm w
  · intro hm hr
    cases six
    · simp [mayB] at hm
      obtain ⟨rfl, hl⟩ := hm
      exact refNext_far_four lo by' l0 (by omega) hr w
    · exact refNext_far_six hi lo by' hr w
  · rintro rfl r0 r1 n0 n1
    have hc := (sum_six hi lo by' h0 h1 l0 l1).1.2 ⟨n0, n1⟩
    obtain ⟨e1, e2⟩ := (sum_six hi lo by' h0 h1 l0 l1).2 hc
    refine (refNext_six hi lo by' h0 h1 l0 l1 r0 r1 _ rfl w).mono ?_
    rintro e w' ⟨he, _, hb⟩
    rw [← e1, ← e2]
    exact ⟨he hc, hb⟩
  · rintro rfl r0 r1 hn
    have hc : (addBits (bitsL true hi lo) by').2 ≠ 0 := fun h => by have := (sum_six hi lo by' h0 h1 l0 l1).1.1 h; omega
    refine (refNext_six hi lo by' h0 h1 l0 l1 r0 r1 _ rfl w).mono ?_
    rintro e w' ⟨_, he, hb⟩
    exact ⟨he hc, hb⟩
  · rintro rfl rfl hl r0 r1 n0 n1
    have hc := (sum_four lo by' l0 (by omega)).1.2 ⟨n0, n1⟩
    have e1 := (sum_four lo by' l0 (by omega)).2 hc
    refine (refNext_four lo by' l0 (by omega) r0 r1 _ rfl w).mono ?_
    rintro e w' ⟨he, _, hb⟩
    rw [← e1]
    exact ⟨he hc, hb⟩
  · rintro rfl rfl hl r0 r1 hn
    have hc : (addBits (bitsL false 0 lo) by').2 ≠ 0 := fun h => by have := (sum_four lo by' l0 (by omega)).1.1 h; omega
    refine (refNext_four lo by' l0 (by omega) r0 r1 _ rfl w).mono ?_
    rintro e w' ⟨_, he, hb⟩
    exact ⟨he hc, hb⟩
  · rintro rfl rfl hl r0 r1 hn
    have hc : (addBits (bitsL false 0 lo) by').2 ≠ 0 := fun h => by have := (sum_four lo by' l0 (by omega)).1.1 h; omega
    refine (refNext_four lo by' l0 (by omega) r0 r1 _ rfl w).mono ?_
    rintro e w' ⟨_, he, hb⟩
    exact ⟨he hc, hb⟩
end Go.Proofs.Ytnmocjlleejijaa
