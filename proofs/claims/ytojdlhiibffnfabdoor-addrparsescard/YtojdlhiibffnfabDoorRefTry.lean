/-
  The document's AddrParse: the function value 'try'.
-/
import Derived.Test.YtojdlhiibffnfabDoorRnFacts
import Derived.Test.YtojdlhiibffnfabDoorRefAddrOf
import Derived.Test.YtojdlhiibffnfabDoorPreAt
import Derived.Test.YtojdlhiibffnfabDoorRefTextAll
namespace Go.Proofs.YtojdlhiibffnfabDoor
open Go.RowKit Go.Sort
set_option linter.unusedVariables false
set_option linter.unusedSimpArgs false

/-- The bits of numbers of so many bits. -/
def fl (wide : Nat) (l : List Int) : List Int := l.flatMap fun n => bitsTo n wide wide
theorem fl_take (wide : Nat) (l : List Int) (k : Nat) (h : k < l.length) : fl wide (l.take (k + 1)) = fl wide (l.take k) ++ bitsTo l[k] wide wide := by
  unfold fl
  rw [List.take_succ_eq_append_getElem h, List.flatMap_append]
  simp
theorem fl_length (wide : Nat) (l : List Int) : (fl wide l).length = l.length * wide := by
  induction l with
  | nil => simp [fl]
  | cons n l ih =>
    have : fl wide (n :: l) = bitsTo n wide wide ++ fl wide l := rfl
    rw [this, List.length_append, bitsTo_length, ih, List.length_cons, Nat.add_mul]
    omega

set_option maxHeartbeats 4000000 in
set_option maxRecDepth 100000 in
theorem try_no (l : List Int) (wide g cap b : Nat) (six : Bool) (H L : Nat) (s T : List UInt8) (er : Int) (hne : (T == s) = false) (hw : 1 ≤ wide ∧ wide ≤ 16) (hlen : l.length ≤ 8) (hl0 : 1 ≤ l.length) (hv : ∀ v ∈ l, 0 ≤ v ∧ v ≤ 65535)
    (AO : Hid (∀ (g cap : Nat) (W : World), g < W.heap.size → (∀ j u, (fl wide l)[j]? = some u → W.cell? ⟨g, j, none⟩ = some (.int .i64 u)) → Calls Tryd.prog 12 #[.slice (some ⟨g, 0, none⟩) (l.length * wide) cap] W fun e w' => e = .returned (.agg #[.bool six, .int .u64 (H : Int), .int .u64 (L : Int)]) ∧ Below W.heap.size W w'))
    (TX : Hid (∀ W : World, Calls Tryd.prog 13 #[.agg #[.bool six, .int .u64 (H : Int), .int .u64 (L : Int)]] W fun e w' => e = .returned (.tuple #[.string ⟨T.toArray⟩, .int .i64 er]) ∧ Below W.heap.size W w'))
    (w : World) (hg : g < w.heap.size) (hb : b < w.heap.size) (hcs : ∀ j u, l[j]? = some u → w.cell? ⟨g, j, none⟩ = some (.int .i64 u)) (hs : w.cell? ⟨b, 0, none⟩ = some (.string ⟨s.toArray⟩)) :
    Calls Tryd.prog 11 #[.slice (some ⟨g, 0, none⟩) l.length cap, .int .i64 wide, .pointer (some ⟨b, 0, none⟩)] w fun e w' => e = .returned (.tuple #[.agg #[.bool false, .int .u64 0, .int .u64 0], .int .i64 4]) ∧ Below w.heap.size w w' := by
  obtain ⟨i0, hii, hz0, hz1, hz2⟩ := info_parts info_int
  obtain ⟨hw1, hw2⟩ := hw
  have HCS := Lib.hid hcs
  have HV := Lib.hid hv
  have HS := Lib.hid hs
  clear hcs hv hs
  obtain ⟨m, hm⟩ : ∃ m, l.length = m := ⟨_, rfl⟩
  have HM := Lib.hid hm
  rw [hm] at hlen hl0 AO ⊢
  clear hm
  have HR0 := Lib.hid (AddrV.new w false 0 0 24)
  go_enter Tryd.func11, Tryd.ntmps11
  go_wp2
  go_loopw [7, 16] (fun v i wr => ∃ k : Nat, k ≤ m ∧ i = .int .i64 k ∧ wr.ownsRow (w.heap.size + 1) 3 1 v (k * wide) ((fl wide (l.take k)).map (Value.int .i64)) ∧ Below (w.heap.size + 1) (w.alloc (.cells #[.bool false, .int .u64 0, .int .u64 0] 24)) wr)
    (fun _ i _ => m - (intOf i).toNat)
  case atStart => exact ⟨0, by omega, rfl, by simpa [fl] using World.ownsRow_nil _ _ _ _, Below.refl _ _⟩
  case round =>
    obtain ⟨k, hk, rfl, hown, hnx⟩ := hrel
    by_cases hlt : k < m
    · have hkl : k < l.length := by rw [HM.out]; exact hlt
      obtain ⟨n, hn⟩ : ∃ n, l[k] = n := ⟨_, rfl⟩
      have hcell : wr.cell? ⟨g, k, none⟩ = some (.int .i64 n) := by
        rw [hnx.cell (p := ⟨g, k, none⟩) (by simp; omega), World.cell?_alloc_lt _ _ _ hg]
        exact HCS.out k n (by rw [← hn]; exact List.getElem?_eq_getElem hkl)
      have hn01 := HV.out n (by rw [← hn]; exact List.getElem_mem hkl)
      obtain ⟨hn0, hn1⟩ := hn01
      have HN := Lib.hid (fl_take wide l k hkl)
      rw [hn] at HN
      clear hn
      go_wp2
      go_loopw [7, 10] (fun v i wr => ∃ j : Nat, j ≤ wide ∧ i = .int .i64 ((wide : Int) - 1 - (j : Int)) ∧ wr.ownsRow (w.heap.size + 1) 3 1 v (k * wide + j) ((fl wide (l.take k) ++ bitsTo n wide j).map (Value.int .i64)) ∧ Below (w.heap.size + 1) (w.alloc (.cells #[.bool false, .int .u64 0, .int .u64 0] 24)) wr)
        (fun _ i _ => ((intOf i) + 1).toNat)
      case atStart => exact ⟨0, by omega, by go_num, by simpa [bitsTo] using hown, hnx⟩
      case round =>
        clear hown hnx hcell
        obtain ⟨j, hj, rfl, hown, hnx⟩ := hrel
        have hsz := hnx.size
        simp at hsz
        by_cases hjl : j < wide
        · obtain ⟨r, hr⟩ : ∃ r : Nat, wide - 1 - j = r := ⟨_, rfl⟩
          have er : (wide : Int) - 1 - (j : Int) = (r : Int) := by omega
          rw [er]
          have hbit : bits .and .i64 (n / 2 ^ r) 1 = bitW n r := and1_i64 _
          have hkw : k * wide ≤ 128 := Nat.le_trans (Nat.mul_le_mul (show k ≤ 8 by omega) hw2) (by decide)
          go_wp2_with (first
            | (at_builtin; refine wpList_append_own _ rfl _ _ 37 rfl (w.heap.size + 1) 3 i0 (.int .i64 0) 1 8 Tryd.underlying37 hii hz0 hz1 hz2 rfl (by decide) _ _ _ rfl (hown.alloc _) ⟨wr.heap.size, 0, none⟩ 1 1 [.int .i64 (bitW n r)] rfl rfl ?c1 ?c2 ?c3 ?c4 ?c5 ?_))
          case c1 => exact cell_one_new _ _ _
          case c2 => intro u hu; simp at hu; subst hu; rfl
          case c3 => unfold maxLen; omega
          case c4 => omega
          case c5 => simp; omega
          · intro v' w1 hown' hgrow _
            have hb1 := below_app hnx (Nat.le_refl _) (by simp) hown hgrow
            have hown2 : w1.ownsRow (w.heap.size + 1) 3 1 v' (k * wide + (j + 1)) ((fl wide (l.take k) ++ bitsTo n wide (j + 1)).map (Value.int .i64)) := by
              rw [← Nat.add_assoc, bitsTo_succ n wide j, hr, List.map_append, List.map_append]; simpa [List.map_append] using hown'
            clear hown' hgrow hown hnx hbit
            go_wp2
            go_roundw
            case rel => exact ⟨j + 1, by omega, by first | go_num | (congr 1; done) | (congr 1; omega), hown2, hb1⟩
            case measure => first | (simp [intOf]; done) | (simp [intOf]; omega)
        · obtain rfl : j = wide := by omega
          rw [← HN.out, show k * j + j = (k + 1) * j from by rw [Nat.add_mul, Nat.one_mul]] at hown
          have hown2 := hown
          rw [show (j : Int) - 1 - (j : Int) = -1 from by omega]
          clear hown
          go_wp2
          go_roundw
          case rel => exact ⟨k + 1, by omega, by go_num, hown2, hnx⟩
          case measure => simp [intOf]; omega
    · obtain rfl : k = m := by omega
      have hlk : l.take k = l := List.take_of_length_le (by rw [HM.out]; exact Nat.le_refl _)
      rw [hlk] at hown
      have hpos : 0 < k * wide := Nat.mul_pos (by omega) (by omega)
      obtain ⟨g2, cap2, rfl, hg1, hg3⟩ := hown.form hpos
      have hcb : ∀ j u, (fl wide l)[j]? = some u → wr.cell? ⟨g2, j, none⟩ = some (.int .i64 u) := by
        intro j u hj
        have hjl := (List.getElem?_eq_some_iff.1 hj).1
        rw [fl_length, HM.out] at hjl
        rw [hown.cellAt j (by omega), List.getElem?_map, hj]; rfl
      have A1 := Lib.hid (AO.out g2 cap2 wr hg3 hcb)
      have b1 := ((Below.refl _ w).alloc (Nat.le_refl _) _).trans (hnx.mono (by simp))
      have HR1 := Lib.hid (HR0.out.keep (show Below (w.alloc (.cells #[.bool false, .int .u64 0, .int .u64 0] 24)).heap.size (w.alloc (.cells #[.bool false, .int .u64 0, .int .u64 0] 24)) wr by simpa using hnx))
      have HS1 := Lib.hid (show wr.cell? ⟨b, 0, none⟩ = some (.string ⟨s.toArray⟩) by
        rw [hnx.cell (p := ⟨b, 0, none⟩) (by simp; omega), World.cell?_alloc_lt _ _ _ hb]; exact HS.out)
      have hbw : b < wr.heap.size := by have := hnx.size; simp at this; omega
      clear hown hnx hcb AO HR0 HS
      go_wp2_with fail
      refine A1.out.mono ?_
      rintro e w3 ⟨rfl, hb3⟩
      have b3 := thenBelow b1 hb3
      have HR3 := Lib.hid (HR1.out.keep hb3)
      have HS3 := Lib.hid (((hb3.cell (p := ⟨b, 0, none⟩) hbw)).trans HS1.out)
      have hbw3 : b < w3.heap.size := Nat.lt_of_lt_of_le hbw hb3.size
      clear hb3 HR1 HS1 b1 A1
      go_wp2_with fail
      refine (TX.out _).mono ?_
      rintro e w4 ⟨rfl, hb4⟩
      have b4 := thenBelow (b3.alloc b3.size _) hb4
      obtain ⟨⟨r0, r1, r2, rl⟩, rf⟩ := (HR3.out.alloc _).keep hb4
      have f0 := rf 0; have f1 := rf 1; have f2 := rf 2
      have hs4 : w4.cell? ⟨b, 0, none⟩ = some (.string ⟨s.toArray⟩) := ((hb4.cell (p := ⟨b, 0, none⟩) (by simp; omega))).trans (by rw [World.cell?_alloc_lt _ _ _ hbw3]; exact HS3.out)
      obtain ⟨a0, a1, a2, al⟩ := (AddrAt.new w3 six H L 24).keep hb4
      clear rf hb4 HR3 HS3
      go_wp2
      try simp only [Exit.inBlock, Exit.then]
      refine bodyPost_ret (v := .tuple #[.agg #[.bool false, .int .u64 0, .int .u64 0], .int .i64 4]) (by simp [results, Tryd.results11, go_sem, r0, r1, r2]) rfl ?_
      exact ⟨rfl, ((b4.setCell (by simp) _).setCell (by simp) _).setCell (by simp) _⟩
set_option maxHeartbeats 4000000 in
set_option maxRecDepth 100000 in
theorem try_yes (l : List Int) (wide g cap b : Nat) (six : Bool) (H L : Nat) (s T : List UInt8) (er : Int) (hw : 1 ≤ wide ∧ wide ≤ 16) (hlen : l.length ≤ 8) (hl0 : 1 ≤ l.length) (hv : ∀ v ∈ l, 0 ≤ v ∧ v ≤ 65535)
    (AO : Hid (∀ (g cap : Nat) (W : World), g < W.heap.size → (∀ j u, (fl wide l)[j]? = some u → W.cell? ⟨g, j, none⟩ = some (.int .i64 u)) → Calls Tryd.prog 12 #[.slice (some ⟨g, 0, none⟩) (l.length * wide) cap] W fun e w' => e = .returned (.agg #[.bool six, .int .u64 (H : Int), .int .u64 (L : Int)]) ∧ Below W.heap.size W w'))
    (TX : Hid (∀ W : World, Calls Tryd.prog 13 #[.agg #[.bool six, .int .u64 (H : Int), .int .u64 (L : Int)]] W fun e w' => e = .returned (.tuple #[.string ⟨s.toArray⟩, .int .i64 er]) ∧ Below W.heap.size W w'))
    (w : World) (hg : g < w.heap.size) (hb : b < w.heap.size) (hcs : ∀ j u, l[j]? = some u → w.cell? ⟨g, j, none⟩ = some (.int .i64 u)) (hs : w.cell? ⟨b, 0, none⟩ = some (.string ⟨s.toArray⟩)) :
    Calls Tryd.prog 11 #[.slice (some ⟨g, 0, none⟩) l.length cap, .int .i64 wide, .pointer (some ⟨b, 0, none⟩)] w fun e w' => e = .returned (.tuple #[.agg #[.bool six, .int .u64 (H : Int), .int .u64 (L : Int)], .int .i64 0]) ∧ Below w.heap.size w w' := by
  obtain ⟨i0, hii, hz0, hz1, hz2⟩ := info_parts info_int
  obtain ⟨hw1, hw2⟩ := hw
  have HCS := Lib.hid hcs
  have HV := Lib.hid hv
  have HS := Lib.hid hs
  clear hcs hv hs
  obtain ⟨m, hm⟩ : ∃ m, l.length = m := ⟨_, rfl⟩
  have HM := Lib.hid hm
  rw [hm] at hlen hl0 AO ⊢
  clear hm
  have HR0 := Lib.hid (AddrV.new w false 0 0 24)
  go_enter Tryd.func11, Tryd.ntmps11
  go_wp2
  go_loopw [7, 16] (fun v i wr => ∃ k : Nat, k ≤ m ∧ i = .int .i64 k ∧ wr.ownsRow (w.heap.size + 1) 3 1 v (k * wide) ((fl wide (l.take k)).map (Value.int .i64)) ∧ Below (w.heap.size + 1) (w.alloc (.cells #[.bool false, .int .u64 0, .int .u64 0] 24)) wr)
    (fun _ i _ => m - (intOf i).toNat)
  case atStart => exact ⟨0, by omega, rfl, by simpa [fl] using World.ownsRow_nil _ _ _ _, Below.refl _ _⟩
  case round =>
    obtain ⟨k, hk, rfl, hown, hnx⟩ := hrel
    by_cases hlt : k < m
    · have hkl : k < l.length := by rw [HM.out]; exact hlt
      obtain ⟨n, hn⟩ : ∃ n, l[k] = n := ⟨_, rfl⟩
      have hcell : wr.cell? ⟨g, k, none⟩ = some (.int .i64 n) := by
        rw [hnx.cell (p := ⟨g, k, none⟩) (by simp; omega), World.cell?_alloc_lt _ _ _ hg]
        exact HCS.out k n (by rw [← hn]; exact List.getElem?_eq_getElem hkl)
      have hn01 := HV.out n (by rw [← hn]; exact List.getElem_mem hkl)
      obtain ⟨hn0, hn1⟩ := hn01
      have HN := Lib.hid (fl_take wide l k hkl)
      rw [hn] at HN
      clear hn
      go_wp2
      go_loopw [7, 10] (fun v i wr => ∃ j : Nat, j ≤ wide ∧ i = .int .i64 ((wide : Int) - 1 - (j : Int)) ∧ wr.ownsRow (w.heap.size + 1) 3 1 v (k * wide + j) ((fl wide (l.take k) ++ bitsTo n wide j).map (Value.int .i64)) ∧ Below (w.heap.size + 1) (w.alloc (.cells #[.bool false, .int .u64 0, .int .u64 0] 24)) wr)
        (fun _ i _ => ((intOf i) + 1).toNat)
      case atStart => exact ⟨0, by omega, by go_num, by simpa [bitsTo] using hown, hnx⟩
      case round =>
        clear hown hnx hcell
        obtain ⟨j, hj, rfl, hown, hnx⟩ := hrel
        have hsz := hnx.size
        simp at hsz
        by_cases hjl : j < wide
        · obtain ⟨r, hr⟩ : ∃ r : Nat, wide - 1 - j = r := ⟨_, rfl⟩
          have er : (wide : Int) - 1 - (j : Int) = (r : Int) := by omega
          rw [er]
          have hbit : bits .and .i64 (n / 2 ^ r) 1 = bitW n r := and1_i64 _
          have hkw : k * wide ≤ 128 := Nat.le_trans (Nat.mul_le_mul (show k ≤ 8 by omega) hw2) (by decide)
          go_wp2_with (first
            | (at_builtin; refine wpList_append_own _ rfl _ _ 37 rfl (w.heap.size + 1) 3 i0 (.int .i64 0) 1 8 Tryd.underlying37 hii hz0 hz1 hz2 rfl (by decide) _ _ _ rfl (hown.alloc _) ⟨wr.heap.size, 0, none⟩ 1 1 [.int .i64 (bitW n r)] rfl rfl ?c1 ?c2 ?c3 ?c4 ?c5 ?_))
          case c1 => exact cell_one_new _ _ _
          case c2 => intro u hu; simp at hu; subst hu; rfl
          case c3 => unfold maxLen; omega
          case c4 => omega
          case c5 => simp; omega
          · intro v' w1 hown' hgrow _
            have hb1 := below_app hnx (Nat.le_refl _) (by simp) hown hgrow
            have hown2 : w1.ownsRow (w.heap.size + 1) 3 1 v' (k * wide + (j + 1)) ((fl wide (l.take k) ++ bitsTo n wide (j + 1)).map (Value.int .i64)) := by
              rw [← Nat.add_assoc, bitsTo_succ n wide j, hr, List.map_append, List.map_append]; simpa [List.map_append] using hown'
            clear hown' hgrow hown hnx hbit
            go_wp2
            go_roundw
            case rel => exact ⟨j + 1, by omega, by first | go_num | (congr 1; done) | (congr 1; omega), hown2, hb1⟩
            case measure => first | (simp [intOf]; done) | (simp [intOf]; omega)
        · obtain rfl : j = wide := by omega
          rw [← HN.out, show k * j + j = (k + 1) * j from by rw [Nat.add_mul, Nat.one_mul]] at hown
          have hown2 := hown
          rw [show (j : Int) - 1 - (j : Int) = -1 from by omega]
          clear hown
          go_wp2
          go_roundw
          case rel => exact ⟨k + 1, by omega, by go_num, hown2, hnx⟩
          case measure => simp [intOf]; omega
    · obtain rfl : k = m := by omega
      have hlk : l.take k = l := List.take_of_length_le (by rw [HM.out]; exact Nat.le_refl _)
      rw [hlk] at hown
      have hpos : 0 < k * wide := Nat.mul_pos (by omega) (by omega)
      obtain ⟨g2, cap2, rfl, hg1, hg3⟩ := hown.form hpos
      have hcb : ∀ j u, (fl wide l)[j]? = some u → wr.cell? ⟨g2, j, none⟩ = some (.int .i64 u) := by
        intro j u hj
        have hjl := (List.getElem?_eq_some_iff.1 hj).1
        rw [fl_length, HM.out] at hjl
        rw [hown.cellAt j (by omega), List.getElem?_map, hj]; rfl
      have A1 := Lib.hid (AO.out g2 cap2 wr hg3 hcb)
      have b1 := ((Below.refl _ w).alloc (Nat.le_refl _) _).trans (hnx.mono (by simp))
      have HR1 := Lib.hid (HR0.out.keep (show Below (w.alloc (.cells #[.bool false, .int .u64 0, .int .u64 0] 24)).heap.size (w.alloc (.cells #[.bool false, .int .u64 0, .int .u64 0] 24)) wr by simpa using hnx))
      have HS1 := Lib.hid (show wr.cell? ⟨b, 0, none⟩ = some (.string ⟨s.toArray⟩) by
        rw [hnx.cell (p := ⟨b, 0, none⟩) (by simp; omega), World.cell?_alloc_lt _ _ _ hb]; exact HS.out)
      have hbw : b < wr.heap.size := by have := hnx.size; simp at this; omega
      clear hown hnx hcb AO HR0 HS
      go_wp2_with fail
      refine A1.out.mono ?_
      rintro e w3 ⟨rfl, hb3⟩
      have b3 := thenBelow b1 hb3
      have HR3 := Lib.hid (HR1.out.keep hb3)
      have HS3 := Lib.hid (((hb3.cell (p := ⟨b, 0, none⟩) hbw)).trans HS1.out)
      have hbw3 : b < w3.heap.size := Nat.lt_of_lt_of_le hbw hb3.size
      clear hb3 HR1 HS1 b1 A1
      go_wp2_with fail
      refine (TX.out _).mono ?_
      rintro e w4 ⟨rfl, hb4⟩
      have b4 := thenBelow (b3.alloc b3.size _) hb4
      obtain ⟨⟨r0, r1, r2, rl⟩, rf⟩ := (HR3.out.alloc _).keep hb4
      have f0 := rf 0; have f1 := rf 1; have f2 := rf 2
      have hs4 : w4.cell? ⟨b, 0, none⟩ = some (.string ⟨s.toArray⟩) := ((hb4.cell (p := ⟨b, 0, none⟩) (by simp; omega))).trans (by rw [World.cell?_alloc_lt _ _ _ hbw3]; exact HS3.out)
      obtain ⟨a0, a1, a2, al⟩ := (AddrAt.new w3 six H L 24).keep hb4
      clear rf hb4 HR3 HS3
      go_wp2
      try simp only [Exit.inBlock, Exit.then]
      refine bodyPost_ret (v := .tuple #[.agg #[.bool six, .int .u64 (H : Int), .int .u64 (L : Int)], .int .i64 0]) (by simp [results, Tryd.results11, go_sem, r0, r1, r2]) rfl ?_
      exact ⟨rfl, ((b4.setCell (by simp) _).setCell (by simp) _).setCell (by simp) _⟩
end Go.Proofs.YtojdlhiibffnfabDoor
