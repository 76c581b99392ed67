/-
  Laid together: RefTry, RefTryAll, RefParse, RefParseB, RefParseC, PText, RefPText.
-/
import Derived.Test.YtojdlhiibffnfabDoorRnFacts
import Derived.Test.YtojdlhiibffnfabDoorRefAddrOf
import Derived.Test.YtojdlhiibffnfabDoorPreAt
import Derived.Test.YtojdlhiibffnfabDoorRefTextAll
import Derived.Test.YtojdlhiibffnfabDoorOwns
import Derived.Test.YtojdlhiibffnfabDoorText
import Derived.Test.YtojdlhiibffnfabDoorChars
import Derived.Test.YtojdlhiibffnfabDoorShelfC
import Derived.Test.YtojdlhiibffnfabDoorPreC
import Derived.Test.YtojdlhiibffnfabDoorRefFault
/-
  The document's AddrParse: the function value 'try'.
-/
namespace Go.Proofs.YtojdlhiibffnfabDoor
open Go.RowKit Go.Sort
set_option linter.unusedVariables false
set_option linter.unusedSimpArgs false

/-- The bits of numbers of so many bits. -/
def fl (wide : Nat) (l : List Int) : List Int := l.flatMap fun n => bitsTo n wide wide
theorem fl_take (wide : Nat) (l : List Int) (k : Nat) (h : k < l.length) : fl wide (l.take (k + 1)) = fl wide (l.take k) ++ bitsTo l[k] wide wide := by
  unfold fl
  rw [List.take_succ_eq_append_getElem h, List.flatMap_append]
  simp
theorem fl_length (wide : Nat) (l : List Int) : (fl wide l).length = l.length * wide := by
  induction l with
  | nil => simp [fl]
  | cons n l ih =>
    have : fl wide (n :: l) = bitsTo n wide wide ++ fl wide l := rfl
    rw [this, List.length_append, bitsTo_length, ih, List.length_cons, Nat.add_mul]
    omega

set_option maxHeartbeats 4000000 in
set_option maxRecDepth 100000 in
theorem try_no (l : List Int) (wide g cap b : Nat) (six : Bool) (H L : Nat) (s T : List UInt8) (er : Int) (hne : (T == s) = false) (hw : 1 ≤ wide ∧ wide ≤ 16) (hlen : l.length ≤ 8) (hl0 : 1 ≤ l.length) (hv : ∀ v ∈ l, 0 ≤ v ∧ v ≤ 65535)
    (AO : Hid (∀ (g cap : Nat) (W : World), g < W.heap.size → (∀ j u, (fl wide l)[j]? = some u → W.cell? ⟨g, j, none⟩ = some (.int .i64 u)) → Calls Tryd.prog 12 #[.slice (some ⟨g, 0, none⟩) (l.length * wide) cap] W fun e w' => e = .returned (.agg #[.bool six, .int .u64 (H : Int), .int .u64 (L : Int)]) ∧ Below W.heap.size W w'))
    (TX : Hid (∀ W : World, Calls Tryd.prog 13 #[.agg #[.bool six, .int .u64 (H : Int), .int .u64 (L : Int)]] W fun e w' => e = .returned (.tuple #[.string ⟨T.toArray⟩, .int .i64 er]) ∧ Below W.heap.size W w'))
    (w : World) (hg : g < w.heap.size) (hb : b < w.heap.size) (hcs : ∀ j u, l[j]? = some u → w.cell? ⟨g, j, none⟩ = some (.int .i64 u)) (hs : w.cell? ⟨b, 0, none⟩ = some (.string ⟨s.toArray⟩)) :
    Calls Tryd.prog 11 #[.slice (some ⟨g, 0, none⟩) l.length cap, .int .i64 wide, .pointer (some ⟨b, 0, none⟩)] w fun e w' => e = .returned (.tuple #[.agg #[.bool false, .int .u64 0, .int .u64 0], .int .i64 4]) ∧ Below w.heap.size w w' := by
  obtain ⟨i0, hii, hz0, hz1, hz2⟩ := info_parts info_int
  obtain ⟨hw1, hw2⟩ := hw
  have HCS := Lib.hid hcs
  have HV := Lib.hid hv
  have HS := Lib.hid hs
  clear hcs hv hs
  obtain ⟨m, hm⟩ : ∃ m, l.length = m := ⟨_, rfl⟩
  have HM := Lib.hid hm
  rw [hm] at hlen hl0 AO ⊢
  clear hm
  have HR0 := Lib.hid (AddrV.new w false 0 0 24)
  go_enter Tryd.func11, Tryd.ntmps11
  go_wp2
  go_loopw [7, 16] (fun v i wr => ∃ k : Nat, k ≤ m ∧ i = .int .i64 k ∧ wr.ownsRow (w.heap.size + 1) 3 1 v (k * wide) ((fl wide (l.take k)).map (Value.int .i64)) ∧ Below (w.heap.size + 1) (w.alloc (.cells #[.bool false, .int .u64 0, .int .u64 0] 24)) wr)
    (fun _ i _ => m - (intOf i).toNat)
  case atStart => exact ⟨0, by omega, rfl, by simpa [fl] using World.ownsRow_nil _ _ _ _, Below.refl _ _⟩
  case round =>
    obtain ⟨k, hk, rfl, hown, hnx⟩ := hrel
    by_cases hlt : k < m
    · have hkl : k < l.length := by rw [HM.out]; exact hlt
      obtain ⟨n, hn⟩ : ∃ n, l[k] = n := ⟨_, rfl⟩
      have hcell : wr.cell? ⟨g, k, none⟩ = some (.int .i64 n) := by
        rw [hnx.cell (p := ⟨g, k, none⟩) (by simp; omega), World.cell?_alloc_lt _ _ _ hg]
        exact HCS.out k n (by rw [← hn]; exact List.getElem?_eq_getElem hkl)
      have hn01 := HV.out n (by rw [← hn]; exact List.getElem_mem hkl)
      obtain ⟨hn0, hn1⟩ := hn01
      have HN := Lib.hid (fl_take wide l k hkl)
      rw [hn] at HN
      clear hn
      go_wp2
      go_loopw [7, 10] (fun v i wr => ∃ j : Nat, j ≤ wide ∧ i = .int .i64 ((wide : Int) - 1 - (j : Int)) ∧ wr.ownsRow (w.heap.size + 1) 3 1 v (k * wide + j) ((fl wide (l.take k) ++ bitsTo n wide j).map (Value.int .i64)) ∧ Below (w.heap.size + 1) (w.alloc (.cells #[.bool false, .int .u64 0, .int .u64 0] 24)) wr)
        (fun _ i _ => ((intOf i) + 1).toNat)
      case atStart => exact ⟨0, by omega, by go_num, by simpa [bitsTo] using hown, hnx⟩
      case round =>
        clear hown hnx hcell
        obtain ⟨j, hj, rfl, hown, hnx⟩ := hrel
        have hsz := hnx.size
        simp at hsz
        by_cases hjl : j < wide
        · obtain ⟨r, hr⟩ : ∃ r : Nat, wide - 1 - j = r := ⟨_, rfl⟩
          have er : (wide : Int) - 1 - (j : Int) = (r : Int) := by omega
          rw [er]
          have hbit : bits .and .i64 (n / 2 ^ r) 1 = bitW n r := and1_i64 _
          have hkw : k * wide ≤ 128 := Nat.le_trans (Nat.mul_le_mul (show k ≤ 8 by omega) hw2) (by decide)
          go_wp2_with (first
            | (at_builtin; refine wpList_append_own _ rfl _ _ 37 rfl (w.heap.size + 1) 3 i0 (.int .i64 0) 1 8 Tryd.underlying37 hii hz0 hz1 hz2 rfl (by decide) _ _ _ rfl (hown.alloc _) ⟨wr.heap.size, 0, none⟩ 1 1 [.int .i64 (bitW n r)] rfl rfl ?c1 ?c2 ?c3 ?c4 ?c5 ?_))
          case c1 => exact cell_one_new _ _ _
          case c2 => intro u hu; simp at hu; subst hu; rfl
          case c3 => unfold maxLen; omega
          case c4 => omega
          case c5 => simp; omega
          · intro v' w1 hown' hgrow _
            have hb1 := below_app hnx (Nat.le_refl _) (by simp) hown hgrow
            have hown2 : w1.ownsRow (w.heap.size + 1) 3 1 v' (k * wide + (j + 1)) ((fl wide (l.take k) ++ bitsTo n wide (j + 1)).map (Value.int .i64)) := by
              rw [← Nat.add_assoc, bitsTo_succ n wide j, hr, List.map_append, List.map_append]; simpa [List.map_append] using hown'
            clear hown' hgrow hown hnx hbit
            go_wp2
            go_roundw
            case rel => exact ⟨j + 1, by omega, by first | go_num | (congr 1; done) | (congr 1; omega), hown2, hb1⟩
            case measure => first | (simp [intOf]; done) | (simp [intOf]; omega)
        · obtain rfl : j = wide := by omega
          rw [← HN.out, show k * j + j = (k + 1) * j from by rw [Nat.add_mul, Nat.one_mul]] at hown
          have hown2 := hown
          rw [show (j : Int) - 1 - (j : Int) = -1 from by omega]
          clear hown
          go_wp2
          go_roundw
          case rel => exact ⟨k + 1, by omega, by go_num, hown2, hnx⟩
          case measure => simp [intOf]; omega
    · obtain rfl : k = m := by omega
      have hlk : l.take k = l := List.take_of_length_le (by rw [HM.out]; exact Nat.le_refl _)
      rw [hlk] at hown
      have hpos : 0 < k * wide := Nat.mul_pos (by omega) (by omega)
      obtain ⟨g2, cap2, rfl, hg1, hg3⟩ := hown.form hpos
      have hcb : ∀ j u, (fl wide l)[j]? = some u → wr.cell? ⟨g2, j, none⟩ = some (.int .i64 u) := by
        intro j u hj
        have hjl := (List.getElem?_eq_some_iff.1 hj).1
        rw [fl_length, HM.out] at hjl
        rw [hown.cellAt j (by omega), List.getElem?_map, hj]; rfl
      have A1 := Lib.hid (AO.out g2 cap2 wr hg3 hcb)
      have b1 := ((Below.refl _ w).alloc (Nat.le_refl _) _).trans (hnx.mono (by simp))
      have HR1 := Lib.hid (HR0.out.keep (show Below (w.alloc (.cells #[.bool false, .int .u64 0, .int .u64 0] 24)).heap.size (w.alloc (.cells #[.bool false, .int .u64 0, .int .u64 0] 24)) wr by simpa using hnx))
      have HS1 := Lib.hid (show wr.cell? ⟨b, 0, none⟩ = some (.string ⟨s.toArray⟩) by
        rw [hnx.cell (p := ⟨b, 0, none⟩) (by simp; omega), World.cell?_alloc_lt _ _ _ hb]; exact HS.out)
      have hbw : b < wr.heap.size := by have := hnx.size; simp at this; omega
      clear hown hnx hcb AO HR0 HS
      go_wp2_with fail
      refine A1.out.mono ?_
      rintro e w3 ⟨rfl, hb3⟩
      have b3 := thenBelow b1 hb3
      have HR3 := Lib.hid (HR1.out.keep hb3)
      have HS3 := Lib.hid (((hb3.cell (p := ⟨b, 0, none⟩) hbw)).trans HS1.out)
      have hbw3 : b < w3.heap.size := Nat.lt_of_lt_of_le hbw hb3.size
      clear hb3 HR1 HS1 b1 A1
      go_wp2_with fail
      refine (TX.out _).mono ?_
      rintro e w4 ⟨rfl, hb4⟩
      have b4 := thenBelow (b3.alloc b3.size _) hb4
      obtain ⟨⟨r0, r1, r2, rl⟩, rf⟩ := (HR3.out.alloc _).keep hb4
      have f0 := rf 0; have f1 := rf 1; have f2 := rf 2
      have hs4 : w4.cell? ⟨b, 0, none⟩ = some (.string ⟨s.toArray⟩) := ((hb4.cell (p := ⟨b, 0, none⟩) (by simp; omega))).trans (by rw [World.cell?_alloc_lt _ _ _ hbw3]; exact HS3.out)
      obtain ⟨a0, a1, a2, al⟩ := (AddrAt.new w3 six H L 24).keep hb4
      clear rf hb4 HR3 HS3
      go_wp2
      try simp only [Exit.inBlock, Exit.then]
      refine bodyPost_ret (v := .tuple #[.agg #[.bool false, .int .u64 0, .int .u64 0], .int .i64 4]) (by simp [results, Tryd.results11, go_sem, r0, r1, r2]) rfl ?_
      exact ⟨rfl, ((b4.setCell (by simp) _).setCell (by simp) _).setCell (by simp) _⟩
set_option maxHeartbeats 4000000 in
set_option maxRecDepth 100000 in
theorem try_yes (l : List Int) (wide g cap b : Nat) (six : Bool) (H L : Nat) (s T : List UInt8) (er : Int) (hw : 1 ≤ wide ∧ wide ≤ 16) (hlen : l.length ≤ 8) (hl0 : 1 ≤ l.length) (hv : ∀ v ∈ l, 0 ≤ v ∧ v ≤ 65535)
    (AO : Hid (∀ (g cap : Nat) (W : World), g < W.heap.size → (∀ j u, (fl wide l)[j]? = some u → W.cell? ⟨g, j, none⟩ = some (.int .i64 u)) → Calls Tryd.prog 12 #[.slice (some ⟨g, 0, none⟩) (l.length * wide) cap] W fun e w' => e = .returned (.agg #[.bool six, .int .u64 (H : Int), .int .u64 (L : Int)]) ∧ Below W.heap.size W w'))
    (TX : Hid (∀ W : World, Calls Tryd.prog 13 #[.agg #[.bool six, .int .u64 (H : Int), .int .u64 (L : Int)]] W fun e w' => e = .returned (.tuple #[.string ⟨s.toArray⟩, .int .i64 er]) ∧ Below W.heap.size W w'))
    (w : World) (hg : g < w.heap.size) (hb : b < w.heap.size) (hcs : ∀ j u, l[j]? = some u → w.cell? ⟨g, j, none⟩ = some (.int .i64 u)) (hs : w.cell? ⟨b, 0, none⟩ = some (.string ⟨s.toArray⟩)) :
    Calls Tryd.prog 11 #[.slice (some ⟨g, 0, none⟩) l.length cap, .int .i64 wide, .pointer (some ⟨b, 0, none⟩)] w fun e w' => e = .returned (.tuple #[.agg #[.bool six, .int .u64 (H : Int), .int .u64 (L : Int)], .int .i64 0]) ∧ Below w.heap.size w w' := by
  obtain ⟨i0, hii, hz0, hz1, hz2⟩ := info_parts info_int
  obtain ⟨hw1, hw2⟩ := hw
  have HCS := Lib.hid hcs
  have HV := Lib.hid hv
  have HS := Lib.hid hs
  clear hcs hv hs
  obtain ⟨m, hm⟩ : ∃ m, l.length = m := ⟨_, rfl⟩
  have HM := Lib.hid hm
  rw [hm] at hlen hl0 AO ⊢
  clear hm
  have HR0 := Lib.hid (AddrV.new w false 0 0 24)
  go_enter Tryd.func11, Tryd.ntmps11
  go_wp2
  go_loopw [7, 16] (fun v i wr => ∃ k : Nat, k ≤ m ∧ i = .int .i64 k ∧ wr.ownsRow (w.heap.size + 1) 3 1 v (k * wide) ((fl wide (l.take k)).map (Value.int .i64)) ∧ Below (w.heap.size + 1) (w.alloc (.cells #[.bool false, .int .u64 0, .int .u64 0] 24)) wr)
    (fun _ i _ => m - (intOf i).toNat)
  case atStart => exact ⟨0, by omega, rfl, by simpa [fl] using World.ownsRow_nil _ _ _ _, Below.refl _ _⟩
  case round =>
    obtain ⟨k, hk, rfl, hown, hnx⟩ := hrel
    by_cases hlt : k < m
    · have hkl : k < l.length := by rw [HM.out]; exact hlt
      obtain ⟨n, hn⟩ : ∃ n, l[k] = n := ⟨_, rfl⟩
      have hcell : wr.cell? ⟨g, k, none⟩ = some (.int .i64 n) := by
        rw [hnx.cell (p := ⟨g, k, none⟩) (by simp; omega), World.cell?_alloc_lt _ _ _ hg]
        exact HCS.out k n (by rw [← hn]; exact List.getElem?_eq_getElem hkl)
      have hn01 := HV.out n (by rw [← hn]; exact List.getElem_mem hkl)
      obtain ⟨hn0, hn1⟩ := hn01
      have HN := Lib.hid (fl_take wide l k hkl)
      rw [hn] at HN
      clear hn
      go_wp2
      go_loopw [7, 10] (fun v i wr => ∃ j : Nat, j ≤ wide ∧ i = .int .i64 ((wide : Int) - 1 - (j : Int)) ∧ wr.ownsRow (w.heap.size + 1) 3 1 v (k * wide + j) ((fl wide (l.take k) ++ bitsTo n wide j).map (Value.int .i64)) ∧ Below (w.heap.size + 1) (w.alloc (.cells #[.bool false, .int .u64 0, .int .u64 0] 24)) wr)
        (fun _ i _ => ((intOf i) + 1).toNat)
      case atStart => exact ⟨0, by omega, by go_num, by simpa [bitsTo] using hown, hnx⟩
      case round =>
        clear hown hnx hcell
        obtain ⟨j, hj, rfl, hown, hnx⟩ := hrel
        have hsz := hnx.size
        simp at hsz
        by_cases hjl : j < wide
        · obtain ⟨r, hr⟩ : ∃ r : Nat, wide - 1 - j = r := ⟨_, rfl⟩
          have er : (wide : Int) - 1 - (j : Int) = (r : Int) := by omega
          rw [er]
          have hbit : bits .and .i64 (n / 2 ^ r) 1 = bitW n r := and1_i64 _
          have hkw : k * wide ≤ 128 := Nat.le_trans (Nat.mul_le_mul (show k ≤ 8 by omega) hw2) (by decide)
          go_wp2_with (first
            | (at_builtin; refine wpList_append_own _ rfl _ _ 37 rfl (w.heap.size + 1) 3 i0 (.int .i64 0) 1 8 Tryd.underlying37 hii hz0 hz1 hz2 rfl (by decide) _ _ _ rfl (hown.alloc _) ⟨wr.heap.size, 0, none⟩ 1 1 [.int .i64 (bitW n r)] rfl rfl ?c1 ?c2 ?c3 ?c4 ?c5 ?_))
          case c1 => exact cell_one_new _ _ _
          case c2 => intro u hu; simp at hu; subst hu; rfl
          case c3 => unfold maxLen; omega
          case c4 => omega
          case c5 => simp; omega
          · intro v' w1 hown' hgrow _
            have hb1 := below_app hnx (Nat.le_refl _) (by simp) hown hgrow
            have hown2 : w1.ownsRow (w.heap.size + 1) 3 1 v' (k * wide + (j + 1)) ((fl wide (l.take k) ++ bitsTo n wide (j + 1)).map (Value.int .i64)) := by
              rw [← Nat.add_assoc, bitsTo_succ n wide j, hr, List.map_append, List.map_append]; simpa [List.map_append] using hown'
            clear hown' hgrow hown hnx hbit
            go_wp2
            go_roundw
            case rel => exact ⟨j + 1, by omega, by first | go_num | (congr 1; done) | (congr 1; omega), hown2, hb1⟩
            case measure => first | (simp [intOf]; done) | (simp [intOf]; omega)
        · obtain rfl : j = wide := by omega
          rw [← HN.out, show k * j + j = (k + 1) * j from by rw [Nat.add_mul, Nat.one_mul]] at hown
          have hown2 := hown
          rw [show (j : Int) - 1 - (j : Int) = -1 from by omega]
          clear hown
          go_wp2
          go_roundw
          case rel => exact ⟨k + 1, by omega, by go_num, hown2, hnx⟩
          case measure => simp [intOf]; omega
    · obtain rfl : k = m := by omega
      have hlk : l.take k = l := List.take_of_length_le (by rw [HM.out]; exact Nat.le_refl _)
      rw [hlk] at hown
      have hpos : 0 < k * wide := Nat.mul_pos (by omega) (by omega)
      obtain ⟨g2, cap2, rfl, hg1, hg3⟩ := hown.form hpos
      have hcb : ∀ j u, (fl wide l)[j]? = some u → wr.cell? ⟨g2, j, none⟩ = some (.int .i64 u) := by
        intro j u hj
        have hjl := (List.getElem?_eq_some_iff.1 hj).1
        rw [fl_length, HM.out] at hjl
        rw [hown.cellAt j (by omega), List.getElem?_map, hj]; rfl
      have A1 := Lib.hid (AO.out g2 cap2 wr hg3 hcb)
      have b1 := ((Below.refl _ w).alloc (Nat.le_refl _) _).trans (hnx.mono (by simp))
      have HR1 := Lib.hid (HR0.out.keep (show Below (w.alloc (.cells #[.bool false, .int .u64 0, .int .u64 0] 24)).heap.size (w.alloc (.cells #[.bool false, .int .u64 0, .int .u64 0] 24)) wr by simpa using hnx))
      have HS1 := Lib.hid (show wr.cell? ⟨b, 0, none⟩ = some (.string ⟨s.toArray⟩) by
        rw [hnx.cell (p := ⟨b, 0, none⟩) (by simp; omega), World.cell?_alloc_lt _ _ _ hb]; exact HS.out)
      have hbw : b < wr.heap.size := by have := hnx.size; simp at this; omega
      clear hown hnx hcb AO HR0 HS
      go_wp2_with fail
      refine A1.out.mono ?_
      rintro e w3 ⟨rfl, hb3⟩
      have b3 := thenBelow b1 hb3
      have HR3 := Lib.hid (HR1.out.keep hb3)
      have HS3 := Lib.hid (((hb3.cell (p := ⟨b, 0, none⟩) hbw)).trans HS1.out)
      have hbw3 : b < w3.heap.size := Nat.lt_of_lt_of_le hbw hb3.size
      clear hb3 HR1 HS1 b1 A1
      go_wp2_with fail
      refine (TX.out _).mono ?_
      rintro e w4 ⟨rfl, hb4⟩
      have b4 := thenBelow (b3.alloc b3.size _) hb4
      obtain ⟨⟨r0, r1, r2, rl⟩, rf⟩ := (HR3.out.alloc _).keep hb4
      have f0 := rf 0; have f1 := rf 1; have f2 := rf 2
      have hs4 : w4.cell? ⟨b, 0, none⟩ = some (.string ⟨s.toArray⟩) := ((hb4.cell (p := ⟨b, 0, none⟩) (by simp; omega))).trans (by rw [World.cell?_alloc_lt _ _ _ hbw3]; exact HS3.out)
      obtain ⟨a0, a1, a2, al⟩ := (AddrAt.new w3 six H L 24).keep hb4
      clear rf hb4 HR3 HS3
      go_wp2
      try simp only [Exit.inBlock, Exit.then]
      refine bodyPost_ret (v := .tuple #[.agg #[.bool six, .int .u64 (H : Int), .int .u64 (L : Int)], .int .i64 0]) (by simp [results, Tryd.results11, go_sem, r0, r1, r2]) rfl ?_
      exact ⟨rfl, ((b4.setCell (by simp) _).setCell (by simp) _).setCell (by simp) _⟩
end Go.Proofs.YtojdlhiibffnfabDoor
/-
  The document's AddrParse: the function value 'try' at four numbers of 8 bits and at eight of 16.
-/
namespace Go.Proofs.YtojdlhiibffnfabDoor
open Go.RowKit Go.Sort
set_option linter.unusedVariables false
set_option linter.unusedSimpArgs false

theorem fl_01 (wide : Nat) (l : List Int) : ∀ b ∈ fl wide l, b = 0 ∨ b = 1 := by
  intro b hb
  unfold fl at hb
  obtain ⟨n, _, h⟩ := List.mem_flatMap.1 hb
  exact bitsTo_01 _ _ _ b h
def tryW (six : Bool) : Nat := if six then 16 else 8
def tryN (six : Bool) : Nat := if six then 8 else 4
def tryH (six : Bool) (l : List Int) : Nat := if six then (spell ((fl 16 l).take 64)).toNat else 0
def tryL (six : Bool) (l : List Int) : Nat := if six then (spell ((fl 16 l).drop 64)).toNat else (spell (fl 8 l)).toNat
theorem try_bd (six : Bool) (l : List Int) (hl : l.length = tryN six) : tryH six l < 18446744073709551616 ∧ tryL six l < 18446744073709551616 ∧ (six = false → tryH six l = 0 ∧ tryL six l < 4294967296) := by
  cases six
  · have hl' : l.length = 4 := hl
    have h := spell_bd (fl 8 l) (fl_01 8 l)
    rw [fl_length, hl'] at h
    obtain ⟨a, b⟩ := h
    have b' : spell (fl 8 l) + 1 ≤ 4294967296 := b
    simp only [tryH, tryL, Bool.false_eq_true, if_false]
    refine ⟨by omega, by omega, fun _ => ⟨trivial, by omega⟩⟩
  · have hl' : l.length = 8 := hl
    have hf : (fl 16 l).length = 128 := by rw [fl_length, hl']
    have h := spell_bd ((fl 16 l).take 64) (fun b hb => fl_01 16 l b (List.mem_of_mem_take hb))
    have k := spell_bd ((fl 16 l).drop 64) (fun b hb => fl_01 16 l b (List.mem_of_mem_drop hb))
    rw [List.length_take, hf] at h
    rw [List.length_drop, hf] at k
    obtain ⟨a, b⟩ := h
    obtain ⟨c, d⟩ := k
    have b' : spell ((fl 16 l).take 64) + 1 ≤ 18446744073709551616 := b
    have d' : spell ((fl 16 l).drop 64) + 1 ≤ 18446744073709551616 := d
    simp only [tryH, tryL, if_true]
    refine ⟨by omega, by omega, fun h => by cases h⟩
theorem try_of (six : Bool) (l : List Int) (hl : l.length = tryN six) (g cap : Nat) (W : World) (hg : g < W.heap.size) (hc : ∀ j u, (fl (tryW six) l)[j]? = some u → W.cell? ⟨g, j, none⟩ = some (.int .i64 u)) :
    Calls Tryd.prog 12 #[.slice (some ⟨g, 0, none⟩) (l.length * tryW six) cap] W fun e w' => e = .returned (.agg #[.bool six, .int .u64 (tryH six l : Int), .int .u64 (tryL six l : Int)]) ∧ Below W.heap.size W w' := by
  cases six
  · have hl' : l.length = 4 := hl
    have hf : (fl 8 l).length = 32 := by rw [fl_length, hl']
    have h := (spell_bd (fl 8 l) (fl_01 8 l)).1
    have c := addrOf_four (fl 8 l) hf (fl_01 8 l) g cap W hg hc
    have e2 : ((tryL false l : Nat) : Int) = spell (fl 8 l) := by
      show (((spell (fl 8 l)).toNat : Nat) : Int) = _
      omega
    rw [e2, hl']
    exact c
  · have hl' : l.length = 8 := hl
    have hf : (fl 16 l).length = 128 := by rw [fl_length, hl']
    have h := (spell_bd ((fl 16 l).take 64) (fun b hb => fl_01 16 l b (List.mem_of_mem_take hb))).1
    have k := (spell_bd ((fl 16 l).drop 64) (fun b hb => fl_01 16 l b (List.mem_of_mem_drop hb))).1
    have c := addrOf_six (fl 16 l) hf (fl_01 16 l) g cap W hg hc
    have e1 : ((tryH true l : Nat) : Int) = spell ((fl 16 l).take 64) := by
      show (((spell ((fl 16 l).take 64)).toNat : Nat) : Int) = _
      omega
    have e2 : ((tryL true l : Nat) : Int) = spell ((fl 16 l).drop 64) := by
      show (((spell ((fl 16 l).drop 64)).toNat : Nat) : Int) = _
      omega
    rw [e1, e2, hl']
    exact c
/-- What 'try' answers. -/
def tryAns (six : Bool) (l : List Int) (s : List UInt8) : Value :=
  if textL six (tryH six l) (tryL six l) == s then .tuple #[.agg #[.bool six, .int .u64 (tryH six l : Int), .int .u64 (tryL six l : Int)], .int .i64 0]
  else .tuple #[.agg #[.bool false, .int .u64 0, .int .u64 0], .int .i64 4]
theorem try_calls (six : Bool) (l : List Int) (hl : l.length = tryN six) (hv : ∀ v ∈ l, 0 ≤ v ∧ v ≤ 65535) (s : List UInt8) (g cap b : Nat)
    (w : World) (hg : g < w.heap.size) (hb : b < w.heap.size) (hcs : ∀ j u, l[j]? = some u → w.cell? ⟨g, j, none⟩ = some (.int .i64 u)) (hs : w.cell? ⟨b, 0, none⟩ = some (.string ⟨s.toArray⟩)) :
    Calls Tryd.prog 11 #[.slice (some ⟨g, 0, none⟩) l.length cap, .int .i64 (tryW six : Int), .pointer (some ⟨b, 0, none⟩)] w fun e w' => e = .returned (tryAns six l s) ∧ Below w.heap.size w w' := by
  obtain ⟨b1, b2, _⟩ := try_bd six l hl
  have hw : 1 ≤ tryW six ∧ tryW six ≤ 16 := by cases six <;> decide
  have hn : 1 ≤ l.length ∧ l.length ≤ 8 := by rw [hl]; cases six <;> decide
  unfold tryAns
  by_cases h : textL six (tryH six l) (tryL six l) == s
  · rw [if_pos h]
    have e := eq_of_beq h
    subst e
    exact try_yes l (tryW six) g cap b six (tryH six l) (tryL six l) _ (textL six (tryH six l) (tryL six l)) (textE six (tryH six l) (tryL six l)) hw hn.2 hn.1 hv (Lib.hid (try_of six l hl)) (Lib.hid (refText_calls six _ _ b1 b2)) w hg hb hcs hs
  · rw [if_neg h]
    exact try_no l (tryW six) g cap b six (tryH six l) (tryL six l) s _ (textE six (tryH six l) (tryL six l)) (by simpa using h) hw hn.2 hn.1 hv (Lib.hid (try_of six l hl)) (Lib.hid (refText_calls six _ _ b1 b2)) w hg hb hcs hs

end Go.Proofs.YtojdlhiibffnfabDoor
/-
  The document's AddrParse, way by way.
-/
namespace Go.Proofs.YtojdlhiibffnfabDoor
open Go.RowKit Go.Sort
set_option linter.unusedVariables false
set_option linter.unusedSimpArgs false

theorem ap_long (s : List UInt8) (hl : 600 < s.length) (hm : s.length ≤ 9223372036854775807) (w : World) :
    Calls Tryd.prog 6 #[.string ⟨s.toArray⟩] w fun e w' => e = .returned (.tuple #[.agg #[.bool false, .int .u64 0, .int .u64 0], .int .i64 1]) ∧ Below w.heap.size w w' := by
  have hsz : (⟨s.toArray⟩ : ByteArray).size = s.length := by simp [ByteArray.size]
  have hli : 600 < (s.length : Int) := by omega
  go_enter Tryd.func6, Tryd.ntmps6
  go_wp2
  go_returns
  exact ⟨rfl, by go_grown⟩

theorem tryAns_form (six : Bool) (l : List Int) (s : List UInt8) : ∃ (sx : Bool) (H L E : Int), tryAns six l s = .tuple #[.agg #[.bool sx, .int .u64 H, .int .u64 L], .int .i64 E] := by
  unfold tryAns
  split
  · exact ⟨_, _, _, _, rfl⟩
  · exact ⟨_, _, _, _, rfl⟩
theorem try4 (l : List Int) (hl : l.length = 4) (hv : ∀ v ∈ l, 0 ≤ v ∧ v ≤ 255) (s : List UInt8) (R : Value) (hR : tryAns false l s = R) (g cap b : Nat)
    (w : World) (hg : g < w.heap.size) (hb : b < w.heap.size) (hcs : ∀ j u, l[j]? = some u → w.cell? ⟨g, j, none⟩ = some (.int .i64 u)) (hs : w.cell? ⟨b, 0, none⟩ = some (.string ⟨s.toArray⟩)) :
    Calls Tryd.prog 11 #[.slice (some ⟨g, 0, none⟩) 4 cap, .int .i64 8, .pointer (some ⟨b, 0, none⟩)] w fun e w' => e = .returned R ∧ Below w.heap.size w w' := by
  have c := try_calls false l hl (fun v h => ⟨(hv v h).1, by have := (hv v h).2; omega⟩) s g cap b w hg hb hcs hs
  rw [hl, hR] at c
  exact c
set_option maxHeartbeats 4000000 in
set_option maxRecDepth 100000 in
theorem ap_four (s : List UInt8) (hl : s.length ≤ 600) (ns : List Int) (hr : rn 10 255 46 [] (-1) s = some ns) (hn : ns.length = 4) (w : World) :
    Calls Tryd.prog 6 #[.string ⟨s.toArray⟩] w fun e w' => e = .returned (tryAns false ns s) ∧ Below w.heap.size w w' := by
  have hsz : (⟨s.toArray⟩ : ByteArray).size = s.length := by simp [ByteArray.size]
  have hli : ¬ 600 < (s.length : Int) := by omega
  have K1 := Lib.hid (fun (W : World) => refNums_calls 10 255 (by decide) (by decide) (by decide) (by decide) 46 s hl W)
  rw [hr] at K1
  have HV := Lib.hid (rn_bd 10 255 46 s [] (-1) ns (by simp) hr).1
  clear hr
  obtain ⟨sx, H, L, E, hR⟩ := tryAns_form false ns s
  rw [hR]
  have K2 := Lib.hid (try4 ns hn HV.out s _ hR)
  clear hR HV
  go_enter Tryd.func6, Tryd.ntmps6
  go_wp2_with fail
  refine (K1.out _).mono ?_
  rintro e w1 ⟨⟨v, rfl, hown⟩, hb1⟩
  obtain ⟨g2, cap2, rfl, hg1, hg3⟩ := hown.form (by omega)
  have HCB : Hid (∀ j u, ns[j]? = some u → w1.cell? ⟨g2, j, none⟩ = some (.int .i64 u)) := Lib.hid (by
    intro j u hj
    have hjl := (List.getElem?_eq_some_iff.1 hj).1
    rw [hown.cellAt j (by omega), List.getElem?_map, hj]; rfl)
  clear hown K1
  rw [hn]
  have b1 := thenBelow (((Below.refl _ w).alloc (Nat.le_refl _) (.cells #[.string ⟨s.toArray⟩] 9)).alloc (by simp) (.cells #[.bool false, .int .u64 0, .int .u64 0] 24)) hb1
  have HR1 := Lib.hid ((AddrV.new (w.alloc (.cells #[.string ⟨s.toArray⟩] 9)) false 0 0 24).keep hb1)
  have hs1 : w1.cell? ⟨w.heap.size, 0, none⟩ = some (.string ⟨s.toArray⟩) := (hb1.cell (p := ⟨w.heap.size, 0, none⟩) (by simp; omega)).trans (by rw [World.cell?_alloc_lt _ _ _ (by simp)]; exact cell_one_new _ _ _ 0 _ rfl)
  have hbw : w.heap.size < w1.heap.size := by have := hb1.size; simp at this; omega
  have HK := Lib.hid (K2.out g2 cap2 w.heap.size w1 hg3 hbw HCB.out hs1)
  clear hb1 K2 HCB
  go_wp2_with fail
  refine HK.out.mono ?_
  rintro e w2 ⟨rfl, hb2⟩
  have b2 := thenBelow b1 hb2
  obtain ⟨⟨r0, r1, r2, rl⟩, rf⟩ := HR1.out.keep hb2
  have f0 := rf 0; have f1 := rf 1; have f2 := rf 2
  simp at r0 r1 r2 rl f0 f1 f2
  clear rf hb2 HR1 HK b1
  go_wp2
  try simp only [Exit.inBlock, Exit.then]
  refine bodyPost_ret (v := .tuple #[.agg #[.bool sx, .int .u64 H, .int .u64 L], .int .i64 E]) (by simp [results, Tryd.results6, go_sem, r0, r1, r2]) rfl ?_
  exact ⟨rfl, ((b2.setCell (by simp) _).setCell (by simp) _).setCell (by simp) _⟩
end Go.Proofs.YtojdlhiibffnfabDoor
/-
  The document's AddrParse at eight numbers.
-/
namespace Go.Proofs.YtojdlhiibffnfabDoor
open Go.RowKit Go.Sort
set_option linter.unusedVariables false
set_option linter.unusedSimpArgs false

/-- Not so many numbers: what a reading says. -/
theorem nums_not (B : Nat) (M : Int) (hB : B ≤ 16) (hB0 : 1 ≤ B) (hM0 : 0 ≤ M) (hM : M ≤ 65535) (c : UInt8) (s : List UInt8) (hl : s.length ≤ 600) (m : Nat) (h : ∀ ns, rn B M c [] (-1) s = some ns → ns.length ≠ m) (w : World) :
    Calls Tryd.prog 14 #[.string ⟨s.toArray⟩, .int .u8 (c.toNat : Int), .int .i64 B, .int .i64 M] w fun e w' => (e = .returned (.tuple #[.slice none 0 0, .bool false]) ∨ ∃ p n cap, e = .returned (.tuple #[.slice p n cap, .bool true]) ∧ ((n : Int) == (m : Int)) = false) ∧ Below w.heap.size w w' := by
  refine (refNums_calls B M hB hB0 hM0 hM c s hl w).mono ?_
  rintro e w' ⟨ho, hb⟩
  refine ⟨?_, hb⟩
  cases hr : rn B M c [] (-1) s with
  | none => rw [hr] at ho; exact .inl ho
  | some ns =>
    rw [hr] at ho
    obtain ⟨v, rfl, hown⟩ := ho
    have hn := h ns hr
    rcases hown.2 with ⟨rfl, hz⟩ | ⟨g, cap, cur, rfl, _⟩
    · exact .inr ⟨none, 0, 0, rfl, by simp; omega⟩
    · exact .inr ⟨_, _, _, rfl, by simp; omega⟩
theorem try8 (l : List Int) (hl : l.length = 8) (hv : ∀ v ∈ l, 0 ≤ v ∧ v ≤ 65535) (s : List UInt8) (R : Value) (hR : tryAns true l s = R) (g cap b : Nat)
    (w : World) (hg : g < w.heap.size) (hb : b < w.heap.size) (hcs : ∀ j u, l[j]? = some u → w.cell? ⟨g, j, none⟩ = some (.int .i64 u)) (hs : w.cell? ⟨b, 0, none⟩ = some (.string ⟨s.toArray⟩)) :
    Calls Tryd.prog 11 #[.slice (some ⟨g, 0, none⟩) 8 cap, .int .i64 16, .pointer (some ⟨b, 0, none⟩)] w fun e w' => e = .returned R ∧ Below w.heap.size w w' := by
  have c := try_calls true l hl hv s g cap b w hg hb hcs hs
  rw [hl, hR] at c
  exact c
set_option maxHeartbeats 4000000 in
set_option maxRecDepth 100000 in
theorem ap_eight (s : List UInt8) (hl : s.length ≤ 600) (h4 : ∀ ns, rn 10 255 46 [] (-1) s = some ns → ns.length ≠ 4) (ns : List Int) (hr : rn 16 65535 58 [] (-1) s = some ns) (hn : ns.length = 8) (w : World) :
    Calls Tryd.prog 6 #[.string ⟨s.toArray⟩] w fun e w' => e = .returned (tryAns true ns s) ∧ Below w.heap.size w w' := by
  have hsz : (⟨s.toArray⟩ : ByteArray).size = s.length := by simp [ByteArray.size]
  have hli : ¬ 600 < (s.length : Int) := by omega
  have K0 := Lib.hid (fun (W : World) => nums_not 10 255 (by decide) (by decide) (by decide) (by decide) 46 s hl 4 h4 W)
  have K1 := Lib.hid (fun (W : World) => refNums_calls 16 65535 (by decide) (by decide) (by decide) (by decide) 58 s hl W)
  rw [hr] at K1
  have HV := Lib.hid (rn_bd 16 65535 58 s [] (-1) ns (by simp) hr).1
  clear hr h4
  obtain ⟨sx, H, L, E, hR⟩ := tryAns_form true ns s
  rw [hR]
  have K2 := Lib.hid (try8 ns hn HV.out s _ hR)
  clear hR HV
  go_enter Tryd.func6, Tryd.ntmps6
  go_wp2_with fail
  refine (K0.out _).mono ?_
  rintro e w0 ⟨ho, hb0⟩
  have b0 := thenBelow (((Below.refl _ w).alloc (Nat.le_refl _) (.cells #[.string ⟨s.toArray⟩] 9)).alloc (by simp) (.cells #[.bool false, .int .u64 0, .int .u64 0] 24)) hb0
  have HR0 := Lib.hid ((AddrV.new (w.alloc (.cells #[.string ⟨s.toArray⟩] 9)) false 0 0 24).keep hb0)
  have hs0 : w0.cell? ⟨w.heap.size, 0, none⟩ = some (.string ⟨s.toArray⟩) := (hb0.cell (p := ⟨w.heap.size, 0, none⟩) (by simp; omega)).trans (by rw [World.cell?_alloc_lt _ _ _ (by simp)]; exact cell_one_new _ _ _ 0 _ rfl)
  have hbw0 : w.heap.size < w0.heap.size := by have := hb0.size; simp at this; omega
  clear hb0 K0
  rcases ho with rfl | ⟨p, n, cap, rfl, hn4⟩
  all_goals
    go_wp2_with fail
    refine (K1.out _).mono ?_
    rintro e w1 ⟨⟨v, rfl, hown⟩, hb1⟩
    obtain ⟨g2, cap2, rfl, hg1, hg3⟩ := hown.form (by omega)
    have HCB : Hid (∀ j u, ns[j]? = some u → w1.cell? ⟨g2, j, none⟩ = some (.int .i64 u)) := Lib.hid (by
      intro j u hj
      have hjl := (List.getElem?_eq_some_iff.1 hj).1
      rw [hown.cellAt j (by omega), List.getElem?_map, hj]; rfl)
    clear hown K1
    rw [hn]
    have b1 := thenBelow b0 hb1
    have HR1 := Lib.hid (HR0.out.keep hb1)
    have hs1 : w1.cell? ⟨w.heap.size, 0, none⟩ = some (.string ⟨s.toArray⟩) := (hb1.cell (p := ⟨w.heap.size, 0, none⟩) hbw0).trans hs0
    have hbw : w.heap.size < w1.heap.size := Nat.lt_of_lt_of_le hbw0 hb1.size
    have HK := Lib.hid (K2.out g2 cap2 w.heap.size w1 hg3 hbw HCB.out hs1)
    clear hb1 K2 HCB HR0 b0 hs0
    go_wp2_with fail
    refine HK.out.mono ?_
    rintro e w2 ⟨rfl, hb2⟩
    have b2 := thenBelow b1 hb2
    obtain ⟨⟨r0, r1, r2, rl⟩, rf⟩ := HR1.out.keep hb2
    have f0 := rf 0; have f1 := rf 1; have f2 := rf 2
    simp at r0 r1 r2 rl f0 f1 f2
    clear rf hb2 HR1 HK b1
    go_wp2
    try simp only [Exit.inBlock, Exit.then]
    refine bodyPost_ret (v := .tuple #[.agg #[.bool sx, .int .u64 H, .int .u64 L], .int .i64 E]) (by simp [results, Tryd.results6, go_sem, r0, r1, r2]) rfl ?_
    exact ⟨rfl, ((b2.setCell (by simp) _).setCell (by simp) _).setCell (by simp) _⟩
end Go.Proofs.YtojdlhiibffnfabDoor
/-
  The document's AddrParse where neither four nor eight numbers are read and no two colons stand side by side.
-/
namespace Go.Proofs.YtojdlhiibffnfabDoor
open Go.RowKit Go.Sort
set_option linter.unusedVariables false
set_option linter.unusedSimpArgs false

theorem index_up (T : List UInt8) (k : Nat) (h : k + 1 < T.length) (W : World) :
    (Instr.index 9 (.string ⟨T.toArray⟩) (.int .i64 ((k : Int) + 1))).run Tryd.prog W = .ok (.int .u8 ((T[k + 1].toNat : Nat) : Int)) W :=
  index_list T (k + 1) h W
theorem byte_ne {x : UInt8} (h : x ≠ 58) : ((x.toNat : Int) == 58) = false ∧ ((x.toNat : Int) != 58) = true ∧ ¬ (x.toNat : Int) = 58 := by
  have : ¬ (x.toNat : Int) = 58 := fun e => h (UInt8.toNat_inj.1 (show x.toNat = 58 by omega))
  simp [this]
set_option maxHeartbeats 4000000 in
set_option maxRecDepth 100000 in
theorem ap_none (s : List UInt8) (hl : s.length ≤ 600) (h4 : ∀ ns, rn 10 255 46 [] (-1) s = some ns → ns.length ≠ 4) (h8 : ∀ ns, rn 16 65535 58 [] (-1) s = some ns → ns.length ≠ 8)
    (hno : ∀ k (h : k + 1 < s.length), ¬ (s[k] = 58 ∧ s[k + 1] = 58)) (w : World) :
    Calls Tryd.prog 6 #[.string ⟨s.toArray⟩] w fun e w' => e = .returned (.tuple #[.agg #[.bool false, .int .u64 0, .int .u64 0], .int .i64 4]) ∧ Below w.heap.size w w' := by
  have hsz : (⟨s.toArray⟩ : ByteArray).size = s.length := by simp [ByteArray.size]
  have hli : ¬ 600 < (s.length : Int) := by omega
  have K0 := Lib.hid (fun (W : World) => nums_not 10 255 (by decide) (by decide) (by decide) (by decide) 46 s hl 4 h4 W)
  have K1 := Lib.hid (fun (W : World) => nums_not 16 65535 (by decide) (by decide) (by decide) (by decide) 58 s hl 8 h8 W)
  have NO := Lib.hid hno
  clear h4 h8 hno
  go_enter Tryd.func6, Tryd.ntmps6
  go_wp2_with fail
  refine (K0.out _).mono ?_
  rintro e w0 ⟨ho, hb0⟩
  have b0 := thenBelow (((Below.refl _ w).alloc (Nat.le_refl _) (.cells #[.string ⟨s.toArray⟩] 9)).alloc (by simp) (.cells #[.bool false, .int .u64 0, .int .u64 0] 24)) hb0
  have HR0 := Lib.hid ((AddrV.new (w.alloc (.cells #[.string ⟨s.toArray⟩] 9)) false 0 0 24).keep hb0)
  have hs0 : w0.cell? ⟨w.heap.size, 0, none⟩ = some (.string ⟨s.toArray⟩) := (hb0.cell (p := ⟨w.heap.size, 0, none⟩) (by simp; omega)).trans (by rw [World.cell?_alloc_lt _ _ _ (by simp)]; exact cell_one_new _ _ _ 0 _ rfl)
  have hbw0 : w.heap.size < w0.heap.size := by have := hb0.size; simp at this; omega
  clear hb0 K0
  rcases ho with rfl | ⟨p, n, cap, rfl, hn4⟩
  all_goals
    go_wp2_with fail
    refine (K1.out _).mono ?_
    rintro e w1 ⟨ho1, hb1⟩
    have b1 := thenBelow b0 hb1
    have hs1 : w1.cell? ⟨w.heap.size, 0, none⟩ = some (.string ⟨s.toArray⟩) := (hb1.cell (p := ⟨w.heap.size, 0, none⟩) hbw0).trans hs0
    have HR1 := Lib.hid (HR0.out.keep hb1)
    clear hb1 K1 b0 hs0 hbw0 HR0
    rcases ho1 with rfl | ⟨p1, n1, cap1, rfl, hn8⟩
  all_goals
    go_wp2
    go_loopw [9] (fun iv wr => ∃ k : Nat, k ≤ s.length ∧ iv = .int .i64 k ∧ wr = w1) (fun iv _ => s.length - (intOf iv).toNat)
    case atStart => exact ⟨0, by omega, rfl, rfl⟩
    case round =>
      obtain ⟨k, hk, rfl, rfl⟩ := hrel
      by_cases hlt : k + 1 < s.length
      · have hx := index_list s k (by omega)
        have hy := index_up s k hlt
        have hn := NO.out k hlt
        generalize s[k]'(by omega) = x at hx hn
        generalize s[k + 1]'hlt = y at hy hn
        by_cases e : x = 58
        · subst e
          obtain ⟨y0, y1, y2⟩ := byte_ne (fun h => hn ⟨rfl, h⟩)
          replace hx : ∀ W, (Instr.index 9 (.string ⟨s.toArray⟩) (.int .i64 (k : Int))).run Tryd.prog W = .ok (.int .u8 58) W := hx
          clear hn
          go_wp2_with fail
          go_roundw
          case rel => exact ⟨k + 1, by omega, by go_num, by first | rfl | trivial⟩
          case measure => simp [intOf]; omega
        · obtain ⟨x0, x1, x2⟩ := byte_ne e
          clear hn e
          go_wp2_with fail
          go_roundw
          case rel => exact ⟨k + 1, by omega, by go_num, by first | rfl | trivial⟩
          case measure => simp [intOf]; omega
      · obtain ⟨⟨r0, r1, r2, rl⟩, rf⟩ := HR1.out
        have f0 := rf 0; have f1 := rf 1; have f2 := rf 2
        simp at r0 r1 r2 rl f0 f1 f2
        clear rf HR1
        go_wp2
        try simp only [Exit.inBlock, Exit.then]
        refine bodyPost_ret (v := .tuple #[.agg #[.bool false, .int .u64 0, .int .u64 0], .int .i64 4]) (by simp [results, Tryd.results6, go_sem, r0, r1, r2]) rfl ?_
        exact ⟨rfl, ((b1.setCell (by simp) _).setCell (by simp) _).setCell (by simp) _⟩
end Go.Proofs.YtojdlhiibffnfabDoor
/-
  Contracts of pre.Text.
-/
namespace Go.Proofs.YtojdlhiibffnfabDoor
open Go.RowKit Go.Sort
set_option linter.unusedVariables false
set_option linter.unusedSimpArgs false

/-- The text of a prefix that is valid. -/
def preT (six : Bool) (x n : Nat) : List UInt8 := textL six (x / 18446744073709551616) (x % 18446744073709551616) ++ [47] ++ numText 10 3 n
theorem cat2 (a b : List UInt8) : (⟨a.toArray⟩ : ByteArray) ++ ⟨b.toArray⟩ = ⟨(a ++ b).toArray⟩ := by
  apply ByteArray.ext
  simp
theorem cat3 (a b c : List UInt8) : (⟨a.toArray⟩ : ByteArray) ++ ⟨b.toArray⟩ ++ ⟨c.toArray⟩ = ⟨(a ++ b ++ c).toArray⟩ := by rw [cat2, cat2]
theorem textL_le (six : Bool) (H L : Nat) : (textL six H L).length ≤ 39 := by
  unfold textL
  split
  · exact (six_facts _ rfl).2.2.2
  · split
    · have := (four_facts L).2.2.1; omega
    · simp
theorem itoa_small (n : Nat) (h : n < 256) : Lib.itoa (n : Int) = numText 10 3 n := by
  have := dec_small ⟨n, h⟩
  simp only at this
  rw [← this]
  simp [Lib.itoa]
theorem itoa_calls (n : Nat) (h : n < 256) (w : World) (ht : Tabs w) :
    Calls Tryd.prog 30 #[.int .i64 (n : Int)] w fun e w' => e = .returned (.string ⟨(numText 10 3 n).toArray⟩) ∧ Below w.heap.size w w' := by
  refine (Tryd.strconv_Itoa (n : Int) (by omega) (by omega) w ht.2.1).mono ?_
  rintro e w' ⟨rfl, k, os, rfl⟩
  exact ⟨by rw [itoa_small n h], grow_below w os k⟩
theorem textE0 (six : Bool) (x : Nat) (hx : x < 2 ^ wideN six) : textE six (x / 18446744073709551616) (x % 18446744073709551616) = 0 := by
  cases six
  · have hx' : x < 4294967296 := hx
    unfold textE; rw [if_neg (by decide), if_pos ⟨by omega, by omega⟩]
  · rfl

set_option maxHeartbeats 400000 in
theorem pText_err (six : Bool) (x : Nat) (n e0 : Int) (hx : x < 2 ^ 128) (hc : chkE six x n = e0) (he : (e0 == 0) = false) (w : World) :
    Calls Tryd.prog 16 #[.agg #[.bool six, .int .u64 (aH x), .int .u64 (aL x), .int .i64 n]] w fun e w' => e = .returned (.tuple #[.string ⟨#[]⟩, .int .i64 e0]) ∧ Below w.heap.size w w' := by
  have C := Lib.hid hc
  clear hc
  go_enter Tryd.func16, Tryd.ntmps16
  go_wp2_with fail
  refine (check_calls six x n hx _).mono ?_
  rw [C.out]
  rintro e w1 ⟨rfl, hb1⟩
  have b1 := thenBelow ((Below.refl _ w).alloc (Nat.le_refl _) _) hb1
  clear hb1
  go_wp2
  go_ret2
  exact ⟨rfl, b1⟩
set_option maxHeartbeats 1000000 in
theorem pText_ok (six : Bool) (x n : Nat) (hx : x < 2 ^ wideN six) (hn : n ≤ wideN six) (hc : chkE six x n = 0) (w : World) (ht : Tabs w) :
    Calls Tryd.prog 16 #[.agg #[.bool six, .int .u64 (aH x), .int .u64 (aL x), .int .i64 n]] w fun e w' => e = .returned (.tuple #[.string ⟨(preT six x n).toArray⟩, .int .i64 0]) ∧ Below w.heap.size w w' := by
  have hW := wideN_le six
  have hx' := lt128 hx
  have T1 := Lib.hid (fun (W : World) (h : Tabs W) => text_calls six (x / 18446744073709551616) (x % 18446744073709551616) (by omega) (by omega) W h)
  rw [textE0 six x hx] at T1
  have I1 := Lib.hid (fun (W : World) (h : Tabs W) => itoa_calls n (by omega) W h)
  have HT := Lib.hid ht
  have C := Lib.hid hc
  have hdef : preT six x n = textL six (x / 18446744073709551616) (x % 18446744073709551616) ++ [47] ++ numText 10 3 n := rfl
  have HD := Lib.hid hdef
  clear ht hc hdef
  have lT := textL_le six (x / 18446744073709551616) (x % 18446744073709551616)
  have lN := numText_le 10 3 n
  generalize textL six (x / 18446744073709551616) (x % 18446744073709551616) = T at *
  generalize numText 10 3 n = N at *
  generalize preT six x n = R at *
  go_enter Tryd.func16, Tryd.ntmps16
  go_wp2_with fail
  refine (check_calls six x n hx' _).mono ?_
  rw [C.out]
  rintro e w1 ⟨rfl, hb1⟩
  have b1 := thenBelow ((Below.refl _ w).alloc (Nat.le_refl _) _) hb1
  have HT1 := Lib.hid ((HT.out.alloc _).keep hb1)
  have P1 := (PreAt.new w six (aH x) (aL x) n 30).keep hb1
  have HP1 := Lib.hid P1
  obtain ⟨p0, p1, p2, p3, pl⟩ := P1
  clear hb1
  go_wp2_with fail
  refine (T1.out _ HT1.out).mono ?_
  rintro e w2 ⟨rfl, hb2⟩
  have b2 := thenBelow b1 hb2
  have HT2 := Lib.hid (HT1.out.keep hb2)
  clear p0 p1 p2 p3 pl
  obtain ⟨p0, p1, p2, p3, pl⟩ := HP1.out.keep hb2
  clear hb2 b1 HT1 HP1
  go_wp2_with fail
  refine (I1.out _ HT2.out).mono ?_
  rintro e w3 ⟨rfl, hb3⟩
  go_wp2
  go_ret2
  refine ⟨?_, thenBelow b2 hb3⟩
  rw [HD.out, ← cat3]
  rfl

end Go.Proofs.YtojdlhiibffnfabDoor
/-
  Contracts of the document's PreText.
-/
namespace Go.Proofs.YtojdlhiibffnfabDoor
open Go.RowKit Go.Sort
set_option linter.unusedVariables false
set_option linter.unusedSimpArgs false

set_option maxHeartbeats 400000 in
theorem refPText_err (six : Bool) (x : Nat) (n e0 : Int) (hx : x < 2 ^ 128) (hc : chkE six x n = e0) (he : (e0 == 0) = false) (w : World) :
    Calls Tryd.prog 17 #[.agg #[.bool six, .int .u64 (aH x), .int .u64 (aL x), .int .i64 n]] w fun e w' => e = .returned (.tuple #[.string ⟨#[]⟩, .int .i64 e0]) ∧ Below w.heap.size w w' := by
  have C := Lib.hid hc
  clear hc
  go_enter Tryd.func17, Tryd.ntmps17
  go_wp2_with fail
  refine (refFault_calls six x n hx _).mono ?_
  rw [C.out]
  rintro e w1 ⟨rfl, hb1⟩
  have b1 := thenBelow ((Below.refl _ w).alloc (Nat.le_refl _) _) hb1
  clear hb1
  go_wp2
  go_ret2
  exact ⟨rfl, b1⟩
set_option maxHeartbeats 1000000 in
theorem refPText_ok (six : Bool) (x n : Nat) (hx : x < 2 ^ wideN six) (hn : n ≤ wideN six) (hc : chkE six x n = 0) (w : World) :
    Calls Tryd.prog 17 #[.agg #[.bool six, .int .u64 (aH x), .int .u64 (aL x), .int .i64 n]] w fun e w' => e = .returned (.tuple #[.string ⟨(preT six x n).toArray⟩, .int .i64 0]) ∧ Below w.heap.size w w' := by
  have hW := wideN_le six
  have hx' := lt128 hx
  have T1 := Lib.hid (fun (W : World) => refText_calls six (x / 18446744073709551616) (x % 18446744073709551616) (by omega) (by omega) W)
  rw [textE0 six x hx] at T1
  have I1 := Lib.hid (fun (W : World) => numberText_calls 10 (.inl rfl) 3 n (by omega) (by omega) (by omega) (by omega) W)
  have C := Lib.hid hc
  have hdef : preT six x n = textL six (x / 18446744073709551616) (x % 18446744073709551616) ++ [47] ++ numText 10 3 n := rfl
  have HD := Lib.hid hdef
  clear hc hdef
  have lT := textL_le six (x / 18446744073709551616) (x % 18446744073709551616)
  have lN := numText_le 10 3 n
  generalize textL six (x / 18446744073709551616) (x % 18446744073709551616) = T at *
  generalize numText 10 3 n = N at *
  generalize preT six x n = R at *
  go_enter Tryd.func17, Tryd.ntmps17
  go_wp2_with fail
  refine (refFault_calls six x n hx' _).mono ?_
  rw [C.out]
  rintro e w1 ⟨rfl, hb1⟩
  have b1 := thenBelow ((Below.refl _ w).alloc (Nat.le_refl _) _) hb1
  have P1 := (PreAt.new w six (aH x) (aL x) n 30).keep hb1
  have HP1 := Lib.hid P1
  obtain ⟨p0, p1, p2, p3, pl⟩ := P1
  clear hb1
  go_wp2_with fail
  refine (T1.out _).mono ?_
  rintro e w2 ⟨rfl, hb2⟩
  have b2 := thenBelow b1 hb2
  clear p0 p1 p2 p3 pl
  obtain ⟨p0, p1, p2, p3, pl⟩ := HP1.out.keep hb2
  clear hb2 b1 HP1
  go_wp2_with fail
  refine (I1.out _).mono ?_
  rintro e w3 ⟨rfl, rfl⟩
  go_wp2
  go_ret2
  refine ⟨?_, b2⟩
  rw [HD.out, ← cat3]
  rfl
end Go.Proofs.YtojdlhiibffnfabDoor
