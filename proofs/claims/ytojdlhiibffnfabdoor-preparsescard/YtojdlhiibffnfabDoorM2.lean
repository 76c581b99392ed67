/-
  Texts that the proof rests on, laid together: RefTry, RefTryAll, RefParse, RefParseB, RefParseC, AppTwo, RefParseD, RefParseE, RefParseF, RefParseG, RefParseH, ReadNums, Joined, ReadFour, ReadSix, Parse, BackA, BackB, RefParseI, ShelfC, PreNum, PreA, PreB, PreC, PText.
-/
import Derived.Laws.AppendOwnNone
import Derived.Lib.SplitLaws
import Derived.Test.YtojdlhiibffnfabDoorProg
import Derived.Laws.BitsAllLaws
import Derived.Laws.CopyOwn
import Derived.Shelf.Strings.Builder1
import Derived.Shelf.Strings.Builder2
import Derived.Shelf.Strings.OnBuilder
import Derived.Shelf.Utf8.RuneCount
import Derived.Shelf.Strconv.Atoi
import Derived.Shelf.Strconv.Itoa0
import Derived.Shelf.Strconv.Itoa1
import Derived.Shelf.LaysM
import Derived.Shelf.Strconv.Itoa2
import Derived.Shelf.Strconv.Itoa3
import Derived.Shelf.Strconv.AtoiErrFast
import Derived.Shelf.Strconv.ParseIntEmpty
import Derived.Shelf.Strconv.AtoiFail
import Derived.Shelf.Strconv.Clone
import Derived.Shelf.Strconv.SyntaxError
import Derived.Shelf.LaysC
import Derived.Shelf.Strconv.ToError
import Derived.Shelf.Strconv.Lower
import Derived.Shelf.Strconv.ParseUint10
import Derived.Shelf.Strconv.ParseUint10Empty
import Derived.Shelf.Strconv.ParseUint10Any
import Derived.Shelf.Strconv.ParseInt10
import Derived.Shelf.Strconv.AtoiLong
import Derived.Shelf.Strconv.AtoiInnerAll
import Derived.Shelf.Strconv.RangeError
import Derived.Shelf.Strconv.ToErrorRange
import Derived.Shelf.Strconv.AtoiAll
import Derived.Shelf.Strconv.ErrVarAll
import Derived.Shelf.Strconv.ParseUintEmpty
import Derived.Shelf.Strconv.ParseUint10b8
import Derived.Ground.MpProg
import Derived.Shelf.Pu.ParseUintPublic10
import Derived.Shelf.Pu.ErrVarParseUint
import Derived.Shelf.Strings.Search1
import Derived.Shelf.Strings.Search2
import Derived.Shelf.Strings.Search3
import Derived.Shelf.Strings.Cut
import Derived.Shelf.Strings.Count
import Derived.Shelf.Strings.Shaped
import Derived.Shelf.Strings.Split
import Derived.Shelf.Strings.SplitShaped
import Derived.Shelf.Unicode.Decode
import Derived.Shelf.Strings.RuneCount
import Derived.Shelf.Strings.Explode
import Derived.Shelf.Unicode.DecodeSlow
import Derived.Shelf.Unicode.DecodeAny
import Derived.WalkSmall
import Derived.Test.YtojdlhiibffnfabDoorM1

/-
  The document's AddrParse: the function value 'try'.
-/
namespace Go.Proofs.YtojdlhiibffnfabDoor
open Go.RowKit Go.Sort
set_option linter.unusedVariables false
set_option linter.unusedSimpArgs false

/-- The bits of numbers of so many bits. -/
def fl (wide : Nat) (l : List Int) : List Int := l.flatMap fun n => bitsTo n wide wide
theorem fl_take (wide : Nat) (l : List Int) (k : Nat) (h : k < l.length) : fl wide (l.take (k + 1)) = fl wide (l.take k) ++ bitsTo l[k] wide wide := by
  unfold fl
  rw [List.take_succ_eq_append_getElem h, List.flatMap_append]
  simp
theorem fl_length (wide : Nat) (l : List Int) : (fl wide l).length = l.length * wide := by
  induction l with
  | nil => simp [fl]
  | cons n l ih =>
    have : fl wide (n :: l) = bitsTo n wide wide ++ fl wide l := rfl
    rw [this, List.length_append, bitsTo_length, ih, List.length_cons, Nat.add_mul]
    omega

set_option maxHeartbeats 4000000 in
set_option maxRecDepth 100000 in
theorem try_no (l : List Int) (wide g cap b : Nat) (six : Bool) (H L : Nat) (s T : List UInt8) (er : Int) (hne : (T == s) = false) (hw : 1 ≤ wide ∧ wide ≤ 16) (hlen : l.length ≤ 8) (hl0 : 1 ≤ l.length) (hv : ∀ v ∈ l, 0 ≤ v ∧ v ≤ 65535)
    (AO : Hid (∀ (g cap : Nat) (W : World), g < W.heap.size → (∀ j u, (fl wide l)[j]? = some u → W.cell? ⟨g, j, none⟩ = some (.int .i64 u)) → Calls Tryd.prog 12 #[.slice (some ⟨g, 0, none⟩) (l.length * wide) cap] W fun e w' => e = .returned (.agg #[.bool six, .int .u64 (H : Int), .int .u64 (L : Int)]) ∧ Below W.heap.size W w'))
    (TX : Hid (∀ W : World, Calls Tryd.prog 13 #[.agg #[.bool six, .int .u64 (H : Int), .int .u64 (L : Int)]] W fun e w' => e = .returned (.tuple #[.string ⟨T.toArray⟩, .int .i64 er]) ∧ Below W.heap.size W w'))
    (w : World) (hg : g < w.heap.size) (hb : b < w.heap.size) (hcs : ∀ j u, l[j]? = some u → w.cell? ⟨g, j, none⟩ = some (.int .i64 u)) (hs : w.cell? ⟨b, 0, none⟩ = some (.string ⟨s.toArray⟩)) :
    Calls Tryd.prog 11 #[.slice (some ⟨g, 0, none⟩) l.length cap, .int .i64 wide, .pointer (some ⟨b, 0, none⟩)] w fun e w' => e = .returned (.tuple #[.agg #[.bool false, .int .u64 0, .int .u64 0], .int .i64 4]) ∧ Below w.heap.size w w' := by
  obtain ⟨i0, hii, hz0, hz1, hz2⟩ := info_parts info_int
  obtain ⟨hw1, hw2⟩ := hw
  have HCS := Lib.hid hcs
  have HV := Lib.hid hv
  have HS := Lib.hid hs
  clear hcs hv hs
  obtain ⟨m, hm⟩ : ∃ m, l.length = m := ⟨_, rfl⟩
  have HM := Lib.hid hm
  rw [hm] at hlen hl0 AO ⊢
  clear hm
  have HR0 := Lib.hid (AddrV.new w false 0 0 24)
  go_enter Tryd.func11, Tryd.ntmps11
  go_wp2
  go_loopw [7, 16] (fun v i wr => ∃ k : Nat, k ≤ m ∧ i = .int .i64 k ∧ wr.ownsRow (w.heap.size + 1) 3 1 v (k * wide) ((fl wide (l.take k)).map (Value.int .i64)) ∧ Below (w.heap.size + 1) (w.alloc (.cells #[.bool false, .int .u64 0, .int .u64 0] 24)) wr)
    (fun _ i _ => m - (intOf i).toNat)
  case atStart => exact ⟨0, by omega, rfl, by simpa [fl] using World.ownsRow_nil _ _ _ _, Below.refl _ _⟩
  case round =>
    obtain ⟨k, hk, rfl, hown, hnx⟩ := hrel
    by_cases hlt : k < m
    · have hkl : k < l.length := by rw [HM.out]; exact hlt
      obtain ⟨n, hn⟩ : ∃ n, l[k] = n := ⟨_, rfl⟩
      have hcell : wr.cell? ⟨g, k, none⟩ = some (.int .i64 n) := by
        rw [hnx.cell (p := ⟨g, k, none⟩) (by simp; omega), World.cell?_alloc_lt _ _ _ hg]
        exact HCS.out k n (by rw [← hn]; exact List.getElem?_eq_getElem hkl)
      have hn01 := HV.out n (by rw [← hn]; exact List.getElem_mem hkl)
      obtain ⟨hn0, hn1⟩ := hn01
      have HN := Lib.hid (fl_take wide l k hkl)
      rw [hn] at HN
      clear hn
      go_wp2
      go_loopw [7, 10] (fun v i wr => ∃ j : Nat, j ≤ wide ∧ i = .int .i64 ((wide : Int) - 1 - (j : Int)) ∧ wr.ownsRow (w.heap.size + 1) 3 1 v (k * wide + j) ((fl wide (l.take k) ++ bitsTo n wide j).map (Value.int .i64)) ∧ Below (w.heap.size + 1) (w.alloc (.cells #[.bool false, .int .u64 0, .int .u64 0] 24)) wr)
        (fun _ i _ => ((intOf i) + 1).toNat)
      case atStart => exact ⟨0, by omega, by go_num, by simpa [bitsTo] using hown, hnx⟩
      case round =>
        clear hown hnx hcell
        obtain ⟨j, hj, rfl, hown, hnx⟩ := hrel
        have hsz := hnx.size
        simp at hsz
        by_cases hjl : j < wide
        · obtain ⟨r, hr⟩ : ∃ r : Nat, wide - 1 - j = r := ⟨_, rfl⟩
          have er : (wide : Int) - 1 - (j : Int) = (r : Int) := by omega
          rw [er]
          have hbit : bits .and .i64 (n / 2 ^ r) 1 = bitW n r := and1_i64 _
          have hkw : k * wide ≤ 128 := Nat.le_trans (Nat.mul_le_mul (show k ≤ 8 by omega) hw2) (by decide)
          go_wp2_with (first
            | (at_builtin; refine wpList_append_own _ rfl _ _ 37 rfl (w.heap.size + 1) 3 i0 (.int .i64 0) 1 8 Tryd.underlying37 hii hz0 hz1 hz2 rfl (by decide) _ _ _ rfl (hown.alloc _) ⟨wr.heap.size, 0, none⟩ 1 1 [.int .i64 (bitW n r)] rfl rfl ?c1 ?c2 ?c3 ?c4 ?c5 ?_))
          case c1 => exact cell_one_new _ _ _
          case c2 => intro u hu; simp at hu; subst hu; rfl
          case c3 => unfold maxLen; omega
          case c4 => omega
          case c5 => simp; omega
          · intro v' w1 hown' hgrow _
            have hb1 := below_app hnx (Nat.le_refl _) (by simp) hown hgrow
            have hown2 : w1.ownsRow (w.heap.size + 1) 3 1 v' (k * wide + (j + 1)) ((fl wide (l.take k) ++ bitsTo n wide (j + 1)).map (Value.int .i64)) := by
              rw [← Nat.add_assoc, bitsTo_succ n wide j, hr, List.map_append, List.map_append]; simpa [List.map_append] using hown'
            clear hown' hgrow hown hnx hbit
            go_wp2
            go_roundw
            case rel => exact ⟨j + 1, by omega, by first | go_num | (congr 1; done) | (congr 1; omega), hown2, hb1⟩
            case measure => first | (simp [intOf]; done) | (simp [intOf]; omega)
        · obtain rfl : j = wide := by omega
          rw [← HN.out, show k * j + j = (k + 1) * j from by rw [Nat.add_mul, Nat.one_mul]] at hown
          have hown2 := hown
          rw [show (j : Int) - 1 - (j : Int) = -1 from by omega]
          clear hown
          go_wp2
          go_roundw
          case rel => exact ⟨k + 1, by omega, by go_num, hown2, hnx⟩
          case measure => simp [intOf]; omega
    · obtain rfl : k = m := by omega
      have hlk : l.take k = l := List.take_of_length_le (by rw [HM.out]; exact Nat.le_refl _)
      rw [hlk] at hown
      have hpos : 0 < k * wide := Nat.mul_pos (by omega) (by omega)
      obtain ⟨g2, cap2, rfl, hg1, hg3⟩ := hown.form hpos
      have hcb : ∀ j u, (fl wide l)[j]? = some u → wr.cell? ⟨g2, j, none⟩ = some (.int .i64 u) := by
        intro j u hj
        have hjl := (List.getElem?_eq_some_iff.1 hj).1
        rw [fl_length, HM.out] at hjl
        rw [hown.cellAt j (by omega), List.getElem?_map, hj]; rfl
      have A1 := Lib.hid (AO.out g2 cap2 wr hg3 hcb)
      have b1 := ((Below.refl _ w).alloc (Nat.le_refl _) _).trans (hnx.mono (by simp))
      have HR1 := Lib.hid (HR0.out.keep (show Below (w.alloc (.cells #[.bool false, .int .u64 0, .int .u64 0] 24)).heap.size (w.alloc (.cells #[.bool false, .int .u64 0, .int .u64 0] 24)) wr by simpa using hnx))
      have HS1 := Lib.hid (show wr.cell? ⟨b, 0, none⟩ = some (.string ⟨s.toArray⟩) by
        rw [hnx.cell (p := ⟨b, 0, none⟩) (by simp; omega), World.cell?_alloc_lt _ _ _ hb]; exact HS.out)
      have hbw : b < wr.heap.size := by have := hnx.size; simp at this; omega
      clear hown hnx hcb AO HR0 HS
      go_wp2_with fail
      refine A1.out.mono ?_
      rintro e w3 ⟨rfl, hb3⟩
      have b3 := thenBelow b1 hb3
      have HR3 := Lib.hid (HR1.out.keep hb3)
      have HS3 := Lib.hid (((hb3.cell (p := ⟨b, 0, none⟩) hbw)).trans HS1.out)
      have hbw3 : b < w3.heap.size := Nat.lt_of_lt_of_le hbw hb3.size
      clear hb3 HR1 HS1 b1 A1
      go_wp2_with fail
      refine (TX.out _).mono ?_
      rintro e w4 ⟨rfl, hb4⟩
      have b4 := thenBelow (b3.alloc b3.size _) hb4
      obtain ⟨⟨r0, r1, r2, rl⟩, rf⟩ := (HR3.out.alloc _).keep hb4
      have f0 := rf 0; have f1 := rf 1; have f2 := rf 2
      have hs4 : w4.cell? ⟨b, 0, none⟩ = some (.string ⟨s.toArray⟩) := ((hb4.cell (p := ⟨b, 0, none⟩) (by simp; omega))).trans (by rw [World.cell?_alloc_lt _ _ _ hbw3]; exact HS3.out)
      obtain ⟨a0, a1, a2, al⟩ := (AddrAt.new w3 six H L 24).keep hb4
      clear rf hb4 HR3 HS3
      go_wp2
      try simp only [Exit.inBlock, Exit.then]
      refine bodyPost_ret (v := .tuple #[.agg #[.bool false, .int .u64 0, .int .u64 0], .int .i64 4]) (by simp [results, Tryd.results11, go_sem, r0, r1, r2]) rfl ?_
      exact ⟨rfl, ((b4.setCell (by simp) _).setCell (by simp) _).setCell (by simp) _⟩
set_option maxHeartbeats 4000000 in
set_option maxRecDepth 100000 in
theorem try_yes (l : List Int) (wide g cap b : Nat) (six : Bool) (H L : Nat) (s T : List UInt8) (er : Int) (hw : 1 ≤ wide ∧ wide ≤ 16) (hlen : l.length ≤ 8) (hl0 : 1 ≤ l.length) (hv : ∀ v ∈ l, 0 ≤ v ∧ v ≤ 65535)
    (AO : Hid (∀ (g cap : Nat) (W : World), g < W.heap.size → (∀ j u, (fl wide l)[j]? = some u → W.cell? ⟨g, j, none⟩ = some (.int .i64 u)) → Calls Tryd.prog 12 #[.slice (some ⟨g, 0, none⟩) (l.length * wide) cap] W fun e w' => e = .returned (.agg #[.bool six, .int .u64 (H : Int), .int .u64 (L : Int)]) ∧ Below W.heap.size W w'))
    (TX : Hid (∀ W : World, Calls Tryd.prog 13 #[.agg #[.bool six, .int .u64 (H : Int), .int .u64 (L : Int)]] W fun e w' => e = .returned (.tuple #[.string ⟨s.toArray⟩, .int .i64 er]) ∧ Below W.heap.size W w'))
    (w : World) (hg : g < w.heap.size) (hb : b < w.heap.size) (hcs : ∀ j u, l[j]? = some u → w.cell? ⟨g, j, none⟩ = some (.int .i64 u)) (hs : w.cell? ⟨b, 0, none⟩ = some (.string ⟨s.toArray⟩)) :
    Calls Tryd.prog 11 #[.slice (some ⟨g, 0, none⟩) l.length cap, .int .i64 wide, .pointer (some ⟨b, 0, none⟩)] w fun e w' => e = .returned (.tuple #[.agg #[.bool six, .int .u64 (H : Int), .int .u64 (L : Int)], .int .i64 0]) ∧ Below w.heap.size w w' := by
  obtain ⟨i0, hii, hz0, hz1, hz2⟩ := info_parts info_int
  obtain ⟨hw1, hw2⟩ := hw
  have HCS := Lib.hid hcs
  have HV := Lib.hid hv
  have HS := Lib.hid hs
  clear hcs hv hs
  obtain ⟨m, hm⟩ : ∃ m, l.length = m := ⟨_, rfl⟩
  have HM := Lib.hid hm
  rw [hm] at hlen hl0 AO ⊢
  clear hm
  have HR0 := Lib.hid (AddrV.new w false 0 0 24)
  go_enter Tryd.func11, Tryd.ntmps11
  go_wp2
  go_loopw [7, 16] (fun v i wr => ∃ k : Nat, k ≤ m ∧ i = .int .i64 k ∧ wr.ownsRow (w.heap.size + 1) 3 1 v (k * wide) ((fl wide (l.take k)).map (Value.int .i64)) ∧ Below (w.heap.size + 1) (w.alloc (.cells #[.bool false, .int .u64 0, .int .u64 0] 24)) wr)
    (fun _ i _ => m - (intOf i).toNat)
  case atStart => exact ⟨0, by omega, rfl, by simpa [fl] using World.ownsRow_nil _ _ _ _, Below.refl _ _⟩
  case round =>
    obtain ⟨k, hk, rfl, hown, hnx⟩ := hrel
    by_cases hlt : k < m
    · have hkl : k < l.length := by rw [HM.out]; exact hlt
      obtain ⟨n, hn⟩ : ∃ n, l[k] = n := ⟨_, rfl⟩
      have hcell : wr.cell? ⟨g, k, none⟩ = some (.int .i64 n) := by
        rw [hnx.cell (p := ⟨g, k, none⟩) (by simp; omega), World.cell?_alloc_lt _ _ _ hg]
        exact HCS.out k n (by rw [← hn]; exact List.getElem?_eq_getElem hkl)
      have hn01 := HV.out n (by rw [← hn]; exact List.getElem_mem hkl)
      obtain ⟨hn0, hn1⟩ := hn01
      have HN := Lib.hid (fl_take wide l k hkl)
      rw [hn] at HN
      clear hn
      go_wp2
      go_loopw [7, 10] (fun v i wr => ∃ j : Nat, j ≤ wide ∧ i = .int .i64 ((wide : Int) - 1 - (j : Int)) ∧ wr.ownsRow (w.heap.size + 1) 3 1 v (k * wide + j) ((fl wide (l.take k) ++ bitsTo n wide j).map (Value.int .i64)) ∧ Below (w.heap.size + 1) (w.alloc (.cells #[.bool false, .int .u64 0, .int .u64 0] 24)) wr)
        (fun _ i _ => ((intOf i) + 1).toNat)
      case atStart => exact ⟨0, by omega, by go_num, by simpa [bitsTo] using hown, hnx⟩
      case round =>
        clear hown hnx hcell
        obtain ⟨j, hj, rfl, hown, hnx⟩ := hrel
        have hsz := hnx.size
        simp at hsz
        by_cases hjl : j < wide
        · obtain ⟨r, hr⟩ : ∃ r : Nat, wide - 1 - j = r := ⟨_, rfl⟩
          have er : (wide : Int) - 1 - (j : Int) = (r : Int) := by omega
          rw [er]
          have hbit : bits .and .i64 (n / 2 ^ r) 1 = bitW n r := and1_i64 _
          have hkw : k * wide ≤ 128 := Nat.le_trans (Nat.mul_le_mul (show k ≤ 8 by omega) hw2) (by decide)
          go_wp2_with (first
            | (at_builtin; refine wpList_append_own _ rfl _ _ 37 rfl (w.heap.size + 1) 3 i0 (.int .i64 0) 1 8 Tryd.underlying37 hii hz0 hz1 hz2 rfl (by decide) _ _ _ rfl (hown.alloc _) ⟨wr.heap.size, 0, none⟩ 1 1 [.int .i64 (bitW n r)] rfl rfl ?c1 ?c2 ?c3 ?c4 ?c5 ?_))
          case c1 => exact cell_one_new _ _ _
          case c2 => intro u hu; simp at hu; subst hu; rfl
          case c3 => unfold maxLen; omega
          case c4 => omega
          case c5 => simp; omega
          · intro v' w1 hown' hgrow _
            have hb1 := below_app hnx (Nat.le_refl _) (by simp) hown hgrow
            have hown2 : w1.ownsRow (w.heap.size + 1) 3 1 v' (k * wide + (j + 1)) ((fl wide (l.take k) ++ bitsTo n wide (j + 1)).map (Value.int .i64)) := by
              rw [← Nat.add_assoc, bitsTo_succ n wide j, hr, List.map_append, List.map_append]; simpa [List.map_append] using hown'
            clear hown' hgrow hown hnx hbit
            go_wp2
            go_roundw
            case rel => exact ⟨j + 1, by omega, by first | go_num | (congr 1; done) | (congr 1; omega), hown2, hb1⟩
            case measure => first | (simp [intOf]; done) | (simp [intOf]; omega)
        · obtain rfl : j = wide := by omega
          rw [← HN.out, show k * j + j = (k + 1) * j from by rw [Nat.add_mul, Nat.one_mul]] at hown
          have hown2 := hown
          rw [show (j : Int) - 1 - (j : Int) = -1 from by omega]
          clear hown
          go_wp2
          go_roundw
          case rel => exact ⟨k + 1, by omega, by go_num, hown2, hnx⟩
          case measure => simp [intOf]; omega
    · obtain rfl : k = m := by omega
      have hlk : l.take k = l := List.take_of_length_le (by rw [HM.out]; exact Nat.le_refl _)
      rw [hlk] at hown
      have hpos : 0 < k * wide := Nat.mul_pos (by omega) (by omega)
      obtain ⟨g2, cap2, rfl, hg1, hg3⟩ := hown.form hpos
      have hcb : ∀ j u, (fl wide l)[j]? = some u → wr.cell? ⟨g2, j, none⟩ = some (.int .i64 u) := by
        intro j u hj
        have hjl := (List.getElem?_eq_some_iff.1 hj).1
        rw [fl_length, HM.out] at hjl
        rw [hown.cellAt j (by omega), List.getElem?_map, hj]; rfl
      have A1 := Lib.hid (AO.out g2 cap2 wr hg3 hcb)
      have b1 := ((Below.refl _ w).alloc (Nat.le_refl _) _).trans (hnx.mono (by simp))
      have HR1 := Lib.hid (HR0.out.keep (show Below (w.alloc (.cells #[.bool false, .int .u64 0, .int .u64 0] 24)).heap.size (w.alloc (.cells #[.bool false, .int .u64 0, .int .u64 0] 24)) wr by simpa using hnx))
      have HS1 := Lib.hid (show wr.cell? ⟨b, 0, none⟩ = some (.string ⟨s.toArray⟩) by
        rw [hnx.cell (p := ⟨b, 0, none⟩) (by simp; omega), World.cell?_alloc_lt _ _ _ hb]; exact HS.out)
      have hbw : b < wr.heap.size := by have := hnx.size; simp at this; omega
      clear hown hnx hcb AO HR0 HS
      go_wp2_with fail
      refine A1.out.mono ?_
      rintro e w3 ⟨rfl, hb3⟩
      have b3 := thenBelow b1 hb3
      have HR3 := Lib.hid (HR1.out.keep hb3)
      have HS3 := Lib.hid (((hb3.cell (p := ⟨b, 0, none⟩) hbw)).trans HS1.out)
      have hbw3 : b < w3.heap.size := Nat.lt_of_lt_of_le hbw hb3.size
      clear hb3 HR1 HS1 b1 A1
      go_wp2_with fail
      refine (TX.out _).mono ?_
      rintro e w4 ⟨rfl, hb4⟩
      have b4 := thenBelow (b3.alloc b3.size _) hb4
      obtain ⟨⟨r0, r1, r2, rl⟩, rf⟩ := (HR3.out.alloc _).keep hb4
      have f0 := rf 0; have f1 := rf 1; have f2 := rf 2
      have hs4 : w4.cell? ⟨b, 0, none⟩ = some (.string ⟨s.toArray⟩) := ((hb4.cell (p := ⟨b, 0, none⟩) (by simp; omega))).trans (by rw [World.cell?_alloc_lt _ _ _ hbw3]; exact HS3.out)
      obtain ⟨a0, a1, a2, al⟩ := (AddrAt.new w3 six H L 24).keep hb4
      clear rf hb4 HR3 HS3
      go_wp2
      try simp only [Exit.inBlock, Exit.then]
      refine bodyPost_ret (v := .tuple #[.agg #[.bool six, .int .u64 (H : Int), .int .u64 (L : Int)], .int .i64 0]) (by simp [results, Tryd.results11, go_sem, r0, r1, r2]) rfl ?_
      exact ⟨rfl, ((b4.setCell (by simp) _).setCell (by simp) _).setCell (by simp) _⟩
end Go.Proofs.YtojdlhiibffnfabDoor

/-
  The document's AddrParse: the function value 'try' at four numbers of 8 bits and at eight of 16.
-/
namespace Go.Proofs.YtojdlhiibffnfabDoor
open Go.RowKit Go.Sort
set_option linter.unusedVariables false
set_option linter.unusedSimpArgs false

theorem fl_01 (wide : Nat) (l : List Int) : ∀ b ∈ fl wide l, b = 0 ∨ b = 1 := by
  intro b hb
  unfold fl at hb
  obtain ⟨n, _, h⟩ := List.mem_flatMap.1 hb
  exact bitsTo_01 _ _ _ b h
def tryW (six : Bool) : Nat := if six then 16 else 8
def tryN (six : Bool) : Nat := if six then 8 else 4
def tryH (six : Bool) (l : List Int) : Nat := if six then (spell ((fl 16 l).take 64)).toNat else 0
def tryL (six : Bool) (l : List Int) : Nat := if six then (spell ((fl 16 l).drop 64)).toNat else (spell (fl 8 l)).toNat
theorem try_bd (six : Bool) (l : List Int) (hl : l.length = tryN six) : tryH six l < 18446744073709551616 ∧ tryL six l < 18446744073709551616 ∧ (six = false → tryH six l = 0 ∧ tryL six l < 4294967296) := by
  cases six
  · have hl' : l.length = 4 := hl
    have h := spell_bd (fl 8 l) (fl_01 8 l)
    rw [fl_length, hl'] at h
    obtain ⟨a, b⟩ := h
    have b' : spell (fl 8 l) + 1 ≤ 4294967296 := b
    simp only [tryH, tryL, Bool.false_eq_true, if_false]
    refine ⟨by omega, by omega, fun _ => ⟨trivial, by omega⟩⟩
  · have hl' : l.length = 8 := hl
    have hf : (fl 16 l).length = 128 := by rw [fl_length, hl']
    have h := spell_bd ((fl 16 l).take 64) (fun b hb => fl_01 16 l b (List.mem_of_mem_take hb))
    have k := spell_bd ((fl 16 l).drop 64) (fun b hb => fl_01 16 l b (List.mem_of_mem_drop hb))
    rw [List.length_take, hf] at h
    rw [List.length_drop, hf] at k
    obtain ⟨a, b⟩ := h
    obtain ⟨c, d⟩ := k
    have b' : spell ((fl 16 l).take 64) + 1 ≤ 18446744073709551616 := b
    have d' : spell ((fl 16 l).drop 64) + 1 ≤ 18446744073709551616 := d
    simp only [tryH, tryL, if_true]
    refine ⟨by omega, by omega, fun h => by cases h⟩
theorem try_of (six : Bool) (l : List Int) (hl : l.length = tryN six) (g cap : Nat) (W : World) (hg : g < W.heap.size) (hc : ∀ j u, (fl (tryW six) l)[j]? = some u → W.cell? ⟨g, j, none⟩ = some (.int .i64 u)) :
    Calls Tryd.prog 12 #[.slice (some ⟨g, 0, none⟩) (l.length * tryW six) cap] W fun e w' => e = .returned (.agg #[.bool six, .int .u64 (tryH six l : Int), .int .u64 (tryL six l : Int)]) ∧ Below W.heap.size W w' := by
  cases six
  · have hl' : l.length = 4 := hl
    have hf : (fl 8 l).length = 32 := by rw [fl_length, hl']
    have h := (spell_bd (fl 8 l) (fl_01 8 l)).1
    have c := addrOf_four (fl 8 l) hf (fl_01 8 l) g cap W hg hc
    have e2 : ((tryL false l : Nat) : Int) = spell (fl 8 l) := by
      show (((spell (fl 8 l)).toNat : Nat) : Int) = _
      omega
    rw [e2, hl']
    exact c
  · have hl' : l.length = 8 := hl
    have hf : (fl 16 l).length = 128 := by rw [fl_length, hl']
    have h := (spell_bd ((fl 16 l).take 64) (fun b hb => fl_01 16 l b (List.mem_of_mem_take hb))).1
    have k := (spell_bd ((fl 16 l).drop 64) (fun b hb => fl_01 16 l b (List.mem_of_mem_drop hb))).1
    have c := addrOf_six (fl 16 l) hf (fl_01 16 l) g cap W hg hc
    have e1 : ((tryH true l : Nat) : Int) = spell ((fl 16 l).take 64) := by
      show (((spell ((fl 16 l).take 64)).toNat : Nat) : Int) = _
      omega
    have e2 : ((tryL true l : Nat) : Int) = spell ((fl 16 l).drop 64) := by
      show (((spell ((fl 16 l).drop 64)).toNat : Nat) : Int) = _
      omega
    rw [e1, e2, hl']
    exact c
/-- What 'try' answers. -/
def tryAns (six : Bool) (l : List Int) (s : List UInt8) : Value :=
  if textL six (tryH six l) (tryL six l) == s then .tuple #[.agg #[.bool six, .int .u64 (tryH six l : Int), .int .u64 (tryL six l : Int)], .int .i64 0]
  else .tuple #[.agg #[.bool false, .int .u64 0, .int .u64 0], .int .i64 4]
theorem try_calls (six : Bool) (l : List Int) (hl : l.length = tryN six) (hv : ∀ v ∈ l, 0 ≤ v ∧ v ≤ 65535) (s : List UInt8) (g cap b : Nat)
    (w : World) (hg : g < w.heap.size) (hb : b < w.heap.size) (hcs : ∀ j u, l[j]? = some u → w.cell? ⟨g, j, none⟩ = some (.int .i64 u)) (hs : w.cell? ⟨b, 0, none⟩ = some (.string ⟨s.toArray⟩)) :
    Calls Tryd.prog 11 #[.slice (some ⟨g, 0, none⟩) l.length cap, .int .i64 (tryW six : Int), .pointer (some ⟨b, 0, none⟩)] w fun e w' => e = .returned (tryAns six l s) ∧ Below w.heap.size w w' := by
  obtain ⟨b1, b2, _⟩ := try_bd six l hl
  have hw : 1 ≤ tryW six ∧ tryW six ≤ 16 := by cases six <;> decide
  have hn : 1 ≤ l.length ∧ l.length ≤ 8 := by rw [hl]; cases six <;> decide
  unfold tryAns
  by_cases h : textL six (tryH six l) (tryL six l) == s
  · rw [if_pos h]
    have e := eq_of_beq h
    subst e
    exact try_yes l (tryW six) g cap b six (tryH six l) (tryL six l) _ (textL six (tryH six l) (tryL six l)) (textE six (tryH six l) (tryL six l)) hw hn.2 hn.1 hv (Lib.hid (try_of six l hl)) (Lib.hid (refText_calls six _ _ b1 b2)) w hg hb hcs hs
  · rw [if_neg h]
    exact try_no l (tryW six) g cap b six (tryH six l) (tryL six l) s _ (textE six (tryH six l) (tryL six l)) (by simpa using h) hw hn.2 hn.1 hv (Lib.hid (try_of six l hl)) (Lib.hid (refText_calls six _ _ b1 b2)) w hg hb hcs hs

end Go.Proofs.YtojdlhiibffnfabDoor

/-
  The document's AddrParse, way by way.
-/
namespace Go.Proofs.YtojdlhiibffnfabDoor
open Go.RowKit Go.Sort
set_option linter.unusedVariables false
set_option linter.unusedSimpArgs false

theorem ap_long (s : List UInt8) (hl : 600 < s.length) (hm : s.length ≤ 9223372036854775807) (w : World) :
    Calls Tryd.prog 6 #[.string ⟨s.toArray⟩] w fun e w' => e = .returned (.tuple #[.agg #[.bool false, .int .u64 0, .int .u64 0], .int .i64 1]) ∧ Below w.heap.size w w' := by
  have hsz : (⟨s.toArray⟩ : ByteArray).size = s.length := by simp [ByteArray.size]
  have hli : 600 < (s.length : Int) := by omega
  go_enter Tryd.func6, Tryd.ntmps6
  go_wp2
  go_returns
  exact ⟨rfl, by go_grown⟩

theorem tryAns_form (six : Bool) (l : List Int) (s : List UInt8) : ∃ (sx : Bool) (H L E : Int), tryAns six l s = .tuple #[.agg #[.bool sx, .int .u64 H, .int .u64 L], .int .i64 E] := by
  unfold tryAns
  split
  · exact ⟨_, _, _, _, rfl⟩
  · exact ⟨_, _, _, _, rfl⟩
theorem try4 (l : List Int) (hl : l.length = 4) (hv : ∀ v ∈ l, 0 ≤ v ∧ v ≤ 255) (s : List UInt8) (R : Value) (hR : tryAns false l s = R) (g cap b : Nat)
    (w : World) (hg : g < w.heap.size) (hb : b < w.heap.size) (hcs : ∀ j u, l[j]? = some u → w.cell? ⟨g, j, none⟩ = some (.int .i64 u)) (hs : w.cell? ⟨b, 0, none⟩ = some (.string ⟨s.toArray⟩)) :
    Calls Tryd.prog 11 #[.slice (some ⟨g, 0, none⟩) 4 cap, .int .i64 8, .pointer (some ⟨b, 0, none⟩)] w fun e w' => e = .returned R ∧ Below w.heap.size w w' := by
  have c := try_calls false l hl (fun v h => ⟨(hv v h).1, by have := (hv v h).2; omega⟩) s g cap b w hg hb hcs hs
  rw [hl, hR] at c
  exact c
set_option maxHeartbeats 4000000 in
set_option maxRecDepth 100000 in
theorem ap_four (s : List UInt8) (hl : s.length ≤ 600) (ns : List Int) (hr : rn 10 255 46 [] (-1) s = some ns) (hn : ns.length = 4) (w : World) :
    Calls Tryd.prog 6 #[.string ⟨s.toArray⟩] w fun e w' => e = .returned (tryAns false ns s) ∧ Below w.heap.size w w' := by
  have hsz : (⟨s.toArray⟩ : ByteArray).size = s.length := by simp [ByteArray.size]
  have hli : ¬ 600 < (s.length : Int) := by omega
  have K1 := Lib.hid (fun (W : World) => refNums_calls 10 255 (by decide) (by decide) (by decide) (by decide) 46 s hl W)
  rw [hr] at K1
  have HV := Lib.hid (rn_bd 10 255 46 s [] (-1) ns (by simp) hr).1
  clear hr
  obtain ⟨sx, H, L, E, hR⟩ := tryAns_form false ns s
  rw [hR]
  have K2 := Lib.hid (try4 ns hn HV.out s _ hR)
  clear hR HV
  go_enter Tryd.func6, Tryd.ntmps6
  go_wp2_with fail
  refine (K1.out _).mono ?_
  rintro e w1 ⟨⟨v, rfl, hown⟩, hb1⟩
  obtain ⟨g2, cap2, rfl, hg1, hg3⟩ := hown.form (by omega)
  have HCB : Hid (∀ j u, ns[j]? = some u → w1.cell? ⟨g2, j, none⟩ = some (.int .i64 u)) := Lib.hid (by
    intro j u hj
    have hjl := (List.getElem?_eq_some_iff.1 hj).1
    rw [hown.cellAt j (by omega), List.getElem?_map, hj]; rfl)
  clear hown K1
  rw [hn]
  have b1 := thenBelow (((Below.refl _ w).alloc (Nat.le_refl _) (.cells #[.string ⟨s.toArray⟩] 9)).alloc (by simp) (.cells #[.bool false, .int .u64 0, .int .u64 0] 24)) hb1
  have HR1 := Lib.hid ((AddrV.new (w.alloc (.cells #[.string ⟨s.toArray⟩] 9)) false 0 0 24).keep hb1)
  have hs1 : w1.cell? ⟨w.heap.size, 0, none⟩ = some (.string ⟨s.toArray⟩) := (hb1.cell (p := ⟨w.heap.size, 0, none⟩) (by simp; omega)).trans (by rw [World.cell?_alloc_lt _ _ _ (by simp)]; exact cell_one_new _ _ _ 0 _ rfl)
  have hbw : w.heap.size < w1.heap.size := by have := hb1.size; simp at this; omega
  have HK := Lib.hid (K2.out g2 cap2 w.heap.size w1 hg3 hbw HCB.out hs1)
  clear hb1 K2 HCB
  go_wp2_with fail
  refine HK.out.mono ?_
  rintro e w2 ⟨rfl, hb2⟩
  have b2 := thenBelow b1 hb2
  obtain ⟨⟨r0, r1, r2, rl⟩, rf⟩ := HR1.out.keep hb2
  have f0 := rf 0; have f1 := rf 1; have f2 := rf 2
  simp at r0 r1 r2 rl f0 f1 f2
  clear rf hb2 HR1 HK b1
  go_wp2
  try simp only [Exit.inBlock, Exit.then]
  refine bodyPost_ret (v := .tuple #[.agg #[.bool sx, .int .u64 H, .int .u64 L], .int .i64 E]) (by simp [results, Tryd.results6, go_sem, r0, r1, r2]) rfl ?_
  exact ⟨rfl, ((b2.setCell (by simp) _).setCell (by simp) _).setCell (by simp) _⟩
end Go.Proofs.YtojdlhiibffnfabDoor

/-
  The document's AddrParse at eight numbers.
-/
namespace Go.Proofs.YtojdlhiibffnfabDoor
open Go.RowKit Go.Sort
set_option linter.unusedVariables false
set_option linter.unusedSimpArgs false

/-- Not so many numbers: what a reading says. -/
theorem nums_not (B : Nat) (M : Int) (hB : B ≤ 16) (hB0 : 1 ≤ B) (hM0 : 0 ≤ M) (hM : M ≤ 65535) (c : UInt8) (s : List UInt8) (hl : s.length ≤ 600) (m : Nat) (h : ∀ ns, rn B M c [] (-1) s = some ns → ns.length ≠ m) (w : World) :
    Calls Tryd.prog 14 #[.string ⟨s.toArray⟩, .int .u8 (c.toNat : Int), .int .i64 B, .int .i64 M] w fun e w' => (e = .returned (.tuple #[.slice none 0 0, .bool false]) ∨ ∃ p n cap, e = .returned (.tuple #[.slice p n cap, .bool true]) ∧ ((n : Int) == (m : Int)) = false) ∧ Below w.heap.size w w' := by
  refine (refNums_calls B M hB hB0 hM0 hM c s hl w).mono ?_
  rintro e w' ⟨ho, hb⟩
  refine ⟨?_, hb⟩
  cases hr : rn B M c [] (-1) s with
  | none => rw [hr] at ho; exact .inl ho
  | some ns =>
    rw [hr] at ho
    obtain ⟨v, rfl, hown⟩ := ho
    have hn := h ns hr
    rcases hown.2 with ⟨rfl, hz⟩ | ⟨g, cap, cur, rfl, _⟩
    · exact .inr ⟨none, 0, 0, rfl, by simp; omega⟩
    · exact .inr ⟨_, _, _, rfl, by simp; omega⟩
theorem try8 (l : List Int) (hl : l.length = 8) (hv : ∀ v ∈ l, 0 ≤ v ∧ v ≤ 65535) (s : List UInt8) (R : Value) (hR : tryAns true l s = R) (g cap b : Nat)
    (w : World) (hg : g < w.heap.size) (hb : b < w.heap.size) (hcs : ∀ j u, l[j]? = some u → w.cell? ⟨g, j, none⟩ = some (.int .i64 u)) (hs : w.cell? ⟨b, 0, none⟩ = some (.string ⟨s.toArray⟩)) :
    Calls Tryd.prog 11 #[.slice (some ⟨g, 0, none⟩) 8 cap, .int .i64 16, .pointer (some ⟨b, 0, none⟩)] w fun e w' => e = .returned R ∧ Below w.heap.size w w' := by
  have c := try_calls true l hl hv s g cap b w hg hb hcs hs
  rw [hl, hR] at c
  exact c
set_option maxHeartbeats 4000000 in
set_option maxRecDepth 100000 in
theorem ap_eight (s : List UInt8) (hl : s.length ≤ 600) (h4 : ∀ ns, rn 10 255 46 [] (-1) s = some ns → ns.length ≠ 4) (ns : List Int) (hr : rn 16 65535 58 [] (-1) s = some ns) (hn : ns.length = 8) (w : World) :
    Calls Tryd.prog 6 #[.string ⟨s.toArray⟩] w fun e w' => e = .returned (tryAns true ns s) ∧ Below w.heap.size w w' := by
  have hsz : (⟨s.toArray⟩ : ByteArray).size = s.length := by simp [ByteArray.size]
  have hli : ¬ 600 < (s.length : Int) := by omega
  have K0 := Lib.hid (fun (W : World) => nums_not 10 255 (by decide) (by decide) (by decide) (by decide) 46 s hl 4 h4 W)
  have K1 := Lib.hid (fun (W : World) => refNums_calls 16 65535 (by decide) (by decide) (by decide) (by decide) 58 s hl W)
  rw [hr] at K1
  have HV := Lib.hid (rn_bd 16 65535 58 s [] (-1) ns (by simp) hr).1
  clear hr h4
  obtain ⟨sx, H, L, E, hR⟩ := tryAns_form true ns s
  rw [hR]
  have K2 := Lib.hid (try8 ns hn HV.out s _ hR)
  clear hR HV
  go_enter Tryd.func6, Tryd.ntmps6
  go_wp2_with fail
  refine (K0.out _).mono ?_
  rintro e w0 ⟨ho, hb0⟩
  have b0 := thenBelow (((Below.refl _ w).alloc (Nat.le_refl _) (.cells #[.string ⟨s.toArray⟩] 9)).alloc (by simp) (.cells #[.bool false, .int .u64 0, .int .u64 0] 24)) hb0
  have HR0 := Lib.hid ((AddrV.new (w.alloc (.cells #[.string ⟨s.toArray⟩] 9)) false 0 0 24).keep hb0)
  have hs0 : w0.cell? ⟨w.heap.size, 0, none⟩ = some (.string ⟨s.toArray⟩) := (hb0.cell (p := ⟨w.heap.size, 0, none⟩) (by simp; omega)).trans (by rw [World.cell?_alloc_lt _ _ _ (by simp)]; exact cell_one_new _ _ _ 0 _ rfl)
  have hbw0 : w.heap.size < w0.heap.size := by have := hb0.size; simp at this; omega
  clear hb0 K0
  rcases ho with rfl | ⟨p, n, cap, rfl, hn4⟩
  all_goals
    go_wp2_with fail
    refine (K1.out _).mono ?_
    rintro e w1 ⟨⟨v, rfl, hown⟩, hb1⟩
    obtain ⟨g2, cap2, rfl, hg1, hg3⟩ := hown.form (by omega)
    have HCB : Hid (∀ j u, ns[j]? = some u → w1.cell? ⟨g2, j, none⟩ = some (.int .i64 u)) := Lib.hid (by
      intro j u hj
      have hjl := (List.getElem?_eq_some_iff.1 hj).1
      rw [hown.cellAt j (by omega), List.getElem?_map, hj]; rfl)
    clear hown K1
    rw [hn]
    have b1 := thenBelow b0 hb1
    have HR1 := Lib.hid (HR0.out.keep hb1)
    have hs1 : w1.cell? ⟨w.heap.size, 0, none⟩ = some (.string ⟨s.toArray⟩) := (hb1.cell (p := ⟨w.heap.size, 0, none⟩) hbw0).trans hs0
    have hbw : w.heap.size < w1.heap.size := Nat.lt_of_lt_of_le hbw0 hb1.size
    have HK := Lib.hid (K2.out g2 cap2 w.heap.size w1 hg3 hbw HCB.out hs1)
    clear hb1 K2 HCB HR0 b0 hs0
    go_wp2_with fail
    refine HK.out.mono ?_
    rintro e w2 ⟨rfl, hb2⟩
    have b2 := thenBelow b1 hb2
    obtain ⟨⟨r0, r1, r2, rl⟩, rf⟩ := HR1.out.keep hb2
    have f0 := rf 0; have f1 := rf 1; have f2 := rf 2
    simp at r0 r1 r2 rl f0 f1 f2
    clear rf hb2 HR1 HK b1
    go_wp2
    try simp only [Exit.inBlock, Exit.then]
    refine bodyPost_ret (v := .tuple #[.agg #[.bool sx, .int .u64 H, .int .u64 L], .int .i64 E]) (by simp [results, Tryd.results6, go_sem, r0, r1, r2]) rfl ?_
    exact ⟨rfl, ((b2.setCell (by simp) _).setCell (by simp) _).setCell (by simp) _⟩
end Go.Proofs.YtojdlhiibffnfabDoor

/-
  The document's AddrParse where neither four nor eight numbers are read and no two colons stand side by side.
-/
namespace Go.Proofs.YtojdlhiibffnfabDoor
open Go.RowKit Go.Sort
set_option linter.unusedVariables false
set_option linter.unusedSimpArgs false

theorem index_up (T : List UInt8) (k : Nat) (h : k + 1 < T.length) (W : World) :
    (Instr.index 9 (.string ⟨T.toArray⟩) (.int .i64 ((k : Int) + 1))).run Tryd.prog W = .ok (.int .u8 ((T[k + 1].toNat : Nat) : Int)) W :=
  index_list T (k + 1) h W
theorem byte_ne {x : UInt8} (h : x ≠ 58) : ((x.toNat : Int) == 58) = false ∧ ((x.toNat : Int) != 58) = true ∧ ¬ (x.toNat : Int) = 58 := by
  have : ¬ (x.toNat : Int) = 58 := fun e => h (UInt8.toNat_inj.1 (show x.toNat = 58 by omega))
  simp [this]
set_option maxHeartbeats 4000000 in
set_option maxRecDepth 100000 in
theorem ap_none (s : List UInt8) (hl : s.length ≤ 600) (h4 : ∀ ns, rn 10 255 46 [] (-1) s = some ns → ns.length ≠ 4) (h8 : ∀ ns, rn 16 65535 58 [] (-1) s = some ns → ns.length ≠ 8)
    (hno : ∀ k (h : k + 1 < s.length), ¬ (s[k] = 58 ∧ s[k + 1] = 58)) (w : World) :
    Calls Tryd.prog 6 #[.string ⟨s.toArray⟩] w fun e w' => e = .returned (.tuple #[.agg #[.bool false, .int .u64 0, .int .u64 0], .int .i64 4]) ∧ Below w.heap.size w w' := by
  have hsz : (⟨s.toArray⟩ : ByteArray).size = s.length := by simp [ByteArray.size]
  have hli : ¬ 600 < (s.length : Int) := by omega
  have K0 := Lib.hid (fun (W : World) => nums_not 10 255 (by decide) (by decide) (by decide) (by decide) 46 s hl 4 h4 W)
  have K1 := Lib.hid (fun (W : World) => nums_not 16 65535 (by decide) (by decide) (by decide) (by decide) 58 s hl 8 h8 W)
  have NO := Lib.hid hno
  clear h4 h8 hno
  go_enter Tryd.func6, Tryd.ntmps6
  go_wp2_with fail
  refine (K0.out _).mono ?_
  rintro e w0 ⟨ho, hb0⟩
  have b0 := thenBelow (((Below.refl _ w).alloc (Nat.le_refl _) (.cells #[.string ⟨s.toArray⟩] 9)).alloc (by simp) (.cells #[.bool false, .int .u64 0, .int .u64 0] 24)) hb0
  have HR0 := Lib.hid ((AddrV.new (w.alloc (.cells #[.string ⟨s.toArray⟩] 9)) false 0 0 24).keep hb0)
  have hs0 : w0.cell? ⟨w.heap.size, 0, none⟩ = some (.string ⟨s.toArray⟩) := (hb0.cell (p := ⟨w.heap.size, 0, none⟩) (by simp; omega)).trans (by rw [World.cell?_alloc_lt _ _ _ (by simp)]; exact cell_one_new _ _ _ 0 _ rfl)
  have hbw0 : w.heap.size < w0.heap.size := by have := hb0.size; simp at this; omega
  clear hb0 K0
  rcases ho with rfl | ⟨p, n, cap, rfl, hn4⟩
  all_goals
    go_wp2_with fail
    refine (K1.out _).mono ?_
    rintro e w1 ⟨ho1, hb1⟩
    have b1 := thenBelow b0 hb1
    have hs1 : w1.cell? ⟨w.heap.size, 0, none⟩ = some (.string ⟨s.toArray⟩) := (hb1.cell (p := ⟨w.heap.size, 0, none⟩) hbw0).trans hs0
    have HR1 := Lib.hid (HR0.out.keep hb1)
    clear hb1 K1 b0 hs0 hbw0 HR0
    rcases ho1 with rfl | ⟨p1, n1, cap1, rfl, hn8⟩
  all_goals
    go_wp2
    go_loopw [9] (fun iv wr => ∃ k : Nat, k ≤ s.length ∧ iv = .int .i64 k ∧ wr = w1) (fun iv _ => s.length - (intOf iv).toNat)
    case atStart => exact ⟨0, by omega, rfl, rfl⟩
    case round =>
      obtain ⟨k, hk, rfl, rfl⟩ := hrel
      by_cases hlt : k + 1 < s.length
      · have hx := index_list s k (by omega)
        have hy := index_up s k hlt
        have hn := NO.out k hlt
        generalize s[k]'(by omega) = x at hx hn
        generalize s[k + 1]'hlt = y at hy hn
        by_cases e : x = 58
        · subst e
          obtain ⟨y0, y1, y2⟩ := byte_ne (fun h => hn ⟨rfl, h⟩)
          replace hx : ∀ W, (Instr.index 9 (.string ⟨s.toArray⟩) (.int .i64 (k : Int))).run Tryd.prog W = .ok (.int .u8 58) W := hx
          clear hn
          go_wp2_with fail
          go_roundw
          case rel => exact ⟨k + 1, by omega, by go_num, by first | rfl | trivial⟩
          case measure => simp [intOf]; omega
        · obtain ⟨x0, x1, x2⟩ := byte_ne e
          clear hn e
          go_wp2_with fail
          go_roundw
          case rel => exact ⟨k + 1, by omega, by go_num, by first | rfl | trivial⟩
          case measure => simp [intOf]; omega
      · obtain ⟨⟨r0, r1, r2, rl⟩, rf⟩ := HR1.out
        have f0 := rf 0; have f1 := rf 1; have f2 := rf 2
        simp at r0 r1 r2 rl f0 f1 f2
        clear rf HR1
        go_wp2
        try simp only [Exit.inBlock, Exit.then]
        refine bodyPost_ret (v := .tuple #[.agg #[.bool false, .int .u64 0, .int .u64 0], .int .i64 4]) (by simp [results, Tryd.results6, go_sem, r0, r1, r2]) rfl ?_
        exact ⟨rfl, ((b1.setCell (by simp) _).setCell (by simp) _).setCell (by simp) _⟩
end Go.Proofs.YtojdlhiibffnfabDoor

/-
  append(x, y...) of two rows that calls have made.
-/
namespace Go.Proofs.YtojdlhiibffnfabDoor
open Go.RowKit
set_option linter.unusedVariables false
set_option linter.unusedSimpArgs false

theorem below_grown {base n size : Nat} {w w1 : World} {e : TypeId} {v : Value} {xs : List Value} (hown : w.ownsRow base e size v n xs) (hg : w.grownBy w1 v.ownBlock) (hB : base ≤ w.heap.size) : Below base w w1 :=
  (Below.refl base w).grown hg hB (fun k hk => (hown.lt k hk).1)
/-- The cells of a row. -/
theorem owns_cells {base n size : Nat} {w : World} {e : TypeId} {v : Value} {xs : List Value} (h : w.ownsRow base e size v n xs) :
    (v = .slice none 0 0 ∧ n = 0 ∧ xs = []) ∨ ∃ g cap, v = .slice (some ⟨g, 0, none⟩) n cap ∧ base ≤ g ∧ g < w.heap.size ∧ n ≤ cap ∧ ∀ j u, xs[j]? = some u → w.cell? ((⟨g, 0, none⟩ : Addr).add j) = some u := by
  rcases h.2 with ⟨hv, h0⟩ | ⟨g, cap, cur, hv, hb, hg, hc, _, _, ht⟩
  · refine .inl ⟨hv, h0, ?_⟩
    have := h.1
    rw [h0, Nat.zero_mul] at this
    exact List.eq_nil_of_length_eq_zero this
  · refine .inr ⟨g, cap, hv, hb, ?_, hc, fun j u hu => World.news_of_block hg j u ?_⟩
    · rcases Nat.lt_or_ge g w.heap.size with hlt | hge
      · exact hlt
      · rw [Array.getElem?_eq_none hge] at hg; cases hg
    · rw [← ht, List.getElem?_take] at hu
      split at hu
      · exact hu
      · cases hu
section
variable {P : Program} {w : World}
theorem wp_append_two {o : Oper} {a : Act} {K : Act → World → Prop} {Q : Exit → Act → World → Prop} (s x : Operand) (t : TypeId)
    (ho : o.op = .call { callee := .builtin .append, args := #[s, x], argTypes := #[t, t] })
    (base : Nat) (e : TypeId) (i : TypeInfo) (z : Value) (size bytes : Nat) (ht : P.underlying t = some (.slice e)) (hi : P.info? e = some i) (hz : i.zero = some z)
    (hsize : i.size = size) (hby : i.bytes = bytes) (hzs : z.cells.size = size) (hsz : 0 < size)
    (v : Value) (n : Nat) (xs : List Value) (hs : a.eval s = v) (hown : w.ownsRow base e size v n xs)
    (v2 : Value) (base2 m : Nat) (ys : List Value) (hx : a.eval x = v2) (hown2 : w.ownsRow base2 e size v2 m ys) (h1 : ∀ u ∈ ys, u.oneCell' = true)
    (hbytes : (n + m) * bytes ≤ 140737488355328) (h63 : n + m ≤ maxLen) (hbase : base ≤ w.heap.size)
    (h : ∀ v' w', w'.ownsRow base e size v' (n + m) (xs ++ ys) → Below base w w' → K (a.put o.dst v') w') : o.wp P a w K Q := by
  rcases owns_cells hown2 with ⟨hv, h0, he⟩ | ⟨g, cap, hv, _, _, _, hc⟩
  · subst hv; subst h0; subst he
    have hrun := run_append_owned_none (P := P) (w := w) base t o.type e i size ht hi v n xs hown
    unfold Oper.wp
    simp [execOp, ho, resolve, invoke, builtin, hs, hx, hrun, Result.andThen]
    exact h v w (by simpa using hown) (Below.refl _ _)
  · subst hv
    exact wp_append_own w s x t ho base e i z size bytes ht hi hz hsize hby hzs hsz v n xs hs hown ⟨g, 0, none⟩ m cap ys hx hown2.1 hc h1 h63 hbytes hbase fun v' w' h2 h3 _ => h v' w' h2 (below_grown hown h3 hbase)
/-- At the list of a plain region's operations. -/
theorem wpList_append_two {ops : Array Oper} {rest : List Oper} {o : Oper} {a : Act} {Q : Exit → Act → World → Prop} (hgd : o.guard = none) (s x : Operand) (t : TypeId)
    (ho : o.op = .call { callee := .builtin .append, args := #[s, x], argTypes := #[t, t] })
    (base : Nat) (e : TypeId) (i : TypeInfo) (z : Value) (size bytes : Nat) (ht : P.underlying t = some (.slice e)) (hi : P.info? e = some i) (hz : i.zero = some z)
    (hsize : i.size = size) (hby : i.bytes = bytes) (hzs : z.cells.size = size) (hsz : 0 < size)
    (v : Value) (n : Nat) (xs : List Value) (hs : a.eval s = v) (hown : w.ownsRow base e size v n xs)
    (v2 : Value) (base2 m : Nat) (ys : List Value) (hx : a.eval x = v2) (hown2 : w.ownsRow base2 e size v2 m ys) (h1 : ∀ u ∈ ys, u.oneCell' = true)
    (hbytes : (n + m) * bytes ≤ 140737488355328) (h63 : n + m ≤ maxLen) (hbase : base ≤ w.heap.size)
    (h : ∀ v' w', w'.ownsRow base e size v' (n + m) (xs ++ ys) → Below base w w' → wpList P ops Q rest (a.put o.dst v') w') : wpList P ops Q (o :: rest) a w :=
  wpList_plain hgd fun _ hK => wp_append_two s x t ho base e i z size bytes ht hi hz hsize hby hzs hsz v n xs hs hown v2 base2 m ys hx hown2 h1 hbytes h63 hbase fun v' w' h2 h3 => hK _ _ (h v' w' h2 h3)
/-- At a step of a region that draws its order. -/
theorem step_append_two {ops : Array Oper} {o : Oper} {a : Act} {K : Act → World → Prop} {Q : Exit → Act → World → Prop} {E : Prop} (hgd : o.guard = none) (s x : Operand) (t : TypeId)
    (ho : o.op = .call { callee := .builtin .append, args := #[s, x], argTypes := #[t, t] })
    (base : Nat) (e : TypeId) (i : TypeInfo) (z : Value) (size bytes : Nat) (ht : P.underlying t = some (.slice e)) (hi : P.info? e = some i) (hz : i.zero = some z)
    (hsize : i.size = size) (hby : i.bytes = bytes) (hzs : z.cells.size = size) (hsz : 0 < size)
    (v : Value) (n : Nat) (xs : List Value) (hs : a.eval s = v) (hown : w.ownsRow base e size v n xs)
    (v2 : Value) (base2 m : Nat) (ys : List Value) (hx : a.eval x = v2) (hown2 : w.ownsRow base2 e size v2 m ys) (h1 : ∀ u ∈ ys, u.oneCell' = true)
    (hbytes : (n + m) * bytes ≤ 140737488355328) (h63 : n + m ≤ maxLen) (hbase : base ≤ w.heap.size)
    (h : ∀ v' w', w'.ownsRow base e size v' (n + m) (xs ++ ys) → Below base w w' → K (a.put o.dst v') w') :
    if Region.wanted o (yielded ops a.tmps) = true then Oper.wp P o a w K Q else E := by
  have hw : Region.wanted o (yielded ops a.tmps) = true := by simp [Region.wanted, hgd]
  rw [if_pos hw]
  exact wp_append_two s x t ho base e i z size bytes ht hi hz hsize hby hzs hsz v n xs hs hown v2 base2 m ys hx hown2 h1 hbytes h63 hbase h
end
end Go.Proofs.YtojdlhiibffnfabDoor

/-
  The document's AddrParse where two colons stand side by side.
-/
namespace Go.Proofs.YtojdlhiibffnfabDoor
open Go.RowKit Go.Sort
set_option linter.unusedVariables false
set_option linter.unusedSimpArgs false

/-- What stands ahead of the two colons, and behind them, read. -/
def sideL (s : List UInt8) : Option (List Int) := if s = [] then some [] else rn 16 65535 58 [] (-1) s
theorem nums_none (B : Nat) (M : Int) (hB : B ≤ 16) (hB0 : 1 ≤ B) (hM0 : 0 ≤ M) (hM : M ≤ 65535) (c : UInt8) (s : List UInt8) (hl : s.length ≤ 600) (h : rn B M c [] (-1) s = none) (w : World) :
    Calls Tryd.prog 14 #[.string ⟨s.toArray⟩, .int .u8 (c.toNat : Int), .int .i64 B, .int .i64 M] w fun e w' => e = .returned (.tuple #[.slice none 0 0, .bool false]) ∧ Below w.heap.size w w' := by
  have := refNums_calls B M hB hB0 hM0 hM c s hl w
  rw [h] at this
  exact this
/-- A reading of one side: whether it is one, and then its numbers. -/
theorem nums_side (s : List UInt8) (hl : s.length ≤ 600) (w : World) :
    Calls Tryd.prog 14 #[.string ⟨s.toArray⟩, .int .u8 58, .int .i64 16, .int .i64 65535] w fun e w' => (∃ v, e = .returned (.tuple #[v, .bool (rn 16 65535 58 [] (-1) s).isSome]) ∧ w'.ownsRow w.heap.size 3 1 v ((rn 16 65535 58 [] (-1) s).getD []).length (((rn 16 65535 58 [] (-1) s).getD []).map (Value.int .i64))) ∧ Below w.heap.size w w' := by
  refine (refNums_calls 16 65535 (by decide) (by decide) (by decide) (by decide) 58 s hl w).mono ?_
  rintro e w' ⟨ho, hb⟩
  refine ⟨?_, hb⟩
  cases hr : rn 16 65535 58 [] (-1) s with
  | none => rw [hr] at ho; exact ⟨_, ho, World.ownsRow_nil _ _ _ _⟩
  | some ns => rw [hr] at ho; exact ho
theorem ext_to (T : List UInt8) (k : Nat) : (⟨T.toArray⟩ : ByteArray).extract 0 k = ⟨(T.take k).toArray⟩ := by
  rw [Lib.extract_eq]; simp
theorem ext_from (T : List UInt8) (k : Nat) : (⟨T.toArray⟩ : ByteArray).extract k T.length = ⟨(T.drop k).toArray⟩ := by
  rw [Lib.extract_eq]
  show (⟨((T.drop k).take (T.length - k)).toArray⟩ : ByteArray) = _
  rw [List.take_of_length_le (by rw [List.length_drop]; exact Nat.le_refl _)]
/-- A row stays where another one grows. -/
theorem ownsFar {w w' : World} {base : Nat} {e : TypeId} {size : Nat} {v : Value} {n : Nat} {xs : List Value} {row : Option Nat} (h : w.ownsRow base e size v n xs) (hg : w.grownBy w' row) (hne : ∀ k, v.ownBlock = some k → some k ≠ row) : w'.ownsRow base e size v n xs := by
  refine ⟨h.1, ?_⟩
  rcases h.2 with h2 | ⟨g, cap, cur, a, b, c, d⟩
  · exact .inl h2
  · have hl := h.lt g (by rw [a]; rfl)
    exact .inr ⟨g, cap, cur, a, b, (hg.block g hl.2 (hne g (by rw [a]; rfl))).trans c, d⟩
def errAns : Value := .tuple #[.agg #[.bool false, .int .u64 0, .int .u64 0], .int .i64 4]
/-- What AddrParse answers of two sides. -/
def twoOf (l r : Option (List Int)) (s : List UInt8) : Value := match l, r with
  | some l, some r => if 6 < l.length + r.length then errAns else tryAns true (l ++ List.replicate (8 - (l.length + r.length)) 0 ++ r) s
  | _, _ => errAns
theorem two_no1 {l r : Option (List Int)} {s : List UInt8} (h : l.isSome = false) : twoOf l r s = errAns := by
  cases l with
  | none => cases r <;> rfl
  | some l => cases h
theorem two_no2 {l r : Option (List Int)} {s : List UInt8} (h : r.isSome = false) : twoOf l r s = errAns := by
  cases r with
  | none => cases l <;> rfl
  | some l => cases h
theorem two_long {l r : Option (List Int)} {s : List UInt8} {ln rn : List Int} (hl : l.isSome = true) (hr : r.isSome = true) (el : l.getD [] = ln) (er : r.getD [] = rn) (h : 6 < ln.length + rn.length) : twoOf l r s = errAns := by
  cases l with
  | none => cases hl
  | some l => cases r with
    | none => cases hr
    | some r => cases el; cases er; exact if_pos h
theorem two_ok {l r : Option (List Int)} {s : List UInt8} {ln rn : List Int} (hl : l.isSome = true) (hr : r.isSome = true) (el : l.getD [] = ln) (er : r.getD [] = rn) (h : ¬ 6 < ln.length + rn.length) :
    twoOf l r s = tryAns true (ln ++ List.replicate (8 - (ln.length + rn.length)) 0 ++ rn) s := by
  cases l with
  | none => cases hl
  | some l => cases r with
    | none => cases hr
    | some r => cases el; cases er; exact if_neg h
theorem two_some {l : Option (List Int)} {ln : List Int} (hl : l.isSome = true) (el : l.getD [] = ln) : l = some ln := by
  cases l with
  | none => cases hl
  | some l => cases el; rfl
def sliceLen : Value → Nat
  | .slice _ n _ => n
  | _ => 0
theorem owns_slice {w : World} {base : Nat} {e : TypeId} {size : Nat} {v : Value} {n : Nat} {xs : List Value} (h : w.ownsRow base e size v n xs) : ∃ p cap, v = .slice p n cap := by
  rcases h.2 with ⟨a, b⟩ | ⟨g, cap, cur, a, _⟩
  · exact ⟨none, 0, by rw [a, b]⟩
  · exact ⟨_, _, a⟩
theorem map_one (l : List Int) : ∀ u ∈ l.map (Value.int .i64), u.oneCell' = true := by
  intro u hu
  obtain ⟨z, _, rfl⟩ := List.mem_map.1 hu
  rfl
end Go.Proofs.YtojdlhiibffnfabDoor

/-
  The document's AddrParse where two colons stand side by side: the walks.
-/
namespace Go.Proofs.YtojdlhiibffnfabDoor
open Go.RowKit Go.Sort
set_option linter.unusedVariables false
set_option linter.unusedSimpArgs false
set_option maxHeartbeats 8000000 in
set_option maxRecDepth 100000 in
theorem ap_two_11 (s : List UInt8) (hl : s.length ≤ 600) (h4 : rn 10 255 46 [] (-1) s = none) (h8 : rn 16 65535 58 [] (-1) s = none) (F : Nat) (hF : F + 1 < s.length) (e0 : s[F] = 58) (e1 : s[F + 1] = 58)
    (hno : ∀ k (h : k + 1 < s.length), k < F → ¬ (s[k] = 58 ∧ s[k + 1] = 58)) (hF0 : 0 < F) (hFe : F + 2 < s.length) (oL oR : Option (List Int)) (hoL : (rn 16 65535 58 [] (-1) (s.take F)) = oL) (hoR : (rn 16 65535 58 [] (-1) (s.drop (F + 2))) = oR) (w : World) :
    Calls Tryd.prog 6 #[.string ⟨s.toArray⟩] w fun e w' => e = .returned (twoOf oL oR s) ∧ Below w.heap.size w w' := by
  have hsz : (⟨s.toArray⟩ : ByteArray).size = s.length := by simp [ByteArray.size]
  have hli : ¬ 600 < (s.length : Int) := by omega
  obtain ⟨i0, hii, hz0, hz1, hz2⟩ := info_parts info_int
  have K0 := Lib.hid (fun (W : World) => nums_none 10 255 (by decide) (by decide) (by decide) (by decide) 46 s hl h4 W)
  have K1 := Lib.hid (fun (W : World) => nums_none 16 65535 (by decide) (by decide) (by decide) (by decide) 58 s hl h8 W)
  have KL := Lib.hid (fun (W : World) => nums_side (s.take F) (by rw [List.length_take]; omega) W)
  rw [hoL] at KL
  obtain ⟨fl, hfl⟩ : ∃ f, oL.isSome = f := ⟨_, rfl⟩
  obtain ⟨ln, hln⟩ : ∃ f, oL.getD [] = f := ⟨_, rfl⟩
  rw [hfl, hln] at KL
  have hbL : ln.length ≤ 601 := by
    rw [← hln]
    cases hc : oL with
    | none => simp
    | some ns =>
      have := (rn_bd 16 65535 58 (s.take F) [] (-1) ns (by simp) (hoL.trans hc)).2
      simp only [List.length_take, List.length_drop, List.length_nil] at this
      simp only [Option.getD_some]; omega
  have VL := Lib.hid (fun ns (h : oL = some ns) => (rn_bd 16 65535 58 (s.take F) [] (-1) ns (by simp) (hoL.trans h)).1)
  have KR := Lib.hid (fun (W : World) => nums_side (s.drop (F + 2)) (by rw [List.length_drop]; omega) W)
  rw [hoR] at KR
  obtain ⟨fr, hfr⟩ : ∃ f, oR.isSome = f := ⟨_, rfl⟩
  obtain ⟨rn', hrn⟩ : ∃ f, oR.getD [] = f := ⟨_, rfl⟩
  rw [hfr, hrn] at KR
  have hbR : rn'.length ≤ 601 := by
    rw [← hrn]
    cases hc : oR with
    | none => simp
    | some ns =>
      have := (rn_bd 16 65535 58 (s.drop (F + 2)) [] (-1) ns (by simp) (hoR.trans hc)).2
      simp only [List.length_take, List.length_drop, List.length_nil] at this
      simp only [Option.getD_some]; omega
  have VR := Lib.hid (fun ns (h : oR = some ns) => (rn_bd 16 65535 58 (s.drop (F + 2)) [] (-1) ns (by simp) (hoR.trans h)).1)
  obtain ⟨RR, hRR⟩ : ∃ R, twoOf oL oR s = R := ⟨_, rfl⟩
  rw [hRR]
  have HRR := Lib.hid hRR
  have HFL := Lib.hid hfl
  have HFR := Lib.hid hfr
  have HLN := Lib.hid hln
  have HRN := Lib.hid hrn
  clear hRR hfl hfr hln hrn
  have NO := Lib.hid hno
  have hx := index_list s F (by omega)
  have hy := index_up s F hF
  rw [e0] at hx
  rw [e1] at hy
  replace hx : ∀ W, (Instr.index 9 (.string ⟨s.toArray⟩) (.int .i64 (F : Int))).run Tryd.prog W = .ok (.int .u8 58) W := hx
  replace hy : ∀ W, (Instr.index 9 (.string ⟨s.toArray⟩) (.int .i64 ((F : Int) + 1))).run Tryd.prog W = .ok (.int .u8 58) W := hy
  have HX := Lib.hid hx
  have HY := Lib.hid hy
  have EXT := Lib.hid (ext_to s F)
  have EXF := Lib.hid (ext_from s (F + 2))
  clear h4 h8 hno hx hy e0 e1
  go_enter Tryd.func6, Tryd.ntmps6
  go_wp2_with fail
  refine (K0.out _).mono ?_
  rintro e w0 ⟨rfl, hb0⟩
  have b0 := thenBelow (((Below.refl _ w).alloc (Nat.le_refl _) (.cells #[.string ⟨s.toArray⟩] 9)).alloc (by simp) (.cells #[.bool false, .int .u64 0, .int .u64 0] 24)) hb0
  have HR0 := Lib.hid ((AddrV.new (w.alloc (.cells #[.string ⟨s.toArray⟩] 9)) false 0 0 24).keep hb0)
  have hs0 : w0.cell? ⟨w.heap.size, 0, none⟩ = some (.string ⟨s.toArray⟩) := (hb0.cell (p := ⟨w.heap.size, 0, none⟩) (by simp; omega)).trans (by rw [World.cell?_alloc_lt _ _ _ (by simp)]; exact cell_one_new _ _ _ 0 _ rfl)
  have hbw0 : w.heap.size < w0.heap.size := by have := hb0.size; simp at this; omega
  clear hb0 K0
  go_wp2_with fail
  refine (K1.out _).mono ?_
  rintro e w1 ⟨rfl, hb1⟩
  have b1 := thenBelow b0 hb1
  have hs1 : w1.cell? ⟨w.heap.size, 0, none⟩ = some (.string ⟨s.toArray⟩) := (hb1.cell (p := ⟨w.heap.size, 0, none⟩) hbw0).trans hs0
  have hbw1 : w.heap.size < w1.heap.size := Nat.lt_of_lt_of_le hbw0 hb1.size
  have HR1 := Lib.hid (HR0.out.keep hb1)
  clear hb1 K1 b0 hs0 hbw0 HR0
  go_wp2
  go_loopw [9] (fun iv wr => ∃ k : Nat, k ≤ F ∧ iv = .int .i64 k ∧ wr = w1) (fun iv _ => s.length - (intOf iv).toNat)
  case atStart => exact ⟨0, by omega, rfl, rfl⟩
  case round =>
    obtain ⟨k, hk, rfl, rfl⟩ := hrel
    by_cases hlt : k < F
    · have hlt2 : k + 1 < s.length := by omega
      have hx := index_list s k (by omega)
      have hy := index_up s k hlt2
      have hn := NO.out k hlt2 hlt
      generalize s[k]'(by omega) = x at hx hn
      generalize s[k + 1]'hlt2 = y at hy hn
      by_cases e : x = 58
      · subst e
        obtain ⟨y0, y1, y2⟩ := byte_ne (fun h => hn ⟨rfl, h⟩)
        replace hx : ∀ W, (Instr.index 9 (.string ⟨s.toArray⟩) (.int .i64 (k : Int))).run Tryd.prog W = .ok (.int .u8 58) W := hx
        clear hn
        go_wp2_with fail
        go_roundw
        case rel => exact ⟨k + 1, by omega, by go_num, by first | rfl | trivial⟩
        case measure => simp [intOf]; omega
      · obtain ⟨x0, x1, x2⟩ := byte_ne e
        clear hn e
        go_wp2_with fail
        go_roundw
        case rel => exact ⟨k + 1, by omega, by go_num, by first | rfl | trivial⟩
        case measure => simp [intOf]; omega
    · obtain rfl : k = F := by omega
      have hx := HX.out
      have hy := HY.out
      clear HX HY NO hlt hk
      obtain ⟨B, hB⟩ : ∃ B, wr.heap.size = B := ⟨_, rfl⟩
      rw [hB] at hbw1
      have hr1 : w.heap.size + 1 < B := by have := HR1.out.1.2.2.2; simp at this; omega
      have hB0 := b1.size
      have HR := HR1
      simp only [World.size_alloc] at HR
      have bB : Below B wr wr := Below.refl _ _
      have hsB := hs1
      clear hs1 HR1
      have hF1 : (0 : Int) < (k : Int) := by omega
      have hFk : (k : Int) ≤ (s.length : Int) := by omega
      go_wp2_with fail
      rw [EXT.out]
      refine (KL.out _).mono ?_
      rintro e w2 ⟨⟨vl, rfl, ol⟩, hb2⟩
      rw [hB] at ol
      have b2 : Below B wr w2 := by rw [hB] at hb2; exact hb2
      obtain ⟨pl, cl, rfl⟩ := owns_slice ol
      clear hb2 KL hF1 bB
      have hs2 : w2.cell? ⟨w.heap.size, 0, none⟩ = some (.string ⟨s.toArray⟩) := (b2.cell (p := ⟨w.heap.size, 0, none⟩) hbw1).trans hsB
      have hR1 : (k : Int) + 2 < (s.length : Int) := by omega
      have hR2 : (k : Int) + 2 ≤ (s.length : Int) := by omega
      have hR3 : (0 : Int) ≤ (k : Int) + 2 := by omega
      have hR4 : ((k : Int) + 2).toNat = k + 2 := by omega
      go_wp2_with fail
      first | rw [EXF.out] | rw [hR4, hsz, EXF.out] | rw [hsz, EXF.out] | rw [hR4, EXF.out]
      refine (KR.out _).mono ?_
      rintro e w3 ⟨⟨vr, rfl, or⟩, hb3⟩
      have hsz2 := b2.size
      obtain ⟨pr, cr, rfl⟩ := owns_slice or
      have hne : ∀ q, (Value.slice pl ln.length cl).ownBlock = some q → (Value.slice pr rn'.length cr).ownBlock ≠ some q := fun q h1 h2 => by
        have := (ol.lt q h1).2; have := (or.lt q h2).1; omega
      have ol := ownsKeep ol hb3
      have or := ownsLow or (Nat.le_trans (Nat.le_of_eq hB.symm) hsz2)
      have b3 := b2.trans (hb3.mono (Nat.le_trans (Nat.le_of_eq hB.symm) hsz2))
      clear hb3 hs2 b2 hR1 hR2 hR3 hR4 KR
      have HR3 := Lib.hid (HR.out.keep (by rw [hB]; exact b3))
      have hs3 : w3.cell? ⟨w.heap.size, 0, none⟩ = some (.string ⟨s.toArray⟩) := (b3.cell (p := ⟨w.heap.size, 0, none⟩) hbw1).trans hsB
      have bA : Below w.heap.size w w3 := b1.trans (b3.mono (by omega))
      have hBW : B ≤ w3.heap.size := by rw [← hB]; exact b3.size
      clear hsB b1 EXT EXF
      cases fl
      · skip
        obtain ⟨⟨r0, r1, r2, rl⟩, rf⟩ := HR3.out
        have f0 := rf 0; have f1 := rf 1; have f2 := rf 2
        clear rf HR3
        go_wp2
        try simp only [Exit.inBlock, Exit.then]
        refine bodyPost_ret (v := .tuple #[.agg #[.bool false, .int .u64 0, .int .u64 0], .int .i64 4]) (by simp [results, Tryd.results6, go_sem, r0, r1, r2]) rfl ?_
        exact ⟨by rw [← HRR.out, two_no1 HFL.out]; rfl, ((bA.setCell (by simp) _).setCell (by simp) _).setCell (by simp) _⟩
      · skip
        cases fr
        · skip
          obtain ⟨⟨r0, r1, r2, rl⟩, rf⟩ := HR3.out
          have f0 := rf 0; have f1 := rf 1; have f2 := rf 2
          clear rf HR3
          go_wp2
          try simp only [Exit.inBlock, Exit.then]
          refine bodyPost_ret (v := .tuple #[.agg #[.bool false, .int .u64 0, .int .u64 0], .int .i64 4]) (by simp [results, Tryd.results6, go_sem, r0, r1, r2]) rfl ?_
          exact ⟨by rw [← HRR.out, two_no2 HFR.out]; rfl, ((bA.setCell (by simp) _).setCell (by simp) _).setCell (by simp) _⟩
        · skip
      
          by_cases h6 : 6 < (ln.length + rn'.length)
          · have h6i : (6 : Int) < (ln.length : Int) + (rn'.length : Int) := by omega
            obtain ⟨⟨r0, r1, r2, rl⟩, rf⟩ := HR3.out
            have f0 := rf 0; have f1 := rf 1; have f2 := rf 2
            clear rf HR3
            go_wp2
            try simp only [Exit.inBlock, Exit.then]
            refine bodyPost_ret (v := .tuple #[.agg #[.bool false, .int .u64 0, .int .u64 0], .int .i64 4]) (by simp [results, Tryd.results6, go_sem, r0, r1, r2]) rfl ?_
            exact ⟨by rw [← HRR.out, two_long HFL.out HFR.out HLN.out HRN.out h6]; rfl, ((bA.setCell (by simp) _).setCell (by simp) _).setCell (by simp) _⟩
          · skip
            have h6i : ¬ (6 : Int) < (ln.length : Int) + (rn'.length : Int) := by omega
            have h6j : ¬ (6 : Int) < (ln.length : Int) := by omega
            have h6k : ¬ (6 : Int) < (rn'.length : Int) := by omega
            have HT := Lib.hid (two_ok (s := s) HFL.out HFR.out HLN.out HRN.out h6)
            have VAL : Hid (∀ v ∈ ln ++ List.replicate (8 - (ln.length + rn'.length)) (0 : Int) ++ rn', 0 ≤ v ∧ v ≤ 65535) := Lib.hid (by
              intro v hv
              rcases List.mem_append.1 hv with hv | hv
              · rcases List.mem_append.1 hv with hv | hv
                · exact VL.out ln (two_some HFL.out HLN.out) v hv
                · rw [List.mem_replicate] at hv; omega
              · exact VR.out rn' (two_some HFR.out HRN.out) v hv)
            rw [HRR.out] at HT
            have HL8 : (ln ++ List.replicate (8 - (ln.length + rn'.length)) (0 : Int) ++ rn').length = 8 := by simp only [List.length_append, List.length_replicate]; omega
            obtain ⟨sx, Hh, Ll, Ee, hR⟩ := tryAns_form true (ln ++ List.replicate (8 - (ln.length + rn'.length)) (0 : Int) ++ rn') s
            have K2 := Lib.hid (try8 _ HL8 VAL.out s _ hR)
            have HT2 := Lib.hid (HT.out.trans hR)
            clear HT hR VAL HL8
            clear HRR HFL HFR HLN HRN VL VR
            go_wp2
            go_loopw [10] (fun v wq => ∃ m : Nat, ln.length + rn'.length + m ≤ 8 ∧ wq.ownsRow B 3 1 v (ln.length + m) ((ln ++ List.replicate m (0 : Int)).map (Value.int .i64)) ∧ wq.ownsRow B 3 1 (Value.slice pr rn'.length cr) rn'.length (rn'.map (Value.int .i64)) ∧ (∀ q, v.ownBlock = some q → (Value.slice pr rn'.length cr).ownBlock ≠ some q) ∧ Below B w3 wq)
              (fun v _ => 8 - sliceLen v)
            case atStart => exact ⟨0, by omega, by simpa using ol, or, hne, Below.refl _ _⟩
            case round =>
              obtain ⟨m, hm, ol, or, hne, hb⟩ := hrel
              obtain ⟨p, c, rfl⟩ := owns_slice ol
              have hqs := hb.size
              by_cases hlt : ln.length + rn'.length + m < 8
              · have hli2 : ((ln.length + m : Nat) : Int) + (rn'.length : Int) < 8 := by omega
                have hli3 : (ln.length : Int) + (m : Int) + (rn'.length : Int) < 8 := by omega
                have hli4 : (ln.length : Int) + (m : Int) < 8 := by omega
                go_wp2_with (first
                  | (at_builtin; refine wpList_append_lies _ rfl _ _ 37 rfl B 3 i0 (.int .i64 0) 1 8 Tryd.underlying37 hii hz0 hz1 hz2 rfl (by decide) _ _ _ rfl (ol.alloc _) ⟨wr.heap.size, 0, none⟩ 1 1 [.int .i64 0] rfl rfl ?c1 ?c2 (by decide) ?c3 ?c4 ?c5 _ rfl ?_))
                case c1 => exact World.news_of_block (heap_alloc_new wr _)
                case c2 => intro u hu; simp at hu; subst hu; rfl
                case c3 => unfold maxLen; omega
                case c4 => omega
                case c5 => first | omega | (simp; omega)
                intro g2 c2 w4 ol4 hgrow hat hlt4
                have hb4 := below_app hb (Nat.le_refl B) hBW ol hgrow
                have or4 := ownsFar (or.alloc _) hgrow (fun q h1 h2 => hne q h2.symm h1)
                have hne4 : ∀ q, (Value.slice (some ⟨g2, 0, none⟩) (ln.length + m + 1) c2).ownBlock = some q → (Value.slice pr rn'.length cr).ownBlock ≠ some q := by
                  intro q h1 h2
                  have hq : g2 = q := by simpa [Value.ownBlock] using h1
                  subst hq
                  rcases hat with h | h
                  · exact hne _ h h2
                  · have := (or.lt _ h2).2; omega
                have ol5 : w4.ownsRow B 3 1 (Value.slice (some ⟨g2, 0, none⟩) (ln.length + m + 1) c2) (ln.length + (m + 1)) ((ln ++ List.replicate (m + 1) (0 : Int)).map (Value.int .i64)) := by
                  rw [List.replicate_succ']
                  simpa [Nat.add_assoc] using ol4
                clear ol4 hgrow ol or hne hb hat
                go_wp2
                go_roundw
                case rel => exact ⟨m + 1, by omega, ol5, or4, hne4, hb4⟩
                case measure => simp [sliceLen]; omega
              · have hli2 : ¬ ((ln.length + m : Nat) : Int) + (rn'.length : Int) < 8 := by omega
                have hli3 : ¬ (ln.length : Int) + (m : Int) + (rn'.length : Int) < 8 := by omega
                obtain rfl : m = 8 - (ln.length + rn'.length) := by omega
                have e8 : ln.length + (8 - (ln.length + rn'.length)) + rn'.length = 8 := by omega
                have d1 : (ln.length + (8 - (ln.length + rn'.length)) + rn'.length) * 8 ≤ 140737488355328 := by omega
                have d2 : ln.length + (8 - (ln.length + rn'.length)) + rn'.length ≤ maxLen := by unfold maxLen; omega
                have d3 : B ≤ wr.heap.size := by omega
                go_wp2_with (first
                  | (at_builtin; refine wpList_append_two rfl _ _ 37 rfl B 3 i0 (.int .i64 0) 1 8 Tryd.underlying37 hii hz0 hz1 hz2 rfl (by decide) _ _ _ rfl ol _ B _ _ rfl or (map_one _) d1 d2 d3 ?_))
                intro v5 w5 ol5 hb5
                have ol5 : w5.ownsRow B 3 1 v5 8 ((ln ++ List.replicate (8 - (ln.length + rn'.length)) (0 : Int) ++ rn').map (Value.int .i64)) := by
                  rw [List.map_append, List.map_append, List.map_replicate, List.append_assoc]
                  first
                    | exact ol5
                    | (rw [e8] at ol5; exact ol5)
                    | (rw [List.append_assoc] at ol5; exact ol5)
                    | (simpa [e8] using ol5)
                obtain ⟨g5, c5, rfl, hg5, hg6⟩ := ol5.form (by omega)
                have HCB : Hid (∀ j u, (ln ++ List.replicate (8 - (ln.length + rn'.length)) (0 : Int) ++ rn')[j]? = some u → w5.cell? ⟨g5, j, none⟩ = some (.int .i64 u)) := Lib.hid (by
                  intro j u hj
                  have hjl := (List.getElem?_eq_some_iff.1 hj).1
                  simp only [List.length_append, List.length_replicate] at hjl
                  rw [ol5.cellAt j (by omega), List.getElem?_map, hj]; rfl)
                have hs5 : w5.cell? ⟨w.heap.size, 0, none⟩ = some (.string ⟨s.toArray⟩) := (hb5.cell (p := ⟨w.heap.size, 0, none⟩) hbw1).trans ((hb.cell (p := ⟨w.heap.size, 0, none⟩) hbw1).trans hs3)
                have hbw5 : w.heap.size < w5.heap.size := by have := hb5.size; omega
                have HR5 := HR.out.keep (by rw [hB]; exact b3.trans (hb.trans hb5))
                have b5 : Below w.heap.size w w5 := bA.trans ((hb.trans hb5).mono (by omega))
                have HK := Lib.hid (K2.out g5 c5 w.heap.size w5 hg6 hbw5 HCB.out hs5)
                clear hb5 hb K2 HCB ol5 ol or hne
                go_wp2_with fail
                refine HK.out.mono ?_
                rintro e w6 ⟨rfl, hb6⟩
                have b6 := thenBelow b5 hb6
                obtain ⟨⟨r0, r1, r2, rl⟩, rf⟩ := HR5.keep hb6
                have f0 := rf 0; have f1 := rf 1; have f2 := rf 2
                clear rf hb6 HR5 HK b5
                go_wp2
                try simp only [Exit.inBlock, Exit.then]
                refine bodyPost_ret (v := .tuple #[.agg #[.bool sx, .int .u64 Hh, .int .u64 Ll], .int .i64 Ee]) (by simp [results, Tryd.results6, go_sem, r0, r1, r2]) rfl ?_
                exact ⟨by rw [HT2.out], ((b6.setCell (by simp) _).setCell (by simp) _).setCell (by simp) _⟩
end Go.Proofs.YtojdlhiibffnfabDoor

/-
  The document's AddrParse where two colons stand side by side: the walks.
-/
namespace Go.Proofs.YtojdlhiibffnfabDoor
open Go.RowKit Go.Sort
set_option linter.unusedVariables false
set_option linter.unusedSimpArgs false
set_option maxHeartbeats 8000000 in
set_option maxRecDepth 100000 in
theorem ap_two_10 (s : List UInt8) (hl : s.length ≤ 600) (h4 : rn 10 255 46 [] (-1) s = none) (h8 : rn 16 65535 58 [] (-1) s = none) (F : Nat) (hF : F + 1 < s.length) (e0 : s[F] = 58) (e1 : s[F + 1] = 58)
    (hno : ∀ k (h : k + 1 < s.length), k < F → ¬ (s[k] = 58 ∧ s[k + 1] = 58)) (hF0 : 0 < F) (hFe : ¬ F + 2 < s.length) (oL oR : Option (List Int)) (hoL : (rn 16 65535 58 [] (-1) (s.take F)) = oL) (hoR : (some []) = oR) (w : World) :
    Calls Tryd.prog 6 #[.string ⟨s.toArray⟩] w fun e w' => e = .returned (twoOf oL oR s) ∧ Below w.heap.size w w' := by
  have hsz : (⟨s.toArray⟩ : ByteArray).size = s.length := by simp [ByteArray.size]
  have hli : ¬ 600 < (s.length : Int) := by omega
  obtain ⟨i0, hii, hz0, hz1, hz2⟩ := info_parts info_int
  have K0 := Lib.hid (fun (W : World) => nums_none 10 255 (by decide) (by decide) (by decide) (by decide) 46 s hl h4 W)
  have K1 := Lib.hid (fun (W : World) => nums_none 16 65535 (by decide) (by decide) (by decide) (by decide) 58 s hl h8 W)
  have KL := Lib.hid (fun (W : World) => nums_side (s.take F) (by rw [List.length_take]; omega) W)
  rw [hoL] at KL
  obtain ⟨fl, hfl⟩ : ∃ f, oL.isSome = f := ⟨_, rfl⟩
  obtain ⟨ln, hln⟩ : ∃ f, oL.getD [] = f := ⟨_, rfl⟩
  rw [hfl, hln] at KL
  have hbL : ln.length ≤ 601 := by
    rw [← hln]
    cases hc : oL with
    | none => simp
    | some ns =>
      have := (rn_bd 16 65535 58 (s.take F) [] (-1) ns (by simp) (hoL.trans hc)).2
      simp only [List.length_take, List.length_drop, List.length_nil] at this
      simp only [Option.getD_some]; omega
  have VL := Lib.hid (fun ns (h : oL = some ns) => (rn_bd 16 65535 58 (s.take F) [] (-1) ns (by simp) (hoL.trans h)).1)
  have hfr : oR.isSome = true := by rw [← hoR]; rfl
  obtain ⟨rn', hrz⟩ : ∃ l : List Int, [] = l := ⟨_, rfl⟩
  have hrn : oR.getD [] = rn' := by rw [← hoR, ← hrz]; rfl
  have hr0 : rn'.length < 1 := by rw [← hrz]; decide
  have VR := Lib.hid (fun ns (h : oR = some ns) => show ∀ v ∈ ns, 0 ≤ v ∧ v ≤ 65535 from by rw [← hoR] at h; cases h; simp)
  obtain ⟨RR, hRR⟩ : ∃ R, twoOf oL oR s = R := ⟨_, rfl⟩
  rw [hRR]
  have HRR := Lib.hid hRR
  have HFL := Lib.hid hfl
  have HFR := Lib.hid hfr
  have HLN := Lib.hid hln
  have HRN := Lib.hid hrn
  clear hRR hfl hfr hln hrn
  have NO := Lib.hid hno
  have hx := index_list s F (by omega)
  have hy := index_up s F hF
  rw [e0] at hx
  rw [e1] at hy
  replace hx : ∀ W, (Instr.index 9 (.string ⟨s.toArray⟩) (.int .i64 (F : Int))).run Tryd.prog W = .ok (.int .u8 58) W := hx
  replace hy : ∀ W, (Instr.index 9 (.string ⟨s.toArray⟩) (.int .i64 ((F : Int) + 1))).run Tryd.prog W = .ok (.int .u8 58) W := hy
  have HX := Lib.hid hx
  have HY := Lib.hid hy
  have EXT := Lib.hid (ext_to s F)
  have EXF := Lib.hid (ext_from s (F + 2))
  clear h4 h8 hno hx hy e0 e1
  go_enter Tryd.func6, Tryd.ntmps6
  go_wp2_with fail
  refine (K0.out _).mono ?_
  rintro e w0 ⟨rfl, hb0⟩
  have b0 := thenBelow (((Below.refl _ w).alloc (Nat.le_refl _) (.cells #[.string ⟨s.toArray⟩] 9)).alloc (by simp) (.cells #[.bool false, .int .u64 0, .int .u64 0] 24)) hb0
  have HR0 := Lib.hid ((AddrV.new (w.alloc (.cells #[.string ⟨s.toArray⟩] 9)) false 0 0 24).keep hb0)
  have hs0 : w0.cell? ⟨w.heap.size, 0, none⟩ = some (.string ⟨s.toArray⟩) := (hb0.cell (p := ⟨w.heap.size, 0, none⟩) (by simp; omega)).trans (by rw [World.cell?_alloc_lt _ _ _ (by simp)]; exact cell_one_new _ _ _ 0 _ rfl)
  have hbw0 : w.heap.size < w0.heap.size := by have := hb0.size; simp at this; omega
  clear hb0 K0
  go_wp2_with fail
  refine (K1.out _).mono ?_
  rintro e w1 ⟨rfl, hb1⟩
  have b1 := thenBelow b0 hb1
  have hs1 : w1.cell? ⟨w.heap.size, 0, none⟩ = some (.string ⟨s.toArray⟩) := (hb1.cell (p := ⟨w.heap.size, 0, none⟩) hbw0).trans hs0
  have hbw1 : w.heap.size < w1.heap.size := Nat.lt_of_lt_of_le hbw0 hb1.size
  have HR1 := Lib.hid (HR0.out.keep hb1)
  clear hb1 K1 b0 hs0 hbw0 HR0
  go_wp2
  go_loopw [9] (fun iv wr => ∃ k : Nat, k ≤ F ∧ iv = .int .i64 k ∧ wr = w1) (fun iv _ => s.length - (intOf iv).toNat)
  case atStart => exact ⟨0, by omega, rfl, rfl⟩
  case round =>
    obtain ⟨k, hk, rfl, rfl⟩ := hrel
    by_cases hlt : k < F
    · have hlt2 : k + 1 < s.length := by omega
      have hx := index_list s k (by omega)
      have hy := index_up s k hlt2
      have hn := NO.out k hlt2 hlt
      generalize s[k]'(by omega) = x at hx hn
      generalize s[k + 1]'hlt2 = y at hy hn
      by_cases e : x = 58
      · subst e
        obtain ⟨y0, y1, y2⟩ := byte_ne (fun h => hn ⟨rfl, h⟩)
        replace hx : ∀ W, (Instr.index 9 (.string ⟨s.toArray⟩) (.int .i64 (k : Int))).run Tryd.prog W = .ok (.int .u8 58) W := hx
        clear hn
        go_wp2_with fail
        go_roundw
        case rel => exact ⟨k + 1, by omega, by go_num, by first | rfl | trivial⟩
        case measure => simp [intOf]; omega
      · obtain ⟨x0, x1, x2⟩ := byte_ne e
        clear hn e
        go_wp2_with fail
        go_roundw
        case rel => exact ⟨k + 1, by omega, by go_num, by first | rfl | trivial⟩
        case measure => simp [intOf]; omega
    · obtain rfl : k = F := by omega
      have hx := HX.out
      have hy := HY.out
      clear HX HY NO hlt hk
      obtain ⟨B, hB⟩ : ∃ B, wr.heap.size = B := ⟨_, rfl⟩
      rw [hB] at hbw1
      have hr1 : w.heap.size + 1 < B := by have := HR1.out.1.2.2.2; simp at this; omega
      have hB0 := b1.size
      have HR := HR1
      simp only [World.size_alloc] at HR
      have bB : Below B wr wr := Below.refl _ _
      have hsB := hs1
      clear hs1 HR1
      have hF1 : (0 : Int) < (k : Int) := by omega
      have hFk : (k : Int) ≤ (s.length : Int) := by omega
      go_wp2_with fail
      rw [EXT.out]
      refine (KL.out _).mono ?_
      rintro e w2 ⟨⟨vl, rfl, ol⟩, hb2⟩
      rw [hB] at ol
      have b2 : Below B wr w2 := by rw [hB] at hb2; exact hb2
      obtain ⟨pl, cl, rfl⟩ := owns_slice ol
      clear hb2 KL hF1 bB
      have hs2 : w2.cell? ⟨w.heap.size, 0, none⟩ = some (.string ⟨s.toArray⟩) := (b2.cell (p := ⟨w.heap.size, 0, none⟩) hbw1).trans hsB
      have hR1 : ¬ (k : Int) + 2 < (s.length : Int) := by omega
      obtain ⟨w3, hw3⟩ : ∃ w3, w2 = w3 := ⟨_, rfl⟩
      have or : w3.ownsRow B 3 1 (.slice none 0 0) rn'.length (rn'.map (Value.int .i64)) := by rw [← hrz]; exact World.ownsRow_nil _ _ _ _
      have hne : ∀ q, (Value.slice pl ln.length cl).ownBlock = some q → (Value.slice none 0 0).ownBlock ≠ some q := fun q h1 h2 => by cases h2
      have b3 : Below B wr w3 := by rw [← hw3]; exact b2
      subst hw3
      clear b2
      have HR3 := Lib.hid (HR.out.keep (by rw [hB]; exact b3))
      have hs3 : w2.cell? ⟨w.heap.size, 0, none⟩ = some (.string ⟨s.toArray⟩) := (b3.cell (p := ⟨w.heap.size, 0, none⟩) hbw1).trans hsB
      have bA : Below w.heap.size w w2 := b1.trans (b3.mono (by omega))
      have hBW : B ≤ w2.heap.size := by rw [← hB]; exact b3.size
      clear hsB b1 EXT EXF
      cases fl
      · skip
        obtain ⟨⟨r0, r1, r2, rl⟩, rf⟩ := HR3.out
        have f0 := rf 0; have f1 := rf 1; have f2 := rf 2
        clear rf HR3
        go_wp2
        try simp only [Exit.inBlock, Exit.then]
        refine bodyPost_ret (v := .tuple #[.agg #[.bool false, .int .u64 0, .int .u64 0], .int .i64 4]) (by simp [results, Tryd.results6, go_sem, r0, r1, r2]) rfl ?_
        exact ⟨by rw [← HRR.out, two_no1 HFL.out]; rfl, ((bA.setCell (by simp) _).setCell (by simp) _).setCell (by simp) _⟩
      · skip
      
        by_cases h6 : 6 < (ln.length + rn'.length)
        · have h6i : (6 : Int) < (ln.length : Int) + (rn'.length : Int) := by omega
          have h6j : (6 : Int) < (ln.length : Int) := by omega
          obtain ⟨⟨r0, r1, r2, rl⟩, rf⟩ := HR3.out
          have f0 := rf 0; have f1 := rf 1; have f2 := rf 2
          clear rf HR3
          go_wp2
          try simp only [Exit.inBlock, Exit.then]
          refine bodyPost_ret (v := .tuple #[.agg #[.bool false, .int .u64 0, .int .u64 0], .int .i64 4]) (by simp [results, Tryd.results6, go_sem, r0, r1, r2]) rfl ?_
          exact ⟨by rw [← HRR.out, two_long HFL.out HFR.out HLN.out HRN.out h6]; rfl, ((bA.setCell (by simp) _).setCell (by simp) _).setCell (by simp) _⟩
        · skip
          have h6i : ¬ (6 : Int) < (ln.length : Int) + (rn'.length : Int) := by omega
          have h6j : ¬ (6 : Int) < (ln.length : Int) := by omega
          have h6k : ¬ (6 : Int) < (rn'.length : Int) := by omega
          have HT := Lib.hid (two_ok (s := s) HFL.out HFR.out HLN.out HRN.out h6)
          have VAL : Hid (∀ v ∈ ln ++ List.replicate (8 - (ln.length + rn'.length)) (0 : Int) ++ rn', 0 ≤ v ∧ v ≤ 65535) := Lib.hid (by
            intro v hv
            rcases List.mem_append.1 hv with hv | hv
            · rcases List.mem_append.1 hv with hv | hv
              · exact VL.out ln (two_some HFL.out HLN.out) v hv
              · rw [List.mem_replicate] at hv; omega
            · exact VR.out rn' (two_some HFR.out HRN.out) v hv)
          rw [HRR.out] at HT
          have HL8 : (ln ++ List.replicate (8 - (ln.length + rn'.length)) (0 : Int) ++ rn').length = 8 := by simp only [List.length_append, List.length_replicate]; omega
          obtain ⟨sx, Hh, Ll, Ee, hR⟩ := tryAns_form true (ln ++ List.replicate (8 - (ln.length + rn'.length)) (0 : Int) ++ rn') s
          have K2 := Lib.hid (try8 _ HL8 VAL.out s _ hR)
          have HT2 := Lib.hid (HT.out.trans hR)
          clear HT hR VAL HL8
          clear HRR HFL HFR HLN HRN VL VR
          go_wp2
          go_loopw [10] (fun v wq => ∃ m : Nat, ln.length + rn'.length + m ≤ 8 ∧ wq.ownsRow B 3 1 v (ln.length + m) ((ln ++ List.replicate m (0 : Int)).map (Value.int .i64)) ∧ wq.ownsRow B 3 1 (Value.slice none 0 0) rn'.length (rn'.map (Value.int .i64)) ∧ (∀ q, v.ownBlock = some q → (Value.slice none 0 0).ownBlock ≠ some q) ∧ Below B w2 wq)
            (fun v _ => 8 - sliceLen v)
          case atStart => exact ⟨0, by omega, by simpa using ol, or, hne, Below.refl _ _⟩
          case round =>
            obtain ⟨m, hm, ol, or, hne, hb⟩ := hrel
            obtain ⟨p, c, rfl⟩ := owns_slice ol
            have hqs := hb.size
            by_cases hlt : ln.length + rn'.length + m < 8
            · have hli2 : ((ln.length + m : Nat) : Int) + (rn'.length : Int) < 8 := by omega
              have hli3 : (ln.length : Int) + (m : Int) + (rn'.length : Int) < 8 := by omega
              have hli4 : (ln.length : Int) + (m : Int) < 8 := by omega
              go_wp2_with (first
                | (at_builtin; refine wpList_append_lies _ rfl _ _ 37 rfl B 3 i0 (.int .i64 0) 1 8 Tryd.underlying37 hii hz0 hz1 hz2 rfl (by decide) _ _ _ rfl (ol.alloc _) ⟨wr.heap.size, 0, none⟩ 1 1 [.int .i64 0] rfl rfl ?c1 ?c2 (by decide) ?c3 ?c4 ?c5 _ rfl ?_))
              case c1 => exact World.news_of_block (heap_alloc_new wr _)
              case c2 => intro u hu; simp at hu; subst hu; rfl
              case c3 => unfold maxLen; omega
              case c4 => omega
              case c5 => first | omega | (simp; omega)
              intro g2 c2 w4 ol4 hgrow hat hlt4
              have hb4 := below_app hb (Nat.le_refl B) hBW ol hgrow
              have or4 := ownsFar (or.alloc _) hgrow (fun q h1 h2 => hne q h2.symm h1)
              have hne4 : ∀ q, (Value.slice (some ⟨g2, 0, none⟩) (ln.length + m + 1) c2).ownBlock = some q → (Value.slice none 0 0).ownBlock ≠ some q := by
                intro q h1 h2
                have hq : g2 = q := by simpa [Value.ownBlock] using h1
                subst hq
                rcases hat with h | h
                · exact hne _ h h2
                · have := (or.lt _ h2).2; omega
              have ol5 : w4.ownsRow B 3 1 (Value.slice (some ⟨g2, 0, none⟩) (ln.length + m + 1) c2) (ln.length + (m + 1)) ((ln ++ List.replicate (m + 1) (0 : Int)).map (Value.int .i64)) := by
                rw [List.replicate_succ']
                simpa [Nat.add_assoc] using ol4
              clear ol4 hgrow ol or hne hb hat
              go_wp2
              go_roundw
              case rel => exact ⟨m + 1, by omega, ol5, or4, hne4, hb4⟩
              case measure => simp [sliceLen]; omega
            · have hli2 : ¬ ((ln.length + m : Nat) : Int) + (rn'.length : Int) < 8 := by omega
              have hli3 : ¬ (ln.length : Int) + (m : Int) + (rn'.length : Int) < 8 := by omega
              have hli4 : ¬ (ln.length : Int) + (m : Int) < 8 := by omega
              obtain rfl : m = 8 - (ln.length + rn'.length) := by omega
              have e8 : ln.length + (8 - (ln.length + rn'.length)) + rn'.length = 8 := by omega
              have d1 : (ln.length + (8 - (ln.length + rn'.length)) + rn'.length) * 8 ≤ 140737488355328 := by omega
              have d2 : ln.length + (8 - (ln.length + rn'.length)) + rn'.length ≤ maxLen := by unfold maxLen; omega
              have d3 : B ≤ wr.heap.size := by omega
              go_wp2_with (first
                | (at_builtin; refine wpList_append_two rfl _ _ 37 rfl B 3 i0 (.int .i64 0) 1 8 Tryd.underlying37 hii hz0 hz1 hz2 rfl (by decide) _ _ _ rfl ol _ B _ _ rfl or (map_one _) d1 d2 d3 ?_))
              intro v5 w5 ol5 hb5
              have ol5 : w5.ownsRow B 3 1 v5 8 ((ln ++ List.replicate (8 - (ln.length + rn'.length)) (0 : Int) ++ rn').map (Value.int .i64)) := by
                rw [List.map_append, List.map_append, List.map_replicate, List.append_assoc]
                first
                  | exact ol5
                  | (rw [e8] at ol5; exact ol5)
                  | (rw [List.append_assoc] at ol5; exact ol5)
                  | (simpa [e8] using ol5)
              obtain ⟨g5, c5, rfl, hg5, hg6⟩ := ol5.form (by omega)
              have HCB : Hid (∀ j u, (ln ++ List.replicate (8 - (ln.length + rn'.length)) (0 : Int) ++ rn')[j]? = some u → w5.cell? ⟨g5, j, none⟩ = some (.int .i64 u)) := Lib.hid (by
                intro j u hj
                have hjl := (List.getElem?_eq_some_iff.1 hj).1
                simp only [List.length_append, List.length_replicate] at hjl
                rw [ol5.cellAt j (by omega), List.getElem?_map, hj]; rfl)
              have hs5 : w5.cell? ⟨w.heap.size, 0, none⟩ = some (.string ⟨s.toArray⟩) := (hb5.cell (p := ⟨w.heap.size, 0, none⟩) hbw1).trans ((hb.cell (p := ⟨w.heap.size, 0, none⟩) hbw1).trans hs3)
              have hbw5 : w.heap.size < w5.heap.size := by have := hb5.size; omega
              have HR5 := HR.out.keep (by rw [hB]; exact b3.trans (hb.trans hb5))
              have b5 : Below w.heap.size w w5 := bA.trans ((hb.trans hb5).mono (by omega))
              have HK := Lib.hid (K2.out g5 c5 w.heap.size w5 hg6 hbw5 HCB.out hs5)
              clear hb5 hb K2 HCB ol5 ol or hne
              go_wp2_with fail
              refine HK.out.mono ?_
              rintro e w6 ⟨rfl, hb6⟩
              have b6 := thenBelow b5 hb6
              obtain ⟨⟨r0, r1, r2, rl⟩, rf⟩ := HR5.keep hb6
              have f0 := rf 0; have f1 := rf 1; have f2 := rf 2
              clear rf hb6 HR5 HK b5
              go_wp2
              try simp only [Exit.inBlock, Exit.then]
              refine bodyPost_ret (v := .tuple #[.agg #[.bool sx, .int .u64 Hh, .int .u64 Ll], .int .i64 Ee]) (by simp [results, Tryd.results6, go_sem, r0, r1, r2]) rfl ?_
              exact ⟨by rw [HT2.out], ((b6.setCell (by simp) _).setCell (by simp) _).setCell (by simp) _⟩
end Go.Proofs.YtojdlhiibffnfabDoor

/-
  The document's AddrParse where two colons stand side by side: the walks.
-/
namespace Go.Proofs.YtojdlhiibffnfabDoor
open Go.RowKit Go.Sort
set_option linter.unusedVariables false
set_option linter.unusedSimpArgs false
set_option maxHeartbeats 8000000 in
set_option maxRecDepth 100000 in
theorem ap_two_01 (s : List UInt8) (hl : s.length ≤ 600) (h4 : rn 10 255 46 [] (-1) s = none) (h8 : rn 16 65535 58 [] (-1) s = none) (F : Nat) (hF : F + 1 < s.length) (e0 : s[F] = 58) (e1 : s[F + 1] = 58)
    (hno : ∀ k (h : k + 1 < s.length), k < F → ¬ (s[k] = 58 ∧ s[k + 1] = 58)) (hF0 : F < 1) (hFe : F + 2 < s.length) (oL oR : Option (List Int)) (hoL : (some []) = oL) (hoR : (rn 16 65535 58 [] (-1) (s.drop (F + 2))) = oR) (w : World) :
    Calls Tryd.prog 6 #[.string ⟨s.toArray⟩] w fun e w' => e = .returned (twoOf oL oR s) ∧ Below w.heap.size w w' := by
  have hsz : (⟨s.toArray⟩ : ByteArray).size = s.length := by simp [ByteArray.size]
  have hli : ¬ 600 < (s.length : Int) := by omega
  obtain ⟨i0, hii, hz0, hz1, hz2⟩ := info_parts info_int
  have K0 := Lib.hid (fun (W : World) => nums_none 10 255 (by decide) (by decide) (by decide) (by decide) 46 s hl h4 W)
  have K1 := Lib.hid (fun (W : World) => nums_none 16 65535 (by decide) (by decide) (by decide) (by decide) 58 s hl h8 W)
  have hfl : oL.isSome = true := by rw [← hoL]; rfl
  obtain ⟨ln, hlz⟩ : ∃ l : List Int, [] = l := ⟨_, rfl⟩
  have hln : oL.getD [] = ln := by rw [← hoL, ← hlz]; rfl
  have hl0 : ln.length < 1 := by rw [← hlz]; decide
  have VL := Lib.hid (fun ns (h : oL = some ns) => show ∀ v ∈ ns, 0 ≤ v ∧ v ≤ 65535 from by rw [← hoL] at h; cases h; simp)
  have KR := Lib.hid (fun (W : World) => nums_side (s.drop (F + 2)) (by rw [List.length_drop]; omega) W)
  rw [hoR] at KR
  obtain ⟨fr, hfr⟩ : ∃ f, oR.isSome = f := ⟨_, rfl⟩
  obtain ⟨rn', hrn⟩ : ∃ f, oR.getD [] = f := ⟨_, rfl⟩
  rw [hfr, hrn] at KR
  have hbR : rn'.length ≤ 601 := by
    rw [← hrn]
    cases hc : oR with
    | none => simp
    | some ns =>
      have := (rn_bd 16 65535 58 (s.drop (F + 2)) [] (-1) ns (by simp) (hoR.trans hc)).2
      simp only [List.length_take, List.length_drop, List.length_nil] at this
      simp only [Option.getD_some]; omega
  have VR := Lib.hid (fun ns (h : oR = some ns) => (rn_bd 16 65535 58 (s.drop (F + 2)) [] (-1) ns (by simp) (hoR.trans h)).1)
  obtain ⟨RR, hRR⟩ : ∃ R, twoOf oL oR s = R := ⟨_, rfl⟩
  rw [hRR]
  have HRR := Lib.hid hRR
  have HFL := Lib.hid hfl
  have HFR := Lib.hid hfr
  have HLN := Lib.hid hln
  have HRN := Lib.hid hrn
  clear hRR hfl hfr hln hrn
  have NO := Lib.hid hno
  have hx := index_list s F (by omega)
  have hy := index_up s F hF
  rw [e0] at hx
  rw [e1] at hy
  replace hx : ∀ W, (Instr.index 9 (.string ⟨s.toArray⟩) (.int .i64 (F : Int))).run Tryd.prog W = .ok (.int .u8 58) W := hx
  replace hy : ∀ W, (Instr.index 9 (.string ⟨s.toArray⟩) (.int .i64 ((F : Int) + 1))).run Tryd.prog W = .ok (.int .u8 58) W := hy
  have HX := Lib.hid hx
  have HY := Lib.hid hy
  have EXT := Lib.hid (ext_to s F)
  have EXF := Lib.hid (ext_from s (F + 2))
  clear h4 h8 hno hx hy e0 e1
  go_enter Tryd.func6, Tryd.ntmps6
  go_wp2_with fail
  refine (K0.out _).mono ?_
  rintro e w0 ⟨rfl, hb0⟩
  have b0 := thenBelow (((Below.refl _ w).alloc (Nat.le_refl _) (.cells #[.string ⟨s.toArray⟩] 9)).alloc (by simp) (.cells #[.bool false, .int .u64 0, .int .u64 0] 24)) hb0
  have HR0 := Lib.hid ((AddrV.new (w.alloc (.cells #[.string ⟨s.toArray⟩] 9)) false 0 0 24).keep hb0)
  have hs0 : w0.cell? ⟨w.heap.size, 0, none⟩ = some (.string ⟨s.toArray⟩) := (hb0.cell (p := ⟨w.heap.size, 0, none⟩) (by simp; omega)).trans (by rw [World.cell?_alloc_lt _ _ _ (by simp)]; exact cell_one_new _ _ _ 0 _ rfl)
  have hbw0 : w.heap.size < w0.heap.size := by have := hb0.size; simp at this; omega
  clear hb0 K0
  go_wp2_with fail
  refine (K1.out _).mono ?_
  rintro e w1 ⟨rfl, hb1⟩
  have b1 := thenBelow b0 hb1
  have hs1 : w1.cell? ⟨w.heap.size, 0, none⟩ = some (.string ⟨s.toArray⟩) := (hb1.cell (p := ⟨w.heap.size, 0, none⟩) hbw0).trans hs0
  have hbw1 : w.heap.size < w1.heap.size := Nat.lt_of_lt_of_le hbw0 hb1.size
  have HR1 := Lib.hid (HR0.out.keep hb1)
  clear hb1 K1 b0 hs0 hbw0 HR0
  go_wp2
  go_loopw [9] (fun iv wr => ∃ k : Nat, k ≤ F ∧ iv = .int .i64 k ∧ wr = w1) (fun iv _ => s.length - (intOf iv).toNat)
  case atStart => exact ⟨0, by omega, rfl, rfl⟩
  case round =>
    obtain ⟨k, hk, rfl, rfl⟩ := hrel
    by_cases hlt : k < F
    · exfalso; omega
    · obtain rfl : k = F := by omega
      have hx := HX.out
      have hy := HY.out
      clear HX HY NO hlt hk
      obtain ⟨B, hB⟩ : ∃ B, wr.heap.size = B := ⟨_, rfl⟩
      rw [hB] at hbw1
      have hr1 : w.heap.size + 1 < B := by have := HR1.out.1.2.2.2; simp at this; omega
      have hB0 := b1.size
      have HR := HR1
      simp only [World.size_alloc] at HR
      have bB : Below B wr wr := Below.refl _ _
      have hsB := hs1
      clear hs1 HR1
      have hF1 : ¬ (0 : Int) < (k : Int) := by omega
      obtain ⟨w2, hw2⟩ : ∃ w2, wr = w2 := ⟨_, rfl⟩
      have ol : w2.ownsRow B 3 1 (.slice none 0 0) ln.length (ln.map (Value.int .i64)) := by rw [← hlz]; exact World.ownsRow_nil _ _ _ _
      have b2 : Below B wr w2 := by rw [← hw2]; exact bB
      clear bB
      have hs2 : w2.cell? ⟨w.heap.size, 0, none⟩ = some (.string ⟨s.toArray⟩) := (b2.cell (p := ⟨w.heap.size, 0, none⟩) hbw1).trans hsB
      subst hw2
      have hR1 : (k : Int) + 2 < (s.length : Int) := by omega
      have hR2 : (k : Int) + 2 ≤ (s.length : Int) := by omega
      have hR3 : (0 : Int) ≤ (k : Int) + 2 := by omega
      have hR4 : ((k : Int) + 2).toNat = k + 2 := by omega
      go_wp2_with fail
      first | rw [EXF.out] | rw [hR4, hsz, EXF.out] | rw [hsz, EXF.out] | rw [hR4, EXF.out]
      refine (KR.out _).mono ?_
      rintro e w3 ⟨⟨vr, rfl, or⟩, hb3⟩
      have hsz2 := b2.size
      obtain ⟨pr, cr, rfl⟩ := owns_slice or
      have hne : ∀ q, (Value.slice none 0 0).ownBlock = some q → (Value.slice pr rn'.length cr).ownBlock ≠ some q := fun q h1 h2 => by
        have := (ol.lt q h1).2; have := (or.lt q h2).1; omega
      have ol := ownsKeep ol hb3
      have or := ownsLow or (Nat.le_trans (Nat.le_of_eq hB.symm) hsz2)
      have b3 := b2.trans (hb3.mono (Nat.le_trans (Nat.le_of_eq hB.symm) hsz2))
      clear hb3 hs2 b2 hR1 hR2 hR3 hR4 KR
      have HR3 := Lib.hid (HR.out.keep (by rw [hB]; exact b3))
      have hs3 : w3.cell? ⟨w.heap.size, 0, none⟩ = some (.string ⟨s.toArray⟩) := (b3.cell (p := ⟨w.heap.size, 0, none⟩) hbw1).trans hsB
      have bA : Below w.heap.size w w3 := b1.trans (b3.mono (by omega))
      have hBW : B ≤ w3.heap.size := by rw [← hB]; exact b3.size
      clear hsB b1 EXT EXF
      cases fr
      · skip
        obtain ⟨⟨r0, r1, r2, rl⟩, rf⟩ := HR3.out
        have f0 := rf 0; have f1 := rf 1; have f2 := rf 2
        clear rf HR3
        go_wp2
        try simp only [Exit.inBlock, Exit.then]
        refine bodyPost_ret (v := .tuple #[.agg #[.bool false, .int .u64 0, .int .u64 0], .int .i64 4]) (by simp [results, Tryd.results6, go_sem, r0, r1, r2]) rfl ?_
        exact ⟨by rw [← HRR.out, two_no2 HFR.out]; rfl, ((bA.setCell (by simp) _).setCell (by simp) _).setCell (by simp) _⟩
      · skip
      
        by_cases h6 : 6 < (ln.length + rn'.length)
        · have h6i : (6 : Int) < (ln.length : Int) + (rn'.length : Int) := by omega
          have h6j : (6 : Int) < (rn'.length : Int) := by omega
          obtain ⟨⟨r0, r1, r2, rl⟩, rf⟩ := HR3.out
          have f0 := rf 0; have f1 := rf 1; have f2 := rf 2
          clear rf HR3
          go_wp2
          try simp only [Exit.inBlock, Exit.then]
          refine bodyPost_ret (v := .tuple #[.agg #[.bool false, .int .u64 0, .int .u64 0], .int .i64 4]) (by simp [results, Tryd.results6, go_sem, r0, r1, r2]) rfl ?_
          exact ⟨by rw [← HRR.out, two_long HFL.out HFR.out HLN.out HRN.out h6]; rfl, ((bA.setCell (by simp) _).setCell (by simp) _).setCell (by simp) _⟩
        · skip
          have h6i : ¬ (6 : Int) < (ln.length : Int) + (rn'.length : Int) := by omega
          have h6j : ¬ (6 : Int) < (ln.length : Int) := by omega
          have h6k : ¬ (6 : Int) < (rn'.length : Int) := by omega
          have HT := Lib.hid (two_ok (s := s) HFL.out HFR.out HLN.out HRN.out h6)
          have VAL : Hid (∀ v ∈ ln ++ List.replicate (8 - (ln.length + rn'.length)) (0 : Int) ++ rn', 0 ≤ v ∧ v ≤ 65535) := Lib.hid (by
            intro v hv
            rcases List.mem_append.1 hv with hv | hv
            · rcases List.mem_append.1 hv with hv | hv
              · exact VL.out ln (two_some HFL.out HLN.out) v hv
              · rw [List.mem_replicate] at hv; omega
            · exact VR.out rn' (two_some HFR.out HRN.out) v hv)
          rw [HRR.out] at HT
          have HL8 : (ln ++ List.replicate (8 - (ln.length + rn'.length)) (0 : Int) ++ rn').length = 8 := by simp only [List.length_append, List.length_replicate]; omega
          obtain ⟨sx, Hh, Ll, Ee, hR⟩ := tryAns_form true (ln ++ List.replicate (8 - (ln.length + rn'.length)) (0 : Int) ++ rn') s
          have K2 := Lib.hid (try8 _ HL8 VAL.out s _ hR)
          have HT2 := Lib.hid (HT.out.trans hR)
          clear HT hR VAL HL8
          clear HRR HFL HFR HLN HRN VL VR
          go_wp2
          go_loopw [10] (fun v wq => ∃ m : Nat, ln.length + rn'.length + m ≤ 8 ∧ wq.ownsRow B 3 1 v (ln.length + m) ((ln ++ List.replicate m (0 : Int)).map (Value.int .i64)) ∧ wq.ownsRow B 3 1 (Value.slice pr rn'.length cr) rn'.length (rn'.map (Value.int .i64)) ∧ (∀ q, v.ownBlock = some q → (Value.slice pr rn'.length cr).ownBlock ≠ some q) ∧ Below B w3 wq)
            (fun v _ => 8 - sliceLen v)
          case atStart => exact ⟨0, by omega, by simpa using ol, or, hne, Below.refl _ _⟩
          case round =>
            obtain ⟨m, hm, ol, or, hne, hb⟩ := hrel
            obtain ⟨p, c, rfl⟩ := owns_slice ol
            have hqs := hb.size
            by_cases hlt : ln.length + rn'.length + m < 8
            · have hli2 : ((ln.length + m : Nat) : Int) + (rn'.length : Int) < 8 := by omega
              have hli3 : (ln.length : Int) + (m : Int) + (rn'.length : Int) < 8 := by omega
              have hli4 : (ln.length : Int) + (m : Int) < 8 := by omega
              go_wp2_with (first
                | (at_builtin; refine wpList_append_lies _ rfl _ _ 37 rfl B 3 i0 (.int .i64 0) 1 8 Tryd.underlying37 hii hz0 hz1 hz2 rfl (by decide) _ _ _ rfl (ol.alloc _) ⟨wr.heap.size, 0, none⟩ 1 1 [.int .i64 0] rfl rfl ?c1 ?c2 (by decide) ?c3 ?c4 ?c5 _ rfl ?_))
              case c1 => exact World.news_of_block (heap_alloc_new wr _)
              case c2 => intro u hu; simp at hu; subst hu; rfl
              case c3 => unfold maxLen; omega
              case c4 => omega
              case c5 => first | omega | (simp; omega)
              intro g2 c2 w4 ol4 hgrow hat hlt4
              have hb4 := below_app hb (Nat.le_refl B) hBW ol hgrow
              have or4 := ownsFar (or.alloc _) hgrow (fun q h1 h2 => hne q h2.symm h1)
              have hne4 : ∀ q, (Value.slice (some ⟨g2, 0, none⟩) (ln.length + m + 1) c2).ownBlock = some q → (Value.slice pr rn'.length cr).ownBlock ≠ some q := by
                intro q h1 h2
                have hq : g2 = q := by simpa [Value.ownBlock] using h1
                subst hq
                rcases hat with h | h
                · exact hne _ h h2
                · have := (or.lt _ h2).2; omega
              have ol5 : w4.ownsRow B 3 1 (Value.slice (some ⟨g2, 0, none⟩) (ln.length + m + 1) c2) (ln.length + (m + 1)) ((ln ++ List.replicate (m + 1) (0 : Int)).map (Value.int .i64)) := by
                rw [List.replicate_succ']
                simpa [Nat.add_assoc] using ol4
              clear ol4 hgrow ol or hne hb hat
              go_wp2
              go_roundw
              case rel => exact ⟨m + 1, by omega, ol5, or4, hne4, hb4⟩
              case measure => simp [sliceLen]; omega
            · have hli2 : ¬ ((ln.length + m : Nat) : Int) + (rn'.length : Int) < 8 := by omega
              have hli3 : ¬ (ln.length : Int) + (m : Int) + (rn'.length : Int) < 8 := by omega
              obtain rfl : m = 8 - (ln.length + rn'.length) := by omega
              have e8 : ln.length + (8 - (ln.length + rn'.length)) + rn'.length = 8 := by omega
              have d1 : (ln.length + (8 - (ln.length + rn'.length)) + rn'.length) * 8 ≤ 140737488355328 := by omega
              have d2 : ln.length + (8 - (ln.length + rn'.length)) + rn'.length ≤ maxLen := by unfold maxLen; omega
              have d3 : B ≤ wr.heap.size := by omega
              go_wp2_with (first
                | (at_builtin; refine wpList_append_two rfl _ _ 37 rfl B 3 i0 (.int .i64 0) 1 8 Tryd.underlying37 hii hz0 hz1 hz2 rfl (by decide) _ _ _ rfl ol _ B _ _ rfl or (map_one _) d1 d2 d3 ?_))
              intro v5 w5 ol5 hb5
              have ol5 : w5.ownsRow B 3 1 v5 8 ((ln ++ List.replicate (8 - (ln.length + rn'.length)) (0 : Int) ++ rn').map (Value.int .i64)) := by
                rw [List.map_append, List.map_append, List.map_replicate, List.append_assoc]
                first
                  | exact ol5
                  | (rw [e8] at ol5; exact ol5)
                  | (rw [List.append_assoc] at ol5; exact ol5)
                  | (simpa [e8] using ol5)
              obtain ⟨g5, c5, rfl, hg5, hg6⟩ := ol5.form (by omega)
              have HCB : Hid (∀ j u, (ln ++ List.replicate (8 - (ln.length + rn'.length)) (0 : Int) ++ rn')[j]? = some u → w5.cell? ⟨g5, j, none⟩ = some (.int .i64 u)) := Lib.hid (by
                intro j u hj
                have hjl := (List.getElem?_eq_some_iff.1 hj).1
                simp only [List.length_append, List.length_replicate] at hjl
                rw [ol5.cellAt j (by omega), List.getElem?_map, hj]; rfl)
              have hs5 : w5.cell? ⟨w.heap.size, 0, none⟩ = some (.string ⟨s.toArray⟩) := (hb5.cell (p := ⟨w.heap.size, 0, none⟩) hbw1).trans ((hb.cell (p := ⟨w.heap.size, 0, none⟩) hbw1).trans hs3)
              have hbw5 : w.heap.size < w5.heap.size := by have := hb5.size; omega
              have HR5 := HR.out.keep (by rw [hB]; exact b3.trans (hb.trans hb5))
              have b5 : Below w.heap.size w w5 := bA.trans ((hb.trans hb5).mono (by omega))
              have HK := Lib.hid (K2.out g5 c5 w.heap.size w5 hg6 hbw5 HCB.out hs5)
              clear hb5 hb K2 HCB ol5 ol or hne
              go_wp2_with fail
              refine HK.out.mono ?_
              rintro e w6 ⟨rfl, hb6⟩
              have b6 := thenBelow b5 hb6
              obtain ⟨⟨r0, r1, r2, rl⟩, rf⟩ := HR5.keep hb6
              have f0 := rf 0; have f1 := rf 1; have f2 := rf 2
              clear rf hb6 HR5 HK b5
              go_wp2
              try simp only [Exit.inBlock, Exit.then]
              refine bodyPost_ret (v := .tuple #[.agg #[.bool sx, .int .u64 Hh, .int .u64 Ll], .int .i64 Ee]) (by simp [results, Tryd.results6, go_sem, r0, r1, r2]) rfl ?_
              exact ⟨by rw [HT2.out], ((b6.setCell (by simp) _).setCell (by simp) _).setCell (by simp) _⟩
end Go.Proofs.YtojdlhiibffnfabDoor

/-
  The document's AddrParse where two colons stand side by side: the walks.
-/
namespace Go.Proofs.YtojdlhiibffnfabDoor
open Go.RowKit Go.Sort
set_option linter.unusedVariables false
set_option linter.unusedSimpArgs false
set_option maxHeartbeats 8000000 in
set_option maxRecDepth 100000 in
theorem ap_two_00 (s : List UInt8) (hl : s.length ≤ 600) (h4 : rn 10 255 46 [] (-1) s = none) (h8 : rn 16 65535 58 [] (-1) s = none) (F : Nat) (hF : F + 1 < s.length) (e0 : s[F] = 58) (e1 : s[F + 1] = 58)
    (hno : ∀ k (h : k + 1 < s.length), k < F → ¬ (s[k] = 58 ∧ s[k + 1] = 58)) (hF0 : F < 1) (hFe : ¬ F + 2 < s.length) (oL oR : Option (List Int)) (hoL : (some []) = oL) (hoR : (some []) = oR) (w : World) :
    Calls Tryd.prog 6 #[.string ⟨s.toArray⟩] w fun e w' => e = .returned (twoOf oL oR s) ∧ Below w.heap.size w w' := by
  have hsz : (⟨s.toArray⟩ : ByteArray).size = s.length := by simp [ByteArray.size]
  have hli : ¬ 600 < (s.length : Int) := by omega
  obtain ⟨i0, hii, hz0, hz1, hz2⟩ := info_parts info_int
  have K0 := Lib.hid (fun (W : World) => nums_none 10 255 (by decide) (by decide) (by decide) (by decide) 46 s hl h4 W)
  have K1 := Lib.hid (fun (W : World) => nums_none 16 65535 (by decide) (by decide) (by decide) (by decide) 58 s hl h8 W)
  have hfl : oL.isSome = true := by rw [← hoL]; rfl
  obtain ⟨ln, hlz⟩ : ∃ l : List Int, [] = l := ⟨_, rfl⟩
  have hln : oL.getD [] = ln := by rw [← hoL, ← hlz]; rfl
  have hl0 : ln.length < 1 := by rw [← hlz]; decide
  have VL := Lib.hid (fun ns (h : oL = some ns) => show ∀ v ∈ ns, 0 ≤ v ∧ v ≤ 65535 from by rw [← hoL] at h; cases h; simp)
  have hfr : oR.isSome = true := by rw [← hoR]; rfl
  obtain ⟨rn', hrz⟩ : ∃ l : List Int, [] = l := ⟨_, rfl⟩
  have hrn : oR.getD [] = rn' := by rw [← hoR, ← hrz]; rfl
  have hr0 : rn'.length < 1 := by rw [← hrz]; decide
  have VR := Lib.hid (fun ns (h : oR = some ns) => show ∀ v ∈ ns, 0 ≤ v ∧ v ≤ 65535 from by rw [← hoR] at h; cases h; simp)
  obtain ⟨RR, hRR⟩ : ∃ R, twoOf oL oR s = R := ⟨_, rfl⟩
  rw [hRR]
  have HRR := Lib.hid hRR
  have HFL := Lib.hid hfl
  have HFR := Lib.hid hfr
  have HLN := Lib.hid hln
  have HRN := Lib.hid hrn
  clear hRR hfl hfr hln hrn
  have NO := Lib.hid hno
  have hx := index_list s F (by omega)
  have hy := index_up s F hF
  rw [e0] at hx
  rw [e1] at hy
  replace hx : ∀ W, (Instr.index 9 (.string ⟨s.toArray⟩) (.int .i64 (F : Int))).run Tryd.prog W = .ok (.int .u8 58) W := hx
  replace hy : ∀ W, (Instr.index 9 (.string ⟨s.toArray⟩) (.int .i64 ((F : Int) + 1))).run Tryd.prog W = .ok (.int .u8 58) W := hy
  have HX := Lib.hid hx
  have HY := Lib.hid hy
  have EXT := Lib.hid (ext_to s F)
  have EXF := Lib.hid (ext_from s (F + 2))
  clear h4 h8 hno hx hy e0 e1
  go_enter Tryd.func6, Tryd.ntmps6
  go_wp2_with fail
  refine (K0.out _).mono ?_
  rintro e w0 ⟨rfl, hb0⟩
  have b0 := thenBelow (((Below.refl _ w).alloc (Nat.le_refl _) (.cells #[.string ⟨s.toArray⟩] 9)).alloc (by simp) (.cells #[.bool false, .int .u64 0, .int .u64 0] 24)) hb0
  have HR0 := Lib.hid ((AddrV.new (w.alloc (.cells #[.string ⟨s.toArray⟩] 9)) false 0 0 24).keep hb0)
  have hs0 : w0.cell? ⟨w.heap.size, 0, none⟩ = some (.string ⟨s.toArray⟩) := (hb0.cell (p := ⟨w.heap.size, 0, none⟩) (by simp; omega)).trans (by rw [World.cell?_alloc_lt _ _ _ (by simp)]; exact cell_one_new _ _ _ 0 _ rfl)
  have hbw0 : w.heap.size < w0.heap.size := by have := hb0.size; simp at this; omega
  clear hb0 K0
  go_wp2_with fail
  refine (K1.out _).mono ?_
  rintro e w1 ⟨rfl, hb1⟩
  have b1 := thenBelow b0 hb1
  have hs1 : w1.cell? ⟨w.heap.size, 0, none⟩ = some (.string ⟨s.toArray⟩) := (hb1.cell (p := ⟨w.heap.size, 0, none⟩) hbw0).trans hs0
  have hbw1 : w.heap.size < w1.heap.size := Nat.lt_of_lt_of_le hbw0 hb1.size
  have HR1 := Lib.hid (HR0.out.keep hb1)
  clear hb1 K1 b0 hs0 hbw0 HR0
  go_wp2
  go_loopw [9] (fun iv wr => ∃ k : Nat, k ≤ F ∧ iv = .int .i64 k ∧ wr = w1) (fun iv _ => s.length - (intOf iv).toNat)
  case atStart => exact ⟨0, by omega, rfl, rfl⟩
  case round =>
    obtain ⟨k, hk, rfl, rfl⟩ := hrel
    by_cases hlt : k < F
    · exfalso; omega
    · obtain rfl : k = F := by omega
      have hx := HX.out
      have hy := HY.out
      clear HX HY NO hlt hk
      obtain ⟨B, hB⟩ : ∃ B, wr.heap.size = B := ⟨_, rfl⟩
      rw [hB] at hbw1
      have hr1 : w.heap.size + 1 < B := by have := HR1.out.1.2.2.2; simp at this; omega
      have hB0 := b1.size
      have HR := HR1
      simp only [World.size_alloc] at HR
      have bB : Below B wr wr := Below.refl _ _
      have hsB := hs1
      clear hs1 HR1
      have hF1 : ¬ (0 : Int) < (k : Int) := by omega
      obtain ⟨w2, hw2⟩ : ∃ w2, wr = w2 := ⟨_, rfl⟩
      have ol : w2.ownsRow B 3 1 (.slice none 0 0) ln.length (ln.map (Value.int .i64)) := by rw [← hlz]; exact World.ownsRow_nil _ _ _ _
      have b2 : Below B wr w2 := by rw [← hw2]; exact bB
      clear bB
      have hs2 : w2.cell? ⟨w.heap.size, 0, none⟩ = some (.string ⟨s.toArray⟩) := (b2.cell (p := ⟨w.heap.size, 0, none⟩) hbw1).trans hsB
      subst hw2
      have hR1 : ¬ (k : Int) + 2 < (s.length : Int) := by omega
      obtain ⟨w3, hw3⟩ : ∃ w3, wr = w3 := ⟨_, rfl⟩
      have or : w3.ownsRow B 3 1 (.slice none 0 0) rn'.length (rn'.map (Value.int .i64)) := by rw [← hrz]; exact World.ownsRow_nil _ _ _ _
      have hne : ∀ q, (Value.slice none 0 0).ownBlock = some q → (Value.slice none 0 0).ownBlock ≠ some q := fun q h1 h2 => by cases h2
      have b3 : Below B wr w3 := by rw [← hw3]; exact b2
      subst hw3
      clear b2
      have HR3 := Lib.hid (HR.out.keep (by rw [hB]; exact b3))
      have hs3 : wr.cell? ⟨w.heap.size, 0, none⟩ = some (.string ⟨s.toArray⟩) := (b3.cell (p := ⟨w.heap.size, 0, none⟩) hbw1).trans hsB
      have bA : Below w.heap.size w wr := b1.trans (b3.mono (by omega))
      have hBW : B ≤ wr.heap.size := by rw [← hB]; exact b3.size
      clear hsB b1 EXT EXF
      
      have h6 : ¬ 6 < (ln.length + rn'.length) := by omega
      have h6i : ¬ (6 : Int) < (ln.length : Int) + (rn'.length : Int) := by omega
      have h6j : ¬ (6 : Int) < (ln.length : Int) := by omega
      have h6k : ¬ (6 : Int) < (rn'.length : Int) := by omega
      have HT := Lib.hid (two_ok (s := s) HFL.out HFR.out HLN.out HRN.out h6)
      have VAL : Hid (∀ v ∈ ln ++ List.replicate (8 - (ln.length + rn'.length)) (0 : Int) ++ rn', 0 ≤ v ∧ v ≤ 65535) := Lib.hid (by
        intro v hv
        rcases List.mem_append.1 hv with hv | hv
        · rcases List.mem_append.1 hv with hv | hv
          · exact VL.out ln (two_some HFL.out HLN.out) v hv
          · rw [List.mem_replicate] at hv; omega
        · exact VR.out rn' (two_some HFR.out HRN.out) v hv)
      rw [HRR.out] at HT
      have HL8 : (ln ++ List.replicate (8 - (ln.length + rn'.length)) (0 : Int) ++ rn').length = 8 := by simp only [List.length_append, List.length_replicate]; omega
      obtain ⟨sx, Hh, Ll, Ee, hR⟩ := tryAns_form true (ln ++ List.replicate (8 - (ln.length + rn'.length)) (0 : Int) ++ rn') s
      have K2 := Lib.hid (try8 _ HL8 VAL.out s _ hR)
      have HT2 := Lib.hid (HT.out.trans hR)
      clear HT hR VAL HL8
      clear HRR HFL HFR HLN HRN VL VR
      go_wp2
      go_loopw [10] (fun v wq => ∃ m : Nat, ln.length + rn'.length + m ≤ 8 ∧ wq.ownsRow B 3 1 v (ln.length + m) ((ln ++ List.replicate m (0 : Int)).map (Value.int .i64)) ∧ wq.ownsRow B 3 1 (Value.slice none 0 0) rn'.length (rn'.map (Value.int .i64)) ∧ (∀ q, v.ownBlock = some q → (Value.slice none 0 0).ownBlock ≠ some q) ∧ Below B wr wq)
        (fun v _ => 8 - sliceLen v)
      case atStart => exact ⟨0, by omega, by simpa using ol, or, hne, Below.refl _ _⟩
      case round =>
        obtain ⟨m, hm, ol, or, hne, hb⟩ := hrel
        obtain ⟨p, c, rfl⟩ := owns_slice ol
        have hqs := hb.size
        by_cases hlt : ln.length + rn'.length + m < 8
        · have hli2 : ((ln.length + m : Nat) : Int) + (rn'.length : Int) < 8 := by omega
          have hli3 : (ln.length : Int) + (m : Int) + (rn'.length : Int) < 8 := by omega
          have hli4 : (ln.length : Int) + (m : Int) < 8 := by omega
          go_wp2_with (first
            | (at_builtin; refine wpList_append_lies _ rfl _ _ 37 rfl B 3 i0 (.int .i64 0) 1 8 Tryd.underlying37 hii hz0 hz1 hz2 rfl (by decide) _ _ _ rfl (ol.alloc _) ⟨wr.heap.size, 0, none⟩ 1 1 [.int .i64 0] rfl rfl ?c1 ?c2 (by decide) ?c3 ?c4 ?c5 _ rfl ?_))
          case c1 => exact World.news_of_block (heap_alloc_new wr _)
          case c2 => intro u hu; simp at hu; subst hu; rfl
          case c3 => unfold maxLen; omega
          case c4 => omega
          case c5 => first | omega | (simp; omega)
          intro g2 c2 w4 ol4 hgrow hat hlt4
          have hb4 := below_app hb (Nat.le_refl B) hBW ol hgrow
          have or4 := ownsFar (or.alloc _) hgrow (fun q h1 h2 => hne q h2.symm h1)
          have hne4 : ∀ q, (Value.slice (some ⟨g2, 0, none⟩) (ln.length + m + 1) c2).ownBlock = some q → (Value.slice none 0 0).ownBlock ≠ some q := by
            intro q h1 h2
            have hq : g2 = q := by simpa [Value.ownBlock] using h1
            subst hq
            rcases hat with h | h
            · exact hne _ h h2
            · have := (or.lt _ h2).2; omega
          have ol5 : w4.ownsRow B 3 1 (Value.slice (some ⟨g2, 0, none⟩) (ln.length + m + 1) c2) (ln.length + (m + 1)) ((ln ++ List.replicate (m + 1) (0 : Int)).map (Value.int .i64)) := by
            rw [List.replicate_succ']
            simpa [Nat.add_assoc] using ol4
          clear ol4 hgrow ol or hne hb hat
          go_wp2
          go_roundw
          case rel => exact ⟨m + 1, by omega, ol5, or4, hne4, hb4⟩
          case measure => simp [sliceLen]; omega
        · have hli2 : ¬ ((ln.length + m : Nat) : Int) + (rn'.length : Int) < 8 := by omega
          have hli3 : ¬ (ln.length : Int) + (m : Int) + (rn'.length : Int) < 8 := by omega
          have hli4 : ¬ (ln.length : Int) + (m : Int) < 8 := by omega
          obtain rfl : m = 8 - (ln.length + rn'.length) := by omega
          have e8 : ln.length + (8 - (ln.length + rn'.length)) + rn'.length = 8 := by omega
          have d1 : (ln.length + (8 - (ln.length + rn'.length)) + rn'.length) * 8 ≤ 140737488355328 := by omega
          have d2 : ln.length + (8 - (ln.length + rn'.length)) + rn'.length ≤ maxLen := by unfold maxLen; omega
          have d3 : B ≤ wr.heap.size := by omega
          go_wp2_with (first
            | (at_builtin; refine wpList_append_two rfl _ _ 37 rfl B 3 i0 (.int .i64 0) 1 8 Tryd.underlying37 hii hz0 hz1 hz2 rfl (by decide) _ _ _ rfl ol _ B _ _ rfl or (map_one _) d1 d2 d3 ?_))
          intro v5 w5 ol5 hb5
          have ol5 : w5.ownsRow B 3 1 v5 8 ((ln ++ List.replicate (8 - (ln.length + rn'.length)) (0 : Int) ++ rn').map (Value.int .i64)) := by
            rw [List.map_append, List.map_append, List.map_replicate, List.append_assoc]
            first
              | exact ol5
              | (rw [e8] at ol5; exact ol5)
              | (rw [List.append_assoc] at ol5; exact ol5)
              | (simpa [e8] using ol5)
          obtain ⟨g5, c5, rfl, hg5, hg6⟩ := ol5.form (by omega)
          have HCB : Hid (∀ j u, (ln ++ List.replicate (8 - (ln.length + rn'.length)) (0 : Int) ++ rn')[j]? = some u → w5.cell? ⟨g5, j, none⟩ = some (.int .i64 u)) := Lib.hid (by
            intro j u hj
            have hjl := (List.getElem?_eq_some_iff.1 hj).1
            simp only [List.length_append, List.length_replicate] at hjl
            rw [ol5.cellAt j (by omega), List.getElem?_map, hj]; rfl)
          have hs5 : w5.cell? ⟨w.heap.size, 0, none⟩ = some (.string ⟨s.toArray⟩) := (hb5.cell (p := ⟨w.heap.size, 0, none⟩) hbw1).trans ((hb.cell (p := ⟨w.heap.size, 0, none⟩) hbw1).trans hs3)
          have hbw5 : w.heap.size < w5.heap.size := by have := hb5.size; omega
          have HR5 := HR.out.keep (by rw [hB]; exact b3.trans (hb.trans hb5))
          have b5 : Below w.heap.size w w5 := bA.trans ((hb.trans hb5).mono (by omega))
          have HK := Lib.hid (K2.out g5 c5 w.heap.size w5 hg6 hbw5 HCB.out hs5)
          clear hb5 hb K2 HCB ol5 ol or hne
          go_wp2_with fail
          refine HK.out.mono ?_
          rintro e w6 ⟨rfl, hb6⟩
          have b6 := thenBelow b5 hb6
          obtain ⟨⟨r0, r1, r2, rl⟩, rf⟩ := HR5.keep hb6
          have f0 := rf 0; have f1 := rf 1; have f2 := rf 2
          clear rf hb6 HR5 HK b5
          go_wp2
          try simp only [Exit.inBlock, Exit.then]
          refine bodyPost_ret (v := .tuple #[.agg #[.bool sx, .int .u64 Hh, .int .u64 Ll], .int .i64 Ee]) (by simp [results, Tryd.results6, go_sem, r0, r1, r2]) rfl ?_
          exact ⟨by rw [HT2.out], ((b6.setCell (by simp) _).setCell (by simp) _).setCell (by simp) _⟩
end Go.Proofs.YtojdlhiibffnfabDoor

/-
  addr.readNumbers.
-/
namespace Go.Proofs.YtojdlhiibffnfabDoor
open Go.RowKit Go.Sort
set_option linter.unusedVariables false
set_option linter.unusedSimpArgs false

/-- All pieces read, or none. -/
def nums (f : List UInt8 → Option Nat) : List (List UInt8) → Option (List Nat)
  | [] => some []
  | p :: ps => match f p with
    | none => none
    | some n => (nums f ps).map (n :: ·)
theorem nums_on {f : List UInt8 → Option Nat} {p : List UInt8} {ps : List (List UInt8)} {n : Nat} {ns : List Nat} (h : f p = some n) : (nums f (p :: ps)).map (ns ++ ·) = (nums f ps).map ((ns ++ [n]) ++ ·) := by
  simp only [nums, h]
  cases nums f ps <;> simp
theorem nums_no {f : List UInt8 → Option Nat} {p : List UInt8} {ps : List (List UInt8)} {ns : List Nat} (h : f p = none) : (nums f (p :: ps)).map (ns ++ ·) = none := by
  simp [nums, h]
theorem nums_length {f : List UInt8 → Option Nat} : ∀ {ps : List (List UInt8)} {ns : List Nat}, nums f ps = some ns → ns.length = ps.length
  | [], ns, h => by simp [nums] at h; subst h; rfl
  | p :: ps, ns, h => by
    unfold nums at h
    split at h
    · cases h
    · obtain ⟨ms, hm, rfl⟩ := Option.map_eq_some_iff.1 h
      simp [nums_length hm]

/-- The numbers that are read of a text. -/
def numsOf (B M : Nat) (c : UInt8) (s : List UInt8) : Option (List Nat) := nums (puE B M) (Lib.split s [c])

/-- What readNumbers answers. -/
def NumsOut (base : Nat) (r : Option (List Nat)) (e : Ending) (w' : World) : Prop := match r with
  | some ns => ∃ v, e = .returned (.tuple #[v, .bool true]) ∧ w'.ownsRow base 22 1 v ns.length (ns.map fun n => Value.int .u64 ((n : Nat) : Int))
  | none => e = .returned (.tuple #[.slice none 0 0, .bool false])

theorem info_u64 : (Tryd.prog.info? 22).map (fun i => (i.zero, i.size, i.bytes)) = some (some (.int .u64 0), 1, 8) := by kernel_rfl

theorem one_sz (c : UInt8) : 1 ≤ (⟨#[c]⟩ : ByteArray).size := Nat.le_refl 1
theorem map_nil_app (x : Option (List Nat)) : x.map ([] ++ ·) = x := by cases x <;> rfl
theorem splitB_small (sep : ByteArray) : ∀ (k : Nat) (s q : ByteArray), q ∈ Lib.splitB sep 0 k s → q.size ≤ s.size
  | 0, s, q, h => by
    rw [Lib.splitB_zero, List.mem_singleton] at h
    rw [h]; exact Nat.le_refl _
  | k + 1, s, q, h => by
    unfold Lib.splitB at h
    split at h
    · rw [List.mem_singleton] at h
      rw [h]; exact Nat.le_refl _
    · rcases List.mem_cons.1 h with rfl | h
      · rw [ByteArray.size_extract]; omega
      · have := splitB_small sep k _ q h
        rw [ByteArray.size_extract] at this
        omega

set_option maxHeartbeats 2000000 in
set_option maxRecDepth 100000 in
theorem readNumbers_calls (B Z M : Nat) (hw : Way B Z M) (c : UInt8) (t : ByteArray) (s : List UInt8) (hs : t.data.toList = s) (hl : s.length ≤ 600) (w : World) (hr : RTabs w) :
    Calls Tryd.prog 35 #[.string t, .string ⟨#[c]⟩, .int .i64 B, .int .i64 Z] w fun e w' => NumsOut w.heap.size (numsOf B M c s) e w' ∧ Below w.heap.size w w' := by
  obtain ⟨hr1, ⟨mx, hmx⟩, hr3⟩ := hr
  have hr : RTabs w := ⟨hr1, ⟨mx, hmx⟩, hr3⟩
  have hts : t.size ≤ 600 := by rw [Lib.size_eq, hs]; exact hl
  have cs := Tryd.strings_Split t ⟨#[c]⟩ mx w (by omega) hmx (one_sz c)
  have hql := Lib.splitB_all ⟨#[c]⟩ (one_sz c) 0 (Lib.countB t ⟨#[c]⟩) t rfl
  have hqd := Lib.splitB_data ⟨#[c]⟩ 0 (Lib.countB t ⟨#[c]⟩) t
  have hcl := Lib.countB_le ⟨#[c]⟩ (one_sz c) t.size t (Nat.le_refl _)
  have hqb : ∀ q ∈ Lib.splitB ⟨#[c]⟩ 0 (Lib.countB t ⟨#[c]⟩) t, q.data.toList.length ≤ 1000 := by
    intro q hq
    have := splitB_small _ _ _ _ hq
    rw [← Lib.size_eq]; omega
  have hns : numsOf B M c s = nums (puE B M) ((Lib.splitB ⟨#[c]⟩ 0 (Lib.countB t ⟨#[c]⟩) t).map (·.data.toList)) := by
    rw [hqd, ← hs]
    rfl
  rw [hns]
  obtain ⟨qs, hqs⟩ : ∃ qs, Lib.splitB ⟨#[c]⟩ 0 (Lib.countB t ⟨#[c]⟩) t = qs := ⟨_, rfl⟩
  rw [hqs] at cs hql hqb ⊢
  obtain ⟨n, hn⟩ : ∃ n, Lib.countB t ⟨#[c]⟩ = n := ⟨_, rfl⟩
  rw [hn] at cs hql hcl
  obtain ⟨R, hR⟩ : ∃ R, nums (puE B M) (qs.map (·.data.toList)) = R := ⟨_, rfl⟩
  rw [hR]
  have HRR := Lib.hid hR
  have CS := Lib.hid cs
  have HQB := Lib.hid hqb
  have HQL := Lib.hid hql
  have HWAY := Lib.hid hw
  have HR := Lib.hid hr
  have hn6 : n ≤ 600 := by omega
  clear hns hqs hn hqd hR cs hqb hql hw hr hr1 hmx hr3 hs hl hcl
  obtain ⟨i0, hii, hz0, hz1, hz2⟩ := info_parts info_u64
  go_enter Tryd.func35, Tryd.ntmps35
  go_wp2_with (go_at_call 49; refine CS.out.mono ?_; rintro e w1 ⟨rfl, rfl⟩)
  have HC : Hid (∀ (k : Nat) q, qs[k]? = some q → (w.alloc (.cells (qs.map Value.string).toArray 9)).cell? ⟨w.heap.size, k, none⟩ = some (.string q)) := Lib.hid (fun k q h => by
    simp [h])
  have R1 : Hid (RTabs (w.alloc (.cells (qs.map Value.string).toArray 9))) := Lib.hid (HR.out.alloc _)
  have B1 : Below w.heap.size w (w.alloc (.cells (qs.map Value.string).toArray 9)) := (Below.refl _ w).alloc (Nat.le_refl _) _
  have hlt1 : w.heap.size < (w.alloc (.cells (qs.map Value.string).toArray 9)).heap.size := by simp
  obtain ⟨w1, hw1⟩ : ∃ w1, w.alloc (.cells (qs.map Value.string).toArray 9) = w1 := ⟨_, rfl⟩
  rw [hw1] at HC R1 B1 hlt1 ⊢
  clear hw1 CS HR
  go_loopw [10, 19] (fun v i wr => ∃ (k : Nat) (ns : List Nat), k ≤ n + 1 ∧ i = .int .i64 k ∧ ns.length = k ∧ wr.ownsRow w1.heap.size 22 1 v ns.length (ns.map fun n => Value.int .u64 ((n : Nat) : Int)) ∧ Below w1.heap.size w1 wr ∧ Hid ((nums (puE B M) ((qs.drop k).map (·.data.toList))).map (ns ++ ·) = R))
    (fun _ i _ => n + 1 - (intOf i).toNat)
  case atStart => exact ⟨0, [], by omega, rfl, rfl, by simpa using World.ownsRow_nil _ _ _ _, Below.refl _ _, by show _ = _; rw [map_nil_app]; exact HRR.out⟩
  case round =>
    obtain ⟨k, ns, hk, rfl, hkn, hown, hnx, hrest⟩ := hrel
    have hsz := hnx.size
    by_cases hlt : k < n + 1
    · have hkq : k < qs.length := by rw [HQL.out]; exact hlt
      have hcell : wr.cell? ⟨w.heap.size, k, none⟩ = some (.string qs[k]) := (hnx.cell (p := ⟨w.heap.size, k, none⟩) hlt1).trans (HC.out k _ (List.getElem?_eq_getElem hkq))
      have hdrop : (qs.drop k).map (·.data.toList) = qs[k].data.toList :: (qs.drop (k + 1)).map (·.data.toList) := by rw [List.drop_eq_getElem_cons hkq]; rfl
      have hqb := HQB.out _ (List.getElem_mem hkq)
      have hrs := hrest.out
      rw [hdrop] at hrs
      generalize qs[k] = q at hcell hrs hqb
      have CP := Lib.hid (parseUint_calls B Z M HWAY.out q _ rfl hqb wr (R1.out.keep hnx))
      clear hdrop hrest hkq hqb
      go_wp2_with fail
      refine CP.out.mono ?_
      rintro e w2 ⟨he, hb2⟩
      obtain ⟨r, hre⟩ : ∃ r, puE B M q.data.toList = r := ⟨_, rfl⟩
      rw [hre] at he
      cases r with
      | none =>
        obtain ⟨m, ty, v, rfl⟩ := he
        rw [nums_no hre] at hrs
        subst hrs
        clear hre CP
        go_wp2
        go_ret2
        exact ⟨rfl, thenBelow B1 (thenBelow hnx hb2)⟩
      | some u =>
        obtain rfl : e = _ := he
        rw [nums_on hre] at hrs
        have HRS := Lib.hid hrs
        have hown2 := ownsKeep hown hb2
        have hnx2 := thenBelow hnx hb2
        have hsz2 := hnx2.size
        have hn7 : ns.length ≤ 600 := by omega
        clear hre CP hrs hown hnx
        go_wp2_with (first
          | (at_builtin; refine wpList_append_own _ rfl _ _ 59 rfl w1.heap.size 22 i0 (.int .u64 0) 1 8 Tryd.underlying59 hii hz0 hz1 hz2 rfl (by decide) _ _ _ rfl (hown2.alloc _) ⟨w2.heap.size, 0, none⟩ 1 1 [.int .u64 (u : Int)] rfl rfl ?c1 ?c2 ?c3 ?c4 ?c5 ?_))
        case c1 => exact cell_one_new _ _ _
        case c2 => intro u hu; simp at hu; subst hu; rfl
        case c3 => unfold maxLen; omega
        case c4 => omega
        case c5 => simp; omega
        · intro v' w3 hown' hgrow _
          have hb3 := below_app hnx2 (Nat.le_refl _) (Nat.le_refl _) hown2 hgrow
          have hown3 : w3.ownsRow w1.heap.size 22 1 v' (ns ++ [u]).length ((ns ++ [u]).map fun n => Value.int .u64 ((n : Nat) : Int)) := by rw [List.map_append, List.length_append, hkn]; exact hown'
          clear hown' hgrow hown2 hnx2 hcell
          go_wp2
          go_roundw
          case rel => exact ⟨k + 1, ns ++ [u], by omega, by go_num, by simp [hkn], hown3, hb3, HRS⟩
          case measure => simp [intOf]; omega
    · obtain rfl : k = n + 1 := by omega
      have hrs := hrest.out
      rw [List.drop_of_length_le (by rw [HQL.out]; omega)] at hrs
      have h2 : some ns = R := by rw [← hrs]; simp [nums]
      subst h2
      clear hrs hrest
      go_wp2
      go_ret2
      exact ⟨⟨_, rfl, ownsLow hown (by have := B1.size; omega)⟩, thenBelow B1 hnx⟩
end Go.Proofs.YtojdlhiibffnfabDoor

/-
  addr.joined: eight groups make an address.
-/
namespace Go.Proofs.YtojdlhiibffnfabDoor
open Go.RowKit Go.Sort
set_option linter.unusedVariables false
set_option linter.unusedSimpArgs false

theorem or_up (x g m : Nat) (k : Nat) (hm : 2 ^ k = m) (hx : x * m < 18446744073709551616) (hg : g < m) (hm2 : m ≤ 65536) : bits .or .u64 ((x : Int) * (m : Int)) (g : Int) = (x : Int) * (m : Int) + g := by
  have h := u64_or_nat (x * m) g hx (by omega)
  have h2 := Nat.shiftLeft_add_eq_or_of_lt (show g < 2 ^ k by rw [hm]; exact hg) x
  rw [Nat.shiftLeft_eq, hm] at h2
  rw [← h2] at h
  rw [← Int.natCast_mul, h]
  simp

theorem or16 (x g : Int) (x0 : 0 ≤ x) (x1 : x < 281474976710656) (g0 : 0 ≤ g) (g1 : g < 65536) : bits .or .u64 (x * 65536) g = x * 65536 + g := by
  obtain ⟨a, rfl⟩ := Int.eq_ofNat_of_zero_le x0
  obtain ⟨b, rfl⟩ := Int.eq_ofNat_of_zero_le g0
  exact or_up a b 65536 16 rfl (by omega) (by omega) (Nat.le_refl _)
theorem or8 (x g : Int) (x0 : 0 ≤ x) (x1 : x < 16777216) (g0 : 0 ≤ g) (g1 : g < 256) : bits .or .u64 (x * 256) g = x * 256 + g := by
  obtain ⟨a, rfl⟩ := Int.eq_ofNat_of_zero_le x0
  obtain ⟨b, rfl⟩ := Int.eq_ofNat_of_zero_le g0
  exact or_up a b 256 8 rfl (by omega) (by omega) (by omega)

/-- Groups spelt out, most significant first. -/
def hor (l : List Nat) : Nat := l.foldl (fun a x => a * 65536 + x) 0
theorem hor_snoc (l : List Nat) (x : Nat) : hor (l ++ [x]) = hor l * 65536 + x := by simp [hor]
theorem horF_lt (l : List Nat) (h : ∀ x ∈ l, x < 65536) : ∀ a, l.foldl (fun a x => a * 65536 + x) a < (a + 1) * 65536 ^ l.length := by
  induction l with
  | nil => intro a; simp
  | cons x l ih =>
    intro a
    have h1 := ih (fun y hy => h y (.tail _ hy)) (a * 65536 + x)
    have h2 := h x (.head _)
    have h3 : (a * 65536 + x + 1) * 65536 ^ l.length ≤ ((a + 1) * 65536) * 65536 ^ l.length := Nat.mul_le_mul_right _ (by omega)
    rw [List.foldl_cons, List.length_cons, Nat.pow_succ, Nat.mul_comm (65536 ^ l.length), ← Nat.mul_assoc]
    exact Nat.lt_of_lt_of_le h1 h3
theorem hor_lt (l : List Nat) (h : ∀ x ∈ l, x < 65536) : hor l < 65536 ^ l.length := by
  have := horF_lt l h 0
  simpa [hor] using this
theorem hor_take (l : List Nat) (k : Nat) (h : k < l.length) : hor (l.take (k + 1)) = hor (l.take k) * 65536 + l[k] := by
  rw [List.take_succ_eq_append_getElem h, hor_snoc]
theorem hor_take_lt (l : List Nat) (hl : ∀ x ∈ l, x < 65536) (k : Nat) (hk : k < 4) : hor (l.take k) < 281474976710656 := by
  have h := hor_lt (l.take k) (fun x hx => hl x (List.mem_of_mem_take hx))
  have h2 : 65536 ^ (l.take k).length ≤ 65536 ^ 3 := Nat.pow_le_pow_right (by omega) (by rw [List.length_take]; omega)
  have h3 : (65536 : Nat) ^ 3 = 281474976710656 := by decide
  omega
/-- Block b holds these numbers. -/
def NumsAt (w : World) (b : Nat) (gs : List Nat) : Prop := (∀ (j u : Nat), gs[j]? = some u → w.cell? ⟨b, j, none⟩ = some (.int .u64 (u : Int))) ∧ b < w.heap.size
theorem NumsAt.far {w : World} {b : Nat} {gs : List Nat} (a : NumsAt w b gs) {p : Addr} (hp : b ≠ p.block) (u : Value) : NumsAt (w.setCell p u) b gs := by
  have ne : ∀ o, p ≠ ⟨b, o, none⟩ := fun o e => hp (by rw [e])
  exact ⟨fun j x h => (World.cell?_setCell_other w p _ u (ne j)).trans (a.1 j x h), by simpa using a.2⟩
theorem NumsAt.keep {w w' : World} {b : Nat} {gs : List Nat} (a : NumsAt w b gs) (hb : Below w.heap.size w w') : NumsAt w' b gs :=
  ⟨fun j x h => (hb.cell (p := ⟨b, j, none⟩) a.2).trans (a.1 j x h), Nat.lt_of_lt_of_le a.2 hb.size⟩
/-- Block b holds this address, and it may be written. -/
def AddrW (w : World) (b : Nat) (s : Bool) (h l : Int) : Prop := AddrAt w b s h l ∧ ∀ o, w.frozen? ⟨b, o, none⟩ = false
theorem AddrW.far {w : World} {b : Nat} {s : Bool} {h l : Int} (a : AddrW w b s h l) {p : Addr} (hp : b ≠ p.block) (u : Value) : AddrW (w.setCell p u) b s h l := by
  have ne : ∀ o, p ≠ ⟨b, o, none⟩ := fun o e => hp (by rw [e])
  exact ⟨⟨(World.cell?_setCell_other w p _ u (ne 0)).trans a.1.1, (World.cell?_setCell_other w p _ u (ne 1)).trans a.1.2.1, (World.cell?_setCell_other w p _ u (ne 2)).trans a.1.2.2.1, by simpa using a.1.2.2.2⟩, fun o => by rw [World.frozen?_setCell]; exact a.2 o⟩
theorem AddrW.set1 {w : World} {b : Nat} {s : Bool} {h l : Int} (a : AddrW w b s h l) (h2 : Int) : AddrW (w.setCell ⟨b, 1, none⟩ (.int .u64 h2)) b s h2 l := by
  obtain ⟨⟨a0, a1, a2, az⟩, af⟩ := a
  exact ⟨⟨by simp [go_sem, a0, a1, a2], by simp [go_sem, a0, a1, a2], by simp [go_sem, a0, a1, a2], by simpa using az⟩, fun o => by rw [World.frozen?_setCell]; exact af o⟩
theorem AddrW.set2 {w : World} {b : Nat} {s : Bool} {h l : Int} (a : AddrW w b s h l) (l2 : Int) : AddrW (w.setCell ⟨b, 2, none⟩ (.int .u64 l2)) b s h l2 := by
  obtain ⟨⟨a0, a1, a2, az⟩, af⟩ := a
  exact ⟨⟨by simp [go_sem, a0, a1, a2], by simp [go_sem, a0, a1, a2], by simp [go_sem, a0, a1, a2], by simpa using az⟩, fun o => by rw [World.frozen?_setCell]; exact af o⟩

theorem AddrW.store {w : World} {b : Nat} {s : Bool} {h l : Int} (a : AddrW w b s h l) (s2 : Bool) (h2 l2 : Int) :
    AddrW (((w.setCell ⟨b, 0, none⟩ (.bool s2)).setCell ⟨b, 1, none⟩ (.int .u64 h2)).setCell ⟨b, 2, none⟩ (.int .u64 l2)) b s2 h2 l2 := by
  obtain ⟨⟨a0, a1, a2, az⟩, af⟩ := a
  exact ⟨⟨by simp [go_sem, a0, a1, a2], by simp [go_sem, a0, a1, a2], by simp [go_sem, a0, a1, a2], by simpa using az⟩, fun o => by simp only [World.frozen?_setCell]; exact af o⟩

set_option maxHeartbeats 4000000 in
set_option maxRecDepth 100000 in
theorem joined_calls (g0 g1 g2 g3 g4 g5 g6 g7 : Nat) (gs : List Nat) (hgs : [g0, g1, g2, g3, g4, g5, g6, g7] = gs) (hlt : ∀ x ∈ gs, x < 65536) (w : World) :
    Calls Tryd.prog 34 #[.agg #[.int .u64 (g0 : Int), .int .u64 (g1 : Int), .int .u64 (g2 : Int), .int .u64 (g3 : Int), .int .u64 (g4 : Int), .int .u64 (g5 : Int), .int .u64 (g6 : Int), .int .u64 (g7 : Int)]] w
      fun r w' => r = .returned (.agg #[.bool true, .int .u64 (hor (gs.take 4) : Int), .int .u64 (hor (gs.drop 4) : Int)]) ∧ Below w.heap.size w w' := by
  have hlen : gs.length = 8 := by rw [← hgs]; rfl
  have hd4 : (gs.drop 4).length = 4 := by rw [List.length_drop, hlen]
  have N0 : NumsAt ((w.alloc (.cells #[.int .u64 (g0 : Int), .int .u64 (g1 : Int), .int .u64 (g2 : Int), .int .u64 (g3 : Int), .int .u64 (g4 : Int), .int .u64 (g5 : Int), .int .u64 (g6 : Int), .int .u64 (g7 : Int)] 62))) w.heap.size gs := by
    refine ⟨fun j u h => ?_, by simp⟩
    rw [← hgs] at h
    match j, h with
    | 0, h => simp at h; subst h; simp
    | 1, h => simp at h; subst h; simp
    | 2, h => simp at h; subst h; simp
    | 3, h => simp at h; subst h; simp
    | 4, h => simp at h; subst h; simp
    | 5, h => simp at h; subst h; simp
    | 6, h => simp at h; subst h; simp
    | 7, h => simp at h; subst h; simp
    | j + 8, h => simp at h
  have N1 := Lib.hid N0
  have HGS := Lib.hid hgs
  have HLT := Lib.hid hlt
  clear N0 hgs hlt
  go_enter Tryd.func34, Tryd.ntmps34
  go_wp2
  have N2 : NumsAt _ w.heap.size gs := (N1.out.keep ((Below.refl _ _).alloc (Nat.le_refl _) (.cells #[.bool false, .int .u64 0, .int .u64 0] 24))).keep ((Below.refl _ _).alloc (Nat.le_refl _) (.cells #[.bool true, .int .u64 0, .int .u64 0] 24))
  obtain ⟨W1, hW1⟩ : ∃ W1, w.alloc (.cells #[.int .u64 (g0 : Int), .int .u64 (g1 : Int), .int .u64 (g2 : Int), .int .u64 (g3 : Int), .int .u64 (g4 : Int), .int .u64 (g5 : Int), .int .u64 (g6 : Int), .int .u64 (g7 : Int)] 62) = W1 := ⟨_, rfl⟩
  have b1 : Below w.heap.size w W1 := by rw [← hW1]; exact (Below.refl _ _).alloc (Nat.le_refl _) _
  have s1 : W1.heap.size = w.heap.size + 1 := by rw [← hW1]; simp
  rw [hW1] at N2 ⊢
  have A1 : AddrW ((W1.alloc (.cells #[.bool false, .int .u64 0, .int .u64 0] 24)).alloc (.cells #[.bool true, .int .u64 0, .int .u64 0] 24)) (w.heap.size + 1) false 0 0 := by
    rw [← s1]
    exact ⟨(AddrAt.new W1 false 0 0 24).alloc _, fun o => by simp [go_sem]⟩
  have A2 : AddrW ((W1.alloc (.cells #[.bool false, .int .u64 0, .int .u64 0] 24)).alloc (.cells #[.bool true, .int .u64 0, .int .u64 0] 24)) (w.heap.size + 1 + 1) true 0 0 := by
    have := AddrAt.new (W1.alloc (.cells #[.bool false, .int .u64 0, .int .u64 0] 24)) true 0 0 24
    rw [World.size_alloc, s1] at this
    exact ⟨this, fun o => by rw [← s1]; simp [go_sem]⟩
  have b3 : Below w.heap.size w ((W1.alloc (.cells #[.bool false, .int .u64 0, .int .u64 0] 24)).alloc (.cells #[.bool true, .int .u64 0, .int .u64 0] 24)) := (b1.alloc (by omega) _).alloc (by simp; omega) _
  clear N1 hW1 HGS
  go_loopw [6] (fun i wr => ∃ k : Nat, k ≤ 4 ∧ i = .int .i64 k ∧ NumsAt wr w.heap.size gs ∧ AddrW wr (w.heap.size + 1) false 0 0 ∧ AddrW wr (w.heap.size + 1 + 1) true (hor (gs.take k) : Int) (hor ((gs.drop 4).take k) : Int) ∧ Below w.heap.size w wr)
    (fun i _ => 4 - (intOf i).toNat)
  case atStart => exact ⟨0, by omega, rfl, N2, A1, A2, b3⟩
  case round =>
    clear N2 A1 A2 b3 b1 s1
    obtain ⟨k, hk, rfl, N, A, B, b⟩ := hrel
    by_cases hlt : k < 4
    · have c1 := N.1 k _ (List.getElem?_eq_getElem (by omega : k < gs.length))
      have c2 := N.1 (k + 4) _ (List.getElem?_eq_getElem (by omega : k + 4 < gs.length))
      have e1 := hor_take gs k (by omega)
      have e2 := hor_take (gs.drop 4) k (by omega)
      have eg : (gs.drop 4)[k]'(by omega) = gs[k + 4]'(by omega) := by rw [List.getElem_drop]; congr 1; omega
      rw [eg] at e2
      have l1 := hor_take_lt gs HLT.out k hlt
      have l2 := hor_take_lt (gs.drop 4) (fun x hx => HLT.out x (List.mem_of_mem_drop hx)) k hlt
      have x1 := HLT.out _ (List.getElem_mem (by omega : k < gs.length))
      have x2 := HLT.out _ (List.getElem_mem (by omega : k + 4 < gs.length))
      generalize gs[k]'(by omega) = g at c1 e1 x1
      generalize gs[k + 4]'(by omega) = g' at c2 e2 x2
      generalize hor (gs.take k) = h at B e1 l1
      generalize hor ((gs.drop 4).take k) = l at B e2 l2
      have o1 := or16 h g (by omega) (by omega) (by omega) (by omega)
      have o2 := or16 l g' (by omega) (by omega) (by omega) (by omega)
      obtain ⟨h', eh⟩ : ∃ h', h * 65536 + g = h' := ⟨_, rfl⟩
      obtain ⟨l', el⟩ : ∃ l', l * 65536 + g' = l' := ⟨_, rfl⟩
      rw [show (h : Int) * 65536 + g = (h' : Int) by omega] at o1
      rw [show (l : Int) * 65536 + g' = (l' : Int) by omega] at o2
      rw [eh] at e1
      rw [el] at e2
      have h2 : h' < 18446744073709551616 := by omega
      have l3 : l' < 18446744073709551616 := by omega
      have E1 := Lib.hid e1; have E2 := Lib.hid e2
      clear e1 e2 eh el eg
      have ⟨⟨t0, t1, t2, tz⟩, tf⟩ := B
      have f1 := tf 1; have f2 := tf 2
      clear tf
      have hi2 : (k : Int) + 4 < 8 := by omega
      have hk8 : (k : Int) < 8 := by omega
      go_wp2
      go_region
      go_wp2
      go_region
      go_wp2
      go_roundw
      case rel => exact ⟨k + 1, by omega, by go_num, (N.far (by show w.heap.size ≠ w.heap.size + 1 + 1; omega) _).far (by show w.heap.size ≠ w.heap.size + 1 + 1; omega) _, (A.far (by simp) _).far (by simp) _, by rw [E1.out, E2.out]; exact (B.set1 _).set2 _, ((b.setCell (by show w.heap.size ≤ w.heap.size + 1 + 1; omega) _).setCell (by show w.heap.size ≤ w.heap.size + 1 + 1; omega) _).drew.drew⟩
      case measure => simp [intOf]; omega
    · obtain rfl : k = 4 := by omega
      rw [show (gs.drop 4).take 4 = gs.drop 4 from List.take_of_length_le (by omega)] at B
      obtain ⟨h, hh⟩ : ∃ h, hor (gs.take 4) = h := ⟨_, rfl⟩
      obtain ⟨l, hl⟩ : ∃ l, hor (gs.drop 4) = l := ⟨_, rfl⟩
      rw [hh, hl] at B
      have HH := Lib.hid hh; have HL := Lib.hid hl
      clear hh hl
      have ⟨⟨t0, t1, t2, tz⟩, tf⟩ := B
      have ⟨⟨s0, s1, s2, sz⟩, sf⟩ := A
      have f0 := sf 0; have f1 := sf 1; have f2 := sf 2
      clear tf sf
      go_wp2
      try simp only [Exit.inBlock, Exit.then]
      refine bodyPost_ret (by simp [results, Tryd.results34, go_sem, s0, s1, s2]; try rfl) rfl ?_
      exact ⟨by rw [HH.out, HL.out], ((b.setCell (by simp) _).setCell (by simp) _).setCell (by simp) _⟩
end Go.Proofs.YtojdlhiibffnfabDoor

/-
  addr.readFour, addr.readGroups.
-/
namespace Go.Proofs.YtojdlhiibffnfabDoor
open Go.RowKit Go.Sort
set_option linter.unusedVariables false
set_option linter.unusedSimpArgs false

/-- What addr.readFour reads. -/
def fourOf : Option (List Nat) → Option (Bool × Nat × Nat)
  | some [a, b, c, d] => some (false, 0, ((a * 256 + b) * 256 + c) * 256 + d)
  | _ => none
/-- What a reader answers. -/
def ReadOut (r : Option (Bool × Nat × Nat)) (e : Ending) : Prop := match r with
  | some (six, H, L) => e = .returned (.tuple #[.agg #[.bool six, .int .u64 (H : Int), .int .u64 (L : Int)], .bool true])
  | none => e = .returned (.tuple #[.agg #[.bool false, .int .u64 0, .int .u64 0], .bool false])

theorem pu_le {B M : Nat} : ∀ {l : List UInt8} {acc n : Nat}, acc ≤ M → pu B M acc l = some n → n ≤ M
  | [], acc, n, h, e => by simp [pu] at e; omega
  | c :: cs, acc, n, h, e => by
    unfold pu at e
    split at e
    · cases e
    · split at e
      · rename_i hle; exact pu_le hle e
      · cases e
theorem puE_le {B M : Nat} {l : List UInt8} {n : Nat} (e : puE B M l = some n) : n ≤ M := by
  unfold puE at e
  split at e
  · cases e
  · exact pu_le (Nat.zero_le _) e
theorem nums_all {f : List UInt8 → Option Nat} {M : Nat} (hf : ∀ p n, f p = some n → n ≤ M) : ∀ {ps : List (List UInt8)} {ns : List Nat}, nums f ps = some ns → ∀ n ∈ ns, n ≤ M
  | [], ns, h, n, hn => by simp [nums] at h; subst h; cases hn
  | p :: ps, ns, h, n, hn => by
    unfold nums at h
    split at h
    · cases h
    · rename_i m hm
      obtain ⟨ms, hms, rfl⟩ := Option.map_eq_some_iff.1 h
      rcases List.mem_cons.1 hn with rfl | hn
      · exact hf _ _ hm
      · exact nums_all hf hms n hn
theorem numsOf_le {B M : Nat} {c : UInt8} {s : List UInt8} {ns : List Nat} (h : numsOf B M c s = some ns) : ∀ n ∈ ns, n ≤ M := nums_all (fun _ _ => puE_le) h

set_option maxHeartbeats 4000000 in
set_option maxRecDepth 100000 in
theorem readFour_calls (t : ByteArray) (s : List UInt8) (hs : t.data.toList = s) (hl : s.length ≤ 600) (w : World) (hr : RTabs w) :
    Calls Tryd.prog 20 #[.string t] w fun e w' => ReadOut (fourOf (numsOf 10 255 46 s)) e ∧ Below w.heap.size w w' := by
  have C := Lib.hid (readNumbers_calls 10 8 255 (.inl ⟨rfl, rfl, rfl⟩) 46 t s hs hl)
  have hle : ∀ ns, numsOf 10 255 46 s = some ns → ∀ n ∈ ns, n ≤ 255 := fun ns => numsOf_le
  obtain ⟨R, hR⟩ : ∃ R, numsOf 10 255 46 s = R := ⟨_, rfl⟩
  rw [hR] at C hle ⊢
  have HR := Lib.hid hr
  have HLE := Lib.hid hle
  clear hR hs hl hr hle
  go_enter Tryd.func20, Tryd.ntmps20
  go_wp2_with fail
  refine (C.out _ (HR.out.alloc _)).mono ?_
  rintro e w1 ⟨he, hb⟩
  have bb := thenBelow ((Below.refl _ w).alloc (Nat.le_refl _) _) hb
  have A0 := AddrAt.keep (by exact AddrAt.new w false 0 0 24) hb
  have F0 : ∀ o, w1.frozen? ⟨w.heap.size, o, none⟩ = false := fun o => (hb.frozen (p := ⟨w.heap.size, o, none⟩) (by simp)).trans (by simp [go_sem])
  have HA : Hid (AddrW w1 w.heap.size false 0 0) := Lib.hid ⟨A0, F0⟩
  clear C HR hb
  obtain ⟨z0, z1, z2, zs⟩ := A0
  have f0 := F0 0; have f1 := F0 1; have f2 := F0 2
  clear F0
  cases R with
  | none =>
    obtain rfl : e = _ := he
    go_wp2
    try simp only [Exit.inBlock, Exit.then]
    refine bodyPost_ret (by simp [results, Tryd.results20, go_sem, z0, z1, z2]; try rfl) rfl ?_
    exact ⟨rfl, ((bb.setCell (by simp) _).setCell (by simp) _).setCell (by simp) _⟩
  | some ns =>
    obtain ⟨v, rfl, hown⟩ := he
    by_cases hn : ns.length = 4
    · obtain ⟨a, b, c, d, hns⟩ : ∃ a b c d, ns = [a, b, c, d] := by
        match ns, hn with
        | [a, b, c, d], _ => exact ⟨a, b, c, d, rfl⟩
      have hle := HLE.out _ rfl
      rw [hns] at hle hown
      have la : a ≤ 255 := hle a (by simp)
      have lb : b ≤ 255 := hle b (by simp)
      have lc : c ≤ 255 := hle c (by simp)
      have ld : d ≤ 255 := hle d (by simp)
      obtain ⟨g, cap, rfl, hg1, hg2⟩ := hown.form (by simp)
      have c0 : w1.cell? ⟨g, 0, none⟩ = some (.int .u64 (a : Int)) := by rw [hown.cellAt 0 (by simp)]; rfl
      have c1 : w1.cell? ⟨g, 1, none⟩ = some (.int .u64 (b : Int)) := by rw [hown.cellAt 1 (by simp)]; rfl
      have c2 : w1.cell? ⟨g, 2, none⟩ = some (.int .u64 (c : Int)) := by rw [hown.cellAt 2 (by simp)]; rfl
      have c3 : w1.cell? ⟨g, 3, none⟩ = some (.int .u64 (d : Int)) := by rw [hown.cellAt 3 (by simp)]; rfl
      have o0 := or8 0 a (by omega) (by omega) (by omega) (by omega)
      rw [show (0 : Int) * 256 = 0 from rfl, Int.zero_add] at o0
      have o1 := or8 a b (by omega) (by omega) (by omega) (by omega)
      obtain ⟨x, hx⟩ : ∃ x, a * 256 + b = x := ⟨_, rfl⟩
      rw [show (a : Int) * 256 + b = (x : Int) by omega] at o1
      have o2 := or8 x c (by omega) (by omega) (by omega) (by omega)
      obtain ⟨y, hy⟩ : ∃ y, x * 256 + c = y := ⟨_, rfl⟩
      rw [show (x : Int) * 256 + c = (y : Int) by omega] at o2
      have o3 := or8 y d (by omega) (by omega) (by omega) (by omega)
      obtain ⟨z, hz⟩ : ∃ z, y * 256 + d = z := ⟨_, rfl⟩
      rw [show (y : Int) * 256 + d = (z : Int) by omega] at o3
      have HF : Hid (fourOf (some ns) = some (false, 0, z)) := Lib.hid (by rw [hns, ← hz, ← hy, ← hx]; rfl)
      have lx : x ≤ 65535 := by omega
      have ly : y ≤ 16777215 := by omega
      have lz : z ≤ 4294967295 := by omega
      have hgn : g < w1.heap.size := hg2
      clear hle HLE hown hx hy hz hns hn
      go_wp2
      go_rounds 5
      try simp only [Exit.inBlock, Exit.then]
      have ⟨q0, q1, q2, _⟩ := (HA.out.store false 0 (z : Int)).1.alloc (.cells #[.bool false, .int .u64 0, .int .u64 (z : Int)] 24)
      refine bodyPost_ret (by simp only [results, Tryd.results20, go_sem]; simp [results, go_sem, q0, q1, q2]; try rfl) rfl ?_
      exact ⟨by rw [HF.out]; rfl, (((bb.setCell (by simp) _).setCell (by simp) _).setCell (by simp) _).alloc (by simp; omega) _⟩
    · have hf : fourOf (some ns) = none := by
        match ns, hn with
        | [], _ => rfl
        | [_], _ => rfl
        | [_, _], _ => rfl
        | [_, _, _], _ => rfl
        | [_, _, _, _], h => exact absurd rfl h
        | _ :: _ :: _ :: _ :: _ :: _, _ => rfl
      have HF := Lib.hid hf
      have hb4 : ((ns.length : Int) != 4) = true := by simp; omega
      rcases hown.2 with ⟨rfl, hz⟩ | ⟨g, cap, cur, rfl, _⟩
      · clear hown hf HLE hb4 hn
        go_wp2
        try simp only [Exit.inBlock, Exit.then]
        refine bodyPost_ret (by simp [results, Tryd.results20, go_sem, z0, z1, z2]; try rfl) rfl ?_
        exact ⟨by rw [HF.out]; rfl, ((bb.setCell (by simp) _).setCell (by simp) _).setCell (by simp) _⟩
      · clear hown hf HLE
        go_wp2
        try simp only [Exit.inBlock, Exit.then]
        refine bodyPost_ret (by simp [results, Tryd.results20, go_sem, z0, z1, z2]; try rfl) rfl ?_
        exact ⟨by rw [HF.out]; rfl, ((bb.setCell (by simp) _).setCell (by simp) _).setCell (by simp) _⟩
end Go.Proofs.YtojdlhiibffnfabDoor

/-
  addr.readGroups, addr.readSix.
-/
namespace Go.Proofs.YtojdlhiibffnfabDoor
open Go.RowKit Go.Sort
set_option linter.unusedVariables false
set_option linter.unusedSimpArgs false

def grpsOf (s : List UInt8) : Option (List Nat) := if s = [] then some [] else numsOf 16 65535 58 s
theorem grpsOf_lt {s : List UInt8} {ns : List Nat} (h : grpsOf s = some ns) : ∀ n ∈ ns, n < 65536 := by
  unfold grpsOf at h
  split at h
  · cases h; intro n hn; cases hn
  · intro n hn; have := numsOf_le h n hn; omega

theorem split_len (s : List UInt8) (c : UInt8) : (Lib.split s [c]).length ≤ s.length + 1 := by
  have h1 := congrArg List.length (Lib.splitB_data ⟨#[c]⟩ 0 (Lib.countB ⟨s.toArray⟩ ⟨#[c]⟩) ⟨s.toArray⟩)
  have h2 := Lib.splitB_length_le ⟨#[c]⟩ 0 (Lib.countB ⟨s.toArray⟩ ⟨#[c]⟩) ⟨s.toArray⟩
  have h3 := Lib.countB_le ⟨#[c]⟩ (one_sz c) (⟨s.toArray⟩ : ByteArray).size ⟨s.toArray⟩ (Nat.le_refl _)
  have h4 : (⟨s.toArray⟩ : ByteArray).size = s.length := by simp [ByteArray.size]
  rw [List.length_map] at h1
  have h5 : (Lib.split s [c]).length = (Lib.splitB ⟨#[c]⟩ 0 (Lib.countB ⟨s.toArray⟩ ⟨#[c]⟩) ⟨s.toArray⟩).length := h1.symm
  omega
theorem grps_len {s : List UInt8} {ns : List Nat} (h : grpsOf s = some ns) : ns.length ≤ s.length + 1 := by
  unfold grpsOf at h
  split at h
  · cases h; simp
  · rw [nums_length h]; exact split_len s 58

set_option maxHeartbeats 1000000 in
set_option maxRecDepth 100000 in
theorem readGroups_calls (t : ByteArray) (s : List UInt8) (hs : t.data.toList = s) (hl : s.length ≤ 600) (w : World) (hr : RTabs w) :
    Calls Tryd.prog 33 #[.string t] w fun e w' => NumsOut w.heap.size (grpsOf s) e w' ∧ Below w.heap.size w w' := by
  by_cases h0 : s = []
  · have ht : t = ⟨#[]⟩ := by
      apply ByteArray.ext
      have : t.data.toList = [] := by rw [hs, h0]
      simpa using this
    have hg : grpsOf s = some [] := by rw [grpsOf, if_pos h0]
    rw [hg]
    subst ht
    clear hs hl h0 hg
    go_enter Tryd.func33, Tryd.ntmps33
    go_wp2
    go_ret2
    exact ⟨⟨_, rfl, by simpa using World.ownsRow_nil _ _ _ _⟩, Below.refl _ _⟩
  · have hg : grpsOf s = numsOf 16 65535 58 s := by rw [grpsOf, if_neg h0]
    rw [hg]
    have hsz : t.size ≠ 0 := by rw [Lib.size_eq, hs]; exact fun h => h0 (List.eq_nil_of_length_eq_zero h)
    have hemp : t.toList.isEmpty = false := by
      rw [← decide_eq_emptyBytes]
      exact decide_eq_false (fun h => hsz (by rw [h]; rfl))
    have C := Lib.hid (readNumbers_calls 16 16 65535 (.inr ⟨rfl, rfl, rfl⟩) 58 t s hs hl w hr)
    obtain ⟨R, hR⟩ : ∃ R, numsOf 16 65535 58 s = R := ⟨_, rfl⟩
    rw [hR] at C ⊢
    clear hg hR hs hl h0 hsz hr
    go_enter Tryd.func33, Tryd.ntmps33
    go_wp2_with fail
    refine C.out.mono ?_
    rintro e w1 ⟨he, hb⟩
    clear C
    cases R with
    | none =>
      obtain rfl : e = _ := he
      go_wp2
      go_ret2
      exact ⟨rfl, hb⟩
    | some ns =>
      obtain ⟨v, rfl, hown⟩ := he
      have HO := Lib.hid hown
      clear hown
      go_wp2
      go_ret2
      exact ⟨⟨_, rfl, HO.out⟩, hb⟩

/-- What addr.readSix reads. -/
def sixFrom (sh : Bool) : Option (List Nat) → Option (List Nat) → Option (List Nat)
  | some l, some r => if 8 < l.length + r.length ∨ (sh = false ∧ l.length + r.length < 8) then none else some (l ++ List.replicate (8 - l.length - r.length) 0 ++ r)
  | _, _ => none
theorem sixFrom_bad {sh : Bool} {l r : List Nat} (h : 8 < l.length + r.length ∨ (sh = false ∧ l.length + r.length < 8)) : sixFrom sh (some l) (some r) = none := if_pos h
theorem sixFrom_ok {sh : Bool} {l r : List Nat} (h : ¬ (8 < l.length + r.length ∨ (sh = false ∧ l.length + r.length < 8))) : sixFrom sh (some l) (some r) = some (l ++ List.replicate (8 - l.length - r.length) 0 ++ r) := if_neg h
def sixOf (s : List UInt8) : Option (Bool × Nat × Nat) :=
  (sixFrom (Lib.cut s [58, 58]).2.2 (grpsOf (Lib.cut s [58, 58]).1) (grpsOf (Lib.cut s [58, 58]).2.1)).map fun gs => (true, hor (gs.take 4), hor (gs.drop 4))

theorem AddrW.keep {w w' : World} {b : Nat} {s : Bool} {h l : Int} (a : AddrW w b s h l) (hb : Below w.heap.size w w') : AddrW w' b s h l :=
  ⟨a.1.keep hb, fun o => (hb.frozen (p := ⟨b, o, none⟩) a.1.2.2.2).trans (a.2 o)⟩
theorem own_form {w : World} {base : Nat} {e : TypeId} {v : Value} {n : Nat} {xs : List Value} (h : w.ownsRow base e 1 v n xs) :
    ∃ (p : Option Addr) (cap : Nat), v = .slice p n cap ∧ n ≤ maxLen ∧ (0 < n → ∃ g, p = some ⟨g, 0, none⟩ ∧ base ≤ g ∧ g < w.heap.size ∧ ∀ j x, xs[j]? = some x → w.cell? ⟨g, j, none⟩ = some x) := by
  rcases h.2 with ⟨rfl, h0⟩ | ⟨g, cap, cur, rfl, hb, hc⟩
  · exact ⟨none, 0, by rw [h0], by rw [h0]; exact Nat.zero_le _, fun h => by omega⟩
  · refine ⟨some ⟨g, 0, none⟩, cap, rfl, Nat.le_trans hc.2.1 hc.2.2.1, fun hn => ⟨g, rfl, hb, ?_, ?_⟩⟩
    · exact (h.lt g rfl).2
    · intro j x hx
      have hj : j < n := by
        have := (List.getElem?_eq_some_iff.1 hx).1
        have h1 := h.1
        omega
      rw [h.cellAt j (by omega)]; exact hx
theorem list8 (l : List Nat) (h : l.length = 8) : ∃ g0 g1 g2 g3 g4 g5 g6 g7, l = [g0, g1, g2, g3, g4, g5, g6, g7] := by
  match l, h with
  | [g0, g1, g2, g3, g4, g5, g6, g7], _ => exact ⟨g0, g1, g2, g3, g4, g5, g6, g7, rfl⟩
theorem addr_add (g j : Nat) : (⟨g, 0, none⟩ : Addr).add j = ⟨g, j, none⟩ := by
  unfold Addr.add
  split <;> simp_all
theorem slice_tail (b t : Nat) (ht : t ≤ 8) (W : World) : (Instr.sliceAt 62 (.pointer (some ⟨b, 0, none⟩)) (some (.int .i64 (t : Int))) none none).run Tryd.prog W = .ok (.slice (some ⟨b, if t < 8 then t else 0, none⟩) (8 - t) (8 - t)) W := by
  have hal : Tryd.prog.arrayLen 62 = 8 := by kernel_rfl
  rw [run_sliceAt_array_l W 62 ⟨b, 0, none⟩ (by kernel_rfl) .i64 (t : Int) (by omega) (by rw [hal]; omega), hal]
  by_cases h8 : t < 8
  · rw [if_pos h8]
    have : ¬ 8 = t := by omega
    go_simp
  · obtain rfl : t = 8 := by omega
    go_simp
theorem cut_len (s sep : List UInt8) : (Lib.cut s sep).1.length ≤ s.length ∧ (Lib.cut s sep).2.1.length ≤ s.length := by
  unfold Lib.cut
  split
  · exact ⟨by simp [List.length_take]; omega, by simp [List.length_drop]⟩
  · exact ⟨by simp, by simp⟩
theorem two_splices (l r : List Value) (z : Value) (h : l.length + r.length ≤ 8) :
    splice (splice (List.replicate 8 z) 0 l) (8 - r.length) r = l ++ List.replicate (8 - l.length - r.length) z ++ r := by
  unfold splice
  have h1 : (List.replicate 8 z).take 0 ++ (l ++ (List.replicate 8 z).drop (0 + l.length)) = l ++ List.replicate (8 - l.length) z := by rw [Nat.zero_add, List.drop_replicate]; rfl
  rw [h1, List.take_append, List.drop_append, List.take_of_length_le (by omega : l.length ≤ 8 - r.length), List.drop_of_length_le (by omega : l.length ≤ 8 - r.length + r.length)]
  simp
  rw [show min (8 - r.length - l.length) (8 - l.length) = 8 - l.length - r.length by omega, show 8 - l.length - (8 - r.length + r.length - l.length) = 0 by omega]
  simp

set_option maxHeartbeats 4000000 in
set_option maxRecDepth 100000 in
theorem readSix_calls (t : ByteArray) (s : List UInt8) (hs : t.data.toList = s) (hl : s.length ≤ 600) (w : World) (hr : RTabs w) :
    Calls Tryd.prog 19 #[.string t] w fun e w' => ReadOut (sixOf s) e ∧ Below w.heap.size w w' := by
  obtain ⟨m, hm⟩ := (hr.alloc (.cells #[.bool false, .int .u64 0, .int .u64 0] 24)).2.1
  have C := Tryd.strings_Cut t ⟨#[58, 58]⟩ m (w.alloc (.cells #[.bool false, .int .u64 0, .int .u64 0] 24)) (by rw [Lib.size_eq, hs]; omega) hm
  rw [hs] at C
  have hcl := cut_len s [58, 58]
  have hS : sixOf s = (sixFrom (Lib.cut s [58, 58]).2.2 (grpsOf (Lib.cut s [58, 58]).1) (grpsOf (Lib.cut s [58, 58]).2.1)).map fun gs => (true, hor (gs.take 4), hor (gs.drop 4)) := rfl
  obtain ⟨S, hSS⟩ : ∃ S, sixOf s = S := ⟨_, rfl⟩
  rw [hSS] at hS ⊢
  have C' : Hid (Calls Tryd.prog 27 #[.string t, .string ⟨#[58, 58]⟩] (w.alloc (.cells #[.bool false, .int .u64 0, .int .u64 0] 24)) fun e w' => e = .returned (.tuple #[.string ⟨(Lib.cut s [58, 58]).1.toArray⟩, .string ⟨(Lib.cut s [58, 58]).2.1.toArray⟩, .bool (Lib.cut s [58, 58]).2.2]) ∧ ∃ n, w' = (w.alloc (.cells #[.bool false, .int .u64 0, .int .u64 0] 24)).drewN n) := C
  obtain ⟨hd, hhd⟩ : ∃ x, (Lib.cut s [58, 58]).1 = x := ⟨_, rfl⟩
  obtain ⟨tl, htl⟩ : ∃ x, (Lib.cut s [58, 58]).2.1 = x := ⟨_, rfl⟩
  obtain ⟨sh, hsh⟩ : ∃ x, (Lib.cut s [58, 58]).2.2 = x := ⟨_, rfl⟩
  rw [hhd, htl, hsh] at C' hS
  rw [hhd, htl] at hcl
  have HS := Lib.hid hS; have HR := Lib.hid hr; have HCL := Lib.hid hcl; have HL := Lib.hid hl
  clear C hm hhd htl hsh hSS hS hr hcl hs hl
  go_enter Tryd.func19, Tryd.ntmps19
  go_wp2_with fail
  refine C'.out.mono ?_
  rintro e w1 ⟨rfl, n, rfl⟩
  have b1 : Below w.heap.size w ((w.alloc (.cells #[.bool false, .int .u64 0, .int .u64 0] 24)).drewN n) := below_drewN ((Below.refl _ w).alloc (Nat.le_refl _) _) n
  have R1 : RTabs ((w.alloc (.cells #[.bool false, .int .u64 0, .int .u64 0] 24)).drewN n) := HR.out.keep b1
  have A1 : AddrW ((w.alloc (.cells #[.bool false, .int .u64 0, .int .u64 0] 24)).drewN n) w.heap.size false 0 0 := ⟨AddrAt.new w false 0 0 24, fun o => by
    show (w.alloc (.cells #[.bool false, .int .u64 0, .int .u64 0] 24)).frozen? _ = false
    simp [go_sem]⟩
  obtain ⟨W1, hW1⟩ : ∃ W1, (w.alloc (.cells #[.bool false, .int .u64 0, .int .u64 0] 24)).drewN n = W1 := ⟨_, rfl⟩
  rw [hW1] at b1 R1 A1 ⊢
  clear hW1 C' HR
  have C1 := Lib.hid (readGroups_calls ⟨hd.toArray⟩ hd (by simp) (by have := HCL.out; have := HL.out; omega) W1 R1)
  obtain ⟨gl, hgl⟩ : ∃ x, grpsOf hd = x := ⟨_, rfl⟩
  rw [hgl] at C1 HS
  go_wp2_with fail
  refine C1.out.mono ?_
  rintro e w2 ⟨he, hb2⟩
  have R2 := R1.keep hb2
  have A2 := A1.keep hb2
  have b2 := thenBelow b1 hb2
  clear C1 R1 A1
  cases gl with
  | none =>
    obtain rfl : e = _ := he
    have hS2 : S = none := by rw [HS.out]; rfl
    subst hS2
    have ⟨⟨z0, z1, z2, zs⟩, zf⟩ := A2
    have f0 := zf 0; have f1 := zf 1; have f2 := zf 2
    clear zf HS
    go_wp2
    try simp only [Exit.inBlock, Exit.then]
    refine bodyPost_ret (by simp [results, Tryd.results19, go_sem, z0, z1, z2]; try rfl) rfl ?_
    exact ⟨rfl, ((b2.setCell (by simp) _).setCell (by simp) _).setCell (by simp) _⟩
  | some l =>
    obtain ⟨v, rfl, hown⟩ := he
    obtain ⟨p, cap, rfl, _, hp⟩ := own_form hown
    have HP := Lib.hid hp
    have hl16 := Lib.hid (grpsOf_lt hgl)
    have hlm : l.length ≤ 601 := by have := grps_len hgl; have := HCL.out; have := HL.out; omega
    clear hown hp
    have C2 := Lib.hid (readGroups_calls ⟨tl.toArray⟩ tl (by simp) (by have := HCL.out; have := HL.out; omega) w2 R2)
    obtain ⟨gr, hgr⟩ : ∃ x, grpsOf tl = x := ⟨_, rfl⟩
    rw [hgr] at C2 HS
    go_wp2_with fail
    refine C2.out.mono ?_
    rintro e w3 ⟨he, hb3⟩
    have A3 := A2.keep hb3
    have b3 := thenBelow b2 hb3
    clear C2 R2 A2
    cases gr with
    | none =>
      obtain rfl : e = _ := he
      have hS2 : S = none := by rw [HS.out]; rfl
      subst hS2
      have ⟨⟨z0, z1, z2, zs⟩, zf⟩ := A3
      have f0 := zf 0; have f1 := zf 1; have f2 := zf 2
      clear zf HS
      go_wp2
      try simp only [Exit.inBlock, Exit.then]
      refine bodyPost_ret (by simp [results, Tryd.results19, go_sem, z0, z1, z2]; try rfl) rfl ?_
      exact ⟨rfl, ((b3.setCell (by simp) _).setCell (by simp) _).setCell (by simp) _⟩
    | some r =>
      obtain ⟨v, rfl, hown⟩ := he
      obtain ⟨q, cap2, rfl, _, hq⟩ := own_form hown
      have HQ := Lib.hid hq
      have hr16 := Lib.hid (grpsOf_lt hgr)
      have hrm : r.length ≤ 601 := by have := grps_len hgr; have := HCL.out; have := HL.out; omega
      clear hown hq
      have ⟨⟨z0, z1, z2, zs⟩, zf⟩ := A3
      have f0 := zf 0; have f1 := zf 1; have f2 := zf 2
      clear zf
      by_cases h8 : 8 < l.length + r.length
      · have hS2 : S = none := by rw [HS.out]; rw [sixFrom_bad (.inl h8)]; rfl
        subst hS2
        have h8i : 8 < (l.length : Int) + (r.length : Int) := by omega
        clear HS h8
        go_wp2
        try simp only [Exit.inBlock, Exit.then]
        refine bodyPost_ret (by simp [results, Tryd.results19, go_sem, z0, z1, z2]; try rfl) rfl ?_
        exact ⟨rfl, ((b3.setCell (by simp) _).setCell (by simp) _).setCell (by simp) _⟩
      by_cases hbad : sh = false ∧ l.length + r.length < 8
      · have hS2 : S = none := by rw [HS.out]; rw [sixFrom_bad (.inr hbad)]; rfl
        subst hS2
        obtain ⟨rfl, hlt⟩ := hbad
        have h8i : (l.length : Int) + (r.length : Int) < 8 := by omega
        clear HS
        go_wp2
        try simp only [Exit.inBlock, Exit.then]
        refine bodyPost_ret (by simp [results, Tryd.results19, go_sem, z0, z1, z2]; try rfl) rfl ?_
        exact ⟨rfl, ((b3.setCell (by simp) _).setCell (by simp) _).setCell (by simp) _⟩
      have hlen : (l ++ List.replicate (8 - l.length - r.length) 0 ++ r).length = 8 := by simp; omega
      obtain ⟨gs, hgs⟩ : ∃ gs, l ++ List.replicate (8 - l.length - r.length) 0 ++ r = gs := ⟨_, rfl⟩
      have hS2 : S = some (true, hor (gs.take 4), hor (gs.drop 4)) := by rw [HS.out]; rw [sixFrom_ok (fun h => h.elim h8 hbad), hgs]; rfl
      have h16 : ∀ x ∈ gs, x < 65536 := by
        rw [← hgs]
        intro x hx
        rcases List.mem_append.1 hx with hx | hx
        · rcases List.mem_append.1 hx with hx | hx
          · exact hl16.out x hx
          · rw [List.eq_of_mem_replicate hx]; omega
        · exact hr16.out x hx
      rw [hgs] at hlen
      obtain ⟨cl, hcl⟩ : ∃ c, (l.map fun n => Value.int .u64 ((n : Nat) : Int)) = c := ⟨_, rfl⟩
      obtain ⟨cr, hcr⟩ : ∃ c, (r.map fun n => Value.int .u64 ((n : Nat) : Int)) = c := ⟨_, rfl⟩
      obtain ⟨z8, hz8⟩ : ∃ c, List.replicate 8 (Value.int .u64 0) = c := ⟨_, rfl⟩
      have hmap : splice (splice z8 0 cl) (8 - r.length) cr = gs.map fun n => Value.int .u64 ((n : Nat) : Int) := by
        have := two_splices (l.map fun n => Value.int .u64 ((n : Nat) : Int)) (r.map fun n => Value.int .u64 ((n : Nat) : Int)) (.int .u64 0) (by simp; omega)
        rw [List.length_map, List.length_map] at this
        rw [← hcl, ← hcr, ← hz8, this, ← hgs]
        simp
      have hll : cl.length = l.length := by rw [← hcl, List.length_map]
      have hrl : cr.length = r.length := by rw [← hcr, List.length_map]
      have hzl : z8.length = 8 := by rw [← hz8]; rfl
      have ol : ∀ v ∈ cl, v.oneCell' = true := by
        rw [← hcl]; intro v hv; obtain ⟨x, _, rfl⟩ := List.mem_map.1 hv; rfl
      have or' : ∀ v ∈ cr, v.oneCell' = true := by
        rw [← hcr]; intro v hv; obtain ⟨x, _, rfl⟩ := List.mem_map.1 hv; rfl
      have hspl : (splice z8 0 cl).length = 8 := by simp [splice, hzl, hll]; omega
      rw [hcl] at HP
      rw [hcr] at HQ
      have HMAP := Lib.hid hmap; have H16 := Lib.hid h16; have HS2 := Lib.hid hS2; have HLEN := Lib.hid hlen; have HA3 := Lib.hid A3; have HB3 := Lib.hid b3
      have HLL := Lib.hid hll; have HRL := Lib.hid hrl; have HZL := Lib.hid hzl; have OL := Lib.hid ol; have OR := Lib.hid or'; have HSPL := Lib.hid hspl
      have hsum : (l.length : Int) + (r.length : Int) ≤ 8 := by omega
      have key : sh = true ∨ (sh = false ∧ l.length + r.length = 8) := by
        cases sh
        · exact .inr ⟨rfl, by have : ¬ (l.length + r.length < 8) := fun h => hbad ⟨rfl, h⟩; omega⟩
        · exact .inl rfl
      have hl8 : l.length ≤ 8 := by omega
      have hr8 : r.length ≤ 8 := by omega
      have hb3' := Lib.hid hb3
      have ba := Lib.hid ((Below.refl w3.heap.size w3).alloc (Nat.le_refl _) (.cells #[.int .u64 0, .int .u64 0, .int .u64 0, .int .u64 0, .int .u64 0, .int .u64 0, .int .u64 0, .int .u64 0] 62))
      have HZE : Hid ((w3.alloc (.cells #[.int .u64 0, .int .u64 0, .int .u64 0, .int .u64 0, .int .u64 0, .int .u64 0, .int .u64 0, .int .u64 0] 62)).heap[w3.heap.size]? = some (.cells z8.toArray 62 (0, 0))) := Lib.hid (by rw [← hz8]; show (w3.heap.push _)[w3.heap.size]? = _; rw [Array.getElem?_push_size]; rfl)
      have P1 : Hid (0 < cl.length → ∃ ad, p = some ad ∧ ∀ j v, cl[j]? = some v → (w3.alloc (.cells #[.int .u64 0, .int .u64 0, .int .u64 0, .int .u64 0, .int .u64 0, .int .u64 0, .int .u64 0, .int .u64 0] 62)).cell? (ad.add j) = some v) := Lib.hid (fun hn => by
        rw [HLL.out] at hn
        obtain ⟨g, e1, e2, e3, e4⟩ := HP.out hn
        refine ⟨_, e1, fun j x hx => ?_⟩
        have h1 := (hb3'.out.cell (p := ⟨g, j, none⟩) e3).trans (e4 j x hx)
        have h2 := ba.out.cell (p := ⟨g, j, none⟩) (Nat.lt_of_lt_of_le e3 hb3'.out.size)
        have h3 : (⟨g, 0, none⟩ : Addr).add j = ⟨g, j, none⟩ := addr_add g j
        rw [h3]
        exact h2.trans h1)
      have hal : Tryd.prog.arrayLen 62 = 8 := by kernel_rfl
      obtain ⟨o2, ho2⟩ : ∃ o, (if 8 - r.length < 8 then 8 - r.length else 0) = o := ⟨_, rfl⟩
      have HO2 : Hid (0 < cr.length → o2 = 8 - r.length) := Lib.hid (fun h => by rw [HRL.out] at h; rw [← ho2, if_pos (by omega)])
      have hsl : ∀ W, (Instr.sliceAt 62 (.pointer (some ⟨w3.heap.size, 0, none⟩)) (some (.int .i64 (8 - (r.length : Int)))) none none).run Tryd.prog W = .ok (.slice (some ⟨w3.heap.size, o2, none⟩) r.length r.length) W := fun W => by
        have := slice_tail w3.heap.size (8 - r.length) (by omega) W
        rw [show ((8 - r.length : Nat) : Int) = 8 - (r.length : Int) by omega, ho2, show 8 - (8 - r.length) = r.length by omega] at this
        exact this
      clear HS hmap h16 hS2 hlen hgs hbad h8 HCL HL A3 b1 b2 b3 hb2 hb3 hlm hrm hll hrl hzl ol or' hspl hz8 hcl hcr
      rcases key with rfl | ⟨rfl, hsh⟩
      · go_wp2_with (first
          | ((refine wpList_copy_splice rfl _ _ _ _ rfl 22 Tryd.underlying59 (by kernel_rfl) (some ⟨w3.heap.size, 0, none⟩) p 8 8 l.length cap rfl rfl w3.heap.size 0 z8 62 HZE.out cl ?g2 ?g3 ?g4 OL.out w3.heap.size w3 ba.out (Nat.le_refl _) ?_)))
        case g2 => rw [HLL.out]; exact (Nat.min_eq_left hl8).symm
        case g3 => first | exact P1.out | exact fun h => ⟨rfl, P1.out h⟩
        case g4 => rw [HLL.out, HZL.out]; omega
        intro w4 hh4 hb4
        have P2 : Hid (0 < cr.length → ∃ ad, q = some ad ∧ ∀ j v, cr[j]? = some v → w4.cell? (ad.add j) = some v) := Lib.hid (fun hn => by
          rw [HRL.out] at hn
          obtain ⟨g, e1, e2, e3, e4⟩ := HQ.out hn
          refine ⟨_, e1, fun j x hx => ?_⟩
          have h3 : (⟨g, 0, none⟩ : Addr).add j = ⟨g, j, none⟩ := addr_add g j
          rw [h3]
          exact (hb4.cell (p := ⟨g, j, none⟩) e3).trans (e4 j x hx))
        have hb4' := Lib.hid hb4
        clear hb4
        go_wp2_with (first
          | ((refine wpList_copy_splice rfl _ _ _ _ rfl 22 Tryd.underlying59 (by kernel_rfl) (some ⟨w3.heap.size, o2, none⟩) q r.length r.length r.length cap2 rfl rfl w3.heap.size (8 - r.length) (splice z8 0 cl) 62 hh4.out cr ?g2 ?g3 ?g4 OR.out w3.heap.size w3 hb4'.out (Nat.le_refl _) ?_)))
        case g2 => rw [HRL.out]; exact (Nat.min_self _).symm
        case g3 => first | exact fun h => ⟨by rw [HO2.out h], P2.out h⟩ | exact P2.out
        case g4 => rw [HRL.out, HSPL.out]; omega
        intro w5 hh5 hb5
        have hb5' := Lib.hid hb5
        obtain ⟨g0, g1, g2, g3, g4, g5, g6, g7, hg8⟩ : ∃ g0 g1 g2 g3 g4 g5 g6 g7, gs = [g0, g1, g2, g3, g4, g5, g6, g7] := list8 gs HLEN.out
        have hcells := hh5.out
        rw [HMAP.out, hg8] at hcells
        have c : ∀ i v, [Value.int .u64 (g0 : Int), .int .u64 (g1 : Int), .int .u64 (g2 : Int), .int .u64 (g3 : Int), .int .u64 (g4 : Int), .int .u64 (g5 : Int), .int .u64 (g6 : Int), .int .u64 (g7 : Int)][i]? = some v → w5.cell? ⟨w3.heap.size, i, none⟩ = some v := fun i v hv => by
          unfold World.cell?
          rw [hcells]
          simpa using hv
        have k0 := c 0 _ rfl; have k1 := c 1 _ rfl; have k2 := c 2 _ rfl; have k3 := c 3 _ rfl; have k4 := c 4 _ rfl; have k5 := c 5 _ rfl; have k6 := c 6 _ rfl; have k7 := c 7 _ rfl
        have CJ := Lib.hid (joined_calls g0 g1 g2 g3 g4 g5 g6 g7 gs hg8.symm H16.out w5)
        obtain ⟨hh, ehh⟩ : ∃ x, hor (gs.take 4) = x := ⟨_, rfl⟩
        obtain ⟨ll, ell⟩ : ∃ x, hor (gs.drop 4) = x := ⟨_, rfl⟩
        rw [ehh, ell] at CJ HS2
        have A5 := HA3.out.keep hb5
        have b5 := thenBelow HB3.out hb5
        clear c hcells hh5 hh4 hg8 ehh ell hb5 P1 P2 hsl HMAP
        go_wp2_with (go_at_call 34; refine CJ.out.mono ?_; rintro e w6 ⟨rfl, hb6⟩; have A6 := A5.keep hb6; have ⟨⟨y0, y1, y2, ys⟩, yf⟩ := A6; have u0 := yf 0; have u1 := yf 1; have u2 := yf 2)
        try simp only [Exit.inBlock, Exit.then]
        refine bodyPost_ret (by simp [results, Tryd.results19, go_sem, y0, y1, y2]; try rfl) rfl ?_
        exact ⟨by rw [HS2.out]; rfl, (((thenBelow b5 hb6).setCell (by simp) _).setCell (by simp) _).setCell (by simp) _⟩
      · have h8e : ¬ ((l.length : Int) + (r.length : Int) < 8) := by omega
        go_wp2_with (first
          | ((refine wpList_copy_splice rfl _ _ _ _ rfl 22 Tryd.underlying59 (by kernel_rfl) (some ⟨w3.heap.size, 0, none⟩) p 8 8 l.length cap rfl rfl w3.heap.size 0 z8 62 HZE.out cl ?g2 ?g3 ?g4 OL.out w3.heap.size w3 ba.out (Nat.le_refl _) ?_)))
        case g2 => rw [HLL.out]; exact (Nat.min_eq_left hl8).symm
        case g3 => first | exact P1.out | exact fun h => ⟨rfl, P1.out h⟩
        case g4 => rw [HLL.out, HZL.out]; omega
        intro w4 hh4 hb4
        have P2 : Hid (0 < cr.length → ∃ ad, q = some ad ∧ ∀ j v, cr[j]? = some v → w4.cell? (ad.add j) = some v) := Lib.hid (fun hn => by
          rw [HRL.out] at hn
          obtain ⟨g, e1, e2, e3, e4⟩ := HQ.out hn
          refine ⟨_, e1, fun j x hx => ?_⟩
          have h3 : (⟨g, 0, none⟩ : Addr).add j = ⟨g, j, none⟩ := addr_add g j
          rw [h3]
          exact (hb4.cell (p := ⟨g, j, none⟩) e3).trans (e4 j x hx))
        have hb4' := Lib.hid hb4
        clear hb4
        go_wp2_with (first
          | ((refine wpList_copy_splice rfl _ _ _ _ rfl 22 Tryd.underlying59 (by kernel_rfl) (some ⟨w3.heap.size, o2, none⟩) q r.length r.length r.length cap2 rfl rfl w3.heap.size (8 - r.length) (splice z8 0 cl) 62 hh4.out cr ?g2 ?g3 ?g4 OR.out w3.heap.size w3 hb4'.out (Nat.le_refl _) ?_)))
        case g2 => rw [HRL.out]; exact (Nat.min_self _).symm
        case g3 => first | exact fun h => ⟨by rw [HO2.out h], P2.out h⟩ | exact P2.out
        case g4 => rw [HRL.out, HSPL.out]; omega
        intro w5 hh5 hb5
        have hb5' := Lib.hid hb5
        obtain ⟨g0, g1, g2, g3, g4, g5, g6, g7, hg8⟩ : ∃ g0 g1 g2 g3 g4 g5 g6 g7, gs = [g0, g1, g2, g3, g4, g5, g6, g7] := list8 gs HLEN.out
        have hcells := hh5.out
        rw [HMAP.out, hg8] at hcells
        have c : ∀ i v, [Value.int .u64 (g0 : Int), .int .u64 (g1 : Int), .int .u64 (g2 : Int), .int .u64 (g3 : Int), .int .u64 (g4 : Int), .int .u64 (g5 : Int), .int .u64 (g6 : Int), .int .u64 (g7 : Int)][i]? = some v → w5.cell? ⟨w3.heap.size, i, none⟩ = some v := fun i v hv => by
          unfold World.cell?
          rw [hcells]
          simpa using hv
        have k0 := c 0 _ rfl; have k1 := c 1 _ rfl; have k2 := c 2 _ rfl; have k3 := c 3 _ rfl; have k4 := c 4 _ rfl; have k5 := c 5 _ rfl; have k6 := c 6 _ rfl; have k7 := c 7 _ rfl
        have CJ := Lib.hid (joined_calls g0 g1 g2 g3 g4 g5 g6 g7 gs hg8.symm H16.out w5)
        obtain ⟨hh, ehh⟩ : ∃ x, hor (gs.take 4) = x := ⟨_, rfl⟩
        obtain ⟨ll, ell⟩ : ∃ x, hor (gs.drop 4) = x := ⟨_, rfl⟩
        rw [ehh, ell] at CJ HS2
        have A5 := HA3.out.keep hb5
        have b5 := thenBelow HB3.out hb5
        clear c hcells hh5 hh4 hg8 ehh ell hb5 P1 P2 hsl HMAP
        go_wp2_with (go_at_call 34; refine CJ.out.mono ?_; rintro e w6 ⟨rfl, hb6⟩; have A6 := A5.keep hb6; have ⟨⟨y0, y1, y2, ys⟩, yf⟩ := A6; have u0 := yf 0; have u1 := yf 1; have u2 := yf 2)
        try simp only [Exit.inBlock, Exit.then]
        refine bodyPost_ret (by simp [results, Tryd.results19, go_sem, y0, y1, y2]; try rfl) rfl ?_
        exact ⟨by rw [HS2.out]; rfl, (((thenBelow b5 hb6).setCell (by simp) _).setCell (by simp) _).setCell (by simp) _⟩
end Go.Proofs.YtojdlhiibffnfabDoor

/-
  addr.read, addr.Parse.
-/
namespace Go.Proofs.YtojdlhiibffnfabDoor
open Go.RowKit Go.Sort
set_option linter.unusedVariables false
set_option linter.unusedSimpArgs false

/-- What addr.read reads. -/
def readOf (s : List UInt8) : Option (Bool × Nat × Nat) := if 0 ≤ Lib.indexByte s 58 then sixOf s else fourOf (numsOf 10 255 46 s)

theorem sixOf_lt {s : List UInt8} {six : Bool} {H L : Nat} (h : sixOf s = some (six, H, L)) : H < 18446744073709551616 ∧ L < 18446744073709551616 := by
  obtain ⟨gs, hg, e⟩ := Option.map_eq_some_iff.1 h
  simp only [Prod.mk.injEq] at e
  obtain ⟨rfl, rfl, rfl⟩ := e
  have key : gs.length = 8 ∧ ∀ x ∈ gs, x < 65536 := by
    unfold sixFrom at hg
    split at hg
    · rename_i l r hl hr
      split at hg
      · cases hg
      · rename_i hb
        cases hg
        have h1 := grpsOf_lt hl
        have h2 := grpsOf_lt hr
        refine ⟨by simp; omega, fun x hx => ?_⟩
        rcases List.mem_append.1 hx with hx | hx
        · rcases List.mem_append.1 hx with hx | hx
          · exact h1 x hx
          · rw [List.eq_of_mem_replicate hx]; omega
        · exact h2 x hx
    · cases hg
  have a := hor_lt (gs.take 4) (fun x hx => key.2 x (List.mem_of_mem_take hx))
  have b := hor_lt (gs.drop 4) (fun x hx => key.2 x (List.mem_of_mem_drop hx))
  rw [List.length_take, key.1] at a
  rw [List.length_drop, key.1] at b
  exact ⟨by simpa using a, by simpa using b⟩
theorem fourOf_lt {s : List UInt8} {six : Bool} {H L : Nat} (h : fourOf (numsOf 10 255 46 s) = some (six, H, L)) : H < 18446744073709551616 ∧ L < 18446744073709551616 := by
  unfold fourOf at h
  split at h
  · rename_i a b c d hn
    have := numsOf_le hn
    have ha := this a (by simp)
    have hb := this b (by simp)
    have hc := this c (by simp)
    have hd := this d (by simp)
    simp only [Option.some.injEq, Prod.mk.injEq] at h
    obtain ⟨rfl, rfl, rfl⟩ := h
    omega
  · cases h
theorem readOf_lt {s : List UInt8} {six : Bool} {H L : Nat} (h : readOf s = some (six, H, L)) : H < 18446744073709551616 ∧ L < 18446744073709551616 := by
  unfold readOf at h
  split at h
  · exact sixOf_lt h
  · exact fourOf_lt h

set_option maxHeartbeats 1000000 in
set_option maxRecDepth 100000 in
theorem read_calls (s : List UInt8) (hl : s.length ≤ 600) (w : World) (hr : RTabs w) :
    Calls Tryd.prog 9 #[.string ⟨s.toArray⟩] w fun e w' => ReadOut (readOf s) e ∧ Below w.heap.size w w' := by
  have CC := Lib.hid (Tryd.strings_Contains_one ⟨s.toArray⟩ 58 (w.alloc (.cells #[.bool false, .int .u64 0, .int .u64 0] 24)))
  have RA := hr.alloc (.cells #[.bool false, .int .u64 0, .int .u64 0] 24)
  have C6 := Lib.hid (readSix_calls ⟨s.toArray⟩ s rfl hl _ RA)
  have C4 := Lib.hid (readFour_calls ⟨s.toArray⟩ s rfl hl _ RA)
  have A1 : AddrW (w.alloc (.cells #[.bool false, .int .u64 0, .int .u64 0] 24)) w.heap.size false 0 0 := ⟨AddrAt.new w false 0 0 24, fun o => by simp [go_sem]⟩
  have b1 : Below w.heap.size w (w.alloc (.cells #[.bool false, .int .u64 0, .int .u64 0] 24)) := (Below.refl _ w).alloc (Nat.le_refl _) _
  have HA := Lib.hid A1; have HB := Lib.hid b1
  clear RA hr A1 b1 hl
  by_cases h0 : 0 ≤ Lib.indexByte s 58
  · have hd : decide (0 ≤ Lib.indexByte (⟨s.toArray⟩ : ByteArray).data.toList 58) = true := decide_eq_true h0
    have e1 : readOf s = sixOf s := if_pos h0
    rw [e1]
    rw [hd] at CC
    obtain ⟨R, hR⟩ : ∃ R, sixOf s = R := ⟨_, rfl⟩
    rw [hR] at C6 ⊢
    clear C4 h0 hd e1 hR
    go_enter Tryd.func9, Tryd.ntmps9
    go_wp2_with (go_at_call 18; refine CC.out.mono ?_; rintro e w1 ⟨rfl, rfl⟩)
    refine C6.out.mono ?_
    rintro e w2 ⟨he, hb2⟩
    have A2 := HA.out.keep hb2
    have b2 := thenBelow HB.out hb2
    have ⟨⟨z0, z1, z2, zs⟩, zf⟩ := A2
    have f0 := zf 0; have f1 := zf 1; have f2 := zf 2
    clear C6 CC HA HB zf
    cases R with
    | none =>
      obtain rfl : e = _ := he
      go_wp2
      try simp only [Exit.inBlock, Exit.then]
      refine bodyPost_ret (by simp [results, Tryd.results9, go_sem, z0, z1, z2]; try rfl) rfl ?_
      exact ⟨rfl, ((b2.setCell (by simp) _).setCell (by simp) _).setCell (by simp) _⟩
    | some x =>
      obtain ⟨six, H, L⟩ := x
      obtain rfl : e = _ := he
      go_wp2
      try simp only [Exit.inBlock, Exit.then]
      refine bodyPost_ret (by simp [results, Tryd.results9, go_sem, z0, z1, z2]; try rfl) rfl ?_
      exact ⟨rfl, ((b2.setCell (by simp) _).setCell (by simp) _).setCell (by simp) _⟩
  · have hd : decide (0 ≤ Lib.indexByte (⟨s.toArray⟩ : ByteArray).data.toList 58) = false := decide_eq_false h0
    have e1 : readOf s = fourOf (numsOf 10 255 46 s) := if_neg h0
    rw [e1]
    rw [hd] at CC
    obtain ⟨R, hR⟩ : ∃ R, fourOf (numsOf 10 255 46 s) = R := ⟨_, rfl⟩
    rw [hR] at C4 ⊢
    clear C6 h0 hd e1 hR
    go_enter Tryd.func9, Tryd.ntmps9
    go_wp2_with (go_at_call 18; refine CC.out.mono ?_; rintro e w1 ⟨rfl, rfl⟩)
    refine C4.out.mono ?_
    rintro e w2 ⟨he, hb2⟩
    have A2 := HA.out.keep hb2
    have b2 := thenBelow HB.out hb2
    have ⟨⟨z0, z1, z2, zs⟩, zf⟩ := A2
    have f0 := zf 0; have f1 := zf 1; have f2 := zf 2
    clear C4 CC HA HB zf
    cases R with
    | none =>
      obtain rfl : e = _ := he
      go_wp2
      try simp only [Exit.inBlock, Exit.then]
      refine bodyPost_ret (by simp [results, Tryd.results9, go_sem, z0, z1, z2]; try rfl) rfl ?_
      exact ⟨rfl, ((b2.setCell (by simp) _).setCell (by simp) _).setCell (by simp) _⟩
    | some x =>
      obtain ⟨six, H, L⟩ := x
      obtain rfl : e = _ := he
      go_wp2
      try simp only [Exit.inBlock, Exit.then]
      refine bodyPost_ret (by simp [results, Tryd.results9, go_sem, z0, z1, z2]; try rfl) rfl ?_
      exact ⟨rfl, ((b2.setCell (by simp) _).setCell (by simp) _).setCell (by simp) _⟩

/-- What addr.Parse reads. -/
def parseOf (s : List UInt8) : Option (Bool × Nat × Nat) := match readOf s with
  | some (six, H, L) => if textE six H L = 0 ∧ textL six H L = s then some (six, H, L) else none
  | none => none
def ParseOut (r : Option (Bool × Nat × Nat)) (e : Ending) : Prop := match r with
  | some (six, H, L) => e = .returned (.tuple #[.agg #[.bool six, .int .u64 (H : Int), .int .u64 (L : Int)], .int .i64 0])
  | none => e = .returned (.tuple #[.agg #[.bool false, .int .u64 0, .int .u64 0], .int .i64 4])

set_option maxHeartbeats 1000000 in
set_option maxRecDepth 100000 in
/-- Too long. -/
theorem parse_long (s : List UInt8) (hl : 600 < s.length) (hm : s.length ≤ 9223372036854775807) (w : World) :
    Calls Tryd.prog 5 #[.string ⟨s.toArray⟩] w fun e w' => e = .returned (.tuple #[.agg #[.bool false, .int .u64 0, .int .u64 0], .int .i64 1]) ∧ Below w.heap.size w w' := by
  have hsz : (⟨s.toArray⟩ : ByteArray).size = s.length := by simp [ByteArray.size]
  have hli : 600 < (s.length : Int) := by omega
  go_enter Tryd.func5, Tryd.ntmps5
  go_wp2
  go_returns
  exact ⟨rfl, by go_grown⟩

set_option maxHeartbeats 1000000 in
set_option maxRecDepth 100000 in
theorem parse_calls (s : List UInt8) (hl : s.length ≤ 600) (w : World) (hr : RTabs w) :
    Calls Tryd.prog 5 #[.string ⟨s.toArray⟩] w fun e w' => ParseOut (parseOf s) e ∧ Below w.heap.size w w' := by
  have RA := hr.alloc (.cells #[.bool false, .int .u64 0, .int .u64 0] 24)
  have C := Lib.hid (read_calls s hl _ RA)
  have A1 : AddrW (w.alloc (.cells #[.bool false, .int .u64 0, .int .u64 0] 24)) w.heap.size false 0 0 := ⟨AddrAt.new w false 0 0 24, fun o => by simp [go_sem]⟩
  have b1 : Below w.heap.size w (w.alloc (.cells #[.bool false, .int .u64 0, .int .u64 0] 24)) := (Below.refl _ w).alloc (Nat.le_refl _) _
  have HA := Lib.hid A1; have HB := Lib.hid b1; have HRA := Lib.hid RA
  have hsz : (⟨s.toArray⟩ : ByteArray).size = s.length := by simp [ByteArray.size]
  have hli : (s.length : Int) ≤ 600 := by omega
  obtain ⟨P, hP⟩ : ∃ P, parseOf s = P := ⟨_, rfl⟩
  have hPd : parseOf s = match readOf s with
    | some (six, H, L) => if textE six H L = 0 ∧ textL six H L = s then some (six, H, L) else none
    | none => none := rfl
  have hlt : ∀ six H L, readOf s = some (six, H, L) → H < 18446744073709551616 ∧ L < 18446744073709551616 := fun _ _ _ => readOf_lt
  rw [hP] at hPd ⊢
  obtain ⟨R, hR⟩ : ∃ R, readOf s = R := ⟨_, rfl⟩
  rw [hR] at C hPd hlt
  have HPD := Lib.hid hPd; have HLT := Lib.hid hlt
  clear RA hr A1 b1 hP hR hPd hlt
  go_enter Tryd.func5, Tryd.ntmps5
  go_wp2_with fail
  refine C.out.mono ?_
  rintro e w2 ⟨he, hb2⟩
  have A2 := HA.out.keep hb2
  have b2 := thenBelow HB.out hb2
  have R2 := HRA.out.keep hb2
  clear C HA HB HRA
  cases R with
  | none =>
    obtain rfl : e = _ := he
    have hP2 : P = none := HPD.out
    subst hP2
    have ⟨⟨z0, z1, z2, zs⟩, zf⟩ := A2
    have f0 := zf 0; have f1 := zf 1; have f2 := zf 2
    clear zf HPD HLT R2
    go_wp2
    try simp only [Exit.inBlock, Exit.then]
    refine bodyPost_ret (by simp [results, Tryd.results5, go_sem, z0, z1, z2, zs]; try rfl) rfl ?_
    exact ⟨rfl, (((b2.setCell (by simp) _).setCell (by simp) _).setCell (by simp) _).alloc (by simp; have := b2.size; omega) _⟩
  | some x =>
    obtain ⟨six, H, L⟩ := x
    obtain rfl : e = _ := he
    obtain ⟨hH, hL⟩ := HLT.out six H L rfl
    have hP0 : P = if textE six H L = 0 ∧ textL six H L = s then some (six, H, L) else none := HPD.out
    have CT := Lib.hid (text_calls six H L hH hL (w2.alloc (.cells #[.bool six, .int .u64 (H : Int), .int .u64 (L : Int)] 24)) (R2.1.alloc _))
    obtain ⟨T, hT⟩ : ∃ T, textL six H L = T := ⟨_, rfl⟩
    obtain ⟨E, hE⟩ : ∃ E, textE six H L = E := ⟨_, rfl⟩
    rw [hT, hE] at CT hP0
    have A3 := A2.keep ((Below.refl _ w2).alloc (Nat.le_refl _) (.cells #[.bool six, .int .u64 (H : Int), .int .u64 (L : Int)] 24))
    have b3 := b2.alloc b2.size (.cells #[.bool six, .int .u64 (H : Int), .int .u64 (L : Int)] 24)
    have N3 := AddrAt.new w2 six H L 24
    have HP0 := Lib.hid hP0; have HA3 := Lib.hid A3; have HB3 := Lib.hid b3; have HN3 := Lib.hid N3
    clear hP0 HPD HLT R2 A2 b2 A3 b3 N3 hT hE hb2
    by_cases hgood : E = 0 ∧ T = s
    · obtain ⟨rfl, rfl⟩ := hgood
      have hP2 : P = some (six, H, L) := by rw [HP0.out, if_pos ⟨rfl, rfl⟩]
      subst hP2
      clear HP0
      go_wp2_with (go_at_call 10; refine CT.out.mono ?_; rintro e w3 ⟨rfl, hb3⟩; have A4 := HA3.out.keep hb3; have ⟨⟨z0, z1, z2, zs⟩, zf⟩ := A4; have f0 := zf 0; have f1 := zf 1; have f2 := zf 2; have N4 := HN3.out.keep hb3; have ⟨n0, n1, n2, ns⟩ := N4; have b4 := thenBelow HB3.out hb3; clear zf)
      try simp only [Exit.inBlock, Exit.then]
      refine bodyPost_ret (by simp [results, Tryd.results5, go_sem, z0, z1, z2]; try rfl) rfl ?_
      exact ⟨rfl, ((b4.setCell (by simp) _).setCell (by simp) _).setCell (by simp) _⟩
    · have hP2 : P = none := by rw [HP0.out, if_neg hgood]
      subst hP2
      clear HP0
      by_cases hE0 : E = 0
      · subst hE0
        have hne : ¬ T = s := fun h => hgood ⟨rfl, h⟩
        have hneb : (T == s) = false := by simpa using hne
        clear hgood
        go_wp2_with (go_at_call 10; refine CT.out.mono ?_; rintro e w3 ⟨rfl, hb3⟩; have A4 := HA3.out.keep hb3; have ⟨⟨z0, z1, z2, zs⟩, zf⟩ := A4; have f0 := zf 0; have f1 := zf 1; have f2 := zf 2; have N4 := HN3.out.keep hb3; have ⟨n0, n1, n2, ns⟩ := N4; have b4 := thenBelow HB3.out hb3; clear zf)
        try simp only [Exit.inBlock, Exit.then]
        refine bodyPost_ret (by simp [results, Tryd.results5, go_sem, z0, z1, z2]; try rfl) rfl ?_
        exact ⟨rfl, ((b4.setCell (by simp) _).setCell (by simp) _).setCell (by simp) _⟩
      · have hbe : (E != 0) = true := by simpa using hE0
        clear hgood
        go_wp2_with (go_at_call 10; refine CT.out.mono ?_; rintro e w3 ⟨rfl, hb3⟩; have A4 := HA3.out.keep hb3; have ⟨⟨z0, z1, z2, zs⟩, zf⟩ := A4; have f0 := zf 0; have f1 := zf 1; have f2 := zf 2; have N4 := HN3.out.keep hb3; have ⟨n0, n1, n2, ns⟩ := N4; have b4 := thenBelow HB3.out hb3; clear zf)
        try simp only [Exit.inBlock, Exit.then]
        refine bodyPost_ret (by simp [results, Tryd.results5, go_sem, z0, z1, z2]; try rfl) rfl ?_
        exact ⟨rfl, ((b4.setCell (by simp) _).setCell (by simp) _).setCell (by simp) _⟩
end Go.Proofs.YtojdlhiibffnfabDoor

/-
  Reading undoes writing: numbers, pieces, two colons. Plain facts.
-/
namespace Go.Proofs.YtojdlhiibffnfabDoor
open Go.RowKit
set_option linter.unusedVariables false
set_option linter.unusedSimpArgs false

theorem dv_dig (B d : Nat) (hB : B ≤ 16) (hd : d < B) : dv B (dig d) = some d := by
  have h : ∀ k : Fin 16, (if 48 ≤ (dig k.1).toNat ∧ (dig k.1).toNat ≤ 57 then (dig k.1).toNat - 48 = k.1 else (97 ≤ low (dig k.1) ∧ low (dig k.1) ≤ 122 ∧ low (dig k.1) - 87 = k.1)) := by decide +kernel
  have := h ⟨d, by omega⟩
  unfold dv
  simp only at this
  split at this
  · rename_i h1
    rw [if_pos h1, this, if_pos hd]
  · rename_i h1
    rw [if_neg h1, if_pos ⟨this.1, this.2.1⟩, this.2.2, if_pos hd]
theorem pu_app (B M : Nat) : ∀ (l r : List UInt8) (acc : Nat), pu B M acc (l ++ r) = (pu B M acc l).bind fun a => pu B M a r
  | [], r, acc => rfl
  | c :: l, r, acc => by
    rw [List.cons_append]
    cases hd : dv B c with
    | none => rw [pu_none hd, pu_none hd]; rfl
    | some d =>
      by_cases hm : acc * B + d ≤ M
      · rw [pu_step hd hm, pu_step hd hm]; exact pu_app B M l r _
      · rw [pu_over hd hm, pu_over hd hm]; rfl
theorem pu_num (B M : Nat) (hB : B ≤ 16) (hB2 : 2 ≤ B) : ∀ (f n : Nat), n < B ^ (f + 1) → n ≤ M → pu B M 0 (numText B (f + 1) n) = some n
  | f, n, h, hm => by
    unfold numText
    split
    · rename_i hlt
      rw [pu_step (dv_dig B n hB hlt) (by omega)]
      simp [pu]
    · rename_i hge
      have hpos : 0 < B := by omega
      cases f with
      | zero => simp at h; omega
      | succ f =>
        have h1 : n / B < B ^ (f + 1) := by
          rw [Nat.div_lt_iff_lt_mul hpos]
          rw [Nat.pow_succ] at h; exact h
        have h2 : n / B ≤ M := Nat.le_trans (Nat.div_le_self _ _) hm
        have h3 : n % B < B := Nat.mod_lt _ hpos
        have h4 : n / B * B + n % B = n := by rw [Nat.mul_comm]; exact Nat.div_add_mod n B
        rw [pu_app, pu_num B M hB hB2 f (n / B) h1 h2]
        show pu B M (n / B) [dig (n % B)] = some n
        rw [pu_step (dv_dig B _ hB h3) (by omega), h4]
        rfl
theorem puE_num (B M f n : Nat) (hB : B ≤ 16) (hB2 : 2 ≤ B) (h : n < B ^ (f + 1)) (hm : n ≤ M) : puE B M (numText B (f + 1) n) = some n := by
  unfold puE
  rw [if_neg (fun e => by have := numText_pos B f n; rw [e] at this; simp at this)]
  exact pu_num B M hB hB2 f n h hm
theorem nums_map (B M f : Nat) (hB : B ≤ 16) (hB2 : 2 ≤ B) : ∀ (ns : List Nat), (∀ n ∈ ns, n < B ^ (f + 1) ∧ n ≤ M) → nums (puE B M) (ns.map (numText B (f + 1))) = some ns
  | [], _ => rfl
  | n :: ns, h => by
    have h1 := h n (.head _)
    have h2 := nums_map B M f hB hB2 ns (fun x hx => h x (.tail _ hx))
    rw [List.map_cons]
    unfold nums
    rw [puE_num B M f n hB hB2 h1.1 h1.2, h2]
    rfl

theorem indexByte_in (c : UInt8) (rest : List UInt8) : ∀ (t : List UInt8), t.count c = 0 → Lib.indexByte (t ++ c :: rest) c = t.length
  | [], _ => by simp [Lib.indexByte]
  | x :: t, h => by
    have hx : ¬ x = c := fun e => by rw [e, List.count_cons_self] at h; omega
    have ht : t.count c = 0 := by rw [List.count_cons] at h; omega
    have ih := indexByte_in c rest t ht
    rw [List.cons_append]
    unfold Lib.indexByte
    rw [if_neg (by simpa using hx), ih, if_neg (by simp)]
    simp
theorem indexByte_out (c : UInt8) : ∀ (t : List UInt8), t.count c = 0 → Lib.indexByte t c = -1
  | [], _ => rfl
  | x :: t, h => by
    have hx : ¬ x = c := fun e => by rw [e, List.count_cons_self] at h; omega
    have ht : t.count c = 0 := by rw [List.count_cons] at h; omega
    unfold Lib.indexByte
    rw [if_neg (by simpa using hx), indexByte_out c t ht]
    rfl
theorem indexByte_pos (c : UInt8) : ∀ (t : List UInt8), 0 < t.count c → 0 ≤ Lib.indexByte t c
  | [], h => by simp at h
  | x :: t, h => by
    unfold Lib.indexByte
    by_cases hx : x = c
    · rw [if_pos (by simpa using hx)]; omega
    · rw [if_neg (by simpa using hx)]
      have := indexByte_pos c t (by rw [List.count_cons, if_neg (by simpa using hx)] at h; exact h)
      rw [if_neg (by simp; omega)]
      omega

theorem split_join (c : UInt8) : ∀ (ts : List (List UInt8)), ts ≠ [] → (∀ t ∈ ts, t.count c = 0) → Lib.split (Lib.join ts [c]) [c] = ts
  | [], h, _ => absurd rfl h
  | [t], _, h => by
    have h1 := h t (.head _)
    rw [Lib.join_one]
    unfold Lib.split
    rw [Lib.count_miss (by rw [Lib.index_one]; exact indexByte_out c t h1)]
    rfl
  | t :: u :: r, _, h => by
    have h1 := h t (.head _)
    have ih := split_join c (u :: r) (by simp) (fun x hx => h x (.tail _ hx))
    have e : Lib.join (t :: u :: r) [c] = t ++ c :: Lib.join (u :: r) [c] := by
      simp [Lib.join_cons, Lib.joinTail]
    have hi : Lib.index (t ++ c :: Lib.join (u :: r) [c]) [c] = t.length := by rw [Lib.index_one]; exact indexByte_in c _ t h1
    have hd : (t ++ c :: Lib.join (u :: r) [c]).drop (t.length + [c].length) = Lib.join (u :: r) [c] := by
      rw [List.drop_append]; simp
    rw [e]
    unfold Lib.split
    rw [Lib.count_hit (by simp) hi, hd, Nat.add_comm 1]
    unfold Lib.splitK
    rw [if_neg (by rw [hi]; simp), hi, Int.toNat_natCast, hd]
    unfold Lib.split at ih
    rw [ih]
    simp

/-- No two colons side by side, and none at the end. -/
def okc : List UInt8 → Prop
  | [] => True
  | [x] => x ≠ 58
  | x :: y :: l => (x = 58 → y ≠ 58) ∧ okc (y :: l)
theorem index_on {x : UInt8} {l : List UInt8} {n : Nat} (hp : ([58, 58] : List UInt8).isPrefixOf (x :: l) = false) (h : Lib.index l [58, 58] = n) : Lib.index (x :: l) [58, 58] = (n + 1 : Nat) := by
  unfold Lib.index
  rw [hp, h, if_neg (by simp), if_neg (by simp)]
  simp
theorem index_off {x : UInt8} {l : List UInt8} (hp : ([58, 58] : List UInt8).isPrefixOf (x :: l) = false) (h : Lib.index l [58, 58] = -1) : Lib.index (x :: l) [58, 58] = -1 := by
  unfold Lib.index
  rw [hp, h]
  rfl
theorem pre2 {x y : UInt8} {l : List UInt8} (h : x = 58 → y ≠ 58) : ([58, 58] : List UInt8).isPrefixOf (x :: y :: l) = false := by
  by_cases hx : x = 58
  · have hy := h hx
    have : ((58 : UInt8) == y) = false := by simpa using fun e => hy e.symm
    simp [List.isPrefixOf, this]
  · have : ((58 : UInt8) == x) = false := by simpa using fun e => hx e.symm
    simp [List.isPrefixOf, this]
theorem cc_in (rest : List UInt8) : ∀ (p : List UInt8), okc p → Lib.index (p ++ 58 :: 58 :: rest) [58, 58] = p.length
  | [], _ => by simp [Lib.index]
  | [x], h => index_on (n := 0) (pre2 (fun e => absurd e h)) (cc_in rest [] trivial)
  | x :: y :: l, h => index_on (n := (y :: l).length) (pre2 h.1) (cc_in rest (y :: l) h.2)
theorem cc_out : ∀ (p : List UInt8), okc p → Lib.index p [58, 58] = -1
  | [], _ => rfl
  | [x], h => by
    have : ((58 : UInt8) == x) = false := by simpa using fun e => h e.symm
    exact index_off (by simp [List.isPrefixOf, this]) rfl
  | x :: y :: l, h => index_off (pre2 h.1) (cc_out (y :: l) h.2)

theorem okc_no : ∀ (t : List UInt8), t.count 58 = 0 → okc t
  | [], _ => trivial
  | [x], h => fun e => by rw [e] at h; simp at h
  | x :: y :: l, h => by
    have hx : ¬ x = 58 := fun e => by rw [e, List.count_cons_self] at h; omega
    exact ⟨fun e => absurd e hx, okc_no (y :: l) (by rw [List.count_cons] at h; omega)⟩
theorem okc_mid (y : UInt8) (q : List UInt8) (hy : y ≠ 58) (hq : okc (y :: q)) : ∀ (t : List UInt8), t ≠ [] → t.count 58 = 0 → okc (t ++ 58 :: y :: q)
  | [], h, _ => absurd rfl h
  | [x], _, h => by
    have hx : ¬ x = 58 := fun e => by rw [e] at h; simp at h
    exact ⟨fun e => absurd e hx, fun _ => hy, hq⟩
  | x :: z :: l, _, h => by
    have hx : ¬ x = 58 := fun e => by rw [e, List.count_cons_self] at h; omega
    exact ⟨fun e => absurd e hx, okc_mid y q hy hq (z :: l) (by simp) (by rw [List.count_cons] at h; omega)⟩
theorem okc_join : ∀ (ts : List (List UInt8)), (∀ t ∈ ts, t ≠ [] ∧ t.count 58 = 0) → okc (Lib.join ts [58])
  | [], _ => trivial
  | [t], h => by rw [Lib.join_one]; exact okc_no t (h t (.head _)).2
  | t :: u :: r, h => by
    have ih := okc_join (u :: r) (fun x hx => h x (.tail _ hx))
    have e : Lib.join (t :: u :: r) [58] = t ++ 58 :: Lib.join (u :: r) [58] := by simp [Lib.join_cons, Lib.joinTail]
    have hu := h u (.tail _ (.head _))
    have e2 : ∃ y q, Lib.join (u :: r) [58] = y :: q ∧ y ≠ 58 := by
      match u, hu with
      | [], hu => exact absurd rfl hu.1
      | y :: u, hu =>
        refine ⟨y, u ++ Lib.joinTail [58] r, by rw [Lib.join_cons]; rfl, fun e => ?_⟩
        have := hu.2
        rw [e, List.count_cons_self] at this
        omega
    obtain ⟨y, q, e3, hy⟩ := e2
    rw [e3] at ih
    rw [e, e3]
    exact okc_mid y q hy ih t (h t (.head _)).1 (h t (.head _)).2
end Go.Proofs.YtojdlhiibffnfabDoor

/-
  The text of an address is read back as that address. Plain facts.
-/
namespace Go.Proofs.YtojdlhiibffnfabDoor
open Go.RowKit
set_option linter.unusedVariables false
set_option linter.unusedSimpArgs false

theorem fourP_is (L : Nat) : fourP L = [L / 16777216 % 256, L / 65536 % 256, L / 256 % 256, L / 1 % 256] := rfl
theorem back_four (L : Nat) (h : L < 4294967296) : readOf (Lib.join (fourT L) [46]) = some (false, 0, L) := by
  have hf := four_facts L
  unfold readOf
  rw [if_neg (by rw [indexByte_out 58 _ hf.1]; decide)]
  have h1 : numsOf 10 255 46 (Lib.join (fourT L) [46]) = some (fourP L) := by
    unfold numsOf
    rw [split_join 46 (fourT L) (by simp [fourT, fourP]) (fourT_count L 46 (.inl rfl))]
    refine nums_map 10 255 2 (by omega) (by omega) (fourP L) (fun n hn => ?_)
    rw [fourP_is] at hn
    simp only [List.mem_cons, List.mem_nil_iff, or_false] at hn
    have h3 : (10 : Nat) ^ (2 + 1) = 1000 := by decide
    rw [h3]
    omega
  rw [h1, fourP_is]
  show some (false, 0, _) = _
  congr 3
  omega

theorem grps_join (l : List Nat) (h : ∀ x ∈ l, x < 65536) : grpsOf (Lib.join (hexT l) [58]) = some l := by
  unfold grpsOf
  by_cases hl : l = []
  · subst hl
    rw [if_pos (by simp [hexT, Lib.join_nil])]
  · have hne : hexT l ≠ [] := by simpa [hexT] using hl
    have hlen : 1 ≤ (hexT l).length := by cases e : hexT l with | nil => exact absurd e hne | cons _ _ => simp
    have hj := join_len 58 4 (hexT l) (hexT_lens l) hlen
    rw [if_neg (fun e => by rw [e] at hj; simp at hj; omega)]
    unfold numsOf
    rw [split_join 58 (hexT l) hne (hexT_count l 58 (.inr rfl))]
    refine nums_map 16 65535 3 (by omega) (by omega) l (fun n hn => ?_)
    have := h n hn
    have h3 : (16 : Nat) ^ (3 + 1) = 65536 := by decide
    rw [h3]
    omega
theorem hex_ok (l : List Nat) : okc (Lib.join (hexT l) [58]) :=
  okc_join _ (fun t ht => ⟨fun e => by have := (hexT_lens l t ht).1; rw [e] at this; simp at this, hexT_count l 58 (.inr rfl) t ht⟩)

theorem lz_zero : ∀ b0 b1 b2 b3 b4 b5 b6 b7 : Bool, ∀ j : Fin 8, (lzTo [b0, b1, b2, b3, b4, b5, b6, b7] 8).2.1 ≤ (j.1 : Int) → (j.1 : Int) < (lzTo [b0, b1, b2, b3, b4, b5, b6, b7] 8).2.2 → [b0, b1, b2, b3, b4, b5, b6, b7].getD j.1 false = true := by decide +kernel
theorem mid_zero (gs : List Nat) (hl : gs.length = 8) (f t : Nat) (hft : f ≤ t) (ht : t ≤ 8) (hz : ∀ j, f ≤ j → j < t → gs.getD j 0 = 0) : gs.take f ++ List.replicate (8 - f - (8 - t)) 0 ++ gs.drop t = gs := by
  apply List.ext_getElem?
  intro j
  by_cases h1 : j < f
  · rw [List.append_assoc, List.getElem?_append_left (by rw [List.length_take]; omega), List.getElem?_take_of_lt h1]
  · by_cases h2 : j < t
    · rw [List.getElem?_append_left (by rw [List.length_append, List.length_take, List.length_replicate]; omega), List.getElem?_append_right (by rw [List.length_take]; omega), List.getElem?_replicate, if_pos (by rw [List.length_take]; omega)]
      have := hz j (by omega) h2
      rw [List.getD_eq_getElem?_getD, List.getElem?_eq_getElem (by omega)] at this
      rw [List.getElem?_eq_getElem (by omega)]
      simpa using this.symm
    · rw [List.getElem?_append_right (by rw [List.length_append, List.length_take, List.length_replicate]; omega), List.getElem?_drop]
      congr 1
      rw [List.length_append, List.length_take, List.length_replicate]
      omega

theorem hor_grp (H L : Nat) (h1 : H < 18446744073709551616) (l1 : L < 18446744073709551616) : hor ((grpP H L).take 4) = H ∧ hor ((grpP H L).drop 4) = L := by
  constructor
  · show hor [H / 281474976710656 % 65536, H / 4294967296 % 65536, H / 65536 % 65536, H % 65536] = H
    simp only [hor, List.foldl]
    omega
  · show hor [L / 281474976710656 % 65536, L / 4294967296 % 65536, L / 65536 % 65536, L % 65536] = L
    simp only [hor, List.foldl]
    omega

theorem back_six (H L : Nat) (h1 : H < 18446744073709551616) (l1 : L < 18446744073709551616) : readOf (sixT (grpP H L)) = some (true, H, L) := by
  have hgl : (grpP H L).length = 8 := rfl
  have hg16 : ∀ u ∈ grpP H L, u < 65536 := by
    intro u hu
    simp only [grpP, List.mem_cons, List.mem_nil_iff, or_false] at hu
    omega
  have hfacts := six_facts (grpP H L) hgl
  have hhor := hor_grp H L h1 l1
  have hbd := lzTo_bd (zeroP (grpP H L)) 8
  have hz8 := lz_zero (H / 281474976710656 % 65536 == 0) (H / 4294967296 % 65536 == 0) (H / 65536 % 65536 == 0) (H % 65536 == 0) (L / 281474976710656 % 65536 == 0) (L / 4294967296 % 65536 == 0) (L / 65536 % 65536 == 0) (L % 65536 == 0)
  have hz : ∀ j : Nat, j < 8 → (lzTo (zeroP (grpP H L)) 8).2.1 ≤ (j : Int) → (j : Int) < (lzTo (zeroP (grpP H L)) 8).2.2 → (grpP H L).getD j 0 = 0 := by
    intro j hj a b
    have := hz8 ⟨j, hj⟩ a b
    have e := getD_zero (grpP H L) j (by rw [hgl]; exact hj)
    have e2 : ((grpP H L).map (· == 0)).getD j false = true := this
    rw [e] at e2
    simpa using e2
  unfold readOf
  rw [if_pos (indexByte_pos 58 _ (by omega))]
  have key : sixFrom (Lib.cut (sixT (grpP H L)) [58, 58]).2.2 (grpsOf (Lib.cut (sixT (grpP H L)) [58, 58]).1) (grpsOf (Lib.cut (sixT (grpP H L)) [58, 58]).2.1) = some (grpP H L) := by
    generalize grpP H L = gs at *
    by_cases hft : (lzTo (zeroP gs) 8).2.2 - (lzTo (zeroP gs) 8).2.1 < 2
    · have hs : sixT gs = Lib.join (hexT gs) [58] := by unfold sixT; simp only; rw [if_pos hft]
      rw [hs]
      have hc : Lib.cut (Lib.join (hexT gs) [58]) [58, 58] = (Lib.join (hexT gs) [58], [], false) := by
        unfold Lib.cut
        rw [cc_out _ (hex_ok gs), if_neg (by decide)]
      rw [hc]
      show sixFrom false (grpsOf (Lib.join (hexT gs) [58])) (grpsOf []) = some gs
      rw [grps_join gs hg16, show grpsOf [] = some [] from rfl, sixFrom_ok (by rw [hgl]; simp), hgl]
      simp
    · obtain ⟨f, hf⟩ := Int.eq_ofNat_of_zero_le hbd.2.2.1
      obtain ⟨t, ht⟩ := Int.eq_ofNat_of_zero_le (Int.le_trans hbd.2.2.1 hbd.2.2.2.1)
      have ht8 := hbd.2.2.2.2
      rw [hf, ht] at hft hz
      rw [ht] at ht8
      have hs : sixT gs = Lib.join (hexT (gs.take f)) [58] ++ 58 :: 58 :: Lib.join (hexT (gs.drop t)) [58] := by
        unfold sixT
        simp only
        rw [hf, ht, if_neg hft]
        simp
      rw [hs]
      generalize hA : Lib.join (hexT (gs.take f)) [58] = A
      generalize hB : Lib.join (hexT (gs.drop t)) [58] = B
      have hi : Lib.index (A ++ 58 :: 58 :: B) [58, 58] = A.length := cc_in B A (by rw [← hA]; exact hex_ok _)
      have hc : Lib.cut (A ++ 58 :: 58 :: B) [58, 58] = (A, B, true) := by
        unfold Lib.cut
        rw [hi, if_pos (by omega), Int.toNat_natCast]
        simp
      rw [hc]
      show sixFrom true (grpsOf A) (grpsOf B) = some gs
      rw [← hA, ← hB, grps_join _ (fun x hx => hg16 x (List.mem_of_mem_take hx)), grps_join _ (fun x hx => hg16 x (List.mem_of_mem_drop hx))]
      have e1 : (gs.take f).length = f := by rw [List.length_take, hgl]; omega
      have e2 : (gs.drop t).length = 8 - t := by rw [List.length_drop, hgl]
      rw [sixFrom_ok (by rw [e1, e2]; simp; omega), e1, e2]
      rw [mid_zero gs hgl f t (by omega) (by omega) (fun j a b => hz j (by omega) (by omega) (by omega))]
  unfold sixOf
  rw [key, Option.map_some, hhor.1, hhor.2]

/-- Reading undoes writing. -/
theorem back_all (six : Bool) (H L : Nat) (h1 : H < 18446744073709551616) (l1 : L < 18446744073709551616) (hE : textE six H L = 0) : readOf (textL six H L) = some (six, H, L) := by
  cases six
  · have hm : H = 0 ∧ L < 4294967296 := by
      unfold textE at hE
      rw [if_neg (by decide)] at hE
      split at hE
      · assumption
      · cases hE
    have e1 : textL false H L = Lib.join (fourT L) [46] := by simp [textL, hm]
    rw [e1, back_four L hm.2, hm.1]
  · exact back_six H L h1 l1
theorem parse_back (six : Bool) (H L : Nat) (h1 : H < 18446744073709551616) (l1 : L < 18446744073709551616) (hE : textE six H L = 0) : parseOf (textL six H L) = some (six, H, L) := by
  unfold parseOf
  rw [back_all six H L h1 l1 hE]
  show (if textE six H L = 0 ∧ textL six H L = textL six H L then some (six, H, L) else none) = _
  rw [if_pos ⟨hE, rfl⟩]
theorem text_inj {six six2 : Bool} {H L H2 L2 : Nat} (h1 : H < 18446744073709551616) (l1 : L < 18446744073709551616) (hE : textE six H L = 0) (h2 : H2 < 18446744073709551616) (l2 : L2 < 18446744073709551616) (hE2 : textE six2 H2 L2 = 0)
    (h : textL six H L = textL six2 H2 L2) : six = six2 ∧ H = H2 ∧ L = L2 := by
  have a := back_all six H L h1 l1 hE
  rw [h, back_all six2 H2 L2 h2 l2 hE2] at a
  simp only [Option.some.injEq, Prod.mk.injEq] at a
  exact ⟨a.1.symm, a.2.1.symm, a.2.2.symm⟩
end Go.Proofs.YtojdlhiibffnfabDoor

/-
  The document's AddrParse, whole: it answers the address whose text this is, or ErrForm.
-/
namespace Go.Proofs.YtojdlhiibffnfabDoor
open Go.RowKit Go.Sort
set_option linter.unusedVariables false
set_option linter.unusedSimpArgs false

theorem parseOf_some' {s : List UInt8} {six : Bool} {H L : Nat} (h : parseOf s = some (six, H, L)) : H < 18446744073709551616 ∧ L < 18446744073709551616 := by
  unfold parseOf at h
  split at h
  · rename_i six2 H2 L2 hr
    split at h
    · simp only [Option.some.injEq, Prod.mk.injEq] at h
      obtain ⟨rfl, rfl, rfl⟩ := h
      exact readOf_lt hr
    · cases h
  · cases h
theorem try_err (six : Bool) (ns : List Int) (hl : ns.length = tryN six) (s : List UInt8) (hp : parseOf s = none) : tryAns six ns s = errAns := by
  unfold tryAns
  rw [if_neg ?_]
  · rfl
  · intro h
    have e := eq_of_beq h
    obtain ⟨b1, b2, b3⟩ := try_bd six ns hl
    have hE : textE six (tryH six ns) (tryL six ns) = 0 := by
      unfold textE
      cases six
      · rw [if_neg (by decide), if_pos (b3 rfl)]
      · rfl
    have := parse_back six _ _ b1 b2 hE
    rw [e, hp] at this
    cases this
theorem try_ok (six : Bool) (ns : List Int) (H L : Nat) (hH : tryH six ns = H) (hL : tryL six ns = L) : tryAns six ns (textL six H L) = .tuple #[.agg #[.bool six, .int .u64 (H : Int), .int .u64 (L : Int)], .int .i64 0] := by
  unfold tryAns
  rw [hH, hL, if_pos (by simp)]
theorem spell4 (w : Nat) (a b c d : Nat) (ha : a < 2 ^ w) (hb : b < 2 ^ w) (hc : c < 2 ^ w) (hd : d < 2 ^ w) :
    spell (fl w [(a : Int), (b : Int), (c : Int), (d : Int)]) = ((((a * 2 ^ w + b) * 2 ^ w + c) * 2 ^ w + d : Nat) : Int) := by
  have e : ∀ x : Nat, x < 2 ^ w → spell (bitsTo (x : Int) w w) = (x : Int) := fun x hx => spell_bits _ _ (by omega) (by exact_mod_cast hx)
  have : fl w [(a : Int), (b : Int), (c : Int), (d : Int)] = ((bitsTo a w w ++ bitsTo b w w) ++ bitsTo c w w) ++ bitsTo d w w := by simp [fl]
  rw [this, spell_append, spell_append, spell_append, e a ha, e b hb, e c hc, e d hd, bitsTo_length, bitsTo_length, bitsTo_length]
  push_cast
  rfl
theorem tryL_four (L : Nat) (h : L < 4294967296) : tryL false ((fourP L).map (fun k : Nat => (k : Int))) = L := by
  show (spell (fl 8 [((L / 16777216 % 256 : Nat) : Int), ((L / 65536 % 256 : Nat) : Int), ((L / 256 % 256 : Nat) : Int), ((L / 1 % 256 : Nat) : Int)])).toNat = L
  rw [spell4 8 _ _ _ _ (by omega) (by omega) (by omega) (by omega)]
  rw [Int.toNat_natCast]
  omega
theorem fl_app (w : Nat) (l r : List Int) : fl w (l ++ r) = fl w l ++ fl w r := by unfold fl; rw [List.flatMap_append]
theorem try_six (H L : Nat) (h1 : H < 18446744073709551616) (l1 : L < 18446744073709551616) : tryH true ((grpP H L).map (fun k : Nat => (k : Int))) = H ∧ tryL true ((grpP H L).map (fun k : Nat => (k : Int))) = L := by
  have e : (grpP H L).map (fun k : Nat => (k : Int)) = [((H / 281474976710656 % 65536 : Nat) : Int), ((H / 4294967296 % 65536 : Nat) : Int), ((H / 65536 % 65536 : Nat) : Int), ((H % 65536 : Nat) : Int)] ++ [((L / 281474976710656 % 65536 : Nat) : Int), ((L / 4294967296 % 65536 : Nat) : Int), ((L / 65536 % 65536 : Nat) : Int), ((L % 65536 : Nat) : Int)] := rfl
  unfold tryH tryL
  rw [if_pos rfl, if_pos rfl, e, fl_app, List.take_left' (by rw [fl_length]; rfl), List.drop_left' (by rw [fl_length]; rfl), spell4 16 _ _ _ _ (by omega) (by omega) (by omega) (by omega), spell4 16 _ _ _ _ (by omega) (by omega) (by omega) (by omega), Int.toNat_natCast, Int.toNat_natCast]
  constructor <;> omega
theorem rd58 : rdTo 58 10 < 0 := by decide +kernel
/-- A text with a colon is no four numbers. -/
theorem rn_colon (s : List UInt8) (h : (58 : UInt8) ∈ s) : rn 10 255 46 [] (-1) s = none := rn_bad 10 255 46 58 (by decide) rd58 s [] (-1) h
theorem two_split (s : List UInt8) (F : Nat) (h : F + 1 < s.length) (e0 : s[F] = 58) (e1 : s[F + 1] = 58) : s = s.take F ++ 58 :: 58 :: s.drop (F + 2) := by
  conv => lhs; rw [← List.take_append_drop F s]
  rw [List.drop_eq_getElem_cons (by omega), e0, List.drop_eq_getElem_cons (by omega), e1]
/-- The first two colons side by side, if there are two. -/
theorem first_two (s : List UInt8) : (∀ k (h : k + 1 < s.length), ¬ (s[k] = 58 ∧ s[k + 1] = 58)) ∨
    ∃ F, ∃ h : F + 1 < s.length, s[F] = 58 ∧ s[F + 1] = 58 ∧ ∀ k (h : k + 1 < s.length), k < F → ¬ (s[k] = 58 ∧ s[k + 1] = 58) := by
  have key : ∀ n, (∀ k (h : k + 1 < s.length), k < n → ¬ (s[k] = 58 ∧ s[k + 1] = 58)) ∨ ∃ F, ∃ h : F + 1 < s.length, s[F] = 58 ∧ s[F + 1] = 58 ∧ ∀ k (h : k + 1 < s.length), k < F → ¬ (s[k] = 58 ∧ s[k + 1] = 58) := by
    intro n
    induction n with
    | zero => exact .inl (fun k _ h => by omega)
    | succ n ih =>
      rcases ih with h | h
      · by_cases hc : ∃ h : n + 1 < s.length, s[n] = 58 ∧ s[n + 1] = 58
        · obtain ⟨a, b, c⟩ := hc
          exact .inr ⟨n, a, b, c, h⟩
        · refine .inl (fun k hk hlt => ?_)
          by_cases e : k = n
          · subst e; exact fun hh => hc ⟨hk, hh⟩
          · exact h k hk (by omega)
      · exact .inr h
  rcases key s.length with h | h
  · exact .inl (fun k hk => h k hk (by omega))
  · exact .inr h
/-- AddrParse at two colons. -/
theorem ap_two (s : List UInt8) (hl : s.length ≤ 600) (F : Nat) (hF : F + 1 < s.length) (e0 : s[F] = 58) (e1 : s[F + 1] = 58) (hno : ∀ k (h : k + 1 < s.length), k < F → ¬ (s[k] = 58 ∧ s[k + 1] = 58)) (w : World) :
    Calls Tryd.prog 6 #[.string ⟨s.toArray⟩] w fun e w' => e = .returned (twoOf (sideL (s.take F)) (sideL (s.drop (F + 2))) s) ∧ Below w.heap.size w w' := by
  have hs := two_split s F hF e0 e1
  have h4 : rn 10 255 46 [] (-1) s = none := rn_colon s (by rw [hs]; simp)
  have h8 : rn 16 65535 58 [] (-1) s = none := by rw [hs]; exact rn_two 16 65535 58 _ _ _ _
  clear hs
  have sl : ∀ t : List UInt8, t ≠ [] → rn 16 65535 58 [] (-1) t = sideL t := fun t h => by unfold sideL; rw [if_neg h]
  have s0 : ∀ t : List UInt8, t.length = 0 → (some [] : Option (List Int)) = sideL t := fun t h => by unfold sideL; rw [if_pos (List.eq_nil_of_length_eq_zero h)]
  have ne : ∀ t : List UInt8, 0 < t.length → t ≠ [] := fun t h e => by rw [e] at h; simp at h
  by_cases c0 : 0 < F
  · by_cases c1 : F + 2 < s.length
    · exact ap_two_11 s hl h4 h8 F hF e0 e1 hno c0 c1 _ _ (sl _ (ne _ (by rw [List.length_take]; omega))) (sl _ (ne _ (by rw [List.length_drop]; omega))) w
    · exact ap_two_10 s hl h4 h8 F hF e0 e1 hno c0 c1 _ _ (sl _ (ne _ (by rw [List.length_take]; omega))) (s0 _ (by rw [List.length_drop]; omega)) w
  · by_cases c1 : F + 2 < s.length
    · exact ap_two_01 s hl h4 h8 F hF e0 e1 hno (by omega) c1 _ _ (s0 _ (by rw [List.length_take]; omega)) (sl _ (ne _ (by rw [List.length_drop]; omega))) w
    · exact ap_two_00 s hl h4 h8 F hF e0 e1 hno (by omega) c1 _ _ (s0 _ (by rw [List.length_take]; omega)) (s0 _ (by rw [List.length_drop]; omega)) w
theorem two_none (l r : Option (List Int)) (s : List UInt8) (hp : parseOf s = none) : twoOf l r s = errAns := by
  cases l with
  | none => exact two_no1 rfl
  | some l => cases r with
    | none => exact two_no2 rfl
    | some r =>
      by_cases h : 6 < l.length + r.length
      · exact two_long rfl rfl rfl rfl h
      · rw [two_ok (l := some l) (r := some r) (ln := l) (rn := r) rfl rfl rfl rfl h]
        exact try_err true _ (by simp only [List.length_append, List.length_replicate]; show _ = 8; omega) s hp
theorem doc_none (s : List UInt8) (hl : s.length ≤ 600) (hp : parseOf s = none) (w : World) :
    Calls Tryd.prog 6 #[.string ⟨s.toArray⟩] w fun e w' => e = .returned errAns ∧ Below w.heap.size w w' := by
  by_cases h4 : ∃ ns, rn 10 255 46 [] (-1) s = some ns ∧ ns.length = 4
  · obtain ⟨ns, hr, hn⟩ := h4
    have := ap_four s hl ns hr hn w
    rw [try_err false ns hn s hp] at this
    exact this
  · have h4' : ∀ ns, rn 10 255 46 [] (-1) s = some ns → ns.length ≠ 4 := fun ns hr hn => h4 ⟨ns, hr, hn⟩
    by_cases h8 : ∃ ns, rn 16 65535 58 [] (-1) s = some ns ∧ ns.length = 8
    · obtain ⟨ns, hr, hn⟩ := h8
      have := ap_eight s hl h4' ns hr hn w
      rw [try_err true ns hn s hp] at this
      exact this
    · have h8' : ∀ ns, rn 16 65535 58 [] (-1) s = some ns → ns.length ≠ 8 := fun ns hr hn => h8 ⟨ns, hr, hn⟩
      rcases first_two s with h | ⟨F, hF, e0, e1, hno⟩
      · exact ap_none s hl h4' h8' h w
      · have := ap_two s hl F hF e0 e1 hno w
        rw [two_none _ _ s hp] at this
        exact this
theorem okc_at : ∀ (p : List UInt8), okc p → ∀ k (h : k + 1 < p.length), ¬ (p[k] = 58 ∧ p[k + 1] = 58)
  | [], _, k, h => by simp at h
  | [x], _, k, h => by simp at h
  | x :: y :: l, ho, 0, h => fun e => ho.1 e.1 e.2
  | x :: y :: l, ho, k + 1, h => okc_at (y :: l) ho.2 k (by simpa using h)
theorem okc_last : ∀ (p : List UInt8), okc p → ∀ (h : 0 < p.length), p[p.length - 1] ≠ 58
  | [], _, h => by simp at h
  | [x], ho, _ => ho
  | x :: y :: l, ho, _ => okc_last (y :: l) ho.2 (by simp)
theorem side_hex (l : List Nat) (h : ∀ x ∈ l, x < 65536) : sideL (Lib.join (hexT l) [58]) = some (l.map (fun k : Nat => (k : Int))) := by
  cases l with
  | nil => unfold sideL; rw [if_pos (by simp [hexT, Lib.join_nil])]; rfl
  | cons m ms =>
    have hlen : 1 ≤ (hexT (m :: ms)).length := by simp [hexT]
    have hj := join_len 58 4 (hexT (m :: ms)) (hexT_lens (m :: ms)) hlen
    unfold sideL
    rw [if_neg (fun e => by rw [e] at hj; simp at hj; omega)]
    exact rn_join 16 65535 58 3 (by omega) (by omega) (by omega) noDig58 m ms (fun k hk => ⟨by rw [show (16 : Nat) ^ (3 + 1) = 65536 from by decide]; exact h k hk, by have := h k hk; omega⟩)
theorem doc_four (L : Nat) (h : L < 4294967296) (w : World) :
    Calls Tryd.prog 6 #[.string ⟨(textL false 0 L).toArray⟩] w fun e w' => e = .returned (.tuple #[.agg #[.bool false, .int .u64 ((0 : Nat) : Int), .int .u64 (L : Int)], .int .i64 0]) ∧ Below w.heap.size w w' := by
  have ht : textL false 0 L = Lib.join (fourT L) [46] := by unfold textL; rw [if_neg (by decide), if_pos ⟨rfl, h⟩]
  have hf := four_facts L
  have hr : rn 10 255 46 [] (-1) (textL false 0 L) = some ((fourP L).map (fun k : Nat => (k : Int))) := by
    rw [ht]
    refine rn_join 10 255 46 2 (by omega) (by omega) (by omega) noDig46 (L / 16777216 % 256) [L / 65536 % 256, L / 256 % 256, L / 1 % 256] (fun k hk => ?_)
    rw [show (10 : Nat) ^ (2 + 1) = 1000 from by decide]
    simp only [List.mem_cons, List.not_mem_nil, or_false] at hk
    omega
  have := ap_four (textL false 0 L) (by rw [ht]; omega) _ hr rfl w
  rw [try_ok false _ 0 L rfl (tryL_four L h)] at this
  exact this
theorem doc_six (H L : Nat) (h1 : H < 18446744073709551616) (l1 : L < 18446744073709551616) (w : World) :
    Calls Tryd.prog 6 #[.string ⟨(textL true H L).toArray⟩] w fun e w' => e = .returned (.tuple #[.agg #[.bool true, .int .u64 (H : Int), .int .u64 (L : Int)], .int .i64 0]) ∧ Below w.heap.size w w' := by
  have ht : textL true H L = sixT (grpP H L) := by unfold textL; rw [if_pos rfl]
  have hgl : (grpP H L).length = 8 := rfl
  have hg16 : ∀ u ∈ grpP H L, u < 65536 := by
    intro u hu
    simp only [grpP, List.mem_cons, List.mem_nil_iff, or_false] at hu
    omega
  have hfacts := six_facts (grpP H L) hgl
  have hbd := lzTo_bd (zeroP (grpP H L)) 8
  have hz8 := lz_zero (H / 281474976710656 % 65536 == 0) (H / 4294967296 % 65536 == 0) (H / 65536 % 65536 == 0) (H % 65536 == 0) (L / 281474976710656 % 65536 == 0) (L / 4294967296 % 65536 == 0) (L / 65536 % 65536 == 0) (L % 65536 == 0)
  have hz : ∀ j : Nat, j < 8 → (lzTo (zeroP (grpP H L)) 8).2.1 ≤ (j : Int) → (j : Int) < (lzTo (zeroP (grpP H L)) 8).2.2 → (grpP H L).getD j 0 = 0 := by
    intro j hj a b
    have := hz8 ⟨j, hj⟩ a b
    have e := getD_zero (grpP H L) j (by rw [hgl]; exact hj)
    have e2 : ((grpP H L).map (· == 0)).getD j false = true := this
    rw [e] at e2
    simpa using e2
  obtain ⟨tH, tL⟩ := try_six H L h1 l1
  have fin := try_ok true ((grpP H L).map (fun k : Nat => (k : Int))) H L tH tL
  have hlen : (textL true H L).length ≤ 600 := by rw [ht]; omega
  have hcol : (58 : UInt8) ∈ textL true H L := by rw [ht]; exact List.count_pos_iff.1 (by omega)
  clear hz8 tH tL
  by_cases hft : (lzTo (zeroP (grpP H L)) 8).2.2 - (lzTo (zeroP (grpP H L)) 8).2.1 < 2
  · have hs : textL true H L = Lib.join (hexT (grpP H L)) [58] := by rw [ht]; unfold sixT; simp only; rw [if_pos hft]
    have hr : rn 16 65535 58 [] (-1) (textL true H L) = some ((grpP H L).map (fun k : Nat => (k : Int))) := by
      have := side_hex (grpP H L) hg16
      unfold sideL at this
      rw [← hs, if_neg (fun e => by rw [e] at hcol; cases hcol)] at this
      exact this
    have := ap_eight (textL true H L) hlen (fun ns hn => by rw [rn_colon _ hcol] at hn; cases hn) _ hr (by rw [List.length_map]; rfl) w
    rw [fin] at this
    exact this
  · obtain ⟨f, hf⟩ := Int.eq_ofNat_of_zero_le hbd.2.2.1
    obtain ⟨t, htt⟩ := Int.eq_ofNat_of_zero_le (Int.le_trans hbd.2.2.1 hbd.2.2.2.1)
    have ht8 := hbd.2.2.2.2
    rw [hf, htt] at hft hz
    rw [htt] at ht8
    have hs : textL true H L = Lib.join (hexT ((grpP H L).take f)) [58] ++ 58 :: 58 :: Lib.join (hexT ((grpP H L).drop t)) [58] := by
      rw [ht]
      unfold sixT
      simp only
      rw [hf, htt, if_neg hft]
      simp
    have sA := side_hex ((grpP H L).take f) (fun x hx => hg16 x (List.mem_of_mem_take hx))
    have sB := side_hex ((grpP H L).drop t) (fun x hx => hg16 x (List.mem_of_mem_drop hx))
    have hA := hex_ok ((grpP H L).take f)
    generalize Lib.join (hexT ((grpP H L).take f)) [58] = A at hs sA hA
    generalize Lib.join (hexT ((grpP H L).drop t)) [58] = B at hs sB
    have mz := mid_zero (grpP H L) hgl f t (by omega) (by omega) (fun j a b => hz j (by omega) (by omega) (by omega))
    have hF : A.length + 1 < (textL true H L).length := by rw [hs]; simp
    have e0 : (textL true H L)[A.length]'(by omega) = 58 := by
      have : (textL true H L)[A.length]? = some 58 := by rw [hs]; simp
      simpa [List.getElem?_eq_getElem (show A.length < (textL true H L).length by omega)] using this
    have e1 : (textL true H L)[A.length + 1]'hF = 58 := by
      have : (textL true H L)[A.length + 1]? = some 58 := by rw [hs, List.getElem?_append_right (by omega)]; simp
      simpa [List.getElem?_eq_getElem hF] using this
    have hno : ∀ k (h : k + 1 < (textL true H L).length), k < A.length → ¬ ((textL true H L)[k] = 58 ∧ (textL true H L)[k + 1] = 58) := by
      intro k h hk ⟨a, b⟩
      have ga : (textL true H L)[k]? = some 58 := by rw [List.getElem?_eq_getElem (by omega), a]
      have gb : (textL true H L)[k + 1]? = some 58 := by rw [List.getElem?_eq_getElem h, b]
      rw [hs, List.getElem?_append_left hk] at ga
      rw [hs] at gb
      by_cases hk1 : k + 1 < A.length
      · rw [List.getElem?_append_left hk1] at gb
        rw [List.getElem?_eq_getElem hk] at ga
        rw [List.getElem?_eq_getElem hk1] at gb
        exact okc_at A hA k hk1 ⟨Option.some.inj ga, Option.some.inj gb⟩
      · rw [List.getElem?_eq_getElem hk] at ga
        have := okc_last A hA (by omega)
        have ek : A.length - 1 = k := by omega
        simp only [ek] at this
        exact this (Option.some.inj ga)
    have := ap_two (textL true H L) hlen A.length hF e0 e1 hno w
    have tk : (textL true H L).take A.length = A := by rw [hs]; simp
    have dr : (textL true H L).drop (A.length + 2) = B := by rw [hs, List.drop_append]; simp
    rw [tk, dr, sA, sB] at this
    have l1' : ((grpP H L).take f).length = f := by rw [List.length_take, hgl]; omega
    have l2' : ((grpP H L).drop t).length = 8 - t := by rw [List.length_drop, hgl]
    rw [two_ok (ln := ((grpP H L).take f).map (fun k : Nat => (k : Int))) (rn := ((grpP H L).drop t).map (fun k : Nat => (k : Int))) rfl rfl rfl rfl (by rw [List.length_map, List.length_map, l1', l2']; omega)] at this
    have em : ((grpP H L).take f).map (fun k : Nat => (k : Int)) ++ List.replicate (8 - ((((grpP H L).take f).map (fun k : Nat => (k : Int))).length + (((grpP H L).drop t).map (fun k : Nat => (k : Int))).length)) 0 ++ ((grpP H L).drop t).map (fun k : Nat => (k : Int)) = (grpP H L).map (fun k : Nat => (k : Int)) := by
      conv => rhs; rw [← mz]
      rw [List.map_append, List.map_append, List.map_replicate, List.length_map, List.length_map, l1', l2', show 8 - (f + (8 - t)) = 8 - f - (8 - t) by omega]
      rfl
    rw [em, fin] at this
    exact this
/-- The document's AddrParse: the address whose text it is. -/
theorem doc_parse (s : List UInt8) (hl : s.length ≤ 600) (w : World) :
    Calls Tryd.prog 6 #[.string ⟨s.toArray⟩] w fun e w' => ParseOut (parseOf s) e ∧ Below w.heap.size w w' := by
  cases hp : parseOf s with
  | none => exact doc_none s hl hp w
  | some r =>
    obtain ⟨six, H, L⟩ := r
    unfold parseOf at hp
    split at hp
    · rename_i six' H' L' hr
      split at hp
      · rename_i hc
        simp only [Option.some.injEq, Prod.mk.injEq] at hp
        obtain ⟨rfl, rfl, rfl⟩ := hp
        obtain ⟨hE, hT⟩ := hc
        have bd := parseOf_some' (s := s) (by unfold parseOf; rw [hr]; simp only; rw [if_pos ⟨hE, hT⟩])
        subst hT
        cases six'
        · have hv : H' = 0 ∧ L' < 4294967296 := by
            unfold textE at hE
            rw [if_neg (by decide)] at hE
            split at hE
            · assumption
            · cases hE
          obtain ⟨rfl, hv⟩ := hv
          exact doc_four L' hv w
        · exact doc_six H' L' bd.1 bd.2 w
      · cases hp
    · cases hp
end Go.Proofs.YtojdlhiibffnfabDoor

/-
  The library's contracts that this seat's proofs use, laid at this program (by the kit's own command, in plain words, cut to what is used).
-/
namespace Go.Proofs
open Go.Shelf
def Tryd.laysM171_ren : Go.Shelf.Ren := ⟨fun | 171 => 30 | 243 => 47 | 246 => 61 | 283 => 68 | 284 => 69 | 285 => 70 | 286 => 71 | 129 => 83 | 317 => 82 | 318 => 84 | 319 => 85 | 320 => 86 | 337 => 92 | 338 => 93 | n => n, fun | 3 => 3 | 9 => 9 | 2 => 2 | 4 => 4 | 171 => 98 | 0 => 0 | 53 => 22 | 37 => 81 | 5 => 5 | 173 => 101 | 212 => 114 | 51 => 108 | 20 => 20 | 213 => 115 | 46 => 65 | 232 => 128 | 233 => 129 | n => n, fun | 17 => 3 | 18 => 4 | 19 => 5 | n => n⟩
theorem Tryd.laysM171 : Go.Proofs.LaysM.n171 Tryd.prog Tryd.laysM171_ren := {
  mixed := by kernel_rfl
  f129 := Tryd.func83.trans (congrArg some (by kernel_rfl))
  f171 := Tryd.func30.trans (congrArg some (by kernel_rfl))
  f243 := Tryd.func47.trans (congrArg some (by kernel_rfl))
  f246 := Tryd.func61.trans (congrArg some (by kernel_rfl))
  f283 := Tryd.func68.trans (congrArg some (by kernel_rfl))
  f284 := Tryd.func69.trans (congrArg some (by kernel_rfl))
  f285 := Tryd.func70.trans (congrArg some (by kernel_rfl))
  f286 := Tryd.func71.trans (congrArg some (by kernel_rfl))
  f317 := Tryd.func82.trans (congrArg some (by kernel_rfl))
  f318 := Tryd.func84.trans (congrArg some (by kernel_rfl))
  f319 := Tryd.func85.trans (congrArg some (by kernel_rfl))
  f320 := Tryd.func86.trans (congrArg some (by kernel_rfl))
  f337 := Tryd.func92.trans (congrArg some (by kernel_rfl))
  f338 := Tryd.func93.trans (congrArg some (by kernel_rfl))
  t0 := Tryd.underlying0
  a0 := Tryd.isAgg0
  z0 := Tryd.sizeOf0
  v0 := Tryd.zeroValue0
  t2 := Tryd.underlying2
  a2 := Tryd.isAgg2
  z2 := Tryd.sizeOf2
  v2 := Tryd.zeroValue2
  t3 := Tryd.underlying3
  a3 := Tryd.isAgg3
  z3 := Tryd.sizeOf3
  v3 := Tryd.zeroValue3
  t4 := Tryd.underlying4
  a4 := Tryd.isAgg4
  z4 := Tryd.sizeOf4
  v4 := Tryd.zeroValue4
  t5 := Tryd.underlying5
  a5 := Tryd.isAgg5
  z5 := Tryd.sizeOf5
  v5 := Tryd.zeroValue5
  t9 := Tryd.underlying9
  a9 := Tryd.isAgg9
  z9 := Tryd.sizeOf9
  v9 := Tryd.zeroValue9
  t20 := Tryd.underlying20
  a20 := Tryd.isAgg20
  z20 := Tryd.sizeOf20
  v20 := Tryd.zeroValue20
  t37 := Tryd.underlying81
  a37 := Tryd.isAgg81
  z37 := Tryd.sizeOf81
  v37 := Tryd.zeroValue81
  t46 := Tryd.underlying65
  a46 := Tryd.isAgg65
  z46 := Tryd.sizeOf65
  v46 := Tryd.zeroValue65
  t51 := Tryd.underlying108
  a51 := Tryd.isAgg108
  z51 := Tryd.sizeOf108
  v51 := Tryd.zeroValue108
  t53 := Tryd.underlying22
  a53 := Tryd.isAgg22
  z53 := Tryd.sizeOf22
  v53 := Tryd.zeroValue22
  t171 := Tryd.underlying98
  a171 := Tryd.isAgg98
  z171 := Tryd.sizeOf98
  v171 := Tryd.zeroValue98
  t173 := Tryd.underlying101
  a173 := Tryd.isAgg101
  z173 := Tryd.sizeOf101
  v173 := Tryd.zeroValue101
  t212 := Tryd.underlying114
  a212 := Tryd.isAgg114
  z212 := Tryd.sizeOf114
  v212 := Tryd.zeroValue114
  t213 := Tryd.underlying115
  a213 := Tryd.isAgg115
  z213 := Tryd.sizeOf115
  t232 := Tryd.underlying128
  a232 := Tryd.isAgg128
  z232 := Tryd.sizeOf128
  v232 := Tryd.zeroValue128
  t233 := Tryd.underlying129
  a233 := Tryd.isAgg129
  z233 := Tryd.sizeOf129
  v233 := Tryd.zeroValue129
  g17 := by kernel_rfl
  g18 := by kernel_rfl
  g19 := by kernel_rfl
  i0 := by kernel_rfl
  i2 := by kernel_rfl
  i3 := by kernel_rfl
  i4 := by kernel_rfl
  i5 := by kernel_rfl
  i9 := by kernel_rfl
  i20 := by kernel_rfl
  i37 := by kernel_rfl
  i46 := by kernel_rfl
  i51 := by kernel_rfl
  i53 := by kernel_rfl
  i171 := by kernel_rfl
  i173 := by kernel_rfl
  i212 := by kernel_rfl
  i232 := by kernel_rfl
  i233 := by kernel_rfl
  m17 := by kernel_rfl
  m18 := by kernel_rfl
  m19 := by kernel_rfl }
open Go.RowKit Go.Sort Go.Lib in
theorem Tryd.strconv_Itoa (n : Int) (h0 : -9223372036854775808 ≤ n) (h1 : n ≤ 9223372036854775807) (w : World) (htab : Lib.TabIs Tryd.prog w "internal/strconv.uint64pow10" .u64 Lib.pow10Tab) :
    Calls Tryd.prog 30 #[.int .i64 n] w fun e w' => e = .returned (.string ⟨(Lib.itoa n).toArray⟩) ∧ ∃ k os, w' = grow (w.drewN k) os := Any.strconv_Itoa Tryd.laysM171 n h0 h1 w htab
end Go.Proofs

/-
  Plain mathematics: an address as one number; its first bits, and its last ones set to 0 or 1.
-/
namespace Go.Proofs.YtojdlhiibffnfabDoor
open Go.RowKit
set_option linter.unusedVariables false
set_option linter.unusedSimpArgs false

/-- How many bits an address has. -/
def wideN (six : Bool) : Nat := if six then 128 else 32
theorem wideN_le (six : Bool) : wideN six ≤ 128 := by cases six <;> decide
theorem wideB_eq (six : Bool) : wideB six = (wideN six : Int) := by cases six <;> rfl
/-- The two words of a number of 128 bits. -/
def aH (x : Nat) : Int := ((x / 18446744073709551616 : Nat) : Int)
def aL (x : Nat) : Int := ((x % 18446744073709551616 : Nat) : Int)
/-- The number of two words. -/
def numA (hi lo : Int) : Nat := (hi * 18446744073709551616 + lo).toNat
theorem aH_numA (hi lo : Int) (h0 : 0 ≤ hi) (l0 : 0 ≤ lo) (l1 : lo ≤ 18446744073709551615) : aH (numA hi lo) = hi := by unfold aH numA; omega
theorem aL_numA (hi lo : Int) (h0 : 0 ≤ hi) (l0 : 0 ≤ lo) (l1 : lo ≤ 18446744073709551615) : aL (numA hi lo) = lo := by unfold aL numA; omega
theorem aH_0 (x : Nat) : 0 ≤ aH x := by unfold aH; omega
theorem aL_0 (x : Nat) : 0 ≤ aL x := by unfold aL; omega
theorem aL_1 (x : Nat) : aL x ≤ 18446744073709551615 := by unfold aL; omega
theorem aH_1 (x : Nat) (h : x < 2 ^ 128) : aH x ≤ 18446744073709551615 := by unfold aH; omega
theorem numA_lt (hi lo : Int) (h0 : 0 ≤ hi) (h1 : hi ≤ 18446744073709551615) (l0 : 0 ≤ lo) (l1 : lo ≤ 18446744073709551615) : numA hi lo < 2 ^ 128 := by unfold numA; omega
theorem a_inj {x y : Nat} (h : aH x = aH y) (l : aL x = aL y) : x = y := by unfold aH at h; unfold aL at l; omega
theorem two_pow_pos' (k : Nat) : 0 < 2 ^ k := Nat.two_pow_pos k

/-- The last k bits are 0. -/
def lowN (x k : Nat) : Nat := x / 2 ^ k * 2 ^ k
/-- The last k bits are 1. -/
def topN (x k : Nat) : Nat := x / 2 ^ k * 2 ^ k + (2 ^ k - 1)
theorem lowN_testBit (x k j : Nat) : (lowN x k).testBit j = (decide (k ≤ j) && x.testBit j) := by
  unfold lowN
  rw [Nat.testBit_mul_two_pow, Nat.testBit_div_two_pow]
  by_cases h : k ≤ j
  · rw [Nat.sub_add_cancel h]
  · simp [h]
theorem topN_testBit (x k j : Nat) : (topN x k).testBit j = (decide (j < k) || x.testBit j) := by
  unfold topN
  rw [Nat.mul_comm, Nat.testBit_two_pow_mul_add _ (by have := two_pow_pos' k; omega), Nat.testBit_two_pow_sub_one]
  by_cases h : j < k
  · simp [h]
  · rw [if_neg h, Nat.testBit_div_two_pow, Nat.sub_add_cancel (by omega)]
    simp [h]
theorem lowN_le (x k : Nat) : lowN x k ≤ x := Nat.div_mul_le_self x (2 ^ k)
theorem lowN_mod (x k : Nat) : lowN x k = x - x % 2 ^ k := by
  unfold lowN; have := Nat.div_add_mod x (2 ^ k); rw [Nat.mul_comm]; omega
theorem topN_low (x k : Nat) : topN x k = lowN x k + (2 ^ k - 1) := rfl
theorem le_topN (x k : Nat) : x ≤ topN x k := by
  have := Nat.mod_lt x (two_pow_pos' k); have := Nat.mod_le x (2 ^ k); rw [topN_low, lowN_mod]; omega
theorem topN_lt (x k n : Nat) (h : x < 2 ^ n) (hk : k ≤ n) : topN x k < 2 ^ n := by
  refine Nat.lt_pow_two_of_testBit _ fun j hj => ?_
  rw [topN_testBit, Nat.testBit_lt_two_pow (Nat.lt_of_lt_of_le h (Nat.pow_le_pow_right (by omega) hj))]
  simp; omega
theorem lowN_lt (x k n : Nat) (h : x < 2 ^ n) : lowN x k < 2 ^ n := Nat.lt_of_le_of_lt (lowN_le x k) h
theorem testBit_words (h l j : Nat) (hl : l < 18446744073709551616) : (h * 18446744073709551616 + l).testBit j = if j < 64 then l.testBit j else h.testBit (j - 64) := by
  have := Nat.testBit_two_pow_mul_add (i := 64) h (b := l) hl j
  rw [Nat.mul_comm]; exact this
theorem lowN_words (h l k : Nat) (hl : l < 18446744073709551616) : lowN (h * 18446744073709551616 + l) k = lowN h (k - 64) * 18446744073709551616 + lowN l (min k 64) := by
  have hl' : lowN l (min k 64) < 18446744073709551616 := Nat.lt_of_le_of_lt (lowN_le _ _) hl
  refine Nat.eq_of_testBit_eq fun j => ?_
  rw [lowN_testBit, testBit_words _ _ _ hl, testBit_words _ _ _ hl', lowN_testBit, lowN_testBit]
  by_cases hj : j < 64
  · rw [if_pos hj, if_pos hj, show decide (k ≤ j) = decide (min k 64 ≤ j) from decide_eq_decide.2 (by omega)]
  · rw [if_neg hj, if_neg hj, show decide (k ≤ j) = decide (k - 64 ≤ j - 64) from decide_eq_decide.2 (by omega)]
theorem topN_words (h l k : Nat) (hl : l < 18446744073709551616) : topN (h * 18446744073709551616 + l) k = topN h (k - 64) * 18446744073709551616 + topN l (min k 64) := by
  have hl' : topN l (min k 64) < 18446744073709551616 := topN_lt l (min k 64) 64 hl (by omega)
  refine Nat.eq_of_testBit_eq fun j => ?_
  rw [topN_testBit, testBit_words _ _ _ hl, testBit_words _ _ _ hl', topN_testBit, topN_testBit]
  by_cases hj : j < 64
  · rw [if_pos hj, if_pos hj, show decide (j < k) = decide (j < min k 64) from decide_eq_decide.2 (by omega)]
  · rw [if_neg hj, if_neg hj, show decide (j < k) = decide (j - 64 < k - 64) from decide_eq_decide.2 (by omega)]
theorem words (x : Nat) : x = x / 18446744073709551616 * 18446744073709551616 + x % 18446744073709551616 := by omega
theorem aH_low (x k : Nat) : aH (lowN x k) = ((lowN (x / 18446744073709551616) (k - 64) : Nat) : Int) := by
  have hl : x % 18446744073709551616 < 18446744073709551616 := by omega
  have hl' : lowN (x % 18446744073709551616) (min k 64) < 18446744073709551616 := Nat.lt_of_le_of_lt (lowN_le _ _) hl
  have e := lowN_words (x / 18446744073709551616) (x % 18446744073709551616) k hl
  rw [← words x] at e
  unfold aH; rw [e]; omega
theorem aL_low (x k : Nat) : aL (lowN x k) = ((lowN (x % 18446744073709551616) (min k 64) : Nat) : Int) := by
  have hl : x % 18446744073709551616 < 18446744073709551616 := by omega
  have hl' : lowN (x % 18446744073709551616) (min k 64) < 18446744073709551616 := Nat.lt_of_le_of_lt (lowN_le _ _) hl
  have e := lowN_words (x / 18446744073709551616) (x % 18446744073709551616) k hl
  rw [← words x] at e
  unfold aL; rw [e]; omega
theorem aH_top (x k : Nat) : aH (topN x k) = ((topN (x / 18446744073709551616) (k - 64) : Nat) : Int) := by
  have hl : x % 18446744073709551616 < 18446744073709551616 := by omega
  have hl' : topN (x % 18446744073709551616) (min k 64) < 18446744073709551616 := topN_lt _ (min k 64) 64 hl (by omega)
  have e := topN_words (x / 18446744073709551616) (x % 18446744073709551616) k hl
  rw [← words x] at e
  unfold aH; rw [e]; omega
theorem aL_top (x k : Nat) : aL (topN x k) = ((topN (x % 18446744073709551616) (min k 64) : Nat) : Int) := by
  have hl : x % 18446744073709551616 < 18446744073709551616 := by omega
  have hl' : topN (x % 18446744073709551616) (min k 64) < 18446744073709551616 := topN_lt _ (min k 64) 64 hl (by omega)
  have e := topN_words (x / 18446744073709551616) (x % 18446744073709551616) k hl
  rw [← words x] at e
  unfold aL; rw [e]; omega
end Go.Proofs.YtojdlhiibffnfabDoor

/-
  Contracts of pre.width, pre.ones.
-/
namespace Go.Proofs.YtojdlhiibffnfabDoor
open Go.RowKit
set_option linter.unusedVariables false
set_option linter.unusedSimpArgs false

set_option maxHeartbeats 400000 in
theorem pwidth_calls (six : Bool) (hi lo : Int) (w : World) :
    Calls Tryd.prog 45 #[.agg #[.bool six, .int .u64 hi, .int .u64 lo]] w fun e w' => e = .returned (.int .i64 (wideN six : Nat)) ∧ w.alloc (.cells #[.bool six, .int .u64 hi, .int .u64 lo] 24) = w' := by
  cases six
  · go_enter Tryd.func45, Tryd.ntmps45
    go_wp2
    go_ret
    exact ⟨rfl, rfl⟩
  · go_enter Tryd.func45, Tryd.ntmps45
    go_wp2
    go_ret
    exact ⟨rfl, rfl⟩

/-- A word whose last k bits are 1. -/
def mskI (k : Nat) : Int := ((2 ^ k - 1 : Nat) : Int)
theorem msk_wrap (k : Nat) (h : k ≤ 64) : IntKind.u64.wrap (IntKind.u64.wrap (2 ^ k) - 1) = mskI k := by
  have h1 : 2 ^ k ≤ 2 ^ 64 := Nat.pow_le_pow_right (by omega) h
  have h2 : 0 < 2 ^ k := Nat.two_pow_pos k
  have e : (2 : Int) ^ k = ((2 ^ k : Nat) : Int) := by simp
  rw [e, IntKind.wrap_u64, IntKind.wrap_u64]
  unfold mskI
  generalize 2 ^ k = y at *
  omega

set_option maxHeartbeats 400000 in
theorem ones_calls (m : Nat) (h1 : m ≤ 128) (w : World) :
    Calls Tryd.prog 60 #[.int .i64 m] w fun e w' => e = .returned (.tuple #[.int .u64 (mskI (m - 64)), .int .u64 (mskI (min m 64))]) ∧ w = w' := by
  by_cases h : 64 < m
  · go_enter Tryd.func60, Tryd.ntmps60
    go_wp2
    go_ret2
    exact ⟨ret2 (msk_wrap _ (by omega)) (by rw [Nat.min_eq_right (by omega)]; rfl), rfl⟩
  · by_cases hz : 64 = m
    · subst hz
      go_enter Tryd.func60, Tryd.ntmps60
      go_wp2
      go_ret2
      exact ⟨ret2 rfl rfl, rfl⟩
    · go_enter Tryd.func60, Tryd.ntmps60
      go_wp2
      go_ret2
      exact ⟨ret2 (by rw [show m - 64 = 0 from by omega]; rfl) (by rw [Nat.min_eq_left (by omega)]; exact msk_wrap _ (by omega)), rfl⟩

theorem wrap_nat64 (n : Nat) (h : n < 18446744073709551616) : IntKind.u64.wrap (n : Int) = (n : Int) := by rw [IntKind.wrap_u64]; omega
theorem ofInt_nat (a : Nat) : BitVec.ofInt 64 (a : Int) = BitVec.ofNat 64 a := by simp
theorem andNot_msk (a k : Nat) (ha : a < 18446744073709551616) (hk : k ≤ 64) : bits .andNot .u64 (a : Int) (mskI k) = ((lowN a k : Nat) : Int) := by
  show IntKind.u64.wrap ((BitVec.ofInt 64 (a : Int) &&& ~~~ BitVec.ofInt 64 (mskI k)).toNat : Int) = _
  unfold mskI
  rw [ofInt_nat, ofInt_nat, wrap_nat64 _ (BitVec.isLt _)]
  congr 1
  refine Nat.eq_of_testBit_eq fun j => ?_
  rw [lowN_testBit, BitVec.testBit_toNat, BitVec.getLsbD_and, BitVec.getLsbD_not, BitVec.getLsbD_ofNat, BitVec.getLsbD_ofNat, Nat.testBit_two_pow_sub_one]
  by_cases hj : j < 64
  · by_cases h : k ≤ j
    · have h2 : ¬ j < k := by omega
      simp [hj, h, h2]
    · have h2 : j < k := by omega
      simp [hj, h, h2]
  · have : a.testBit j = false := Nat.testBit_lt_two_pow (Nat.lt_of_lt_of_le ha (Nat.pow_le_pow_right (n := 2) (by omega) (show 64 ≤ j by omega)))
    simp [hj, this]
theorem or_msk (a k : Nat) (ha : a < 18446744073709551616) (hk : k ≤ 64) : bits .or .u64 (a : Int) (mskI k) = ((topN a k : Nat) : Int) := by
  show IntKind.u64.wrap ((BitVec.ofInt 64 (a : Int) ||| BitVec.ofInt 64 (mskI k)).toNat : Int) = _
  unfold mskI
  rw [ofInt_nat, ofInt_nat, wrap_nat64 _ (BitVec.isLt _)]
  congr 1
  refine Nat.eq_of_testBit_eq fun j => ?_
  rw [topN_testBit, BitVec.testBit_toNat, BitVec.getLsbD_or, BitVec.getLsbD_ofNat, BitVec.getLsbD_ofNat, Nat.testBit_two_pow_sub_one]
  by_cases hj : j < 64
  · by_cases h : j < k
    · simp [hj, h]
    · simp [hj, h]
  · have : a.testBit j = false := Nat.testBit_lt_two_pow (Nat.lt_of_lt_of_le ha (Nat.pow_le_pow_right (n := 2) (by omega) (show 64 ≤ j by omega)))
    have h2 : ¬ j < k := by omega
    simp [hj, this, h2]
theorem aH_andNot (x m : Nat) (hx : x < 2 ^ 128) (hm : m ≤ 128) : bits .andNot .u64 (aH x) (mskI (m - 64)) = aH (lowN x m) := by
  rw [aH_low]; exact andNot_msk _ _ (by omega) (by omega)
theorem aL_andNot (x m : Nat) : bits .andNot .u64 (aL x) (mskI (min m 64)) = aL (lowN x m) := by
  rw [aL_low]; exact andNot_msk _ _ (by omega) (by omega)
theorem aH_or (x m : Nat) (hx : x < 2 ^ 128) (hm : m ≤ 128) : bits .or .u64 (aH x) (mskI (m - 64)) = aH (topN x m) := by
  rw [aH_top]; exact or_msk _ _ (by omega) (by omega)
theorem aL_or (x m : Nat) : bits .or .u64 (aL x) (mskI (min m 64)) = aL (topN x m) := by
  rw [aL_top]; exact or_msk _ _ (by omega) (by omega)

set_option maxHeartbeats 400000 in
theorem start_calls (six : Bool) (x n : Nat) (hx : x < 2 ^ 128) (hn : n ≤ wideN six) (w : World) :
    Calls Tryd.prog 46 #[.agg #[.bool six, .int .u64 (aH x), .int .u64 (aL x)], .int .i64 n] w fun e w' => e = .returned (.agg #[.bool six, .int .u64 (aH (lowN x (wideN six - n))), .int .u64 (aL (lowN x (wideN six - n)))]) ∧ ((w.alloc (.cells #[.bool six, .int .u64 (aH (lowN x (wideN six - n))), .int .u64 (aL (lowN x (wideN six - n)))] 24)).alloc (.cells #[.bool six, .int .u64 (aH (lowN x (wideN six - n))), .int .u64 (aL (lowN x (wideN six - n)))] 24)).alloc (.cells #[.bool six, .int .u64 (aH x), .int .u64 (aL x)] 24) = w' := by
  have hw := wideN_le six
  obtain ⟨m, hm⟩ : ∃ m, wideN six - n = m := ⟨_, rfl⟩
  have e : ((wideN six : Nat) : Int) - (n : Int) = (m : Int) := by omega
  have m1 : m ≤ 128 := by omega
  rw [hm]
  have E := Lib.hid e
  clear e hm
  go_enter Tryd.func46, Tryd.ntmps46
  go_wp2_with fail
  refine (pwidth_calls six _ _ _).mono ?_
  rintro e w1 ⟨rfl, rfl⟩
  go_wp2_with fail
  rw [E.out]
  refine (ones_calls m m1 _).mono ?_
  rintro e w1 ⟨rfl, rfl⟩
  go_wp2
  go_returns
  rw [aH_andNot x m hx m1, aL_andNot]
  exact ⟨rfl, rfl⟩
end Go.Proofs.YtojdlhiibffnfabDoor

/-
  Contracts of pre.Check.
-/
namespace Go.Proofs.YtojdlhiibffnfabDoor
open Go.RowKit
set_option linter.unusedVariables false
set_option linter.unusedSimpArgs false

/-- What Check answers. -/
def chkE (six : Bool) (x : Nat) (n : Int) : Int := if x < 2 ^ wideN six then (if 0 ≤ n ∧ n ≤ wideN six then (if lowN x (wideN six - n.toNat) = x then 0 else 5) else 2) else 4
theorem mayB_num (six : Bool) (x : Nat) (hx : x < 2 ^ 128) : mayB six (aH x) (aL x) = decide (x < 2 ^ wideN six) := by
  cases six
  · show (decide (aH x = 0) && decide (aL x < 4294967296)) = decide (x < 4294967296)
    unfold aH aL
    rw [Bool.eq_iff_iff]; simp; omega
  · simp [mayB]; exact hx

set_option maxHeartbeats 400000 in
theorem check_form (six : Bool) (x : Nat) (n : Int) (hx : x < 2 ^ 128) (hv : ¬ x < 2 ^ wideN six) (w : World) :
    Calls Tryd.prog 29 #[.agg #[.bool six, .int .u64 (aH x), .int .u64 (aL x), .int .i64 n]] w fun e w' => e = .returned (.int .i64 4) ∧ Below w.heap.size w w' := by
  have hm := Lib.hid ((mayB_num six x hx).trans (decide_eq_false hv))
  have b0 := aH_0 x; have b1 := aL_0 x
  go_enter Tryd.func29, Tryd.ntmps29
  go_wp2_with fail
  refine (may_calls six _ _ b0 b1 _).mono ?_
  rintro e w1 ⟨rfl, rfl⟩
  rw [hm.out]
  go_wp2
  go_ret
  exact ⟨rfl, by go_grown⟩

set_option maxHeartbeats 400000 in
theorem check_neg (six : Bool) (x : Nat) (n : Int) (hx : x < 2 ^ 128) (hv : x < 2 ^ wideN six) (hn : n < 0) (w : World) :
    Calls Tryd.prog 29 #[.agg #[.bool six, .int .u64 (aH x), .int .u64 (aL x), .int .i64 n]] w fun e w' => e = .returned (.int .i64 2) ∧ Below w.heap.size w w' := by
  have hm := Lib.hid ((mayB_num six x hx).trans (decide_eq_true hv))
  have b0 := aH_0 x; have b1 := aL_0 x
  go_enter Tryd.func29, Tryd.ntmps29
  go_wp2_with fail
  refine (may_calls six _ _ b0 b1 _).mono ?_
  rintro e w1 ⟨rfl, rfl⟩
  rw [hm.out]
  go_wp2_with fail
  go_quiet ((fail))
  go_wp2
  go_ret
  exact ⟨rfl, below_drewN (by go_grown) _⟩

set_option maxHeartbeats 400000 in
theorem check_big (six : Bool) (x : Nat) (n : Int) (hx : x < 2 ^ 128) (hv : x < 2 ^ wideN six) (hn : (wideN six : Int) < n) (w : World) :
    Calls Tryd.prog 29 #[.agg #[.bool six, .int .u64 (aH x), .int .u64 (aL x), .int .i64 n]] w fun e w' => e = .returned (.int .i64 2) ∧ Below w.heap.size w w' := by
  have hm := Lib.hid ((mayB_num six x hx).trans (decide_eq_true hv))
  have b0 := aH_0 x; have b1 := aL_0 x
  have h0 : ¬ n < 0 := by omega
  have hd : decide (n < 0) = false := by simpa using h0
  go_enter Tryd.func29, Tryd.ntmps29
  go_wp2_with fail
  refine (may_calls six _ _ b0 b1 _).mono ?_
  rintro e w1 ⟨rfl, rfl⟩
  rw [hm.out]
  go_wp2_with fail
  go_region_held3 (fun w' => w'.cell? ⟨w.heap.size, 0, none⟩ = some (.bool six) ∧ w'.cell? ⟨w.heap.size, 1, none⟩ = some (.int .u64 (aH x)) ∧ w'.cell? ⟨w.heap.size, 2, none⟩ = some (.int .u64 (aL x)) ∧ w'.cell? ⟨w.heap.size, 3, none⟩ = some (.int .i64 n)) (simp [go_sem, World.cell?_alloc_past])
    ((go_at_call 45; refine (pwidth_calls six _ _ _).mono ?_; rintro e w' ⟨rfl, rfl⟩))
  go_wp2
  go_ret
  exact ⟨rfl, by go_grown⟩

set_option maxHeartbeats 400000 in
theorem check_ok (six : Bool) (x n : Nat) (hx : x < 2 ^ 128) (hv : x < 2 ^ wideN six) (hn : n ≤ wideN six) (hl : lowN x (wideN six - n) = x) (w : World) :
    Calls Tryd.prog 29 #[.agg #[.bool six, .int .u64 (aH x), .int .u64 (aL x), .int .i64 n]] w fun e w' => e = .returned (.int .i64 0) ∧ Below w.heap.size w w' := by
  have hm := Lib.hid ((mayB_num six x hx).trans (decide_eq_true hv))
  have b0 := aH_0 x; have b1 := aL_0 x
  have HL := Lib.hid hl
  clear hl
  go_enter Tryd.func29, Tryd.ntmps29
  go_wp2_with fail
  refine (may_calls six _ _ b0 b1 _).mono ?_
  rintro e w1 ⟨rfl, rfl⟩
  rw [hm.out]
  go_wp2_with fail
  go_region_held3 (fun w' => w'.cell? ⟨w.heap.size, 0, none⟩ = some (.bool six) ∧ w'.cell? ⟨w.heap.size, 1, none⟩ = some (.int .u64 (aH x)) ∧ w'.cell? ⟨w.heap.size, 2, none⟩ = some (.int .u64 (aL x)) ∧ w'.cell? ⟨w.heap.size, 3, none⟩ = some (.int .i64 n)) (simp [go_sem, World.cell?_alloc_past])
    ((go_at_call 45; refine (pwidth_calls six _ _ _).mono ?_; rintro e w' ⟨rfl, rfl⟩))
  go_wp2_with fail
  go_region_held3 (fun w' => w'.cell? ⟨w.heap.size, 0, none⟩ = some (.bool six) ∧ w'.cell? ⟨w.heap.size, 1, none⟩ = some (.int .u64 (aH x)) ∧ w'.cell? ⟨w.heap.size, 2, none⟩ = some (.int .u64 (aL x)) ∧ w'.cell? ⟨w.heap.size, 3, none⟩ = some (.int .i64 n)) (simp [go_sem, World.cell?_alloc_past])
    ((go_at_call 46; refine (start_calls six x n hx hn _).mono ?_; rintro e w' ⟨rfl, rfl⟩; rw [HL.out]))
  go_wp2
  go_ret
  exact ⟨rfl, by go_grown⟩

set_option maxHeartbeats 400000 in
theorem check_bits (six : Bool) (x n : Nat) (hx : x < 2 ^ 128) (hv : x < 2 ^ wideN six) (hn : n ≤ wideN six) (hl : lowN x (wideN six - n) ≠ x) (w : World) :
    Calls Tryd.prog 29 #[.agg #[.bool six, .int .u64 (aH x), .int .u64 (aL x), .int .i64 n]] w fun e w' => e = .returned (.int .i64 5) ∧ Below w.heap.size w w' := by
  have hm := Lib.hid ((mayB_num six x hx).trans (decide_eq_true hv))
  have b0 := aH_0 x; have b1 := aL_0 x
  obtain ⟨y, hy⟩ : ∃ y, lowN x (wideN six - n) = y := ⟨_, rfl⟩
  rw [hy] at hl
  have HL := Lib.hid hy
  clear hy
  by_cases hh : ¬ aH y = aH x
  · have hq : (aH y == aH x) = false := by simpa using hh
    go_enter Tryd.func29, Tryd.ntmps29
    go_wp2_with fail
    refine (may_calls six _ _ b0 b1 _).mono ?_
    rintro e w1 ⟨rfl, rfl⟩
    rw [hm.out]
    go_wp2_with fail
    go_region_held3 (fun w' => w'.cell? ⟨w.heap.size, 0, none⟩ = some (.bool six) ∧ w'.cell? ⟨w.heap.size, 1, none⟩ = some (.int .u64 (aH x)) ∧ w'.cell? ⟨w.heap.size, 2, none⟩ = some (.int .u64 (aL x)) ∧ w'.cell? ⟨w.heap.size, 3, none⟩ = some (.int .i64 n)) (simp [go_sem, World.cell?_alloc_past])
      ((go_at_call 45; refine (pwidth_calls six _ _ _).mono ?_; rintro e w' ⟨rfl, rfl⟩))
    go_wp2_with fail
    go_region_held3 (fun w' => w'.cell? ⟨w.heap.size, 0, none⟩ = some (.bool six) ∧ w'.cell? ⟨w.heap.size, 1, none⟩ = some (.int .u64 (aH x)) ∧ w'.cell? ⟨w.heap.size, 2, none⟩ = some (.int .u64 (aL x)) ∧ w'.cell? ⟨w.heap.size, 3, none⟩ = some (.int .i64 n)) (simp [go_sem, World.cell?_alloc_past])
      ((go_at_call 46; refine (start_calls six x n hx hn _).mono ?_; rintro e w' ⟨rfl, rfl⟩; rw [HL.out]))
    go_wp2
    go_ret
    exact ⟨rfl, by go_grown⟩
  · have hq : (aL y == aL x) = false := by
      have : aL y ≠ aL x := fun h => hl (a_inj (Decidable.of_not_not hh) h)
      simpa using this
    have HH := Lib.hid (Decidable.of_not_not hh)
    clear hh
    go_enter Tryd.func29, Tryd.ntmps29
    go_wp2_with fail
    refine (may_calls six _ _ b0 b1 _).mono ?_
    rintro e w1 ⟨rfl, rfl⟩
    rw [hm.out]
    go_wp2_with fail
    go_region_held3 (fun w' => w'.cell? ⟨w.heap.size, 0, none⟩ = some (.bool six) ∧ w'.cell? ⟨w.heap.size, 1, none⟩ = some (.int .u64 (aH x)) ∧ w'.cell? ⟨w.heap.size, 2, none⟩ = some (.int .u64 (aL x)) ∧ w'.cell? ⟨w.heap.size, 3, none⟩ = some (.int .i64 n)) (simp [go_sem, World.cell?_alloc_past])
      ((go_at_call 45; refine (pwidth_calls six _ _ _).mono ?_; rintro e w' ⟨rfl, rfl⟩))
    go_wp2_with fail
    go_region_held3 (fun w' => w'.cell? ⟨w.heap.size, 0, none⟩ = some (.bool six) ∧ w'.cell? ⟨w.heap.size, 1, none⟩ = some (.int .u64 (aH x)) ∧ w'.cell? ⟨w.heap.size, 2, none⟩ = some (.int .u64 (aL x)) ∧ w'.cell? ⟨w.heap.size, 3, none⟩ = some (.int .i64 n)) (simp [go_sem, World.cell?_alloc_past])
      ((go_at_call 46; refine (start_calls six x n hx hn _).mono ?_; rintro e w' ⟨rfl, rfl⟩; rw [HL.out, HH.out]))
    go_wp2
    go_ret
    exact ⟨rfl, by go_grown⟩
end Go.Proofs.YtojdlhiibffnfabDoor

/-
  Contract of pre.Check (one for all).
-/
namespace Go.Proofs.YtojdlhiibffnfabDoor
open Go.RowKit
set_option linter.unusedVariables false
set_option linter.unusedSimpArgs false

theorem check_calls (six : Bool) (x : Nat) (n : Int) (hx : x < 2 ^ 128) (w : World) :
    Calls Tryd.prog 29 #[.agg #[.bool six, .int .u64 (aH x), .int .u64 (aL x), .int .i64 n]] w fun e w' => e = .returned (.int .i64 (chkE six x n)) ∧ Below w.heap.size w w' := by
  by_cases hv : x < 2 ^ wideN six
  · by_cases hn : 0 ≤ n ∧ n ≤ wideN six
    · obtain ⟨k, rfl⟩ := Int.eq_ofNat_of_zero_le hn.1
      have hk : k ≤ wideN six := by omega
      by_cases hl : lowN x (wideN six - k) = x
      · rw [show chkE six x k = 0 from by unfold chkE; rw [if_pos hv, if_pos hn, if_pos (by simpa using hl)]]
        exact check_ok six x k hx hv hk hl w
      · rw [show chkE six x k = 5 from by unfold chkE; rw [if_pos hv, if_pos hn, if_neg (by simpa using hl)]]
        exact check_bits six x k hx hv hk hl w
    · rw [show chkE six x n = 2 from by unfold chkE; rw [if_pos hv, if_neg hn]]
      by_cases h0 : n < 0
      · exact check_neg six x n hx hv h0 w
      · exact check_big six x n hx hv (by omega) w
  · rw [show chkE six x n = 4 from by unfold chkE; rw [if_neg hv]]
    exact check_form six x n hx hv w
theorem chk0 {six : Bool} {x : Nat} {n : Int} (h : chkE six x n = 0) : x < 2 ^ wideN six ∧ ∃ k : Nat, n = k ∧ k ≤ wideN six ∧ lowN x (wideN six - k) = x := by
  unfold chkE at h
  split at h
  · rename_i hv
    split at h
    · rename_i hn
      split at h
      · rename_i hl; exact ⟨hv, n.toNat, by omega, by omega, hl⟩
      · omega
    · omega
  · omega
theorem chk_mk (six : Bool) (x k : Nat) (hv : x < 2 ^ wideN six) (hk : k ≤ wideN six) (hl : lowN x (wideN six - k) = x) : chkE six x k = 0 := by
  unfold chkE; rw [if_pos hv, if_pos (by omega), if_pos (by simpa using hl)]
theorem lt128 {six : Bool} {x : Nat} (h : x < 2 ^ wideN six) : x < 2 ^ 128 := Nat.lt_of_lt_of_le h (Nat.pow_le_pow_right (by omega) (wideN_le six))

theorem may_num (six : Bool) (x : Nat) (hx : x < 2 ^ 128) (b : Bool) (hb : decide (x < 2 ^ wideN six) = b) (w : World) :
    Calls Tryd.prog 21 #[.agg #[.bool six, .int .u64 (aH x), .int .u64 (aL x)]] w fun e w' => e = .returned (.bool b) ∧ w.alloc (.cells #[.bool six, .int .u64 (aH x), .int .u64 (aL x)] 24) = w' := by
  rw [← hb, ← mayB_num six x hx]
  exact may_calls six _ _ (aH_0 x) (aL_0 x) w

/-- Two numbers are the same, or differ in a word. -/
theorem eq3 (y x : Nat) : y = x ∨ (aH y == aH x) = false ∨ aH y = aH x ∧ (aL y == aL x) = false := by
  by_cases h : aH y = aH x
  · by_cases l : aL y = aL x
    · exact .inl (a_inj h l)
    · exact .inr (.inr ⟨h, by simpa using l⟩)
  · exact .inr (.inl (by simpa using h))
theorem ne_of_h {y x : Nat} (h : (aH y == aH x) = false) : y ≠ x := by rintro rfl; simp at h
theorem ne_of_l {y x : Nat} (h : (aL y == aL x) = false) : y ≠ x := by rintro rfl; simp at h

end Go.Proofs.YtojdlhiibffnfabDoor

/-
  Contracts of pre.Text.
-/
namespace Go.Proofs.YtojdlhiibffnfabDoor
open Go.RowKit Go.Sort
set_option linter.unusedVariables false
set_option linter.unusedSimpArgs false

/-- The text of a prefix that is valid. -/
def preT (six : Bool) (x n : Nat) : List UInt8 := textL six (x / 18446744073709551616) (x % 18446744073709551616) ++ [47] ++ numText 10 3 n
theorem cat2 (a b : List UInt8) : (⟨a.toArray⟩ : ByteArray) ++ ⟨b.toArray⟩ = ⟨(a ++ b).toArray⟩ := by
  apply ByteArray.ext
  simp
theorem cat3 (a b c : List UInt8) : (⟨a.toArray⟩ : ByteArray) ++ ⟨b.toArray⟩ ++ ⟨c.toArray⟩ = ⟨(a ++ b ++ c).toArray⟩ := by rw [cat2, cat2]
theorem textL_le (six : Bool) (H L : Nat) : (textL six H L).length ≤ 39 := by
  unfold textL
  split
  · exact (six_facts _ rfl).2.2.2
  · split
    · have := (four_facts L).2.2.1; omega
    · simp
theorem itoa_small (n : Nat) (h : n < 256) : Lib.itoa (n : Int) = numText 10 3 n := by
  have := dec_small ⟨n, h⟩
  simp only at this
  rw [← this]
  simp [Lib.itoa]
theorem itoa_calls (n : Nat) (h : n < 256) (w : World) (ht : Tabs w) :
    Calls Tryd.prog 30 #[.int .i64 (n : Int)] w fun e w' => e = .returned (.string ⟨(numText 10 3 n).toArray⟩) ∧ Below w.heap.size w w' := by
  refine (Tryd.strconv_Itoa (n : Int) (by omega) (by omega) w ht.2.1).mono ?_
  rintro e w' ⟨rfl, k, os, rfl⟩
  exact ⟨by rw [itoa_small n h], grow_below w os k⟩
theorem textE0 (six : Bool) (x : Nat) (hx : x < 2 ^ wideN six) : textE six (x / 18446744073709551616) (x % 18446744073709551616) = 0 := by
  cases six
  · have hx' : x < 4294967296 := hx
    unfold textE; rw [if_neg (by decide), if_pos ⟨by omega, by omega⟩]
  · rfl

set_option maxHeartbeats 400000 in
theorem pText_err (six : Bool) (x : Nat) (n e0 : Int) (hx : x < 2 ^ 128) (hc : chkE six x n = e0) (he : (e0 == 0) = false) (w : World) :
    Calls Tryd.prog 16 #[.agg #[.bool six, .int .u64 (aH x), .int .u64 (aL x), .int .i64 n]] w fun e w' => e = .returned (.tuple #[.string ⟨#[]⟩, .int .i64 e0]) ∧ Below w.heap.size w w' := by
  have C := Lib.hid hc
  clear hc
  go_enter Tryd.func16, Tryd.ntmps16
  go_wp2_with fail
  refine (check_calls six x n hx _).mono ?_
  rw [C.out]
  rintro e w1 ⟨rfl, hb1⟩
  have b1 := thenBelow ((Below.refl _ w).alloc (Nat.le_refl _) _) hb1
  clear hb1
  go_wp2
  go_ret2
  exact ⟨rfl, b1⟩
set_option maxHeartbeats 1000000 in
theorem pText_ok (six : Bool) (x n : Nat) (hx : x < 2 ^ wideN six) (hn : n ≤ wideN six) (hc : chkE six x n = 0) (w : World) (ht : Tabs w) :
    Calls Tryd.prog 16 #[.agg #[.bool six, .int .u64 (aH x), .int .u64 (aL x), .int .i64 n]] w fun e w' => e = .returned (.tuple #[.string ⟨(preT six x n).toArray⟩, .int .i64 0]) ∧ Below w.heap.size w w' := by
  have hW := wideN_le six
  have hx' := lt128 hx
  have T1 := Lib.hid (fun (W : World) (h : Tabs W) => text_calls six (x / 18446744073709551616) (x % 18446744073709551616) (by omega) (by omega) W h)
  rw [textE0 six x hx] at T1
  have I1 := Lib.hid (fun (W : World) (h : Tabs W) => itoa_calls n (by omega) W h)
  have HT := Lib.hid ht
  have C := Lib.hid hc
  have hdef : preT six x n = textL six (x / 18446744073709551616) (x % 18446744073709551616) ++ [47] ++ numText 10 3 n := rfl
  have HD := Lib.hid hdef
  clear ht hc hdef
  have lT := textL_le six (x / 18446744073709551616) (x % 18446744073709551616)
  have lN := numText_le 10 3 n
  generalize textL six (x / 18446744073709551616) (x % 18446744073709551616) = T at *
  generalize numText 10 3 n = N at *
  generalize preT six x n = R at *
  go_enter Tryd.func16, Tryd.ntmps16
  go_wp2_with fail
  refine (check_calls six x n hx' _).mono ?_
  rw [C.out]
  rintro e w1 ⟨rfl, hb1⟩
  have b1 := thenBelow ((Below.refl _ w).alloc (Nat.le_refl _) _) hb1
  have HT1 := Lib.hid ((HT.out.alloc _).keep hb1)
  have P1 := (PreAt.new w six (aH x) (aL x) n 30).keep hb1
  have HP1 := Lib.hid P1
  obtain ⟨p0, p1, p2, p3, pl⟩ := P1
  clear hb1
  go_wp2_with fail
  refine (T1.out _ HT1.out).mono ?_
  rintro e w2 ⟨rfl, hb2⟩
  have b2 := thenBelow b1 hb2
  have HT2 := Lib.hid (HT1.out.keep hb2)
  clear p0 p1 p2 p3 pl
  obtain ⟨p0, p1, p2, p3, pl⟩ := HP1.out.keep hb2
  clear hb2 b1 HT1 HP1
  go_wp2_with fail
  refine (I1.out _ HT2.out).mono ?_
  rintro e w3 ⟨rfl, hb3⟩
  go_wp2
  go_ret2
  refine ⟨?_, thenBelow b2 hb3⟩
  rw [HD.out, ← cat3]
  rfl

end Go.Proofs.YtojdlhiibffnfabDoor
