/-
  The document's AddrParse at eight numbers.
-/
import Derived.Test.YtojdlhiibffnfabDoorRefParse
namespace Go.Proofs.YtojdlhiibffnfabDoor
open Go.RowKit Go.Sort
set_option linter.unusedVariables false
set_option linter.unusedSimpArgs false

/-- Not so many numbers: what a reading says. -/
theorem nums_not (B : Nat) (M : Int) (hB : B ≤ 16) (hB0 : 1 ≤ B) (hM0 : 0 ≤ M) (hM : M ≤ 65535) (c : UInt8) (s : List UInt8) (hl : s.length ≤ 600) (m : Nat) (h : ∀ ns, rn B M c [] (-1) s = some ns → ns.length ≠ m) (w : World) :
    Calls Tryd.prog 14 #[.string ⟨s.toArray⟩, .int .u8 (c.toNat : Int), .int .i64 B, .int .i64 M] w fun e w' => (e = .returned (.tuple #[.slice none 0 0, .bool false]) ∨ ∃ p n cap, e = .returned (.tuple #[.slice p n cap, .bool true]) ∧ ((n : Int) == (m : Int)) = false) ∧ Below w.heap.size w w' := by
  refine (refNums_calls B M hB hB0 hM0 hM c s hl w).mono ?_
  rintro e w' ⟨ho, hb⟩
  refine ⟨?_, hb⟩
  cases hr : rn B M c [] (-1) s with
  | none => rw [hr] at ho; exact .inl ho
  | some ns =>
    rw [hr] at ho
    obtain ⟨v, rfl, hown⟩ := ho
    have hn := h ns hr
    rcases hown.2 with ⟨rfl, hz⟩ | ⟨g, cap, cur, rfl, _⟩
    · exact .inr ⟨none, 0, 0, rfl, by simp; omega⟩
    · exact .inr ⟨_, _, _, rfl, by simp; omega⟩
theorem try8 (l : List Int) (hl : l.length = 8) (hv : ∀ v ∈ l, 0 ≤ v ∧ v ≤ 65535) (s : List UInt8) (R : Value) (hR : tryAns true l s = R) (g cap b : Nat)
    (w : World) (hg : g < w.heap.size) (hb : b < w.heap.size) (hcs : ∀ j u, l[j]? = some u → w.cell? ⟨g, j, none⟩ = some (.int .i64 u)) (hs : w.cell? ⟨b, 0, none⟩ = some (.string ⟨s.toArray⟩)) :
    Calls Tryd.prog 11 #[.slice (some ⟨g, 0, none⟩) 8 cap, .int .i64 16, .pointer (some ⟨b, 0, none⟩)] w fun e w' => e = .returned R ∧ Below w.heap.size w w' := by
  have c := try_calls true l hl hv s g cap b w hg hb hcs hs
  rw [hl, hR] at c
  exact c
set_option maxHeartbeats 4000000 in
set_option maxRecDepth 100000 in
theorem ap_eight (s : List UInt8) (hl : s.length ≤ 600) (h4 : ∀ ns, rn 10 255 46 [] (-1) s = some ns → ns.length ≠ 4) (ns : List Int) (hr : rn 16 65535 58 [] (-1) s = some ns) (hn : ns.length = 8) (w : World) :
    Calls Tryd.prog 6 #[.string ⟨s.toArray⟩] w fun e w' => e = .returned (tryAns true ns s) ∧ Below w.heap.size w w' := by
  have hsz : (⟨s.toArray⟩ : ByteArray).size = s.length := by simp [ByteArray.size]
  have hli : ¬ 600 < (s.length : Int) := by omega
  have K0 := Lib.hid (fun (W : World) => nums_not 10 255 (by decide) (by decide) (by decide) (by decide) 46 s hl 4 h4 W)
  have K1 := Lib.hid (fun (W : World) => refNums_calls 16 65535 (by decide) (by decide) (by decide) (by decide) 58 s hl W)
  rw [hr] at K1
  have HV := Lib.hid (rn_bd 16 65535 58 s [] (-1) ns (by simp) hr).1
  clear hr h4
  obtain ⟨sx, H, L, E, hR⟩ := tryAns_form true ns s
  rw [hR]
  have K2 := Lib.hid (try8 ns hn HV.out s _ hR)
  clear hR HV
  go_enter Tryd.func6, Tryd.ntmps6
  go_wp2_with fail
  refine (K0.out _).mono ?_
  rintro e w0 ⟨ho, hb0⟩
  have b0 := thenBelow (((Below.refl _ w).alloc (Nat.le_refl _) (.cells #[.string ⟨s.toArray⟩] 9)).alloc (by simp) (.cells #[.bool false, .int .u64 0, .int .u64 0] 24)) hb0
  have HR0 := Lib.hid ((AddrV.new (w.alloc (.cells #[.string ⟨s.toArray⟩] 9)) false 0 0 24).keep hb0)
  have hs0 : w0.cell? ⟨w.heap.size, 0, none⟩ = some (.string ⟨s.toArray⟩) := (hb0.cell (p := ⟨w.heap.size, 0, none⟩) (by simp; omega)).trans (by rw [World.cell?_alloc_lt _ _ _ (by simp)]; exact cell_one_new _ _ _ 0 _ rfl)
  have hbw0 : w.heap.size < w0.heap.size := by have := hb0.size; simp at this; omega
  clear hb0 K0
  rcases ho with rfl | ⟨p, n, cap, rfl, hn4⟩
  all_goals
    go_wp2_with fail
    refine (K1.out _).mono ?_
    rintro e w1 ⟨⟨v, rfl, hown⟩, hb1⟩
    obtain ⟨g2, cap2, rfl, hg1, hg3⟩ := hown.form (by omega)
    have HCB : Hid (∀ j u, ns[j]? = some u → w1.cell? ⟨g2, j, none⟩ = some (.int .i64 u)) := Lib.hid (by
      intro j u hj
      have hjl := (List.getElem?_eq_some_iff.1 hj).1
      rw [hown.cellAt j (by omega), List.getElem?_map, hj]; rfl)
    clear hown K1
    rw [hn]
    have b1 := thenBelow b0 hb1
    have HR1 := Lib.hid (HR0.out.keep hb1)
    have hs1 : w1.cell? ⟨w.heap.size, 0, none⟩ = some (.string ⟨s.toArray⟩) := (hb1.cell (p := ⟨w.heap.size, 0, none⟩) hbw0).trans hs0
    have hbw : w.heap.size < w1.heap.size := Nat.lt_of_lt_of_le hbw0 hb1.size
    have HK := Lib.hid (K2.out g2 cap2 w.heap.size w1 hg3 hbw HCB.out hs1)
    clear hb1 K2 HCB HR0 b0 hs0
    go_wp2_with fail
    refine HK.out.mono ?_
    rintro e w2 ⟨rfl, hb2⟩
    have b2 := thenBelow b1 hb2
    obtain ⟨⟨r0, r1, r2, rl⟩, rf⟩ := HR1.out.keep hb2
    have f0 := rf 0; have f1 := rf 1; have f2 := rf 2
    simp at r0 r1 r2 rl f0 f1 f2
    clear rf hb2 HR1 HK b1
    go_wp2
    try simp only [Exit.inBlock, Exit.then]
    refine bodyPost_ret (v := .tuple #[.agg #[.bool sx, .int .u64 H, .int .u64 L], .int .i64 E]) (by simp [results, Tryd.results6, go_sem, r0, r1, r2]) rfl ?_
    exact ⟨rfl, ((b2.setCell (by simp) _).setCell (by simp) _).setCell (by simp) _⟩
end Go.Proofs.YtojdlhiibffnfabDoor
