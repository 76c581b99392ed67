/-
  The document's AddrParse, way by way.
-/
import Derived.Test.YtojdlhiibffnfabDoorRefTryAll
import Derived.Test.YtojdlhiibffnfabDoorOwns
namespace Go.Proofs.YtojdlhiibffnfabDoor
open Go.RowKit Go.Sort
set_option linter.unusedVariables false
set_option linter.unusedSimpArgs false

theorem ap_long (s : List UInt8) (hl : 600 < s.length) (hm : s.length ≤ 9223372036854775807) (w : World) :
    Calls Tryd.prog 6 #[.string ⟨s.toArray⟩] w fun e w' => e = .returned (.tuple #[.agg #[.bool false, .int .u64 0, .int .u64 0], .int .i64 1]) ∧ Below w.heap.size w w' := by
  have hsz : (⟨s.toArray⟩ : ByteArray).size = s.length := by simp [ByteArray.size]
  have hli : 600 < (s.length : Int) := by omega
  go_enter Tryd.func6, Tryd.ntmps6
  go_wp2
  go_returns
  exact ⟨rfl, by go_grown⟩

theorem tryAns_form (six : Bool) (l : List Int) (s : List UInt8) : ∃ (sx : Bool) (H L E : Int), tryAns six l s = .tuple #[.agg #[.bool sx, .int .u64 H, .int .u64 L], .int .i64 E] := by
  unfold tryAns
  split
  · exact ⟨_, _, _, _, rfl⟩
  · exact ⟨_, _, _, _, rfl⟩
theorem try4 (l : List Int) (hl : l.length = 4) (hv : ∀ v ∈ l, 0 ≤ v ∧ v ≤ 255) (s : List UInt8) (R : Value) (hR : tryAns false l s = R) (g cap b : Nat)
    (w : World) (hg : g < w.heap.size) (hb : b < w.heap.size) (hcs : ∀ j u, l[j]? = some u → w.cell? ⟨g, j, none⟩ = some (.int .i64 u)) (hs : w.cell? ⟨b, 0, none⟩ = some (.string ⟨s.toArray⟩)) :
    Calls Tryd.prog 11 #[.slice (some ⟨g, 0, none⟩) 4 cap, .int .i64 8, .pointer (some ⟨b, 0, none⟩)] w fun e w' => e = .returned R ∧ Below w.heap.size w w' := by
  have c := try_calls false l hl (fun v h => ⟨(hv v h).1, by have := (hv v h).2; omega⟩) s g cap b w hg hb hcs hs
  rw [hl, hR] at c
  exact c
set_option maxHeartbeats 4000000 in
set_option maxRecDepth 100000 in
theorem ap_four (s : List UInt8) (hl : s.length ≤ 600) (ns : List Int) (hr : rn 10 255 46 [] (-1) s = some ns) (hn : ns.length = 4) (w : World) :
    Calls Tryd.prog 6 #[.string ⟨s.toArray⟩] w fun e w' => e = .returned (tryAns false ns s) ∧ Below w.heap.size w w' := by
  have hsz : (⟨s.toArray⟩ : ByteArray).size = s.length := by simp [ByteArray.size]
  have hli : ¬ 600 < (s.length : Int) := by omega
  have K1 := Lib.hid (fun (W : World) => refNums_calls 10 255 (by decide) (by decide) (by decide) (by decide) 46 s hl W)
  rw [hr] at K1
  have HV := Lib.hid (rn_bd 10 255 46 s [] (-1) ns (by simp) hr).1
  clear hr
  obtain ⟨sx, H, L, E, hR⟩ := tryAns_form false ns s
  rw [hR]
  have K2 := Lib.hid (try4 ns hn HV.out s _ hR)
  clear hR HV
  go_enter Tryd.func6, Tryd.ntmps6
  go_wp2_with fail
  refine (K1.out _).mono ?_
  rintro e w1 ⟨⟨v, rfl, hown⟩, hb1⟩
  obtain ⟨g2, cap2, rfl, hg1, hg3⟩ := hown.form (by omega)
  have HCB : Hid (∀ j u, ns[j]? = some u → w1.cell? ⟨g2, j, none⟩ = some (.int .i64 u)) := Lib.hid (by
    intro j u hj
    have hjl := (List.getElem?_eq_some_iff.1 hj).1
    rw [hown.cellAt j (by omega), List.getElem?_map, hj]; rfl)
  clear hown K1
  rw [hn]
  have b1 := thenBelow (((Below.refl _ w).alloc (Nat.le_refl _) (.cells #[.string ⟨s.toArray⟩] 9)).alloc (by simp) (.cells #[.bool false, .int .u64 0, .int .u64 0] 24)) hb1
  have HR1 := Lib.hid ((AddrV.new (w.alloc (.cells #[.string ⟨s.toArray⟩] 9)) false 0 0 24).keep hb1)
  have hs1 : w1.cell? ⟨w.heap.size, 0, none⟩ = some (.string ⟨s.toArray⟩) := (hb1.cell (p := ⟨w.heap.size, 0, none⟩) (by simp; omega)).trans (by rw [World.cell?_alloc_lt _ _ _ (by simp)]; exact cell_one_new _ _ _ 0 _ rfl)
  have hbw : w.heap.size < w1.heap.size := by have := hb1.size; simp at this; omega
  have HK := Lib.hid (K2.out g2 cap2 w.heap.size w1 hg3 hbw HCB.out hs1)
  clear hb1 K2 HCB
  go_wp2_with fail
  refine HK.out.mono ?_
  rintro e w2 ⟨rfl, hb2⟩
  have b2 := thenBelow b1 hb2
  obtain ⟨⟨r0, r1, r2, rl⟩, rf⟩ := HR1.out.keep hb2
  have f0 := rf 0; have f1 := rf 1; have f2 := rf 2
  simp at r0 r1 r2 rl f0 f1 f2
  clear rf hb2 HR1 HK b1
  go_wp2
  try simp only [Exit.inBlock, Exit.then]
  refine bodyPost_ret (v := .tuple #[.agg #[.bool sx, .int .u64 H, .int .u64 L], .int .i64 E]) (by simp [results, Tryd.results6, go_sem, r0, r1, r2]) rfl ?_
  exact ⟨rfl, ((b2.setCell (by simp) _).setCell (by simp) _).setCell (by simp) _⟩
end Go.Proofs.YtojdlhiibffnfabDoor
