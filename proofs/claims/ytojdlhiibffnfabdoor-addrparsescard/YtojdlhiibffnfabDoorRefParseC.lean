/-
  The document's AddrParse where neither four nor eight numbers are read and no two colons stand side by side.
-/
import Derived.Test.YtojdlhiibffnfabDoorRefParseB
namespace Go.Proofs.YtojdlhiibffnfabDoor
open Go.RowKit Go.Sort
set_option linter.unusedVariables false
set_option linter.unusedSimpArgs false

theorem index_up (T : List UInt8) (k : Nat) (h : k + 1 < T.length) (W : World) :
    (Instr.index 9 (.string ⟨T.toArray⟩) (.int .i64 ((k : Int) + 1))).run Tryd.prog W = .ok (.int .u8 ((T[k + 1].toNat : Nat) : Int)) W :=
  index_list T (k + 1) h W
theorem byte_ne {x : UInt8} (h : x ≠ 58) : ((x.toNat : Int) == 58) = false ∧ ((x.toNat : Int) != 58) = true ∧ ¬ (x.toNat : Int) = 58 := by
  have : ¬ (x.toNat : Int) = 58 := fun e => h (UInt8.toNat_inj.1 (show x.toNat = 58 by omega))
  simp [this]
set_option maxHeartbeats 4000000 in
set_option maxRecDepth 100000 in
theorem ap_none (s : List UInt8) (hl : s.length ≤ 600) (h4 : ∀ ns, rn 10 255 46 [] (-1) s = some ns → ns.length ≠ 4) (h8 : ∀ ns, rn 16 65535 58 [] (-1) s = some ns → ns.length ≠ 8)
    (hno : ∀ k (h : k + 1 < s.length), ¬ (s[k] = 58 ∧ s[k + 1] = 58)) (w : World) :
    Calls Tryd.prog 6 #[.string ⟨s.toArray⟩] w fun e w' => e = .returned (.tuple #[.agg #[.bool false, .int .u64 0, .int .u64 0], .int .i64 4]) ∧ Below w.heap.size w w' := by
  have hsz : (⟨s.toArray⟩ : ByteArray).size = s.length := by simp [ByteArray.size]
  have hli : ¬ 600 < (s.length : Int) := by omega
  have K0 := Lib.hid (fun (W : World) => nums_not 10 255 (by decide) (by decide) (by decide) (by decide) 46 s hl 4 h4 W)
  have K1 := Lib.hid (fun (W : World) => nums_not 16 65535 (by decide) (by decide) (by decide) (by decide) 58 s hl 8 h8 W)
  have NO := Lib.hid hno
  clear h4 h8 hno
  go_enter Tryd.func6, Tryd.ntmps6
  go_wp2_with fail
  refine (K0.out _).mono ?_
  rintro e w0 ⟨ho, hb0⟩
  have b0 := thenBelow (((Below.refl _ w).alloc (Nat.le_refl _) (.cells #[.string ⟨s.toArray⟩] 9)).alloc (by simp) (.cells #[.bool false, .int .u64 0, .int .u64 0] 24)) hb0
  have HR0 := Lib.hid ((AddrV.new (w.alloc (.cells #[.string ⟨s.toArray⟩] 9)) false 0 0 24).keep hb0)
  have hs0 : w0.cell? ⟨w.heap.size, 0, none⟩ = some (.string ⟨s.toArray⟩) := (hb0.cell (p := ⟨w.heap.size, 0, none⟩) (by simp; omega)).trans (by rw [World.cell?_alloc_lt _ _ _ (by simp)]; exact cell_one_new _ _ _ 0 _ rfl)
  have hbw0 : w.heap.size < w0.heap.size := by have := hb0.size; simp at this; omega
  clear hb0 K0
  rcases ho with rfl | ⟨p, n, cap, rfl, hn4⟩
  all_goals
    go_wp2_with fail
    refine (K1.out _).mono ?_
    rintro e w1 ⟨ho1, hb1⟩
    have b1 := thenBelow b0 hb1
    have hs1 : w1.cell? ⟨w.heap.size, 0, none⟩ = some (.string ⟨s.toArray⟩) := (hb1.cell (p := ⟨w.heap.size, 0, none⟩) hbw0).trans hs0
    have HR1 := Lib.hid (HR0.out.keep hb1)
    clear hb1 K1 b0 hs0 hbw0 HR0
    rcases ho1 with rfl | ⟨p1, n1, cap1, rfl, hn8⟩
  all_goals
    go_wp2
    go_loopw [9] (fun iv wr => ∃ k : Nat, k ≤ s.length ∧ iv = .int .i64 k ∧ wr = w1) (fun iv _ => s.length - (intOf iv).toNat)
    case atStart => exact ⟨0, by omega, rfl, rfl⟩
    case round =>
      obtain ⟨k, hk, rfl, rfl⟩ := hrel
      by_cases hlt : k + 1 < s.length
      · have hx := index_list s k (by omega)
        have hy := index_up s k hlt
        have hn := NO.out k hlt
        generalize s[k]'(by omega) = x at hx hn
        generalize s[k + 1]'hlt = y at hy hn
        by_cases e : x = 58
        · subst e
          obtain ⟨y0, y1, y2⟩ := byte_ne (fun h => hn ⟨rfl, h⟩)
          replace hx : ∀ W, (Instr.index 9 (.string ⟨s.toArray⟩) (.int .i64 (k : Int))).run Tryd.prog W = .ok (.int .u8 58) W := hx
          clear hn
          go_wp2_with fail
          go_roundw
          case rel => exact ⟨k + 1, by omega, by go_num, by first | rfl | trivial⟩
          case measure => simp [intOf]; omega
        · obtain ⟨x0, x1, x2⟩ := byte_ne e
          clear hn e
          go_wp2_with fail
          go_roundw
          case rel => exact ⟨k + 1, by omega, by go_num, by first | rfl | trivial⟩
          case measure => simp [intOf]; omega
      · obtain ⟨⟨r0, r1, r2, rl⟩, rf⟩ := HR1.out
        have f0 := rf 0; have f1 := rf 1; have f2 := rf 2
        simp at r0 r1 r2 rl f0 f1 f2
        clear rf HR1
        go_wp2
        try simp only [Exit.inBlock, Exit.then]
        refine bodyPost_ret (v := .tuple #[.agg #[.bool false, .int .u64 0, .int .u64 0], .int .i64 4]) (by simp [results, Tryd.results6, go_sem, r0, r1, r2]) rfl ?_
        exact ⟨rfl, ((b1.setCell (by simp) _).setCell (by simp) _).setCell (by simp) _⟩
end Go.Proofs.YtojdlhiibffnfabDoor
