/-
  The document's ViaAll.
-/
import Derived.Test.YtgajepmnklbmpaaViaKM
import Derived.Test.YtgajepmnklbmpaaViaE
namespace Go.Proofs.Ytgajepmnklbmpaa
open Go.RowKit
set_option linter.unusedVariables false
set_option linter.unusedSimpArgs false
set_option maxHeartbeats 8000000 in
set_option maxRecDepth 100000 in
theorem refAll_calls (l : List VT) (v : Value) (hlen : l.length ≤ 9223372036854775807) (w : World) (row : RowV w v l) :
    Calls Try.prog 12 #[v] w fun e w' => ∃ u, e = .returned (.tuple #[u, .int .i64 (viaE l)]) ∧ OwnV w' w.heap.size u (if viaE l = 0 then refV l 999 else []) ∧ Below w.heap.size w w' := by
  obtain ⟨i0, hii, hz0, hz1, hz2⟩ := info_parts info_via
  have C := Lib.hid (viaFault_calls l v hlen w row)
  have ROW := Lib.hid row
  obtain ⟨p, n, c, hv⟩ : ∃ p n c, v = .slice p n c := by obtain ⟨p, c, e⟩ := row.form; exact ⟨_, _, _, e⟩
  subst hv
  clear row
  by_cases h0 : viaE l = 0
  · have ll := (viaE_0 h0).1
    rw [if_pos h0]
    have F := Lib.hid (fun (W : World) (hop : Int) (r : RowV W (.slice p n c) l) => refPort_calls l _ (by omega) 9 hop [] (.slice none 0 0) W (by simp) (by simp) r (.inl ⟨rfl, none, 0, rfl⟩))
    rw [h0] at C ⊢
    clear h0 ll
    go_enter Try.func12, Try.ntmps12
    go_wp2_with fail
    refine C.out.mono ?_
    rintro e w1 ⟨rfl, hb1⟩
    have R1 := Lib.hid (ROW.out.keep hb1)
    clear C ROW
    go_wp2_with fail
    go_loopw [5, 6] (fun u i wr => ∃ (j : Nat), i = .int .i64 ((j : Int) + 1) ∧ j ≤ 999 ∧ Below w1.heap.size w1 wr ∧ Hid (OwnV wr w1.heap.size u (refV l j))) (fun _ i _ => 1000 - (intOf i).toNat)
    case atStart => exact ⟨0, rfl, by omega, Below.refl _ _, Lib.hid (World.ownsRow_nil _ _ _ _)⟩
    case round =>
      obtain ⟨j, rfl, hj, hnx, OW⟩ := hrel
      have hR := Lib.hid (R1.out.keep hnx)
      by_cases hlt : j < 999
      · have hlt' : (j : Int) + 1 ≤ 999 := by omega
        have hwj : IntKind.i64.wrap ((j : Int) + 1 + 1) = ((j + 1 : Nat) : Int) + 1 := by rw [IntKind.wrap_i64]; omega
        have C1 := Lib.hid (F.out wr ((j : Int) + 1) hR.out)
        have HS := Lib.hid (refV_succ l j)
        have hL : (refV l j).length ≤ 100000 := by have := refV_len l j; omega
        rw [show vp l 9 ((j : Int) + 1) [] = vport l ((j : Int) + 1) from rfl] at C1
        generalize refV l j = S at OW HS hL
        unfold oneV at HS
        generalize vport l ((j : Int) + 1) = A at C1 HS
        obtain ⟨P, D, E⟩ := A
        simp only at C1 HS
        have hb1' := hb1.size
        go_wp2_with fail
        refine C1.out.mono ?_
        rintro e w2 ⟨rfl, hb2⟩
        have O2 : Hid (OwnV w2 w1.heap.size u5 S) := Lib.hid (ownsKeep OW.out hb2)
        have n2 := thenBelow hnx hb2
        clear OW C1 hb2 hnx hR
        by_cases he : E = 0
        · subst he
          rw [if_pos rfl] at HS
          have O3 := Lib.hid (O2.out.alloc (objV ((j : Int) + 1, P, 0)))
          have hnw := Lib.hid (cell_new w2 (vcs ((j : Int) + 1, P, 0)) 27)
          have n3 := n2.alloc n2.size (objV ((j : Int) + 1, P, 0))
          have hs3 := n3.size
          clear O2 n2
          go_wp2_with (at_builtin; refine wpList_append_one rfl _ _ 22 rfl w1.heap.size 27 i0 _ 24 Try.underlying22 hii hz0 hz1 hz2 rfl (by decide) vcs_len vcs_one S ⟨_, rfl, O3.out⟩ ((j : Int) + 1, P, 0) w2.heap.size 1 rfl hnw.out hL (by decide) hs3 ?_; intro v7 w7 ho7 hg7 hb7)
          have O4 : Hid (OwnV w7 w1.heap.size v7 (refV l (j + 1))) := Lib.hid (by rw [HS.out]; exact ho7)
          have n4 := n3.trans hb7
          clear HS O3 hnw n3 ho7 hg7 hb7
          go_roundw
          case rel => exact ⟨j + 1, by go_num, by omega, n4, O4⟩
          case measure => simp [intOf]; omega
        · rw [if_neg he] at HS
          have heb : (E == 0) = false := by simpa using he
          have O3 : Hid (OwnV w2 w1.heap.size u5 (refV l (j + 1))) := Lib.hid (by rw [HS.out]; simpa using O2.out)
          clear O2 HS he
          go_wp2_with fail
          go_roundw
          case rel => exact ⟨j + 1, by go_num, by omega, n2, O3⟩
          case measure => simp [intOf]; omega
      · obtain rfl : j = 999 := by omega
        have hno : ¬ ((999 : Nat) : Int) + 1 ≤ 999 := by omega
        have b2 := thenBelow hb1 hnx
        have O2 : Hid (OwnV wr w.heap.size u5 (refV l 999)) := Lib.hid (ownsLow OW.out hb1.size)
        clear OW hR F
        go_wp2_with fail
        go_ret2
        exact ⟨u5, by simp, O2.out, b2⟩
  · rw [if_neg h0]
    generalize viaE l = t at C h0 ⊢
    have hz1 : (t == 0) = false := by simpa using h0
    have hz2 : (t != 0) = true := by simp [bne, hz1]
    clear h0
    go_enter Try.func12, Try.ntmps12
    go_wp2_with fail
    refine C.out.mono ?_
    rintro e w1 ⟨rfl, hb1⟩
    clear C
    go_wp2
    go_ret2
    exact ⟨.slice none 0 0, by simp, World.ownsRow_nil _ _ _ _, hb1⟩
end Go.Proofs.Ytgajepmnklbmpaa
