/-
  via.All.
-/
import Derived.Test.YtgajepmnklbmpaaViaG
import Derived.Test.YtgajepmnklbmpaaG2
namespace Go.Proofs.Ytgajepmnklbmpaa
open Go.RowKit
set_option linter.unusedVariables false
set_option linter.unusedSimpArgs false
set_option maxHeartbeats 8000000 in
set_option maxRecDepth 100000 in
theorem viaAll_calls (l : List VT) (v : Value) (hlen : l.length ≤ 9223372036854775807) (w : World) (row : RowV w v l) :
    Calls Try.prog 11 #[v] w fun e w' => ∃ u, e = .returned (.tuple #[u, .int .i64 (viaE l)]) ∧ OwnV w' w.heap.size u (if viaE l = 0 then allV l else []) ∧ Below w.heap.size w w' := by
  obtain ⟨i0, hii, hz0, hz1, hz2⟩ := info_parts info_via
  have C := Lib.hid (byHop_calls l v hlen w row)
  obtain ⟨p, n, c, hv⟩ : ∃ p n c, v = .slice p n c := by obtain ⟨p, c, e⟩ := row.form; exact ⟨_, _, _, e⟩
  subst hv
  clear row
  by_cases h0 : viaE l = 0
  · have hv3 := viaE_0 h0
    have HV := Lib.hid hv3.2.1
    have hk60 : (ksV l).length ≤ 60 := by rw [ksV_len]; exact hv3.1
    have HB := Lib.hid (show ∀ h ∈ ksV l, -9223372036854775808 ≤ h ∧ h ≤ 9223372036854775807 from fun h hh => by
      rw [ksV_mem] at hh
      obtain ⟨u, hu, rfl⟩ := List.mem_map.1 hh
      have := vfE_0 (hv3.2.1 u hu)
      omega)
    have SC := Lib.hid (fun (b : Nat) (W : World) (m : MV W b l) => sortedV_calls l b W hv3.2.2 hv3.1 m)
    have HA := Lib.hid (allT_all l)
    have HTS := Lib.hid (fun j (hj : j < (ksV l).length) => allT_succ hj)
    have HTL := Lib.hid (fun j => allT_len l j)
    have KC := Lib.hid (fun b W => keysV_calls b W)
    rw [if_pos h0]
    rw [h0] at C ⊢
    obtain ⟨K, hK⟩ : ∃ K, ksV l = K := ⟨_, rfl⟩
    rw [hK] at hk60 HB SC HA HTS HTL
    obtain ⟨m, hm⟩ : ∃ m, K.length = m := ⟨_, rfl⟩
    have HM := Lib.hid hm
    rw [hm] at hk60 HA HTL
    clear h0 hv3 hK hm
    go_enter Try.func11, Try.ntmps11
    go_wp2_with fail
    refine C.out.mono ?_
    rintro e w1 ⟨u, rfl, hu, _, hb1⟩
    obtain ⟨b, rfl, hbw, m1⟩ := hu (by first | rfl | trivial)
    have M1 := Lib.hid m1
    clear C hu m1
    go_wp2_with fail
    refine (KC.out _ _).mono ?_
    rintro e w2 ⟨rfl, rfl⟩
    clear KC
    go_wp2_with fail
    refine (SC.out _ _ M1.out).mono ?_
    rintro e w3 ⟨vk, rfl, ok, hb3⟩
    have RK := Lib.hid (OwnN.row ok)
    obtain ⟨pk, ck, rfl, hck, atk⟩ := RK.out.at
    have ATK := Lib.hid atk
    rw [HM.out]
    rw [HM.out] at hck RK
    have c3 : Below w1.heap.size w1 w3 := ((Below.refl w1.heap.size w1).alloc (Nat.le_refl _) (.cells #[.map (some b)] 48)).trans (hb3.mono (by omega))
    have M3 := Lib.hid (M1.out.keep c3)
    have b3 := thenBelow hb1 c3
    clear SC ok hb3 c3 atk M1 hb1
    go_wp2_with fail
    go_loopw [6, 24] (fun u i wr => ∃ (j : Nat), i = .int .i64 j ∧ j ≤ m ∧ Below w3.heap.size w3 wr ∧ Hid (OwnV wr w3.heap.size u (allT l j))) (fun _ i _ => m - (intOf i).toNat)
    case atStart => exact ⟨0, rfl, by omega, Below.refl _ _, Lib.hid (World.ownsRow_nil _ _ _ _)⟩
    case round =>
      obtain ⟨j, rfl, hj, hnx, OW⟩ := hrel
      by_cases hlt : j < m
      · have hjl : j < K.length := by rw [HM.out]; exact hlt
        obtain ⟨g, o, rfl, hg, hrec⟩ := ATK.out j hjl
        have x0 := intCell (hrec.keep hnx hg)
        have HS := Lib.hid (HTS.out j hjl)
        have hL : (allT l j).length ≤ 100000 := by have := HTL.out j; omega
        have hbd := HB.out _ (List.getElem_mem hjl)
        have hltj : (j : Int) < (m : Int) := by omega
        generalize K[j] = h at x0 HS hbd
        have FC := Lib.hid (follow_calls l b h HV.out hbd.1 hbd.2 wr (M3.out.keep hnx))
        generalize allT l j = S at OW HS hL
        unfold oneV at HS
        generalize vport l h = A at FC HS
        obtain ⟨P, D, E⟩ := A
        simp only at FC HS
        clear hrec hbd
        go_wp2_with fail
        refine FC.out.mono ?_
        rintro e w4 ⟨rfl, hb4⟩
        have O4 : Hid (OwnV w4 w3.heap.size u6 S) := Lib.hid (ownsKeep OW.out hb4)
        have n4 := thenBelow hnx hb4
        clear OW FC hb4 hnx x0
        by_cases he : E = 0
        · subst he
          rw [if_pos rfl] at HS
          have O5 := Lib.hid (O4.out.alloc (objV (h, P, 0)))
          have hnw := Lib.hid (cell_new w4 (vcs (h, P, 0)) 27)
          have n5 := n4.alloc n4.size (objV (h, P, 0))
          have hs5 := n5.size
          clear O4 n4
          go_wp2_with (at_builtin; refine wpList_append_one rfl _ _ 22 rfl w3.heap.size 27 i0 _ 24 Try.underlying22 hii hz0 hz1 hz2 rfl (by decide) vcs_len vcs_one S ⟨_, rfl, O5.out⟩ (h, P, 0) w4.heap.size 1 rfl hnw.out hL (by decide) hs5 ?_; intro v7 w7 ho7 hg7 hb7)
          have O7 : Hid (OwnV w7 w3.heap.size v7 (allT l (j + 1))) := Lib.hid (by rw [HS.out]; exact ho7)
          have n7 := n5.trans hb7
          clear HS O5 hnw n5 ho7 hg7 hb7
          go_roundw
          case rel => exact ⟨j + 1, by go_num, by omega, n7, O7⟩
          case measure => simp [intOf]; omega
        · rw [if_neg he] at HS
          have heb : (E == 0) = false := by simpa using he
          have O5 : Hid (OwnV w4 w3.heap.size u6 (allT l (j + 1))) := Lib.hid (by rw [HS.out]; simpa using O4.out)
          clear O4 HS he
          go_wp2_with fail
          go_roundw
          case rel => exact ⟨j + 1, by go_num, by omega, n4, O5⟩
          case measure => simp [intOf]; omega
      · obtain rfl : m = j := by omega
        have b5 := thenBelow b3 hnx
        have O2 : Hid (OwnV wr w.heap.size u6 (allV l)) := Lib.hid (by rw [← HA.out]; exact ownsLow OW.out b3.size)
        clear OW HTS HTL ATK
        go_wp2_with fail
        go_ret2
        exact ⟨u6, by simp, O2.out, b5⟩
  · rw [if_neg h0]
    generalize viaE l = t at C h0 ⊢
    have hz1 : (t == 0) = false := by simpa using h0
    have hz2 : (t != 0) = true := by simp [bne, hz1]
    clear h0
    go_enter Try.func11, Try.ntmps11
    go_wp2_with fail
    refine C.out.mono ?_
    rintro e w1 ⟨u, rfl, _, _, hb1⟩
    clear C
    go_wp2
    go_ret2
    exact ⟨.slice none 0 0, by simp, World.ownsRow_nil _ _ _ _, hb1⟩
end Go.Proofs.Ytgajepmnklbmpaa
