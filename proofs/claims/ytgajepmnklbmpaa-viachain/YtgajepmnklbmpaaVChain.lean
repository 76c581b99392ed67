/-
  ViaChain: for all three numbers a chain of hops leads as deep as it is long, up to the limit; a longer one is refused; one that leads back is a loop. No conditions.
-/
import Derived.Test.YtgajepmnklbmpaaRows
import Derived.Test.YtgajepmnklbmpaaVKeep
import Derived.Test.YtgajepmnklbmpaaG13
namespace Go.Proofs.Ytgajepmnklbmpaa
open Go.ChangeShapes Go.WideShapes Go.ChangeAt Go.RowKit Go.Joins
set_option linter.unusedSimpArgs false
set_option linter.unusedVariables false
/-- The chain. -/
def chV (k : Nat) : List VT := (List.range k).map fun (i : Nat) => ((i : Int) + 1, (0 : Int), (i : Int) + 2)
theorem chV_len (k : Nat) : (chV k).length = k := by simp [chV]
theorem chV_succ (k : Nat) : chV (k + 1) = chV k ++ [((k : Int) + 1, 0, (k : Int) + 2)] := by simp [chV, List.range_succ]
theorem chV_find (k i : Nat) (hi : i < k) (u : VT) : vfind (chV k ++ [u]) ((i : Int) + 1) = some ((i : Int) + 1, 0, (i : Int) + 2) := by
  induction k with
  | zero => omega
  | succ k ih =>
    rw [chV_succ]
    by_cases h : i = k
    · subst h
      have hno : hasV (chV i) ((i : Int) + 1) = false := by
        rw [← Bool.not_eq_true]
        intro h
        obtain ⟨v, hv, e⟩ := List.any_eq_true.1 h
        obtain ⟨j, hj, rfl⟩ := List.mem_map.1 hv
        have := List.mem_range.1 hj
        have := of_decide_eq_true e
        simp at this
        omega
      have h1 : vfind (chV i) ((i : Int) + 1) = none := vfind_not hno
      unfold vfind at h1 ⊢
      rw [List.append_assoc, List.find?_append, h1]
      simp
    · have h2 := ih (by omega)
      have h3 : vfind (chV k) ((i : Int) + 1) = some ((i : Int) + 1, 0, (i : Int) + 2) := by
        by_cases hu : u.1 = (i : Int) + 1
        · cases hf : vfind (chV k) ((i : Int) + 1) with
          | none =>
            exfalso
            have hm : (((i : Int) + 1, 0, (i : Int) + 2) : VT) ∈ chV k := List.mem_map.2 ⟨i, List.mem_range.2 (by omega), rfl⟩
            have := List.find?_eq_none.1 hf _ hm
            simp at this
          | some v =>
            unfold vfind at hf h2
            rw [List.find?_append, hf] at h2
            simpa using h2
        · rw [vfind_snoc_other (fun e => hu e.symm)] at h2
          exact h2
      unfold vfind at h3 ⊢
      rw [List.append_assoc, List.find?_append, h3]
      rfl
theorem chV_ok (k : Nat) (hk : k ≤ 19) (u : VT) (hu : u.1 = (k : Int) + 1) (hv : vfE u = 0) : viaE (chV k ++ [u]) = 0 := by
  refine viaE_ok (by rw [List.length_append, chV_len]; simp; omega) (fun v h => ?_) ?_
  · rcases List.mem_append.1 h with h | h
    · obtain ⟨i, hi, rfl⟩ := List.mem_map.1 h
      have := List.mem_range.1 hi
      unfold vfE
      simp only
      rw [if_neg (by omega), if_neg (fun e => by have := e.1 trivial; omega), if_neg (by omega)]
    · rw [List.mem_singleton.1 h]; exact hv
  · rw [List.map_append, List.nodup_append]
    have e : (chV k).map Prod.fst = chL k := by unfold chV chL; rw [List.map_map]; rfl
    rw [e]
    refine ⟨?_, by simp, fun a ha b hb e => ?_⟩
    · unfold chL
      exact nodup_map_on List.nodup_range fun a _ b _ e => by omega
    · rw [chL_mem] at ha
      simp at hb
      omega
theorem chV_last (k : Nat) (u : VT) (hu : u.1 = (k : Int) + 1) : vfind (chV k ++ [u]) ((k : Int) + 1) = some u := by
  rw [← hu]
  refine vfind_snoc_same ?_
  rw [hu, ← Bool.not_eq_true]
  intro h
  obtain ⟨v, hv, e⟩ := List.any_eq_true.1 h
  obtain ⟨j, hj, rfl⟩ := List.mem_map.1 hv
  have := List.mem_range.1 hj
  have := of_decide_eq_true e
  simp at this
  omega
/-- What the chain comes to: k + 1 hops, the last one u. -/
theorem chain_long {k : Nat} (hk : 9 ≤ k) (u : VT) (hu : u.1 = (k : Int) + 1) : vport (chV k ++ [u]) 1 = (0, 0, 9) := by
  rw [chain_walk (k := k + 1) (fun i hi => chV_find k i (by omega) u) 9 (by omega) (by omega)]
  have hh : hasV (chV k ++ [u]) (((9 : Nat) : Int) + 1) = true := by
    rw [← vfind_has]
    by_cases h : k = 9
    · subst h; rw [chV_last 9 u hu]; rfl
    · rw [chV_find k 9 (by omega) u]; rfl
  exact vp_full hh (fun h => by rw [chL_mem] at h; omega) (by rw [chL_len]; omega)
theorem chain_port {k : Nat} (hk : k ≤ 8) (u : VT) (hu : u.1 = (k : Int) + 1) (hp : 0 < u.2.1) : vport (chV k ++ [u]) 1 = (u.2.1, (k : Int), 0) := by
  rw [chain_walk (k := k + 1) (fun i hi => chV_find k i (by omega) u) k (by omega) (by omega)]
  have hf := chV_last k u hu
  have hh : hasV (chV k ++ [u]) ((k : Int) + 1) = true := by rw [← vfind_has, hf]; rfl
  have hg : vget (chV k ++ [u]) ((k : Int) + 1) = u := by rw [vget, hf]; rfl
  rw [vp_port hh (fun h => by rw [chL_mem] at h; omega) (by rw [chL_len]; omega) (by rw [hg]; exact hp), hg, chL_len]
theorem chain_loop {k : Nat} (hk : k ≤ 8) (u : VT) (hu : u.1 = (k : Int) + 1) (hp : u.2.1 = 0) (hb : 1 ≤ u.2.2 ∧ u.2.2 ≤ (k : Int) + 1) : vport (chV k ++ [u]) 1 = (0, 0, 10) := by
  rw [chain_walk (k := k + 1) (fun i hi => chV_find k i (by omega) u) k (by omega) (by omega)]
  have hf := chV_last k u hu
  have hh : hasV (chV k ++ [u]) ((k : Int) + 1) = true := by rw [← vfind_has, hf]; rfl
  have hg : vget (chV k ++ [u]) ((k : Int) + 1) = u := by rw [vget, hf]; rfl
  have e : 9 - k = (8 - k) + 1 := by omega
  rw [e, vp_next hh (fun h => by rw [chL_mem] at h; omega) (by rw [chL_len]; omega) (by rw [hg, hp]; decide), hg]
  have hm : u.2.2 ∈ chL k ++ [(k : Int) + 1] := by
    by_cases h : u.2.2 = (k : Int) + 1
    · simp [h]
    · exact List.mem_append_left _ (chL_mem.2 (by omega))
  have hh2 : hasV (chV k ++ [u]) u.2.2 = true := by
    rw [← vfind_has]
    by_cases h : u.2.2 = (k : Int) + 1
    · rw [h, hf]; rfl
    · have e2 : u.2.2 = (((u.2.2 - 1).toNat : Nat) : Int) + 1 := by omega
      rw [e2, chV_find k _ (by omega) u]; rfl
  exact vp_loop hh2 hm
set_option maxHeartbeats 4000000 in
set_option maxRecDepth 100000 in
theorem VChain.walk (a0 a1 a2 : Int) (b0 : -9223372036854775808 ≤ a0) (b1 : a0 ≤ 9223372036854775807) (c0 : -9223372036854775808 ≤ a1) (c1 : a1 ≤ 9223372036854775807) (d0 : -9223372036854775808 ≤ a2) (d1 : a2 ≤ 9223372036854775807) (w : World) :
    Calls Try.prog 10 #[.int .i64 a0, .int .i64 a1, .int .i64 a2] w fun e w' => e = .returned (.bool true) ∧ Below w.heap.size w w' := by
  obtain ⟨i0, hii, hz0, hz1, hz2⟩ := info_parts info_via
  have e1 := Int.emod_nonneg a1 (show (30 : Int) ≠ 0 by decide)
  have e2 := Int.emod_lt_of_pos a1 (show (0 : Int) < 30 by decide)
  have e3 := Int.emod_nonneg a0 (show (20 : Int) ≠ 0 by decide)
  have e4 := Int.emod_lt_of_pos a0 (show (0 : Int) < 20 by decide)
  have PK0 := Lib.hid (fun W => picked_calls a0 20 (by decide) (by decide) b0 b1 W)
  have PK1 := Lib.hid (fun W => picked_calls a1 30 (by decide) (by decide) c0 c1 W)
  obtain ⟨P, hP⟩ : ∃ q, 1 + a1 % 30 = q := ⟨_, rfl⟩
  obtain ⟨k, hk⟩ : ∃ k : Nat, a0 % 20 = k := ⟨(a0 % 20).toNat, by omega⟩
  have hwP : IntKind.i64.wrap (1 + a1 % 30) = P := by rw [IntKind.wrap_i64]; omega
  have hwk : IntKind.i64.wrap (1 + (k : Int)) = ((k + 1 : Nat) : Int) := by rw [IntKind.wrap_i64]; omega
  have hk19 : k ≤ 19 := by omega
  have PK2 := Lib.hid (fun W => picked_calls a2 ((k + 1 : Nat) : Int) (by omega) (by omega) d0 d1 W)
  have e5 := Int.emod_nonneg a2 (show ((k + 1 : Nat) : Int) ≠ 0 by omega)
  have e6 := Int.emod_lt_of_pos a2 (show (0 : Int) < ((k + 1 : Nat) : Int) by omega)
  obtain ⟨B, hB⟩ : ∃ q, 1 + a2 % ((k + 1 : Nat) : Int) = q := ⟨_, rfl⟩
  have hwB : IntKind.i64.wrap (1 + a2 % ((k + 1 : Nat) : Int)) = B := by rw [IntKind.wrap_i64]; omega
  have hb : 1 ≤ B ∧ B ≤ (k : Int) + 1 := by omega
  have hp : 1 ≤ P ∧ P ≤ 30 := by omega
  rw [hk] at PK0
  clear e1 e2 e3 e4 e5 e6 hP hk hB
  obtain ⟨n, hn⟩ : ∃ n, k + 1 = n := ⟨_, rfl⟩
  have HNk := Lib.hid hn
  rw [hn] at hwk PK2 hwB
  have hn1 : 1 ≤ n ∧ n ≤ 20 := by omega
  clear hn
  go_enter Try.func10, Try.ntmps10
  go_wp2_with fail
  refine (PK0.out _).mono ?_
  rintro e w1 ⟨rfl, rfl⟩
  clear PK0
  go_wp2_with fail
  go_loopw [8, 9] (fun u i wr => ∃ (j : Nat), i = .int .i64 ((j : Int) + 1) ∧ j ≤ n ∧ Below w.heap.size w wr ∧ Hid (OwnV wr w.heap.size u (chV j))) (fun _ i _ => n + 1 - (intOf i).toNat)
  case atStart => exact ⟨0, rfl, by omega, Below.refl _ _, Lib.hid (World.ownsRow_nil _ _ _ _)⟩
  case round =>
    obtain ⟨j, rfl, hj, hnx, OW⟩ := hrel
    by_cases hlt : j < n
    · have hlt' : (j : Int) + 1 ≤ (n : Int) := by omega
      have hwj : IntKind.i64.wrap ((j : Int) + 1 + 1) = (j : Int) + 2 := by rw [IntKind.wrap_i64]; omega
      have HS := Lib.hid (chV_succ j)
      have hL : (chV j).length ≤ 100000 := by rw [chV_len]; omega
      generalize chV j = S at OW HS hL
      have O3 := Lib.hid (OW.out.alloc (objV ((j : Int) + 1, 0, (j : Int) + 2)))
      have hnw := Lib.hid (cell_new wr (vcs ((j : Int) + 1, 0, (j : Int) + 2)) 27)
      have hn2 := hnx.alloc hnx.size (objV ((j : Int) + 1, 0, (j : Int) + 2))
      have hw8 := hn2.size
      clear OW
      go_wp2_with (at_builtin; refine wpList_append_one rfl _ _ 22 rfl w.heap.size 27 i0 _ 24 Try.underlying22 hii hz0 hz1 hz2 rfl (by decide) vcs_len vcs_one S ⟨_, rfl, O3.out⟩ ((j : Int) + 1, 0, (j : Int) + 2) wr.heap.size 1 rfl hnw.out hL (by decide) hw8 ?_; intro v7 w7 ho7 hg7 hb7)
      have OW2 : Hid (OwnV w7 w.heap.size v7 (chV (j + 1))) := Lib.hid (by rw [HS.out]; exact ho7)
      have hn3 := hn2.trans hb7
      clear HS ho7 hg7 O3 hnw
      go_roundw
      case rel => exact ⟨j + 1, by go_num, by omega, hn3, OW2⟩
      case measure => simp [intOf]; omega
    · obtain rfl : n = j := by omega
      have hno : ¬ (n : Int) + 1 ≤ (n : Int) := by omega
      have hlen : (chV n).length = n := chV_len n
      have HS := Lib.hid (show chV n = chV k ++ [((k : Int) + 1, 0, (k : Int) + 2)] by rw [← HNk.out, chV_succ])
      obtain ⟨g, cap, rfl, hgb, hcap, hg2⟩ : ∃ g c, u8 = .slice (some ⟨g, 0, none⟩) n c ∧ w.heap.size ≤ g ∧ n ≤ c ∧ g < wr.heap.size := by
        rcases OW.out.2 with ⟨hv, h0⟩ | ⟨g, cap, cur, hv, hb, hg, hnc, hcm, _⟩
        · rw [hlen] at h0; omega
        · exact ⟨g, _, by rw [hv, hlen], hb, by rw [← hlen]; exact hnc, (Array.getElem?_eq_some_iff.1 hg).1⟩
      have HU := Lib.hid (show vfE ((n : Int), P, 0) = 0 ∧ vfE ((n : Int), 0, B) = 0 from by
        constructor
        · unfold vfE
          simp only
          rw [if_neg (by omega), if_neg (fun e => by have := e.2 trivial; omega), if_neg (by omega)]
        · unfold vfE
          simp only
          rw [if_neg (by omega), if_neg (fun e => by have := e.1 trivial; omega), if_neg (by omega)])
      have hkn : n = k + 1 := HNk.out.symm
      have hwn : IntKind.i64.wrap ((n : Int) - 1) = (k : Int) := by rw [IntKind.wrap_i64]; omega
      have hkn' : (k : Int) < (n : Int) := by omega
      have hk0 : (0 : Int) ≤ (k : Int) := by omega
      have hnk : (n : Int) = (k : Int) + 1 := by omega
      have OW2 : Hid (wr.ownsRow w.heap.size 27 3 (.slice (some ⟨g, 0, none⟩) n cap) n (rowOf vcs (chV k ++ [((k : Int) + 1, 0, (k : Int) + 2)]))) := Lib.hid (by rw [← HS.out]; have := OW.out; unfold OwnV at this; rw [hlen] at this; exact this)
      have CELL := Lib.hid (fun (W : World) (u : VT) (h : W.ownsRow w.heap.size 27 3 (.slice (some ⟨g, 0, none⟩) n cap) n (rowOf vcs (chV k ++ [u]))) => show (W.cell? ⟨g, k * 3, none⟩ = some (.int .i64 u.1) ∧ W.cell? ⟨g, k * 3 + 1, none⟩ = some (.int .i64 u.2.1) ∧ W.cell? ⟨g, k * 3 + 2, none⟩ = some (.int .i64 u.2.2)) from by
        have hl : (chV k ++ [u]).length = n := by rw [List.length_append, chV_len]; simp; omega
        have hkl : k < (chV k ++ [u]).length := by omega
        have hat : (chV k ++ [u])[k] = u := by rw [List.getElem_append_right (by rw [chV_len]; exact Nat.le_refl _)]; simp [chV_len]
        refine ⟨?_, ?_, ?_⟩
        · have := owns_cellAt h (k * 3 + 0) (.int .i64 u.1) (by rw [rowOf_at vcs 3 vcs_len _ k hkl 0 (by decide), hat]; rfl)
          simpa using this
        · exact owns_cellAt h (k * 3 + 1) (.int .i64 u.2.1) (by rw [rowOf_at vcs 3 vcs_len _ k hkl 1 (by decide), hat]; rfl)
        · exact owns_cellAt h (k * 3 + 2) (.int .i64 u.2.2) (by rw [rowOf_at vcs 3 vcs_len _ k hkl 2 (by decide), hat]; rfl))
      have SET := Lib.hid (fun (W : World) (u u' : VT) (h : W.ownsRow w.heap.size 27 3 (.slice (some ⟨g, 0, none⟩) n cap) n (rowOf vcs (chV k ++ [u]))) => show (((W.setCell ⟨g, k * 3, none⟩ (.int .i64 u'.1)).setCell ⟨g, k * 3 + 1, none⟩ (.int .i64 u'.2.1)).setCell ⟨g, k * 3 + 2, none⟩ (.int .i64 u'.2.2)).ownsRow w.heap.size 27 3 (.slice (some ⟨g, 0, none⟩) n cap) n (rowOf vcs (chV k ++ [u'])) from by
        have h1 := ownsRow_set (ownsRow_set (ownsRow_set h (k * 3) (.int .i64 u'.1)) (k * 3 + 1) (.int .i64 u'.2.1)) (k * 3 + 2) (.int .i64 u'.2.2)
        have e : (((rowOf vcs (chV k ++ [u])).set (k * 3) (.int .i64 u'.1)).set (k * 3 + 1) (.int .i64 u'.2.1)).set (k * 3 + 2) (.int .i64 u'.2.2) = rowOf vcs (chV k ++ [u']) := by
          have hl : (rowOf vcs (chV k)).length = k * 3 := by rw [rowOf_len vcs 3 vcs_len, chV_len]
          rw [rowOf_app, rowOf_app, List.set_append_right _ _ (by omega), hl, Nat.sub_self, List.set_append_right _ _ (by omega), hl, show k * 3 + 1 - k * 3 = 1 by omega, List.set_append_right _ _ (by omega), hl, show k * 3 + 2 - k * 3 = 2 by omega]
          rfl
        rw [e] at h1
        exact h1)
      have POT := Lib.hid (fun (W : World) (u : VT) (hu : u.1 = (k : Int) + 1) (hv : vfE u = 0) (r : RowV W (.slice (some ⟨g, 0, none⟩) n cap) (chV k ++ [u])) => by
        have := portOf_calls (chV k ++ [u]) (.slice (some ⟨g, 0, none⟩) n cap) 1 (by rw [List.length_append, chV_len]; simp; omega) (by decide) (by decide) W r
        rw [vport_eq (chV_ok k hk19 u hu hv)] at this
        exact this)
      have hf := owns_thaw OW2.out
      obtain ⟨z0, z1, z2⟩ := CELL.out _ _ OW2.out
      have f0 := hf (k * 3)
      have f1 := hf (k * 3 + 1)
      have f2 := hf (k * 3 + 2)
      simp only at z0 z1 z2
      have HNK := Lib.hid hnk
      have CH := Lib.hid (And.intro hkn (And.intro hb hp))
      have hwn9 : IntKind.i64.wrap ((n : Int) - 1) = (k : Int) := hwn
      clear hlen HS OW hf hkn hnk hn1 hk19
      go_wp2_with fail
      refine (PK1.out _).mono ?_
      rintro e w2 ⟨rfl, rfl⟩
      go_wp2_with fail
      have O3 := Lib.hid (SET.out _ _ ((n : Int), P, 0) OW2.out)
      have b3 := ((hnx.setCell (p := ⟨g, k * 3, none⟩) hgb (.int .i64 (n : Int))).setCell (p := ⟨g, k * 3 + 1, none⟩) hgb (.int .i64 P)).setCell (p := ⟨g, k * 3 + 2, none⟩) hgb (.int .i64 0)
      have P3 := Lib.hid (POT.out _ ((n : Int), P, 0) HNK.out HU.out.1 (RowK.owned vcs_len (show World.ownsRow _ w.heap.size 27 3 (.slice (some ⟨g, 0, none⟩) n cap) (chV k ++ [((n : Int), P, 0)]).length (rowOf vcs (chV k ++ [((n : Int), P, 0)])) from by rw [List.length_append, chV_len]; show World.ownsRow _ _ _ _ _ (k + 1) _; rw [← CH.out.1]; exact O3.out)))
      clear OW2 hnx z0 z1 z2 f0 f1 f2
      have P4 := Lib.hid (fun (W : World) (h : W.ownsRow w.heap.size 27 3 (.slice (some ⟨g, 0, none⟩) n cap) n (rowOf vcs (chV k ++ [((n : Int), 0, B)]))) => POT.out W ((n : Int), 0, B) HNK.out HU.out.2 (RowK.owned vcs_len (show World.ownsRow _ w.heap.size 27 3 (.slice (some ⟨g, 0, none⟩) n cap) (chV k ++ [((n : Int), 0, B)]).length (rowOf vcs (chV k ++ [((n : Int), 0, B)])) from by rw [List.length_append, chV_len]; show World.ownsRow _ _ _ _ _ (k + 1) _; rw [← CH.out.1]; exact h)))
      by_cases hk9 : 9 ≤ k
      · have F1 : vport (chV k ++ [((n : Int), P, 0)]) 1 = (0, 0, 9) := chain_long hk9 _ HNK.out
        have F2 : vport (chV k ++ [((n : Int), 0, B)]) 1 = (0, 0, 9) := chain_long hk9 _ HNK.out
        have h9 : (9 : Int) < (n : Int) := by have := HNK.out; omega
        rw [F1] at P3
        rw [F2] at P4
        clear F1 F2 hk9
        refine P3.out.mono ?_
        rintro e w4 ⟨rfl, hb4⟩
        have O4 := Lib.hid (ownsKeep O3.out hb4)
        have b4 := b3.trans (hb4.mono b3.size)
        clear P3 O3 b3 hb4
        go_wp2_with fail
        refine (PK2.out _).mono ?_
        rintro e w5 ⟨rfl, rfl⟩
        obtain ⟨z0, z1, z2⟩ := CELL.out _ _ O4.out
        have f0 := owns_thaw O4.out (k * 3)
        have f1 := owns_thaw O4.out (k * 3 + 1)
        have f2 := owns_thaw O4.out (k * 3 + 2)
        simp only at z0 z1 z2
        have O5 := Lib.hid (SET.out _ _ ((n : Int), 0, B) O4.out)
        have P5 := Lib.hid (P4.out _ O5.out)
        have b5 := ((b4.setCell (p := ⟨g, k * 3, none⟩) hgb (.int .i64 (n : Int))).setCell (p := ⟨g, k * 3 + 1, none⟩) hgb (.int .i64 0)).setCell (p := ⟨g, k * 3 + 2, none⟩) hgb (.int .i64 B)
        clear O4 b4 P4 PK2 PK1
        go_wp2_with fail
        refine P5.out.mono ?_
        rintro e w6 ⟨rfl, hb6⟩
        have b6 := b5.trans (hb6.mono b5.size)
        clear P5 O5 b5 hb6 z0 z1 z2 f0 f1 f2
        go_wp2_with fail
        go_ret
        exact ⟨by simp, b6⟩
      · have F1 : vport (chV k ++ [((n : Int), P, 0)]) 1 = (P, (k : Int), 0) := chain_port (by omega) _ HNK.out (show 0 < P by have := CH.out.2.2; omega)
        have F2 : vport (chV k ++ [((n : Int), 0, B)]) 1 = (0, 0, 10) := chain_loop (by omega) _ HNK.out rfl (show 1 ≤ B ∧ B ≤ (k : Int) + 1 from CH.out.2.1)
        have h9 : ¬ (9 : Int) < (n : Int) := by have := HNK.out; omega
        rw [F1] at P3
        rw [F2] at P4
        clear F1 F2 hk9
        refine P3.out.mono ?_
        rintro e w4 ⟨rfl, hb4⟩
        have O4 := Lib.hid (ownsKeep O3.out hb4)
        have b4 := b3.trans (hb4.mono b3.size)
        clear P3 O3 b3 hb4
        go_wp2_with fail
        refine (PK2.out _).mono ?_
        rintro e w5 ⟨rfl, rfl⟩
        obtain ⟨z0, z1, z2⟩ := CELL.out _ _ O4.out
        have f0 := owns_thaw O4.out (k * 3)
        have f1 := owns_thaw O4.out (k * 3 + 1)
        have f2 := owns_thaw O4.out (k * 3 + 2)
        simp only at z0 z1 z2
        have O5 := Lib.hid (SET.out _ _ ((n : Int), 0, B) O4.out)
        have P5 := Lib.hid (P4.out _ O5.out)
        have b5 := ((b4.setCell (p := ⟨g, k * 3, none⟩) hgb (.int .i64 (n : Int))).setCell (p := ⟨g, k * 3 + 1, none⟩) hgb (.int .i64 0)).setCell (p := ⟨g, k * 3 + 2, none⟩) hgb (.int .i64 B)
        clear O4 b4 P4 PK2 PK1
        go_wp2_with fail
        refine P5.out.mono ?_
        rintro e w6 ⟨rfl, hb6⟩
        have b6 := b5.trans (hb6.mono b5.size)
        clear P5 O5 b5 hb6 z0 z1 z2 f0 f1 f2
        go_wp2_with fail
        go_ret
        exact ⟨by simp, b6⟩
theorem VChain.own : ownKnob Try.prog.godebug = none := by kernel_rfl
set_option maxRecDepth 100000 in
theorem VChain.lifted (os : Os) (started : os.Started) (H : Type) (enc : TypeId × Value → H) :
    ReturnsInHanded {} Try.checked os 10 .any (Rows.viaChainSpec.pre6 enc Try.prog Try.f10 Rows.viaChainRow.domain false) (Rows.viaChainSpec.post enc Try.prog Try.f10 false true false false) := by
  refine returnsInHanded_of_change (C := Try.checked) VChain.own started (by kernel_rfl) Try.func10
    (ChangeSpec.witness6 (enc := enc) (C := Try.checked) false ⟨#[], #[.int .i64 0, .int .i64 0, .int .i64 0], []⟩ 8 (by kernel_rfl) (by kernel_rfl) (by kernel_rfl) (by kernel_rfl)) ?_
  intro W base args ds gs before hval0 hW hcnd _
  have hval : ∀ (j : Nat) t v, Try.f10.params[j]? = some t → args[j]? = some v → Value.okWide Try.prog W .any base t v := hval0
  have hW' := hW
  obtain ⟨p, q, hA0, hV, rfl, hfz, hnd⟩ := hW
  have hA : DataW.TrodAll enc Try.prog W 0 (fun _ => true) true Try.f10.params.toList args.toList ds p := hA0
  rw [Try.params10] at hA hval
  obtain ⟨v0, vs0, d0, ds0, p0, q0, hargs, rfl, rfl, rd0, r0⟩ := trodAll_cons hA
  obtain ⟨v1, vs1, d1, ds1, p1, q1, rfl, rfl, rfl, rd1, r1⟩ := trodAll_cons r0
  obtain ⟨v2, vs2, d2, ds2, p2, q2, rfl, rfl, rfl, rd2, r2⟩ := trodAll_cons r1
  obtain ⟨rfl, rfl, rfl⟩ := trodAll_nil r2
  obtain rfl : args = #[v0, v1, v2] := by cases args; simp_all
  obtain ⟨rfl, rfl⟩ := trodVars_none hV
  obtain ⟨a0, rfl, rfl, rfl, wa0⟩ := open_int Try.underlying3 (hval 0 3 v0 rfl rfl) rd0
  obtain ⟨a1, rfl, rfl, rfl, wa1⟩ := open_int Try.underlying3 (hval 1 3 v1 rfl rfl) rd1
  obtain ⟨a2, rfl, rfl, rfl, wa2⟩ := open_int Try.underlying3 (hval 2 3 v2 rfl rfl) rd2
  clear hA0 hval0
  simp only [List.append_nil] at hW'
  refine (VChain.walk a0 a1 a2 (i64_of_wf wa0).1 (i64_of_wf wa0).2 (i64_of_wf wa1).1 (i64_of_wf wa1).2 (i64_of_wf wa2).1 (i64_of_wf wa2).2 W).mono fun e W' ⟨he, hb⟩ => ?_
  subst he
  exact ⟨_, rfl, postBelow (pa := []) (pv := []) hW' hb (fun _ _ _ => trodAll_cons_mk (shut_bool Try.underlying4 _) trodAll_mk0) (fun sp _ => trodAll_cons_mk (shut_int Try.underlying3 wa0) (trodAll_cons_mk (shut_int Try.underlying3 wa1) (trodAll_cons_mk (shut_int Try.underlying3 wa2) trodAll_mk0))) (fun _ _ => rfl) rfl⟩

theorem VChain.holds : Rows.ViaChainSaid :=
  OpenClaim.holds_of_wide 10 Try.f10 rfl rfl rfl rfl rfl rfl rfl ⟨rfl, rfl, rfl, rfl, rfl⟩ rfl rfl rfl rfl rfl (by kernel_rfl) Try.func10 (by kernel_rfl)
    (of_decide_eq_true (by kernel_rfl)) (by unfold Func.isWrapper; first | (rw [if_pos (by decide +kernel)]; kernel_rfl) | (rw [if_neg (by decide +kernel)]; exact ⟨rfl, rfl⟩))
    (fun os started H enc _ => VChain.lifted os started H enc)
#print axioms VChain.holds
end Go.Proofs.Ytgajepmnklbmpaa
