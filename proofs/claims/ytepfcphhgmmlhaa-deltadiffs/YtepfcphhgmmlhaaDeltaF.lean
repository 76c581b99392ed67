/-
  The document's DeltaDiff.
-/
import Derived.Test.YtepfcphhgmmlhaaDeltaE
import Derived.Test.YtepfcphhgmmlhaaSrtK
import Derived.Deep.CutRange
import Derived.Deep.DeepCutAuto
import Derived.Deep.RegionHeld3
namespace Go.Proofs.Ytepfcphhgmmlhaa
open Go.RowKit
set_option linter.unusedVariables false
set_option linter.unusedSimpArgs false
theorem beh_keys : ∀ (t S : List RT), behE S t = 0 → (t.map Prod.fst).Nodup ∧ ∀ x ∈ t, hasR S x.1 = false
  | [], _, _ => ⟨List.nodup_nil, fun x h => by cases h⟩
  | r :: t, S, h => by
    unfold behE at h
    split at h
    · split at h
      · cases h
      · rename_i h1
        have h1' : hasR S r.1 = false := by simpa using h1
        obtain ⟨a, b⟩ := beh_keys t (insR S r) h
        have ne : ∀ x ∈ t, x.1 ≠ r.1 ∧ hasR S x.1 = false := fun x hx => by
          have g := b x hx
          rw [hasR, List.any_eq_false] at g
          refine ⟨fun e => by simpa using g r (insR_mem.2 (.inl rfl)) (decide_eq_true e.symm), ?_⟩
          rw [hasR, List.any_eq_false]
          exact fun y hy => g y (insR_mem.2 (.inr hy))
        refine ⟨?_, fun x hx => ?_⟩
        · rw [List.map_cons, List.nodup_cons]
          refine ⟨fun hm => ?_, a⟩
          obtain ⟨x, hx, e⟩ := List.mem_map.1 hm
          exact (ne x hx).1 e
        · rcases List.mem_cons.1 hx with rfl | hx
          · exact h1'
          · exact (ne x hx).2
    · rename_i h0; exact absurd h h0
theorem relU_srt {l : List RT} (h : tabE l = 0) : RelU l (srt l) := by
  refine ⟨srt_inv h, ?_, fun r => (srt_mem l r).symm⟩
  have h60 := (tabE_val h).2.2
  unfold tabE at h
  rw [if_neg (by omega)] at h
  exact (beh_keys l [] h).1
theorem putsW_take {S T : List RT} {k : Nat} (hk : k < T.length) : putsL (wiL (T.take (k + 1)) S) = putsL (wiL (T.take k) S) ++ if decide (T[k] ∈ S) then [] else [putAct T[k]] := by
  rw [wi_take hk, putsL, List.map_append]
  cases decide (T[k] ∈ S) <;> rfl
set_option maxHeartbeats 8000000 in
set_option maxRecDepth 100000 in
/-- The two loops, from the sorted tables on. -/
theorem refDiff_ok (l m : List RT) (v t : Value) (h1 : tabE l = 0) (h2 : tabE m = 0) (wl : WordsR l) (wm : WordsR m) (w : World) (r1 : RowR w v l) (r2 : RowR w t m) :
    Calls Try.prog 18 #[v, t] w fun e w' => ∃ u, e = .returned (.tuple #[u, .int .i64 0]) ∧ OwnA w' w.heap.size u (difL (srt l) (srt m)) ∧ Below w.heap.size w w' := by
  have ll := (tabE_val h1).2.2
  have lm := (tabE_val h2).2.2
  have F1 := Lib.hid (tableFault_calls l v (by omega) wl w r1)
  have F2 := Lib.hid (fun (W : World) (r : RowR W t m) => tableFault_calls m t (by omega) wm W r)
  have IS := Lib.hid (srt_inv h1)
  have IT := Lib.hid (srt_inv h2)
  have SS := Lib.hid (fun (u : Value) (base : Nat) (W : World) (o : OwnR W base u l) => sortR_calls l (srt l) u base W (relU_srt h1) o)
  have ST := Lib.hid (fun (u : Value) (base : Nat) (W : World) (o : OwnR W base u m) => sortR_calls m (srt m) u base W (relU_srt h2) o)
  rw [h1] at F1
  rw [h2] at F2
  generalize srt l = S at IS SS ⊢
  generalize srt m = T at IT ST ⊢
  have R1 := Lib.hid r1
  have R2 := Lib.hid r2
  obtain ⟨i0, hii, hz0, hz1, hz2⟩ := info_parts info_act
  have IN := Lib.hid (And.intro hii (And.intro hz0 (And.intro hz1 hz2)))
  obtain ⟨j0, jii, jz0, jz1, jz2⟩ := info_parts info_route
  obtain ⟨p1, c1, rfl⟩ := r1.form
  obtain ⟨p2, c2, rfl⟩ := r2.form
  have hby1 : l.length * 40 ≤ 140737488355328 := by omega
  have h631 : l.length ≤ maxLen := by unfold maxLen; omega
  have hby2 : m.length * 40 ≤ 140737488355328 := by omega
  have h632 : m.length ≤ maxLen := by unfold maxLen; omega
  clear r1 r2 hii hz0 hz1 hz2 h1 h2
  obtain ⟨B, hB⟩ : ∃ B, w.heap.size = B := ⟨_, rfl⟩
  have HB := Lib.hid hB
  go_enter Try.func18, Try.ntmps18
  go_wp2_with fail
  refine F1.out.mono ?_
  rintro e w1 ⟨rfl, hb1⟩
  have R2a := Lib.hid (R2.out.keep hb1)
  have R1a := Lib.hid (R1.out.keep hb1)
  clear F1 R1 R2
  go_wp2_with fail
  refine (F2.out _ R2a.out).mono ?_
  rintro e w2 ⟨rfl, hb2⟩
  have b2 : Below B w w2 := by rw [← HB.out]; exact thenBelow hb1 hb2
  have R1b := Lib.hid (R1a.out.keep hb2)
  have R2b := Lib.hid (R2a.out.keep hb2)
  have hs2 : B ≤ w2.heap.size := by rw [← HB.out]; exact Nat.le_trans hb1.size hb2.size
  clear F2 R1a R2a hb1 hb2
  go_upto_region 9 with (at_builtin; refine wpList_append_copy rfl _ _ _ rfl 53 j0 _ 40 Try.underlying27 jii jz0 jz1 jz2 rfl (by decide) rcs_len rcs_one rfl _ _ rfl R1b.out hby1 h631 ?_; intro v3 w3 ho3 hb3)
  have R2c := Lib.hid (R2b.out.keep hb3)
  have O3 : Hid (OwnR w3 w2.heap.size v3 l) := Lib.hid ho3
  have hs3 := hb3.size
  have b3 : Below B w w3 := b2.trans (hb3.mono hs2)
  clear ho3 hb3 R1b R2b b2
  go_upto_region 10 with (at_builtin; refine wpList_append_copy rfl _ _ _ rfl 53 j0 _ 40 Try.underlying27 jii jz0 jz1 jz2 rfl (by decide) rcs_len rcs_one rfl _ _ rfl R2c.out hby2 h632 ?_; intro v4 w4 ho4 hb4)
  have O3' : Hid (OwnR w4 w2.heap.size v3 l) := Lib.hid (ownsKeep O3.out hb4)
  have O4 : Hid (OwnR w4 w3.heap.size v4 m) := Lib.hid ho4
  have N34 := Lib.hid (show ∀ k, v3.ownBlock = some k → v4.ownBlock ≠ some k from fun k a b => by
    have x := (O3.out.lt k a).2
    have y := (ho4.lt k b).1
    omega)
  have hs4 := hb4.size
  have b4 : Below B w w4 := b3.trans (hb4.mono (by omega))
  clear ho4 hb4 R2c O3 b3 jii jz0 jz1 jz2
  go_wp2_with fail
  refine (SS.out v3 w2.heap.size w4 O3'.out).mono ?_
  rintro e w5 ⟨rfl, ho5, u5⟩
  have O4' : Hid (OwnR w5 w3.heap.size v4 m) := Lib.hid (u5.owns O4.out fun k a b => N34.out k b a)
  have O5 := Lib.hid ho5
  have b5 : Below B w w5 := b4.trans (u5.below (n := B) (fun k e => by have := (O3'.out.lt k e).1; omega) (by omega))
  have hs5 := u5.size
  clear ho5 u5 SS O4 O3' b4
  go_wp2_with fail
  refine (ST.out v4 w3.heap.size w5 O4'.out).mono ?_
  rintro e w6 ⟨rfl, ho6, u6⟩
  have O5' : Hid (OwnR w6 w2.heap.size v3 S) := Lib.hid (u6.owns O5.out fun k a b => N34.out k a b)
  have b6 : Below B w w6 := b5.trans (u6.below (n := B) (fun k e => by have := (O4'.out.lt k e).1; omega) (by omega))
  have hs6 := u6.size
  have RS := Lib.hid (OwnR.row O5'.out)
  have RT_ := Lib.hid (OwnR.row ho6)
  have hBs : B ≤ w6.heap.size := by omega
  clear ho6 u6 ST O5 O4' b5 O5' N34 hs2 hs3 hs4 hs5 hs6
  have hS60 := IS.out.size
  have hT60 := IT.out.size
  have HOPT := Lib.hid (fun (W : World) (q : PK) (hW : Below w6.heap.size w6 W) => hopF_calls T v4 q (by omega) W (RT_.out.keep hW))
  have HOPS := Lib.hid (fun (W : World) (q : PK) (hW : Below w6.heap.size w6 W) => hopF_calls S v3 q (by omega) W (RS.out.keep hW))
  obtain ⟨p3, c3, rfl, _, AS_⟩ := RS.out.at
  obtain ⟨p4, c4, rfl, _, AT_⟩ := RT_.out.at
  have AS' := Lib.hid AS_
  have AT' := Lib.hid AT_
  obtain ⟨n, hn⟩ : ∃ n, S.length = n := ⟨_, rfl⟩
  obtain ⟨n2, hn2⟩ : ∃ n, T.length = n := ⟨_, rfl⟩
  have HN := Lib.hid hn
  have HN2 := Lib.hid hn2
  rw [hn] at hS60 HOPS ⊢
  rw [hn2] at hT60 HOPT ⊢
  clear AS_ AT_ RS RT_ hn hn2 hB
  go_wp2_with fail
  go_loopw [11, 36] (fun u i wr => ∃ k : Nat, k ≤ n ∧ i = .int .i64 k ∧ Hid (OwnA wr w6.heap.size u (cutsL (S.take k) T)) ∧ Below w6.heap.size w6 wr) (fun _ i _ => n - (intOf i).toNat)
  case atStart => exact ⟨0, by omega, rfl, Lib.hid (World.ownsRow_nil _ _ _ _), Below.refl _ _⟩
  case round =>
    obtain ⟨k, hk, rfl, OD, hnk⟩ := hrel
    by_cases hlt : k < n
    · have hkl : k < S.length := by rw [HN.out]; exact hlt
      obtain ⟨g, o, rfl, hg, hrec⟩ := AS'.out k hkl
      obtain ⟨x0, x1, x2, x3, x4⟩ := routeCells (hrec.keep hnk hg)
      have HT := Lib.hid (cuts_take (T := T) hkl)
      have hcll : (cutsL (S.take k) T).length ≤ 1000 := by have := cutsL_len (S.take k) T; rw [List.length_take] at this; omega
      generalize S[k] = r at x0 x1 x2 x3 x4 HT
      obtain ⟨cl, hcl⟩ : ∃ cl, cutsL (S.take k) T = cl := ⟨_, rfl⟩
      rw [hcl] at OD HT hcll
      have hlt' : (k : Int) < (n : Int) := by omega
      have hnR := hnk.alloc hnk.size (.cells #[.bool r.1.1, .int .u64 (aH r.1.2.1), .int .u64 (aL r.1.2.1), .int .i64 r.1.2.2, .int .i64 r.2] 53)
      have ODR := Lib.hid (OD.out.alloc (.cells #[.bool r.1.1, .int .u64 (aH r.1.2.1), .int .u64 (aL r.1.2.1), .int .i64 r.1.2.2, .int .i64 r.2] 53))
      have y0 := RouteAt wr r 0
      have y1 := RouteAt wr r 1
      have y2 := RouteAt wr r 2
      have y3 := RouteAt wr r 3
      simp only [rcs, List.getElem?_cons_zero, List.getElem?_cons_succ] at y0 y1 y2 y3
      have hb0 : wr.heap.size < (wr.alloc (.cells #[.bool r.1.1, .int .u64 (aH r.1.2.1), .int .u64 (aL r.1.2.1), .int .i64 r.1.2.2, .int .i64 r.2] 53)).heap.size := by simp
      have CF := Lib.hid (HOPT.out _ r.1 hnR)
      have HC := Lib.hid (hop_cut IT.out r)
      obtain ⟨z, hz⟩ : ∃ z, hopZ T r.1 = z := ⟨_, rfl⟩
      rw [hz] at CF HC
      rw [HC.out] at HT
      clear hcl hrec OD hnk hz
      go_wp2_with fail
      refine CF.out.mono ?_
      rintro e w7 ⟨rfl, hb7⟩
      have z0 := (hb7.cell (p := ⟨wr.heap.size, 0, none⟩) hb0).trans y0
      have z1 := (hb7.cell (p := ⟨wr.heap.size, 1, none⟩) hb0).trans y1
      have z2 := (hb7.cell (p := ⟨wr.heap.size, 2, none⟩) hb0).trans y2
      have z3 := (hb7.cell (p := ⟨wr.heap.size, 3, none⟩) hb0).trans y3
      have hn7 := thenBelow hnR hb7
      have OD7 := Lib.hid (ownsKeep ODR.out hb7)
      clear CF x0 x1 x2 x3 x4 y0 y1 y2 y3 hb0 hnR ODR hb7
      by_cases hz0' : z = 0
      · have HT2 : Hid (cutsL (S.take (k + 1)) T = cl ++ [cutAct r.1]) := Lib.hid (by rw [HT.out]; simp [hz0'])
        have OD3 := Lib.hid (OD7.out.alloc (.cells #[.int .i64 2, .bool r.1.1, .int .u64 (aH r.1.2.1), .int .u64 (aL r.1.2.1), .int .i64 r.1.2.2, .int .i64 0, .bool false, .int .u64 0, .int .u64 0] 55))
        have hCN : Hid (∀ j u, (acs (cutAct r.1))[j]? = some u → (w7.alloc (.cells #[.int .i64 2, .bool r.1.1, .int .u64 (aH r.1.2.1), .int .u64 (aL r.1.2.1), .int .i64 r.1.2.2, .int .i64 0, .bool false, .int .u64 0, .int .u64 0] 55)).cell? ⟨w7.heap.size, j, none⟩ = some u) := Lib.hid (by
          have := cell_new w7 (acs (cutAct r.1)) 55
          simp only [acs, cutAct, aH_zero, aL_zero] at this ⊢
          exact this)
        have hnA := hn7.alloc hn7.size (.cells #[.int .i64 2, .bool r.1.1, .int .u64 (aH r.1.2.1), .int .u64 (aL r.1.2.1), .int .i64 r.1.2.2, .int .i64 0, .bool false, .int .u64 0, .int .u64 0] 55)
        have hb' : (z == 0) = true := by simp [hz0']
        have hsz7 := hn7.size
        clear HT HC OD7 hn7 hz0'
        obtain ⟨hii, hz0, hz1, hz2⟩ := IN.out
        go_wp2_with (at_builtin; refine wpList_append_one rfl _ _ 22 rfl w6.heap.size 55 i0 _ 72 Try.underlying22 hii hz0 hz1 hz2 rfl (by decide) acs_len acs_one cl ⟨_, rfl, OD3.out⟩ (cutAct r.1) w7.heap.size 1 rfl hCN.out (by omega) (by decide) (by simp; omega) ?_; intro v8 w8 ho8 hg8 hb8)
        have hn8 := hnA.trans hb8
        have OD8 := Lib.hid ho8
        clear ho8 hg8 hb8 hnA OD3 hCN
        go_roundw
        case rel => exact ⟨k + 1, by omega, by go_num, Lib.hid (by rw [HT2.out]; exact OD8.out), hn8⟩
        case measure => simp [intOf]; omega
      · have HT2 : Hid (cutsL (S.take (k + 1)) T = cl) := Lib.hid (by rw [HT.out]; simp [hz0'])
        have hb' : (z == 0) = false := by simp [hz0']
        clear HT HC z0 z1 z2 z3 hz0'
        go_wp2_with fail
        go_roundw
        case rel => exact ⟨k + 1, by omega, by go_num, Lib.hid (by rw [HT2.out]; exact OD7.out), hn7⟩
        case measure => simp [intOf]; omega
    · obtain rfl : k = n := by omega
      have e1 : S.take k = S := by rw [← HN.out]; exact List.take_length
      rw [e1] at OD
      obtain ⟨XC, hXC⟩ : ∃ X, cutsL S T = X := ⟨_, rfl⟩
      have hXl : XC.length ≤ 60 := by have := cutsL_len S T; rw [hXC, HN.out] at this; omega
      have HD : Hid (difL S T = XC ++ putsL (wiL T S)) := Lib.hid (by rw [difL, hXC])
      rw [hXC] at OD
      clear hXC e1 hlt HOPT AS'
      go_wp2_with fail
      go_loopw [11, 55] (fun u i wx => ∃ j : Nat, j ≤ n2 ∧ i = .int .i64 j ∧ Hid (OwnA wx w6.heap.size u (XC ++ putsL (wiL (T.take j) S))) ∧ Below w6.heap.size w6 wx) (fun _ i _ => n2 - (intOf i).toNat)
      case atStart => exact ⟨0, by omega, rfl, Lib.hid (by have := OD.out; simpa [wiL, putsL] using this), hnk⟩
      case round =>
        clear OD hnk
        obtain ⟨j, hj, rfl, OD, hnk⟩ := hrel
        by_cases hltj : j < n2
        · have hjl : j < T.length := by rw [HN2.out]; exact hltj
          obtain ⟨g, o, rfl, hg, hrec⟩ := AT'.out j hjl
          obtain ⟨x0, x1, x2, x3, x4⟩ := routeCells (hrec.keep hnk hg)
          have HT := Lib.hid (putsW_take (S := S) hjl)
          have H1 := Lib.hid (rtE_0 (IT.out.fine _ (List.getElem_mem hjl))).2.1
          have hcll : (putsL (wiL (T.take j) S)).length ≤ 60 := by rw [putsL_len]; exact Nat.le_trans (wiL_len _ _) (Nat.le_trans (List.length_take_le _ _) (by omega))
          generalize T[j] = r at x0 x1 x2 x3 x4 HT H1
          obtain ⟨pl, hpl⟩ : ∃ X, putsL (wiL (T.take j) S) = X := ⟨_, rfl⟩
          rw [hpl] at OD HT hcll
          obtain ⟨cl, hcl⟩ : ∃ cl, XC ++ pl = cl := ⟨_, rfl⟩
          have hcll2 : cl.length ≤ 120 := by rw [← hcl, List.length_append]; omega
          rw [hcl] at OD
          obtain ⟨z, hz⟩ : ∃ z, hopZ S r.1 = z := ⟨_, rfl⟩
          obtain ⟨q, hq⟩ : ∃ q, (z == r.2) = q := ⟨_, rfl⟩
          have HT3 : Hid (XC ++ putsL (wiL (T.take (j + 1)) S) = cl ++ if q then [] else [putAct r]) := Lib.hid (by
            rw [HT.out, ← List.append_assoc, hcl, hop_put IS.out H1.out, hz, ← hq]
            by_cases e : z = r.2 <;> simp [e])
          have hlt' : (j : Int) < (n2 : Int) := by omega
          have hnR := hnk.alloc hnk.size (.cells #[.bool r.1.1, .int .u64 (aH r.1.2.1), .int .u64 (aL r.1.2.1), .int .i64 r.1.2.2, .int .i64 r.2] 53)
          have ODR := Lib.hid (OD.out.alloc (.cells #[.bool r.1.1, .int .u64 (aH r.1.2.1), .int .u64 (aL r.1.2.1), .int .i64 r.1.2.2, .int .i64 r.2] 53))
          have y0 := RouteAt wr r 0
          have y1 := RouteAt wr r 1
          have y2 := RouteAt wr r 2
          have y3 := RouteAt wr r 3
          have y4 := RouteAt wr r 4
          simp only [rcs, List.getElem?_cons_zero, List.getElem?_cons_succ] at y0 y1 y2 y3 y4
          have hb0 : wr.heap.size < (wr.alloc (.cells #[.bool r.1.1, .int .u64 (aH r.1.2.1), .int .u64 (aL r.1.2.1), .int .i64 r.1.2.2, .int .i64 r.2] 53)).heap.size := by simp
          clear hcl hpl hrec OD hnk HT H1
          go_upto_region 22 with fail
          clear x0 x1 x2 x3 x4
          generalize wr.alloc (.cells #[.bool r.1.1, .int .u64 (aH r.1.2.1), .int .u64 (aL r.1.2.1), .int .i64 r.1.2.2, .int .i64 r.2] 53) = Y at hnR ODR y0 y1 y2 y3 y4 hb0 ⊢
          obtain ⟨b5, hb5⟩ : ∃ b, wr.heap.size = b := ⟨_, rfl⟩
          rw [hb5] at y0 y1 y2 y3 y4 hb0 ⊢
          clear hb5
          have HBB := Lib.hid (show ∀ W, Below Y.heap.size Y W → W.cell? ⟨b5, 0, none⟩ = some (.bool r.1.1) ∧ W.cell? ⟨b5, 1, none⟩ = some (.int .u64 (aH r.1.2.1)) ∧ W.cell? ⟨b5, 2, none⟩ = some (.int .u64 (aL r.1.2.1)) ∧ W.cell? ⟨b5, 3, none⟩ = some (.int .i64 r.1.2.2) ∧ W.cell? ⟨b5, 4, none⟩ = some (.int .i64 r.2) from fun W hW =>
            ⟨(hW.cell (p := ⟨b5, 0, none⟩) hb0).trans y0, (hW.cell (p := ⟨b5, 1, none⟩) hb0).trans y1, (hW.cell (p := ⟨b5, 2, none⟩) hb0).trans y2, (hW.cell (p := ⟨b5, 3, none⟩) hb0).trans y3, (hW.cell (p := ⟨b5, 4, none⟩) hb0).trans y4⟩)
          have CF := Lib.hid (HOPS.out Y.drew r.1 hnR.drew)
          rw [hz] at CF
          go_cut [66] from 59 to 66 (fun s66 wx => s66 = .bool (!q) ∧ Below Y.heap.size Y wx)
          case first =>
            go_region_held3 (fun w' => w'.cell? ⟨b5, 0, none⟩ = some (.bool r.1.1) ∧ w'.cell? ⟨b5, 1, none⟩ = some (.int .u64 (aH r.1.2.1)) ∧ w'.cell? ⟨b5, 2, none⟩ = some (.int .u64 (aL r.1.2.1)) ∧ w'.cell? ⟨b5, 3, none⟩ = some (.int .i64 r.1.2.2) ∧ w'.cell? ⟨b5, 4, none⟩ = some (.int .i64 r.2))
              (first
                | exact HBB.out _ ((Below.refl _ Y).drew)
                | exact HBB.out _ B1
                | fail)
              (first
                | (go_at_call 38; refine CF.out.mono ?_; rintro e w7 ⟨rfl, hb7⟩; have B1 : Below Y.heap.size Y w7 := ((Below.refl Y.heap.size Y).drew).trans hb7)
                | fail)
            all_goals
              go_wp2_with fail
              go_meet
              exact ⟨by congr 1; rw [bne, hq], B1⟩
          case rest =>
            obtain ⟨rfl, BX⟩ := hcut
            obtain ⟨z0, z1, z2, z3, z4⟩ := HBB.out _ BX
            have hn7 := thenBelow hnR BX
            have OD7 := Lib.hid (ownsKeep ODR.out BX)
            clear y0 y1 y2 y3 y4 hb0 hnR ODR CF HBB BX hq hz
            cases q with
            | true =>
              have HT4 : Hid (XC ++ putsL (wiL (T.take (j + 1)) S) = cl) := Lib.hid (by rw [HT3.out]; simp)
              clear HT3 z0 z1 z2 z3 z4
              go_wp2_with fail
              go_roundw
              case rel => exact ⟨j + 1, by omega, by go_num, Lib.hid (by rw [HT4.out]; exact OD7.out), hn7⟩
              case measure => simp [intOf]; omega
            | false =>
              have HT4 : Hid (XC ++ putsL (wiL (T.take (j + 1)) S) = cl ++ [putAct r]) := Lib.hid (by rw [HT3.out]; simp)
              have OD3 := Lib.hid (OD7.out.alloc (.cells #[.int .i64 1, .bool r.1.1, .int .u64 (aH r.1.2.1), .int .u64 (aL r.1.2.1), .int .i64 r.1.2.2, .int .i64 r.2, .bool false, .int .u64 0, .int .u64 0] 55))
              have hCN : Hid (∀ j u, (acs (putAct r))[j]? = some u → (wc.alloc (.cells #[.int .i64 1, .bool r.1.1, .int .u64 (aH r.1.2.1), .int .u64 (aL r.1.2.1), .int .i64 r.1.2.2, .int .i64 r.2, .bool false, .int .u64 0, .int .u64 0] 55)).cell? ⟨wc.heap.size, j, none⟩ = some u) := Lib.hid (by
                have := cell_new wc (acs (putAct r)) 55
                simp only [acs, putAct, aH_zero, aL_zero] at this ⊢
                exact this)
              have hnA := hn7.alloc hn7.size (.cells #[.int .i64 1, .bool r.1.1, .int .u64 (aH r.1.2.1), .int .u64 (aL r.1.2.1), .int .i64 r.1.2.2, .int .i64 r.2, .bool false, .int .u64 0, .int .u64 0] 55)
              have hsz7 := hn7.size
              clear HT3 OD7 hn7
              obtain ⟨hii, hz0, hz1, hz2⟩ := IN.out
              go_wp2_with (at_builtin; refine wpList_append_one rfl _ _ 22 rfl w6.heap.size 55 i0 _ 72 Try.underlying22 hii hz0 hz1 hz2 rfl (by decide) acs_len acs_one cl ⟨_, rfl, OD3.out⟩ (putAct r) wc.heap.size 1 rfl hCN.out (by omega) (by decide) (by simp; omega) ?_; intro v8 w8 ho8 hg8 hb8)
              have hn8 := hnA.trans hb8
              have OD8 := Lib.hid ho8
              clear ho8 hg8 hb8 hnA OD3 hCN
              go_roundw
              case rel => exact ⟨j + 1, by omega, by go_num, Lib.hid (by rw [HT4.out]; exact OD8.out), hn8⟩
              case measure => simp [intOf]; omega
        · obtain rfl : j = n2 := by omega
          have e1 : T.take j = T := by rw [← HN2.out]; exact List.take_length
          rw [e1] at OD
          go_wp2
          go_ret2
          exact ⟨_, rfl, by rw [HD.out, HB.out]; exact ownsLow OD.out hBs, by rw [HB.out]; exact b6.trans (hnk.mono hBs)⟩
end Go.Proofs.Ytepfcphhgmmlhaa
