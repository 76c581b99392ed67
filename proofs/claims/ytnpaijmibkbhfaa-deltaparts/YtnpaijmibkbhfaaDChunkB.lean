/-
  delta.Apply: the walk.
-/
import Derived.Test.YtnpaijmibkbhfaaDChunkA
import Derived.Test.YtnpaijmibkbhfaaDChunkC
import Derived.Test.YtnpaijmibkbhfaaG5
import Derived.Test.YtnpaijmibkbhfaaG3
import Derived.Test.YtnpaijmibkbhfaaDeltaA
namespace Go.Proofs.Ytnpaijmibkbhfaa
open Go.RowKit Go.Shelf
set_option linter.unusedVariables false
set_option linter.unusedSimpArgs false
attribute [local go_sem] Oper.semAt_some
/-- What Apply answers. -/
def dapE (l : List RT) (P : List ActT) : Int := if tabE l = 0 then (if 120 < P.length then 1 else appE (sorL l) P) else tabE l
def dapL (l : List RT) (P : List ActT) : List RT := if dapE l P = 0 then appL (sorL l) P else []
theorem Box.notrow {X : World} {b : Nat} {v : Value} {row : Option Nat} (h : Box X b v) (hr : ∀ r, row = some r → ∃ o : Obj, X.heap[r]? = some o ∧ o.isCells = false) : row ≠ some b := fun e => by
  obtain ⟨ob, h1, h2⟩ := hr b e
  have h := h.1
  unfold World.cell? at h
  rw [h1] at h
  cases ob <;> simp [Obj.isCells] at h h2
theorem own_notrow {X : World} {base : Nat} {v : Value} {L : List RT} {row : Option Nat} (h : OwnR X base v L) (hr : ∀ r, row = some r → ∃ o : Obj, X.heap[r]? = some o ∧ o.isCells = false) : v.ownBlock = none ∨ v.ownBlock ≠ row := by
  rcases h.2 with ⟨e, _⟩ | ⟨g, cap, cur, e, _, hh, _⟩
  · left; rw [e]; rfl
  · right; rw [e]; intro e2
    obtain ⟨ob, h1, h2⟩ := hr g e2.symm
    rw [hh] at h1; cases h1; simp [Obj.isCells] at h2
theorem KpB.setA {M A B : Nat} (W : World) (u : Value) : KpB M A B W (W.setCell ⟨A, 0, none⟩ u) := ⟨by simp, fun k _ hk _ => Below.heap_setCell _ _ _ k hk⟩
theorem KpB.setB {M A B : Nat} (W : World) (u : Value) : KpB M A B W (W.setCell ⟨B, 0, none⟩ u) := ⟨by simp, fun k _ _ hk => Below.heap_setCell _ _ _ k hk⟩
theorem map_minR {K j : Nat} (h : j ≤ K) : (List.range j).map (fun x => min x (K - 1)) = List.range j := by
  conv => rhs; rw [← List.map_id (List.range j)]
  exact List.map_congr_left fun x hx => by have := List.mem_range.1 hx; show min x (K - 1) = x; omega
theorem dap_finish {w Wz : World} {tm : Array Value} {l : List RT} {P : List ActT} {u : Value} {E : Int} (hE : dapE l P = E) (X0 : Box Wz w.heap.size u) (X1 : Box Wz (w.heap.size + 1) (.int .i64 E))
    (h4 : tm[4]? = some (.pointer (some ⟨w.heap.size, 0, none⟩))) (h5 : tm[5]? = some (.pointer (some ⟨w.heap.size + 1, 0, none⟩))) (own : OwnR Wz w.heap.size u (dapL l P)) (b : Below w.heap.size w Wz) :
    LeavesInM Fence.wide 3 Try.prog Try.f17 tm (fun e w' => ∃ u, e = .returned (.tuple #[u, .int .i64 (dapE l P)]) ∧ OwnR w' w.heap.size u (dapL l P) ∧ Below w.heap.size w w') [] .returning Wz := by
  refine ⟨.tuple #[u, .int .i64 E], ?_, u, by rw [hE], own, b⟩
  simp [results, Try.results17, Try.f17, go_sem, h4, h5, X0.1, X1.1]
set_option maxRecDepth 100000 in
set_option maxHeartbeats 4000000 in
theorem dapply_calls (l : List RT) (P : List ActT) (v t : Value) (hlen : l.length ≤ 9223372036854775807) (hw : WordsR l) (hP : P.length ≤ 9223372036854775807) (wP : WordsA P) (w : World) (r1 : RowR w v l) (r2 : RowA w t P) :
    Calls Try.prog 17 #[v, t] w fun e w' => ∃ u, e = .returned (.tuple #[u, .int .i64 (dapE l P)]) ∧ OwnR w' w.heap.size u (dapL l P) ∧ Below w.heap.size w w' := by
  have C1 := Lib.hid (fun (W : World) (row : RowR W v l) => sorted_calls l v hlen hw W row)
  have R1 := Lib.hid r1
  have R2 := Lib.hid r2
  obtain ⟨p1, c1, rfl⟩ := r1.form
  obtain ⟨p2, c2, rfl⟩ := r2.form
  obtain ⟨N, hN⟩ : ∃ N, P.length = N := ⟨_, rfl⟩
  have HN := Lib.hid hN
  rw [hN] at R2 hP ⊢
  clear r1 r2 hN
  have HW := Lib.hid wP
  clear wP
  refine (callsIn_wide (n := 3)).1 ?_
  refine callsIn_of_wp_marks Try.func17 rfl trivial ?_ rfl
  simp only [Try.ntmps17, List.size_toArray, List.length_cons, List.length_nil, Nat.reduceAdd, Nat.reduceSub, Array.replicate_succ, Array.replicate_zero, List.push_toArray, List.append_toArray, List.nil_append, List.cons_append]
  have B0 := (Box.new w (.slice none 0 0) 32).alloc (.cells #[.int .i64 0] 29)
  have B1 := Box.new (w.alloc (.cells #[.slice none 0 0] 32)) (.int .i64 0) 29
  have bA : Below w.heap.size w ((w.alloc (.cells #[.slice none 0 0] 32)).alloc (.cells #[.int .i64 0] 29)) := ((Below.refl _ _).alloc (Nat.le_refl _) _).alloc (by simp) _
  simp only [World.size_alloc] at B0 B1
  gi_wp2_with (fail)
  refine ⟨trivial, (callsIn_wide.2 (C1.out _ (R1.out.keep bA))).mono ?_⟩
  rintro e w1 ⟨u, rfl, o1, hb1⟩
  have hs0 : ((w.alloc (.cells #[.slice none 0 0] 32)).alloc (.cells #[.int .i64 0] 29)).heap.size = w.heap.size + 2 := by simp
  obtain ⟨W0, hW0⟩ : ∃ W0, (w.alloc (.cells #[.slice none 0 0] 32)).alloc (.cells #[.int .i64 0] 29) = W0 := ⟨_, rfl⟩
  rw [hW0] at B0 B1 bA hb1 o1 hs0
  rw [hs0] at hb1 o1
  clear hW0 C1 R1
  have B0 : Box w1 w.heap.size (.slice none 0 0) := B0.keep hb1 (by omega)
  have B1 : Box w1 (w.heap.size + 1) (.int .i64 0) := B1.keep hb1 (by omega)
  have b1 : Below w.heap.size w w1 := bA.trans (hb1.mono (by omega))
  have hs1 := hb1.size
  rw [hs0] at hs1
  have O1 := Lib.hid o1
  obtain ⟨up, uc, rfl⟩ := o1.row.form
  clear o1 bA hb1 hs0
  obtain ⟨x0, x1, x2⟩ := id B0
  obtain ⟨y0, y1, y2⟩ := id B1
  by_cases h0 : tabE l = 0
  · by_cases h120 : 120 < N
    · have h120' : (120 : Int) < (N : Int) := by omega
      have hE : Hid (dapE l P = 1) := Lib.hid (by rw [dapE, if_pos h0, HN.out, if_pos h120])
      rw [h0]
      gi_wp2
      have bZ := ((((b1.setCell (p := ⟨w.heap.size, 0, none⟩) (Nat.le_refl _) (.slice none 0 0)).setCell (p := ⟨w.heap.size + 1, 0, none⟩) (Nat.le_succ _) (.int .i64 1)).alloc (by simp; omega) (.cells #[.slice up (sorL l).length uc] 32)).alloc (by simp; omega) (.cells #[.int .i64 0] 29))
      have X0 := (((B0.store (.slice none 0 0)).far (p := ⟨w.heap.size + 1, 0, none⟩) (by simp) (.int .i64 1)).alloc (.cells #[.slice up (sorL l).length uc] 32)).alloc (.cells #[.int .i64 0] 29)
      have X1 := ((Box.store (B1.far (p := ⟨w.heap.size, 0, none⟩) (by simp) (.slice none 0 0)) (.int .i64 1)).alloc (.cells #[.slice up (sorL l).length uc] 32)).alloc (.cells #[.int .i64 0] 29)
      exact dap_finish hE.out X0 X1 rfl rfl (by rw [dapL, hE.out, if_neg (by decide)]; exact World.ownsRow_nil _ _ _ _) bZ
    · have h120' : ¬ (120 : Int) < (N : Int) := by omega
      rw [h0]
      gi_wp2_with (fail)
      refine ⟨trivial, (callsIn_wide.2 (chunk_calls _ _ _ _)).mono ?_⟩
      rintro e w2 ⟨rfl, rfl⟩
      gi_wp2
      obtain ⟨g, o, hcap, hp⟩ : ∃ g o, N ≤ c2 ∧ (0 < N → p2 = some ⟨g, o, none⟩ ∧ g < w.heap.size) := by
        have hn := HN.out
        rcases R2.out with ⟨h0, p, c, e⟩ | ⟨g, o, c, e, hg, hc, _⟩
        · cases e; exact ⟨0, 0, by omega, fun h => by omega⟩
        · cases e; exact ⟨g, o, by omega, fun _ => ⟨rfl, hg⟩⟩
      obtain ⟨K, hK⟩ : ∃ K, K = (N + 39) / 40 := ⟨_, rfl⟩
      have HK := Lib.hid hK
      clear hK
      have XR := ((((Box.new w1 (.slice up (sorL l).length uc) 32).alloc (.cells #[.int .i64 0] 29)).alloc (.cells #[.slice p2 N c2] 33)).alloc (.cells #[.int .i64 40] 3))
      have XE := (((Box.new (w1.alloc (.cells #[.slice up (sorL l).length uc] 32)) (.int .i64 0) 29).alloc (.cells #[.slice p2 N c2] 33)).alloc (.cells #[.int .i64 40] 3))
      have XS := ((Box.new ((w1.alloc (.cells #[.slice up (sorL l).length uc] 32)).alloc (.cells #[.int .i64 0] 29)) (.slice p2 N c2) 33).alloc (.cells #[.int .i64 40] 3))
      have XN := (Box.new (((w1.alloc (.cells #[.slice up (sorL l).length uc] 32)).alloc (.cells #[.int .i64 0] 29)).alloc (.cells #[.slice p2 N c2] 33)) (.int .i64 40) 3)
      simp only [World.size_alloc] at XR XE XS XN
      have bC : Below w1.heap.size w1 ((((w1.alloc (.cells #[.slice up (sorL l).length uc] 32)).alloc (.cells #[.int .i64 0] 29)).alloc (.cells #[.slice p2 N c2] 33)).alloc (.cells #[.int .i64 40] 3)) := by go_grown
      have hsz : ((((w1.alloc (.cells #[.slice up (sorL l).length uc] 32)).alloc (.cells #[.int .i64 0] 29)).alloc (.cells #[.slice p2 N c2] 33)).alloc (.cells #[.int .i64 40] 3)).heap.size = w1.heap.size + 4 := by simp
      obtain ⟨WC, hWC⟩ : ∃ W0, ((((w1.alloc (.cells #[.slice up (sorL l).length uc] 32)).alloc (.cells #[.int .i64 0] 29)).alloc (.cells #[.slice p2 N c2] 33)).alloc (.cells #[.int .i64 40] 3)) = W0 := ⟨_, rfl⟩
      rw [hWC] at XR XE XS XN bC hsz ⊢
      clear hWC
      have B0C := B0.keep bC B0.2.2
      have B1C := B1.keep bC B1.2.2
      have OC := Lib.hid (ownsKeep O1.out bC)
      have bW := thenBelow b1 bC
      clear B0 B1 x0 x1 x2 y0 y1 y2 O1 bC b1
      have stops : SeqStopsK Fence.wide 2 Try.prog 73 #[.pointer (some ⟨w1.heap.size + 1 + 1, 0, none⟩), .pointer (some ⟨w1.heap.size + 1 + 1 + 1, 0, none⟩)] (fun x => #[partV g o N (min x (K - 1))]) (KpB (w1.heap.size + 4) w1.heap.size (w1.heap.size + 1)) (fun ys => ys = List.range K) (fun pre => ∃ j, j ≤ K ∧ pre = List.range j) K WC := fun l J Jx W hW hJ _ hY h0 =>
        chunk1_in 2 l (w1.heap.size + 4) w1.heap.size (w1.heap.size + 1) (w1.heap.size + 1 + 1) (w1.heap.size + 1 + 1 + 1) g o N c2 K p2 J Jx (fun pre x W hj hl hx => by have h := hY pre x W hj hl; simp only [Nat.min_eq_left (show x ≤ K - 1 by omega)] at h; exact h) W hJ (by have := hW.size; omega) (by omega) hcap (fun h => (hp h).1) HK.out
          ⟨by omega, by omega, by omega⟩ ⟨by omega, by omega, by omega⟩ (XS.keep hW XS.2.2).1 (XN.keep hW XN.2.2).1 h0
      have ST := Lib.hid stops
      clear stops XS XN
      have IS : InvR (sorL l) := by rw [sorL, if_pos h0]; exact srt_inv h0
      obtain ⟨S, hS⟩ : ∃ S, sorL l = S := ⟨_, rfl⟩
      have HS := Lib.hid hS
      rw [hS] at OC XR IS ⊢
      have DE : Hid (dapE l P = appE S P) := Lib.hid (by rw [dapE, if_pos h0, HN.out, if_neg (by omega), HS.out])
      have DL : Hid (dapL l P = if appE S P = 0 then appL S P else []) := Lib.hid (by rw [dapL, DE.out, HS.out])
      clear hS
      refine wpIn_rangeFunc_ownH rfl (by omega) (gf := 73) (lb := #[.pointer (some ⟨w1.heap.size + 1 + 1, 0, none⟩), .pointer (some ⟨w1.heap.size + 1 + 1 + 1, 0, none⟩)]) rfl trivial (enters_of Try.func73 (by kernel_rfl) rfl)
        ST.out (fun h g => h.trans g) (fun W l o o' hl ho _ _ => ⟨by simp, fun k hk _ _ => World.putObj_heap_other (by rw [hsz] at hl; omega)⟩) (Below.refl _ _) (fun _ => rfl)
        (fun pre W => (Box W w.heap.size (.slice none 0 0) ∧ Box W (w.heap.size + 1) (.int .i64 0) ∧ (∃ u, Box W w1.heap.size u ∧ OwnR W (w.heap.size + 2) u (appL S (ptA P (pre.map fun x => min x (K - 1))))) ∧ (∃ E, Box W (w1.heap.size + 1) (.int .i64 E)) ∧ appE S (ptA P (pre.map fun x => min x (K - 1))) = 0 ∧ w1.heap.size + 4 ≤ W.heap.size) ∧ Below w.heap.size w W)
        (fun c pre W => (c = .ret ∧ Box W w.heap.size (.slice none 0 0) ∧ Box W (w.heap.size + 1) (.int .i64 (appE S (ptA P (pre.map fun x => min x (K - 1))))) ∧ appE S (ptA P (pre.map fun x => min x (K - 1))) ≠ 0 ∧ w1.heap.size + 4 ≤ W.heap.size) ∧ Below w.heap.size w W)
        (OwnFrom.and (Own.from (fun s X Y row hs hg hr => by
          obtain ⟨h1, h2, ⟨u, h3, h4⟩, ⟨E, h5⟩, h6, h7⟩ := hs
          exact ⟨h1.grown hg (h1.notrow hr), h2.grown hg (h2.notrow hr), ⟨u, h3.grown hg (h3.notrow hr), h4.kept hg (own_notrow h4 hr)⟩, ⟨E, h5.grown hg (h5.notrow hr)⟩, h6, Nat.le_trans h7 hg.size⟩) _) (ownFrom_below (Nat.le_refl _) (by omega)))
        (fun c => OwnFrom.and (Own.from (fun s X Y row hs hg hr => by
          obtain ⟨h0, h1, h2, h6, h7⟩ := hs
          exact ⟨h0, h1.grown hg (h1.notrow hr), h2.grown hg (h2.notrow hr), h6, Nat.le_trans h7 hg.size⟩) _) (ownFrom_below (Nat.le_refl _) (by omega)))
        ⟨⟨B0C, B1C, ⟨_, XR, OC.out⟩, ⟨0, XE⟩, rfl, by omega⟩, bW⟩
        (fun x a' W => a' = { tmps := #[.slice p1 l.length c1, .slice p2 N c2, undef, undef, .pointer (some ⟨w.heap.size, 0, none⟩), .pointer (some ⟨w.heap.size + 1, 0, none⟩), .pointer (some ⟨w1.heap.size, 0, none⟩), .pointer (some ⟨w1.heap.size + 1, 0, none⟩), partV g o N (min x (K - 1)), .tuple #[.slice up S.length uc, .int .i64 0], .slice p1 l.length c1, .tuple #[.slice up S.length uc, .int .i64 0], .slice up S.length uc, .int .i64 0, .int .i64 0, .bool false, undef, .slice p2 N c2, .int .i64 N, .bool (decide ((120 : Int) < (N : Int))), .slice p2 N c2, .func (.func 73) #[] #[.pointer (some ⟨w1.heap.size + 1 + 1, 0, none⟩), .pointer (some ⟨w1.heap.size + 1 + 1 + 1, 0, none⟩)], partV g o N (min x (K - 1)), undef, undef, undef, undef, undef, undef, undef, undef, undef, undef], defers := [] })
        (fun x a' _ X Y row hs hg hr => hs)
        ?assign ?body ?done ?stop
      case assign =>
        rintro ll pre x W KK hI hKK
        gi_wp2
        exact hKK _ _ (KeepsFrom.refl _ _) ⟨Nat.le_refl _, fun _ _ _ _ => rfl⟩ hI rfl
      case body =>
        rintro ll pre x a' W hl ⟨r, hr⟩ ⟨⟨h1, h2, ⟨u, h3, h4⟩, ⟨E, h5⟩, h6, h7⟩, hB⟩ rfl hlt
        have hy : min x (K - 1) * 40 < N := by have := HK.out; omega
        have hsn : ptA P ((pre ++ [x]).map fun x => min x (K - 1)) = ptA P (pre.map fun x => min x (K - 1)) ++ partA P (min x (K - 1)) := by rw [List.map_append, List.map_cons, List.map_nil, ptA_snoc]
        obtain ⟨y, hyx⟩ : ∃ y, min x (K - 1) = y := ⟨_, rfl⟩
        rw [hyx] at hy hsn ⊢
        have gE : appE S (ptA P ((pre ++ [x]).map fun x => min x (K - 1))) = appE (appL S (ptA P (pre.map fun x => min x (K - 1)))) (partA P y) := by rw [hsn]; exact appE_app _ _ S h6
        have gL : appL S (ptA P ((pre ++ [x]).map fun x => min x (K - 1))) = appL (appL S (ptA P (pre.map fun x => min x (K - 1)))) (partA P y) := by rw [hsn]; exact appL_app _ _ S
        obtain ⟨T, hT⟩ : ∃ T, appL S (ptA P (pre.map fun x => min x (K - 1))) = T := ⟨_, rfl⟩
        have IT : InvR T := by rw [← hT]; exact appL_inv _ IS
        rw [hT] at h4 gE gL
        have GE := Lib.hid gE
        have GL := Lib.hid gL
        clear hT gE gL hyx hsn
        have hpl : (partA P y).length = min 40 (N - y * 40) := by rw [partA_len, HN.out]
        have rP : RowA w (partV g o N y) (partA P y) := by
          have r2 := R2.out
          obtain ⟨rfl, _⟩ := hp (by omega)
          rw [← HN.out] at r2 hy ⊢
          exact part_row r2 hy
        have C := Lib.hid (fun (X : World) (hX : Below W.heap.size W X) => dplay_calls T (partA P y) u (partV g o N y) IT (by omega) (by omega) (partA_words HW.out y) X (OwnR.row (ownsKeep h4 hX)) (rP.keep (hB.trans (hX.mono hB.size))))
        obtain ⟨q, hq⟩ : ∃ q, min 40 (N - y * 40) = q := ⟨_, rfl⟩
        unfold partV at C ⊢
        rw [hq] at C ⊢
        clear rP
        have OT := Lib.hid h4
        obtain ⟨vp, vc, rfl⟩ := h4.row.form
        clear h4
        obtain ⟨z0, z1, z2⟩ := id h3
        obtain ⟨e0, e1, e2⟩ := id h5
        gi_wp2_with (fail)
        refine ⟨trivial, ((CallsIn.inRound ll (callsIn_wide.2 (C.out W (Below.refl _ _)))).mono ?_)⟩
        rintro e w3 ⟨u3, rfl, o3, hb3⟩
        have g1 := h1.keep hb3 h1.2.2
        have g2 := h2.keep hb3 h2.2.2
        have g3 := h3.keep hb3 h3.2.2
        have g5 := h5.keep hb3 h5.2.2
        have hKF := KeepsFrom.of_grownBy (B := WC.heap.size) (below_grownNone hb3) (fun _ e => by cases e)
        have hKp := KpB.below (M := w1.heap.size + 4) (A := w1.heap.size) (B := w1.heap.size + 1) hb3 h7
        have hB3 := thenBelow hB hb3
        have hs3 := hb3.size
        have h73 : w1.heap.size + 4 ≤ w3.heap.size := Nat.le_trans h7 hs3
        have OO := Lib.hid (ownsLow o3 (show w.heap.size + 2 ≤ W.heap.size by omega))
        have ON := Lib.hid (fun k e => (o3.lt k e).1)
        obtain ⟨vp3, vc3, rfl⟩ := (OwnR.row o3).form
        clear C OT o3 hb3 z0 z1 z2 e0 e1 e2 h1 h2 h3 h5
        obtain ⟨z0, z1, z2⟩ := id g3
        obtain ⟨e0, e1, e2⟩ := id g5
        obtain ⟨x0, x1, x2⟩ := id g1
        obtain ⟨y0, y1, y2⟩ := id g2
        have hne : ¬ w1.heap.size + 1 = w1.heap.size := by omega
        by_cases hz : appE T (partA P y) = 0
        · have HR : appR T (partA P y) = appL T (partA P y) := by rw [appR, if_pos hz]
          rw [HR] at OO ON ⊢
          rw [hz]
          gi_wp2
          have O4 := OO.out.kept (grownBy_setCell w3 ⟨w1.heap.size, 0, none⟩ (.slice vp3 (appL T (partA P y)).length vc3)) (.inr fun e => by have : W.heap.size ≤ w1.heap.size := ON.out _ e; omega)
          have O5 := O4.kept (grownBy_setCell _ ⟨w1.heap.size + 1, 0, none⟩ (.int .i64 0)) (.inr fun e => by have : W.heap.size ≤ w1.heap.size + 1 := ON.out _ e; omega)
          exact ⟨hKF.trans (((KeepsOthers.setCell _ _ _).from _).trans ((KeepsOthers.setCell _ _ _).from _)), hKp.trans ((KpB.setA _ _).trans (KpB.setB _ _)),
            ⟨(g1.far (p := ⟨w1.heap.size, 0, none⟩) (by show w.heap.size ≠ w1.heap.size; omega) _).far (p := ⟨w1.heap.size + 1, 0, none⟩) (by show w.heap.size ≠ w1.heap.size + 1; omega) _,
             (g2.far (p := ⟨w1.heap.size, 0, none⟩) (by show w.heap.size + 1 ≠ w1.heap.size; omega) _).far (p := ⟨w1.heap.size + 1, 0, none⟩) (by show w.heap.size + 1 ≠ w1.heap.size + 1; omega) _,
             ⟨_, (g3.store _).far (p := ⟨w1.heap.size + 1, 0, none⟩) (by show w1.heap.size ≠ w1.heap.size + 1; omega) _, by rw [GL.out]; exact O5⟩,
             ⟨0, Box.store (g5.far (p := ⟨w1.heap.size, 0, none⟩) (by show w1.heap.size + 1 ≠ w1.heap.size; omega) _) _⟩, GE.out.trans hz, by simp; omega⟩,
            (hB3.setCell (p := ⟨w1.heap.size, 0, none⟩) (by show w.heap.size ≤ w1.heap.size; omega) _).setCell (p := ⟨w1.heap.size + 1, 0, none⟩) (by show w.heap.size ≤ w1.heap.size + 1; omega) _⟩
        · have hz' : (appE T (partA P y) != 0) = true := by simpa using hz
          gi_wp2
          have k1 := (((g1.far (p := ⟨w1.heap.size, 0, none⟩) (by show w.heap.size ≠ w1.heap.size; omega) (.slice vp3 (appR T (partA P y)).length vc3)).far (p := ⟨w1.heap.size + 1, 0, none⟩) (by show w.heap.size ≠ w1.heap.size + 1; omega) (.int .i64 (appE T (partA P y)))).store (.slice none 0 0)).far (p := ⟨w.heap.size + 1, 0, none⟩) (by simp) (.int .i64 (appE T (partA P y)))
          have k2 := Box.store (((g2.far (p := ⟨w1.heap.size, 0, none⟩) (by show w.heap.size + 1 ≠ w1.heap.size; omega) (.slice vp3 (appR T (partA P y)).length vc3)).far (p := ⟨w1.heap.size + 1, 0, none⟩) (by show w.heap.size + 1 ≠ w1.heap.size + 1; omega) (.int .i64 (appE T (partA P y)))).far (p := ⟨w.heap.size, 0, none⟩) (by simp) (.slice none 0 0)) (.int .i64 (appE T (partA P y)))
          have kB := (((hB3.setCell (p := ⟨w1.heap.size, 0, none⟩) (by show w.heap.size ≤ w1.heap.size; omega) (.slice vp3 (appR T (partA P y)).length vc3)).setCell (p := ⟨w1.heap.size + 1, 0, none⟩) (by show w.heap.size ≤ w1.heap.size + 1; omega) (.int .i64 (appE T (partA P y)))).setCell (p := ⟨w.heap.size, 0, none⟩) (Nat.le_refl _) (.slice none 0 0)).setCell (p := ⟨w.heap.size + 1, 0, none⟩) (Nat.le_succ _) (.int .i64 (appE T (partA P y)))
          have kF := hKF.trans ((((KeepsOthers.setCell w3 ⟨w1.heap.size, 0, none⟩ (.slice vp3 (appR T (partA P y)).length vc3)).from WC.heap.size).trans ((KeepsOthers.setCell _ ⟨w1.heap.size + 1, 0, none⟩ (.int .i64 (appE T (partA P y)))).from _)).trans (((KeepsOthers.setCell _ ⟨w.heap.size, 0, none⟩ (.slice none 0 0)).from _).trans ((KeepsOthers.setCell _ ⟨w.heap.size + 1, 0, none⟩ (.int .i64 (appE T (partA P y)))).from _)))
          gi_region
          all_goals gi_wp2
          all_goals first
            | exact ⟨kF, ⟨rfl, k1, by rw [GE.out]; exact k2, by rw [GE.out]; exact hz, by simp; omega⟩, kB⟩
            | exact ⟨kF.trans (KeepsFrom.of_grownBy (below_grownNone ((Below.refl _ _).drew)) (fun _ e => by cases e)), ⟨rfl, k1.drew, by rw [GE.out]; exact k2.drew, by rw [GE.out]; exact hz, by simp; omega⟩, kB.drew⟩
      case done =>
        rintro D zs W hD rfl ⟨⟨h1, h2, ⟨u, h3, h4⟩, ⟨E, h5⟩, h6, h7⟩, hB⟩ hK'
        rw [map_minR (Nat.le_refl _), ptA_all P (by rw [HN.out]; exact HK.out)] at h4 h6
        obtain ⟨vp, vc, rfl⟩ := h4.row.form
        obtain ⟨z0, z1, z2⟩ := id h3
        obtain ⟨x0, x1, x2⟩ := id h1
        obtain ⟨y0, y1, y2⟩ := id h2
        gi_wp2
        have bS := (hB.setCell (p := ⟨w.heap.size, 0, none⟩) (Nat.le_refl _) (.slice vp (appL S P).length vc)).setCell (p := ⟨w.heap.size + 1, 0, none⟩) (Nat.le_succ _) (.int .i64 0)
        have X0 := (h1.store (.slice vp (appL S P).length vc)).far (p := ⟨w.heap.size + 1, 0, none⟩) (by simp) (.int .i64 0)
        have X1 := Box.store (h2.far (p := ⟨w.heap.size, 0, none⟩) (by simp) (.slice vp (appL S P).length vc)) (.int .i64 0)
        have O2 := h4.kept (grownBy_setCell W ⟨w.heap.size, 0, none⟩ (.slice vp (appL S P).length vc)) (.inr fun e => by have := (h4.lt w.heap.size e).1; omega)
        have O3 := O2.kept (grownBy_setCell _ ⟨w.heap.size + 1, 0, none⟩ (.int .i64 0)) (.inr fun e => by have := (O2.lt (w.heap.size + 1) e).1; omega)
        have hK2 := (KeepsOthers.setCell _ ⟨w.heap.size + 1, 0, none⟩ (.int .i64 0)).same D _ ((KeepsOthers.setCell W ⟨w.heap.size, 0, none⟩ (.slice vp (appL S P).length vc)).same D _ hK' rfl) rfl
        have gD := grownBy_putObj' ((W.setCell ⟨w.heap.size, 0, none⟩ (.slice vp (appL S P).length vc)).setCell ⟨w.heap.size + 1, 0, none⟩ (.int .i64 0)) D (.deferred none)
        have hr : ∀ r, some D = some r → ∃ o : Obj, ((W.setCell ⟨w.heap.size, 0, none⟩ (.slice vp (appL S P).length vc)).setCell ⟨w.heap.size + 1, 0, none⟩ (.int .i64 0)).heap[r]? = some o ∧ o.isCells = false := fun r e => by cases e; exact ⟨_, hK2, rfl⟩
        refine ⟨by simp, .inl ⟨_, _, rfl, run_takeDeferred hK2, ?_⟩⟩
        exact dap_finish (DE.out.trans h6) (X0.grown gD (X0.notrow hr)) (X1.grown gD (X1.notrow hr)) rfl rfl (by rw [DL.out, if_pos h6]; exact ownsLow (O3.kept gD (own_notrow O3 hr)) (by omega)) (bS.trans (belowK_b (w := w) (Nat.le_refl _) _ D _ _ (by rw [hsz] at hD; omega) hK2 rfl rfl))
      case stop =>
        rintro D c pre W hD ⟨j, hj, rfl⟩ ⟨⟨rfl, h1, h2, h6, h7⟩, hB⟩ hK'
        rw [map_minR hj] at h2 h6
        gi_wp2
        have gD := grownBy_putObj' W D (.deferred none)
        have hr : ∀ r, some D = some r → ∃ o : Obj, W.heap[r]? = some o ∧ o.isCells = false := fun r e => by cases e; exact ⟨_, hK', rfl⟩
        refine ⟨by simp, .inl ⟨_, _, rfl, run_takeDeferred hK', ?_⟩⟩
        exact dap_finish (DE.out.trans (ptA_bad h6)) (h1.grown gD (h1.notrow hr)) (h2.grown gD (h2.notrow hr)) rfl rfl (by rw [DL.out, if_neg (by rw [ptA_bad h6]; exact h6)]; exact World.ownsRow_nil _ _ _ _) (hB.trans (belowK_b (w := w) (Nat.le_refl _) _ D _ _ (by rw [hsz] at hD; omega) hK' rfl rfl))
  · have hE : Hid (dapE l P = tabE l) := Lib.hid (by rw [dapE, if_neg h0])
    have h0' : (tabE l != 0) = true := by simpa using h0
    gi_wp2
    gi_region
    gi_wp2
    have X0 := ((((B0.store (.slice none 0 0)).far (p := ⟨w.heap.size + 1, 0, none⟩) (by simp) (.int .i64 (tabE l))).alloc (.cells #[.slice up (sorL l).length uc] 32)).alloc (.cells #[.int .i64 (tabE l)] 29)).drew
    have X1 := (((Box.store (B1.far (p := ⟨w.heap.size, 0, none⟩) (by simp) (.slice none 0 0)) (.int .i64 (tabE l))).alloc (.cells #[.slice up (sorL l).length uc] 32)).alloc (.cells #[.int .i64 (tabE l)] 29)).drew
    have bZ := ((((b1.setCell (p := ⟨w.heap.size, 0, none⟩) (Nat.le_refl _) (.slice none 0 0)).setCell (p := ⟨w.heap.size + 1, 0, none⟩) (Nat.le_succ _) (.int .i64 (tabE l))).alloc (by simp; omega) (.cells #[.slice up (sorL l).length uc] 32)).alloc (by simp; omega) (.cells #[.int .i64 (tabE l)] 29)).drew
    exact dap_finish hE.out X0 X1 rfl rfl (by rw [dapL, hE.out, if_neg h0]; exact World.ownsRow_nil _ _ _ _) bZ
end Go.Proofs.Ytnpaijmibkbhfaa
