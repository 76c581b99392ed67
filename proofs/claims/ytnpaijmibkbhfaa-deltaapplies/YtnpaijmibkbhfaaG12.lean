/-
  Laid together: SrtJ, SrtK.
-/
import Derived.Test.YtnpaijmibkbhfaaG11
import Derived.Test.YtnpaijmibkbhfaaSrtI
import Derived.Test.YtnpaijmibkbhfaaG13
import Derived.Test.YtnpaijmibkbhfaaG4
import Derived.Shelf.GgSortFunc.Tiny
import Derived.Shelf.GgSortFunc.SmallK
/-
  sort.Slice with the document's function; the document's sortRoutes.
-/
namespace Go.Proofs.Ytnpaijmibkbhfaa
open Go.RowKit Go.Lib
open Go.Sort (swp PermIn SortedIn SWO swp_permIn)
set_option linter.unusedVariables false
set_option linter.unusedSimpArgs false
noncomputable def infT : TypeInfo := (Try.prog.info? 32).get (by kernel_rfl)
noncomputable def infE : TypeInfo := (Try.prog.info? 57).get (by kernel_rfl)
theorem inf_K (n : Nat) (h2 : 2 ≤ n) : Lib.swapperK n infE 25 = 9 := by
  have a : infE.hasPointers = false := by kernel_rfl
  have b : infE.bytes = 40 := by kernel_rfl
  have c : (n == 0) = false := by simp; omega
  have d : (n == 1) = false := by simp; omega
  simp [Lib.swapperK, a, b, c, d]
theorem swp_list (d : ARow) (i j : Nat) (hi : i < d.size) (hj : j < d.size) : (swp d i j).toList = (d.toList.set i d[j]!).set j d[i]! := by
  unfold swp; rw [Array.toList_setIfInBounds, Array.toList_setIfInBounds]
/-- The worlds of this sort. -/
structure SQ (base g c bl : Nat) (U : List RT) (d : ARow) (W : World) : Prop where
  perm : d.toList.Perm U
  row : OwnR W base (.slice (some ⟨g, 0, none⟩) U.length c) d.toList
  box : W.cell? ⟨bl, 0, none⟩ = some (.slice (some ⟨g, 0, none⟩) U.length c)
  bll : bl < W.heap.size
  gl : g < W.heap.size
theorem owns_frozen {w : World} {base n size cap m : Nat} {e : TypeId} {g : Nat} {xs : List Value} (h : w.ownsRow base e size (.slice (some ⟨g, 0, none⟩) m cap) n xs) (o : Nat) : w.frozen? ⟨g, o, none⟩ = false := by
  rcases h.2 with ⟨hv, _⟩ | ⟨g', cap', cur, hv, hb, hg, h1, h2, h3, h4⟩
  · cases hv
  · cases hv
    simp only [World.frozen?, hg]
    simp
theorem rec_of {w : World} {base g c : Nat} {L : List RT} (h : OwnR w base (.slice (some ⟨g, 0, none⟩) L.length c) L) (i : Nat) (hi : i < L.length) : ∀ k v, (rcs L[i])[k]? = some v → w.cell? ⟨g, 0 + i * 5 + k, none⟩ = some v := by
  obtain ⟨p, c', e, _, at_⟩ := (OwnR.row h).at
  obtain ⟨g', o, e2, _, hr⟩ := at_ i hi
  cases e
  simp only [Option.some.injEq, Addr.mk.injEq, and_true] at e2
  obtain ⟨rfl, rfl⟩ := e2
  exact fun k v hk => hr k v hk
theorem setCells_own (r : RT) {w : World} {base g c n : Nat} {L : List RT} (h : w.ownsRow base 57 5 (.slice (some ⟨g, 0, none⟩) n c) n (rowOf rcs L)) (i : Nat) (hi : i < L.length) :
    (w.setCells g (0 + i * 5) (rcs r)).ownsRow base 57 5 (.slice (some ⟨g, 0, none⟩) n c) n (rowOf rcs (L.set i r)) := by
  rw [rowOf_set r L i hi, Nat.zero_add]
  exact ownsRow_set (ownsRow_set (ownsRow_set (ownsRow_set (ownsRow_set h _ _) _ _) _ _) _ _) _ _
theorem setCells_but (g : Nat) : ∀ (vs : List Value) (o : Nat) (w : World), But (fun k => (some g : Option Nat) = some k) w (w.setCells g o vs)
  | [], _, w => But.of_below (Below.refl _ w)
  | v :: t, o, w => (But.setCell (S := fun k => (some g : Option Nat) = some k) (But.of_below (Below.refl _ w)) (p := ⟨g, o, none⟩) (fun _ => rfl) v).trans (setCells_but g t (o + 1) _) (fun _ _ h => h)
set_option maxHeartbeats 1000000 in
theorem sorter_of (base g c bl : Nat) (U : List RT) (W0 : World) (hU : U.length ≤ 1000) (hv : ValR U) (hne : g ≠ bl) (hg : g < W0.heap.size) (hb : bl < W0.heap.size) :
    Sorter 76 123 #[.pointer (some ⟨bl, 0, none⟩)] #[.slice (some ⟨g, 0, none⟩) U.length c, typeHandle Try.prog 57] ltR U.length (fun k => (some g : Option Nat) = some k) W0.heap.size
      (fun d W => SQ base g c bl U d W ∧ W0.heap.size ≤ W.heap.size) where
  eg := enters_of Try.func76 (by kernel_rfl) rfl
  less d W i j q hi hj := by
    have hs : d.toList.length = U.length := q.1.perm.length_eq
    have hs' : d.size = U.length := hs
    have row : RowR W (.slice (some ⟨g, 0, none⟩) U.length c) d.toList := OwnR.row q.1.row
    have C := sless_calls d.toList _ bl i j (by omega) (by omega) (by omega) (fun r hr => (chk0 (hv r (q.1.perm.mem_iff.1 hr))).1) W row q.1.box q.1.bll
    rw [getElem!_pos d i (by omega), getElem!_pos d j (by omega)]
    simpa using C
  swap d W i j q hi hj := by
    have hs : d.toList.length = U.length := q.1.perm.length_eq
    have hs' : d.size = U.length := hs
    have row := q.1.row
    have row' : OwnR W base (.slice (some ⟨g, 0, none⟩) d.toList.length c) d.toList := by rw [hs]; exact row
    have hie : Try.prog.info? 57 = some infE := by kernel_rfl
    have h5 : infE.size = 5 := by kernel_rfl
    have hx : ∀ args W, (callFunc 123 args).run Try.prog W = ((Extern.ReflectliteSwapper.swap false args).run Try.prog W).andThen fun v w' => .ok (.value v) w' :=
      fun args W => run_callFunc_extern Try.func123 (by kernel_rfl) (by kernel_rfl) (by kernel_rfl) (e := Extern.ReflectliteSwapper.swap false) (by kernel_rfl) args W
    have X := Lib.run_swap_cells (P := Try.prog) false 57 infE hie (fun _ => by kernel_rfl) g 0 U.length c i j hi hj (rcs d[i]!) (rcs d[j]!) h5.symm h5.symm (rcs_one _) (rcs_one _) W
      (by rw [h5, getElem!_pos d i (by omega)]; exact fun k v h => rec_of row' i (by omega) k v (by rw [Array.getElem_toList]; exact h)) (by rw [h5, getElem!_pos d j (by omega)]; exact fun k v h => rec_of row' j (by omega) k v (by rw [Array.getElem_toList]; exact h))
      (fun k _ => owns_frozen row _) (fun k _ => owns_frozen row _)
    rw [h5] at X
    refine ⟨_, by
      rw [hx, show (#[Value.int .i64 (i : Int), Value.int .i64 (j : Int)] ++ #[Value.slice (some ⟨g, 0, none⟩) U.length c, typeHandle Try.prog 57]) = #[.int .i64 i, .int .i64 j, .slice (some ⟨g, 0, none⟩) U.length c, typeHandle Try.prog 57] from rfl, X]
      rfl, ?_, (setCells_but g _ _ _).trans (setCells_but g _ _ _) (fun _ _ h => h)⟩
    have B : But (fun k => (some g : Option Nat) = some k) W ((W.setCells g (0 + i * 5) (rcs d[j]!)).setCells g (0 + j * 5) (rcs d[i]!)) := (setCells_but g _ _ _).trans (setCells_but g _ _ _) (fun _ _ h => h)
    have pz : (swp d i j).toList.Perm d.toList := perm_all (swp_permIn d 0 d.size i j (Nat.zero_le _) (by omega) (Nat.zero_le _) (by omega) (Nat.le_refl _)) (Nat.le_refl _)
    have e1 : (swp d i j).toList = (d.toList.set i d[j]!).set j d[i]! := swp_list d i j (by omega) (by omega)
    have hlen : (swp d i j).toList.length = U.length := by rw [pz.length_eq, hs]
    have row2 : W.ownsRow base 57 5 (.slice (some ⟨g, 0, none⟩) U.length c) U.length (rowOf rcs d.toList) := by have := row; unfold OwnR at this; rw [hs] at this; exact this
    have R := setCells_own d[i]! (setCells_own d[j]! row2 i (by omega)) j (by rw [List.length_set]; omega)
    rw [← e1] at R
    refine ⟨⟨pz.trans q.1.perm, ?_, B.cellAt q.1.bll (fun e => hne (Option.some.inj e)) 0 q.1.box, Nat.lt_of_lt_of_le q.1.bll B.size, Nat.lt_of_lt_of_le q.1.gl B.size⟩, Nat.le_trans q.2 B.size⟩
    unfold OwnR
    rw [hlen]
    exact R
  keep d W W' q b := ⟨⟨q.1.perm, b.owns q.1.row (fun k e h => by simp only [Value.ownBlock, Option.some.injEq] at e; subst e; exact absurd h (by omega)), b.cellAt q.1.bll (fun h => absurd h (by omega)) 0 q.1.box, Nat.lt_of_lt_of_le q.1.bll b.size, Nat.lt_of_lt_of_le q.1.gl b.size⟩, Nat.le_trans q.2 b.size⟩
  size d W q := ⟨q.1.perm.length_eq, q.2⟩
  mine k e := by have := Option.some.inj e; omega
end Go.Proofs.Ytnpaijmibkbhfaa
/-
  The document's sortRoutes: it holds the same routes in the order of their prefixes.
-/
namespace Go.Proofs.Ytnpaijmibkbhfaa
open Go.RowKit Go.Lib
open Go.Sort (swp PermIn SortedIn SWO)
set_option linter.unusedVariables false
set_option linter.unusedSimpArgs false
theorem tot_keys {U : List RT} (h : (U.map Prod.fst).Nodup) : Tot ltR U.toArray := by
  unfold Tot
  rw [List.nodup_iff_pairwise_ne, List.pairwise_map] at h
  refine h.imp fun {a b} g => ?_
  rcases ltK_or a.1 b.1 with c | c | c
  · exact .inl (decide_eq_true c)
  · exact absurd c g
  · exact .inr (decide_eq_true c)
theorem sorted_of {U L : List RT} {d : ARow} (R : RelU U L) (p : d.toList.Perm U) (s : SortedIn ltR 0 U.length d) : d.toList = L := by
  have hl : d.size = U.length := p.length_eq
  have nk : (d.toList.map Prod.fst).Nodup := (p.map Prod.fst).nodup_iff.2 R.keys
  refine R.sorted (List.pairwise_iff_getElem.2 fun i j hi hj hij => ?_) (fun r => p.mem_iff)
  have hi' : i < d.size := hi
  have hj' : j < d.size := hj
  have g := s i j (Nat.zero_le _) hij (by omega)
  rw [getElem!_pos d i hi', getElem!_pos d j hj'] at g
  have g' := of_decide_eq_false g
  rw [Array.getElem_toList, Array.getElem_toList]
  rcases ltK_or d[i].1 d[j].1 with c | c | c
  · exact c
  · have := nodup_inj nk (i := i) (j := j) (by simpa using hi') (by simpa using hj') (by simpa using c)
    omega
  · exact absurd c g'
set_option maxHeartbeats 1000000 in
set_option maxRecDepth 100000 in
theorem slice_calls (U L : List RT) (v : Value) (base bl : Nat) (w : World) (R : RelU U L) (h : OwnR w base v U) (bx : w.cell? ⟨bl, 0, none⟩ = some v) (hbl : bl < w.heap.size) (hne : v.ownBlock ≠ some bl) :
    Calls Try.prog 75 #[.iface 32 v, .func (.func 76) #[] #[.pointer (some ⟨bl, 0, none⟩)]] w fun e w' => e = .returned (.tuple #[]) ∧ (OwnR w' base v L ∧ But (fun k => v.ownBlock = some k) w w') := by
  have hlen : U.length ≤ 60 := by rw [R.len]; exact R.inv.size
  have iT : Try.prog.info? 32 = some infT := by kernel_rfl
  have iE : Try.prog.info? 57 = some infE := by kernel_rfl
  have iD : infT.desc = .slice 57 := by kernel_rfl
  have iP : Try.prog.packed 32 = false := by kernel_rfl
  have iK : ∀ w, (Extern.Rtype.kind 57).run Try.prog w = .ok 25 w := fun _ => by kernel_rfl
  by_cases h2 : 2 ≤ U.length
  · obtain ⟨g, c, rfl, hbg, hgl⟩ : ∃ g c, v = .slice (some ⟨g, 0, none⟩) U.length c ∧ base ≤ g ∧ g < w.heap.size := by
      rcases h.2 with ⟨_, h0⟩ | ⟨g, c, cur, e, hb, hg, _⟩
      · omega
      · exact ⟨g, c, e, hb, (Array.getElem?_eq_some_iff.1 hg).1⟩
    have hgb : g ≠ bl := fun e => hne (by rw [e]; rfl)
    have K := sorter_of base g c bl U w (by omega) (fun r hr => R.inv.val r ((R.same r).1 hr)) hgb hgl hbl
    have hS := Any.sort_Slice_of_pdq (P := Try.prog) Try.laysGg6 32 57 infT infE iT iD iP iE 25 iK (some ⟨g, 0, none⟩) U.length c (by omega) 123 (by rw [inf_K _ h2]; kernel_rfl) (.func 76) #[] #[.pointer (some ⟨bl, 0, none⟩)] w
      (fun w' => OwnR w' base (.slice (some ⟨g, 0, none⟩) U.length c) L ∧ But (fun k => (some g : Option Nat) = some k) w w')
    change _ → Calls Try.prog 75 _ _ _ at hS
    refine hS ?_
    have hB : sliceBound Try.prog 57 infE 25 (some ⟨g, 0, none⟩) U.length c = #[.slice (some ⟨g, 0, none⟩) U.length c, typeHandle Try.prog 57] := by
      unfold sliceBound; rw [if_neg (swapperK_gt _ _ _ h2)]
    rw [hB]
    have bW : Below w.heap.size w (sliceWorld Try.prog Try.laysGg6_ren 32 (some ⟨g, 0, none⟩) U.length c w) := by
      unfold sliceWorld; exact ((Below.refl _ w).alloc (Nat.le_refl _) _).alloc (by simp) _
    generalize sliceWorld Try.prog Try.laysGg6_ren 32 (some ⟨g, 0, none⟩) U.length c w = W1 at bW
    have q0 : SQ base g c bl U U.toArray w := ⟨List.Perm.refl _, h, bx, hbl, hgl⟩
    have q1 := K.keep _ _ W1 ⟨q0, Nat.le_refl _⟩ (But.of_below bW)
    have h62 : Lib.bitLen U.length ≤ 62 := Lib.bitLen_le U.length 62 (by omega) (by omega)
    have hlim : Lib.bitLen U.length ≤ 100 := Nat.le_trans h62 (by decide)
    have P := pdq_calls K ltR_swo (by omega) (U.length + 1) 0 U.length (Lib.bitLen U.length) U.toArray W1 (by omega) q1 (Nat.zero_le _) (Nat.le_refl _) hlim (tot_keys R.keys) (.inl rfl)
    refine P.mono ?_
    rintro e w' ⟨rfl, d', p, s, q, b⟩
    have e := sorted_of R q.1.perm s
    have row := q.1.row
    rw [e] at row
    exact ⟨rfl, row, (But.of_below bW).trans b (fun _ _ h => h)⟩
  · have hUL : U = L := by
      rcases U with _ | ⟨x, _ | ⟨y, t⟩⟩
      · exact (List.eq_nil_of_length_eq_zero (by rw [← R.len]; rfl)).symm
      · have hl := R.len
        rcases L with _ | ⟨z, _ | ⟨z', t⟩⟩
        · simp at hl
        · have := (R.same x).1 (by simp)
          simp only [List.mem_singleton] at this
          rw [this]
        · simp at hl
      · simp at h2
    subst hUL
    obtain ⟨p, c, rfl⟩ := (OwnR.row h).form
    have done : ∀ f, (Try.prog.funcs.findIdx? (·.name == "internal/reflectlite" ++ ".Swapper$" ++ toString (swapperK U.length infE 25)) = some f) → Calls Try.prog 75 #[.iface 32 (.slice p U.length c), .func (.func 76) #[] #[.pointer (some ⟨bl, 0, none⟩)]] w fun e w' => e = .returned (.tuple #[]) ∧ (OwnR w' base (.slice p U.length c) U ∧ But (fun k => (Value.slice p U.length c).ownBlock = some k) w w') := fun f hf => by
      have hS := Any.sort_Slice_tiny (P := Try.prog) Try.laysGg6 32 57 infT infE iT iD iP iE 25 iK p U.length c (by omega) f hf (.func 76) #[] #[.pointer (some ⟨bl, 0, none⟩)] w
      change Calls Try.prog 75 _ _ _ at hS
      refine hS.mono ?_
      rintro e w' ⟨rfl, os, rfl⟩
      have b : Below w.heap.size w (Go.Sort.grow w os) := ⟨rfl, rfl, rfl, by simp [Go.Sort.grow], fun k hk => by simp [Go.Sort.grow, Array.getElem?_append, hk]⟩
      exact ⟨rfl, ownsKeep h b, But.of_below b⟩
    rcases Nat.lt_or_ge U.length 1 with h0 | h1
    · have e0 : U.length = 0 := by omega
      exact done 115 (by rw [e0]; kernel_rfl)
    · have e0 : U.length = 1 := by omega
      exact done 116 (by rw [e0]; kernel_rfl)
set_option maxHeartbeats 1000000 in
set_option maxRecDepth 100000 in
/-- The contract of the document's sortRoutes. -/
theorem sortR_calls (U L : List RT) (v : Value) (base : Nat) (W : World) (R : RelU U L) (h : OwnR W base v U) :
    Calls Try.prog 46 #[v] W fun e w' => e = .returned (.tuple #[]) ∧ OwnR w' base v L ∧ But (fun k => v.ownBlock = some k) W w' := by
  have hne : v.ownBlock ≠ some W.heap.size := fun e => by have := (h.lt _ e).2; omega
  have bA := (Below.refl W.heap.size W).alloc (Nat.le_refl _) (.cells #[v] 32)
  have SL := Lib.hid (slice_calls U L v base W.heap.size (W.alloc (.cells #[v] 32)) R (h.alloc _) (by simp) (by simp) hne)
  obtain ⟨p, c, rfl⟩ := (OwnR.row h).form
  clear R h
  generalize U.length = n at SL hne bA ⊢
  go_enter Try.func46, Try.ntmps46
  go_wp2_with fail
  refine SL.out.mono ?_
  rintro e w1 ⟨rfl, o1, b1⟩
  have B := (But.of_below bA).trans b1 (fun _ _ h => h)
  clear SL b1 bA
  go_wp2
  go_end0
  exact ⟨rfl, o1, B⟩
end Go.Proofs.Ytnpaijmibkbhfaa
