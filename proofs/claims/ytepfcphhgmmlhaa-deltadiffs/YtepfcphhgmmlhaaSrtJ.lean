/-
  sort.Slice with the document's function; the document's sortRoutes.
-/
import Derived.Test.YtepfcphhgmmlhaaSrtH
import Derived.Test.YtepfcphhgmmlhaaSrtI
import Derived.Test.YtepfcphhgmmlhaaTPlayM
import Derived.Test.YtepfcphhgmmlhaaG4
import Derived.Shelf.GgSortFunc.Tiny
import Derived.Shelf.GgSortFunc.SmallK
namespace Go.Proofs.Ytepfcphhgmmlhaa
open Go.RowKit Go.Lib
open Go.Sort (swp PermIn SortedIn SWO swp_permIn)
set_option linter.unusedVariables false
set_option linter.unusedSimpArgs false
noncomputable def infT : TypeInfo := (Try.prog.info? 27).get (by kernel_rfl)
noncomputable def infE : TypeInfo := (Try.prog.info? 53).get (by kernel_rfl)
theorem inf_K (n : Nat) (h2 : 2 ≤ n) : Lib.swapperK n infE 25 = 9 := by
  have a : infE.hasPointers = false := by kernel_rfl
  have b : infE.bytes = 40 := by kernel_rfl
  have c : (n == 0) = false := by simp; omega
  have d : (n == 1) = false := by simp; omega
  simp [Lib.swapperK, a, b, c, d]
theorem swp_list (d : ARow) (i j : Nat) (hi : i < d.size) (hj : j < d.size) : (swp d i j).toList = (d.toList.set i d[j]!).set j d[i]! := by
  unfold swp; rw [Array.toList_setIfInBounds, Array.toList_setIfInBounds]
/-- The worlds of this sort. -/
structure SQ (base g c bl : Nat) (U : List RT) (d : ARow) (W : World) : Prop where
  perm : d.toList.Perm U
  row : OwnR W base (.slice (some ⟨g, 0, none⟩) U.length c) d.toList
  box : W.cell? ⟨bl, 0, none⟩ = some (.slice (some ⟨g, 0, none⟩) U.length c)
  bll : bl < W.heap.size
  gl : g < W.heap.size
theorem owns_frozen {w : World} {base n size cap m : Nat} {e : TypeId} {g : Nat} {xs : List Value} (h : w.ownsRow base e size (.slice (some ⟨g, 0, none⟩) m cap) n xs) (o : Nat) : w.frozen? ⟨g, o, none⟩ = false := by
  rcases h.2 with ⟨hv, _⟩ | ⟨g', cap', cur, hv, hb, hg, h1, h2, h3, h4⟩
  · cases hv
  · cases hv
    simp only [World.frozen?, hg]
    simp
theorem rec_of {w : World} {base g c : Nat} {L : List RT} (h : OwnR w base (.slice (some ⟨g, 0, none⟩) L.length c) L) (i : Nat) (hi : i < L.length) : ∀ k v, (rcs L[i])[k]? = some v → w.cell? ⟨g, 0 + i * 5 + k, none⟩ = some v := by
  obtain ⟨p, c', e, _, at_⟩ := (OwnR.row h).at
  obtain ⟨g', o, e2, _, hr⟩ := at_ i hi
  cases e
  simp only [Option.some.injEq, Addr.mk.injEq, and_true] at e2
  obtain ⟨rfl, rfl⟩ := e2
  exact fun k v hk => hr k v hk
theorem setCells_own (r : RT) {w : World} {base g c n : Nat} {L : List RT} (h : w.ownsRow base 53 5 (.slice (some ⟨g, 0, none⟩) n c) n (rowOf rcs L)) (i : Nat) (hi : i < L.length) :
    (w.setCells g (0 + i * 5) (rcs r)).ownsRow base 53 5 (.slice (some ⟨g, 0, none⟩) n c) n (rowOf rcs (L.set i r)) := by
  rw [rowOf_set r L i hi, Nat.zero_add]
  exact ownsRow_set (ownsRow_set (ownsRow_set (ownsRow_set (ownsRow_set h _ _) _ _) _ _) _ _) _ _
theorem setCells_but (g : Nat) : ∀ (vs : List Value) (o : Nat) (w : World), But (fun k => (some g : Option Nat) = some k) w (w.setCells g o vs)
  | [], _, w => But.of_below (Below.refl _ w)
  | v :: t, o, w => (But.setCell (S := fun k => (some g : Option Nat) = some k) (But.of_below (Below.refl _ w)) (p := ⟨g, o, none⟩) (fun _ => rfl) v).trans (setCells_but g t (o + 1) _) (fun _ _ h => h)
set_option maxHeartbeats 1000000 in
theorem sorter_of (base g c bl : Nat) (U : List RT) (W0 : World) (hU : U.length ≤ 1000) (hv : ValR U) (hne : g ≠ bl) (hg : g < W0.heap.size) (hb : bl < W0.heap.size) :
    Sorter 55 98 #[.pointer (some ⟨bl, 0, none⟩)] #[.slice (some ⟨g, 0, none⟩) U.length c, typeHandle Try.prog 53] ltR U.length (fun k => (some g : Option Nat) = some k) W0.heap.size
      (fun d W => SQ base g c bl U d W ∧ W0.heap.size ≤ W.heap.size) where
  eg := enters_of Try.func55 (by kernel_rfl) rfl
  less d W i j q hi hj := by
    have hs : d.toList.length = U.length := q.1.perm.length_eq
    have hs' : d.size = U.length := hs
    have row : RowR W (.slice (some ⟨g, 0, none⟩) U.length c) d.toList := OwnR.row q.1.row
    have C := sless_calls d.toList _ bl i j (by omega) (by omega) (by omega) (fun r hr => (chk0 (hv r (q.1.perm.mem_iff.1 hr))).1) W row q.1.box q.1.bll
    rw [getElem!_pos d i (by omega), getElem!_pos d j (by omega)]
    simpa using C
  swap d W i j q hi hj := by
    have hs : d.toList.length = U.length := q.1.perm.length_eq
    have hs' : d.size = U.length := hs
    have row := q.1.row
    have row' : OwnR W base (.slice (some ⟨g, 0, none⟩) d.toList.length c) d.toList := by rw [hs]; exact row
    have hie : Try.prog.info? 53 = some infE := by kernel_rfl
    have h5 : infE.size = 5 := by kernel_rfl
    have hx : ∀ args W, (callFunc 98 args).run Try.prog W = ((Extern.ReflectliteSwapper.swap false args).run Try.prog W).andThen fun v w' => .ok (.value v) w' :=
      fun args W => run_callFunc_extern Try.func98 (by kernel_rfl) (by kernel_rfl) (by kernel_rfl) (e := Extern.ReflectliteSwapper.swap false) (by kernel_rfl) args W
    have X := Lib.run_swap_cells (P := Try.prog) false 53 infE hie (fun _ => by kernel_rfl) g 0 U.length c i j hi hj (rcs d[i]!) (rcs d[j]!) h5.symm h5.symm (rcs_one _) (rcs_one _) W
      (by rw [h5, getElem!_pos d i (by omega)]; exact fun k v h => rec_of row' i (by omega) k v (by rw [Array.getElem_toList]; exact h)) (by rw [h5, getElem!_pos d j (by omega)]; exact fun k v h => rec_of row' j (by omega) k v (by rw [Array.getElem_toList]; exact h))
      (fun k _ => owns_frozen row _) (fun k _ => owns_frozen row _)
    rw [h5] at X
    refine ⟨_, by
      rw [hx, show (#[Value.int .i64 (i : Int), Value.int .i64 (j : Int)] ++ #[Value.slice (some ⟨g, 0, none⟩) U.length c, typeHandle Try.prog 53]) = #[.int .i64 i, .int .i64 j, .slice (some ⟨g, 0, none⟩) U.length c, typeHandle Try.prog 53] from rfl, X]
      rfl, ?_, (setCells_but g _ _ _).trans (setCells_but g _ _ _) (fun _ _ h => h)⟩
    have B : But (fun k => (some g : Option Nat) = some k) W ((W.setCells g (0 + i * 5) (rcs d[j]!)).setCells g (0 + j * 5) (rcs d[i]!)) := (setCells_but g _ _ _).trans (setCells_but g _ _ _) (fun _ _ h => h)
    have pz : (swp d i j).toList.Perm d.toList := perm_all (swp_permIn d 0 d.size i j (Nat.zero_le _) (by omega) (Nat.zero_le _) (by omega) (Nat.le_refl _)) (Nat.le_refl _)
    have e1 : (swp d i j).toList = (d.toList.set i d[j]!).set j d[i]! := swp_list d i j (by omega) (by omega)
    have hlen : (swp d i j).toList.length = U.length := by rw [pz.length_eq, hs]
    have row2 : W.ownsRow base 53 5 (.slice (some ⟨g, 0, none⟩) U.length c) U.length (rowOf rcs d.toList) := by have := row; unfold OwnR at this; rw [hs] at this; exact this
    have R := setCells_own d[i]! (setCells_own d[j]! row2 i (by omega)) j (by rw [List.length_set]; omega)
    rw [← e1] at R
    refine ⟨⟨pz.trans q.1.perm, ?_, B.cellAt q.1.bll (fun e => hne (Option.some.inj e)) 0 q.1.box, Nat.lt_of_lt_of_le q.1.bll B.size, Nat.lt_of_lt_of_le q.1.gl B.size⟩, Nat.le_trans q.2 B.size⟩
    unfold OwnR
    rw [hlen]
    exact R
  keep d W W' q b := ⟨⟨q.1.perm, b.owns q.1.row (fun k e h => by simp only [Value.ownBlock, Option.some.injEq] at e; subst e; exact absurd h (by omega)), b.cellAt q.1.bll (fun h => absurd h (by omega)) 0 q.1.box, Nat.lt_of_lt_of_le q.1.bll b.size, Nat.lt_of_lt_of_le q.1.gl b.size⟩, Nat.le_trans q.2 b.size⟩
  size d W q := ⟨q.1.perm.length_eq, q.2⟩
  mine k e := by have := Option.some.inj e; omega
end Go.Proofs.Ytepfcphhgmmlhaa
