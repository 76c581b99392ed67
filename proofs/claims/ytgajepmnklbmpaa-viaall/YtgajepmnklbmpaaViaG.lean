/-
  via.All: the keys of the map in their order, each followed.
-/
import Derived.Test.YtgajepmnklbmpaaViaKM
import Derived.Test.YtgajepmnklbmpaaViaD
import Derived.Test.YtgajepmnklbmpaaFwA
import Derived.Test.YtgajepmnklbmpaaShelfI
import Derived.Lib.SlKeysI
import Derived.CallsIn
namespace Go.Proofs.Ytgajepmnklbmpaa
open Go.RowKit Go.Maps Go.Shelf
set_option linter.unusedVariables false
set_option linter.unusedSimpArgs false
theorem sortsA (m : Nat) : AnyZI.SortsIn Try.prog Try.sortedA_ren Fence.wide m :=
  ⟨fun blk off cap ss W hH hblk hsz => callsIn_wide.2 (AnyM.slices_Sort_int Try.sortA blk off cap ss W hH hblk hsz),
   fun p cap W => callsIn_wide.2 (AnyM.slices_Sort_int_none Try.sortA p cap W)⟩
theorem keysV_calls (b : Nat) (W : World) : Calls Try.prog 26 #[.map (some b)] W fun e w' => e = .returned (.func (.func 40) #[] #[.pointer (some ⟨W.heap.size, 0, none⟩)]) ∧ W.alloc (.cells #[.map (some b)] 48) = w' :=
  ((callsIn_wide (n := 5)).1 (AnyZI.keys_in Try.keysA Fence.wide 5 trivial rfl (some b) W)).mono fun e w' h => ⟨h.1, h.2.symm⟩
theorem keysV_perm {w : World} {b : Nat} {l : List VT} {D : DataW Unit} (o : w.ownsMap Try.prog 3 viaElem b l.length D) (a : ∀ h : Int, Maps.has D (.int .i64 h) = hasV l h) (hn : (l.map Prod.fst).Nodup) {ss : List Int} (hp : ss.Perm (intKeys D)) :
    ss.mergeSort (fun x y => decide (x ≤ y)) = ksV l := by
  obtain ⟨es, hD, hpw, _⟩ := o.entries keyedInt
  obtain ⟨es', hD', hko⟩ := o.keysOf
  obtain rfl : es = es' := by rw [hD] at hD'; simpa using hD'
  subst hD
  have h2 : (l.map Prod.fst).Perm (intKeys (.map es)) := perm_intKeys hpw (fun p hp => by obtain ⟨v, hv⟩ := hko p hp; obtain ⟨x, _, hx, _⟩ := Maps.keyOf_i64 Try.underlying3 hv; exact ⟨x, hx⟩) hn (fun x => by rw [a x]; exact hasV_mem.symm)
  exact mergeSort_of_perm_i (hp.trans h2.symm)
set_option maxHeartbeats 1000000 in
theorem sortedV_calls (l : List VT) (b : Nat) (w : World) (hn : (l.map Prod.fst).Nodup) (hl : l.length ≤ 60) (mv : MV w b l) :
    Calls Try.prog 25 #[.func (.func 40) #[] #[.pointer (some ⟨w.heap.size, 0, none⟩)]] (w.alloc (.cells #[.map (some b)] 48)) fun e w' => ∃ v, e = .returned v ∧ OwnN w' (w.heap.size + 1) v (ksV l) ∧ Below (w.heap.size + 1) (w.alloc (.cells #[.map (some b)] 48)) w' := by
  obtain ⟨D, o, a⟩ := mv
  have hsz := o.size_le
  have own : (w.alloc (.cells #[.map (some b)] 48)).ownsMap Try.prog 3 viaElem b l.length D := o.alloc _
  have hseq : SeqGives Fence.wide 2 Try.prog 40 #[.pointer (some ⟨w.heap.size, 0, none⟩)] encZ (fun ss => ss.Perm (intKeys D)) (Maps.size D) (w.alloc (.cells #[.map (some b)] 48)) :=
    AnyZI.keys_gives (ρ := Try.keysA_ren) { Try.keysA with } Fence.wide _ trivial rfl (by omega) w.heap.size b l.length D _ (by simp) (by simp) own
  have cS := AnyZI.sorted_in Try.sortedA Fence.wide 5 trivial trivial trivial trivial rfl (by omega) (sortsA _) (enters_of Try.func39 (by kernel_rfl) rfl) 40 #[.pointer (some ⟨w.heap.size, 0, none⟩)] trivial (enters_of Try.func40 (by kernel_rfl) rfl) _ _ (show Maps.size D ≤ maxLen by unfold maxLen; omega) (by omega) _ hseq
  refine (callsIn_wide.1 cS).mono ?_
  rintro e w' ⟨v, ss, rfl, hS, hrow, hnil, hb⟩
  have e1 := keysV_perm o (fun h => (a h).1) hn hS
  have hsz1 : (w.alloc (.cells #[.map (some b)] 48)).heap.size = w.heap.size + 1 := by simp
  rw [hsz1] at hb hrow
  refine ⟨v, rfl, ?_, hb⟩
  have hlen : ss.length = (ksV l).length := by rw [← e1, List.length_mergeSort]
  rw [e1, hlen] at hrow
  unfold OwnN
  have e2 : rowOf ics (ksV l) = (ksV l).map encZ := by
    generalize ksV l = L
    induction L with
    | nil => rfl
    | cons x t ih => show ics x ++ rowOf ics t = _; rw [ih]; rfl
  rw [e2]
  exact hrow
end Go.Proofs.Ytgajepmnklbmpaa
