/-
  The document's sortRoutes: it holds the same routes in the order of their prefixes.
-/
import Derived.Test.YtepfcphhgmmlhaaSrtJ
namespace Go.Proofs.Ytepfcphhgmmlhaa
open Go.RowKit Go.Lib
open Go.Sort (swp PermIn SortedIn SWO)
set_option linter.unusedVariables false
set_option linter.unusedSimpArgs false
theorem tot_keys {U : List RT} (h : (U.map Prod.fst).Nodup) : Tot ltR U.toArray := by
  unfold Tot
  rw [List.nodup_iff_pairwise_ne, List.pairwise_map] at h
  refine h.imp fun {a b} g => ?_
  rcases ltK_or a.1 b.1 with c | c | c
  · exact .inl (decide_eq_true c)
  · exact absurd c g
  · exact .inr (decide_eq_true c)
theorem sorted_of {U L : List RT} {d : ARow} (R : RelU U L) (p : d.toList.Perm U) (s : SortedIn ltR 0 U.length d) : d.toList = L := by
  have hl : d.size = U.length := p.length_eq
  have nk : (d.toList.map Prod.fst).Nodup := (p.map Prod.fst).nodup_iff.2 R.keys
  refine R.sorted (List.pairwise_iff_getElem.2 fun i j hi hj hij => ?_) (fun r => p.mem_iff)
  have hi' : i < d.size := hi
  have hj' : j < d.size := hj
  have g := s i j (Nat.zero_le _) hij (by omega)
  rw [getElem!_pos d i hi', getElem!_pos d j hj'] at g
  have g' := of_decide_eq_false g
  rw [Array.getElem_toList, Array.getElem_toList]
  rcases ltK_or d[i].1 d[j].1 with c | c | c
  · exact c
  · have := nodup_inj nk (i := i) (j := j) (by simpa using hi') (by simpa using hj') (by simpa using c)
    omega
  · exact absurd c g'
set_option maxHeartbeats 1000000 in
set_option maxRecDepth 100000 in
theorem slice_calls (U L : List RT) (v : Value) (base bl : Nat) (w : World) (R : RelU U L) (h : OwnR w base v U) (bx : w.cell? ⟨bl, 0, none⟩ = some v) (hbl : bl < w.heap.size) (hne : v.ownBlock ≠ some bl) :
    Calls Try.prog 54 #[.iface 27 v, .func (.func 55) #[] #[.pointer (some ⟨bl, 0, none⟩)]] w fun e w' => e = .returned (.tuple #[]) ∧ (OwnR w' base v L ∧ But (fun k => v.ownBlock = some k) w w') := by
  have hlen : U.length ≤ 60 := by rw [R.len]; exact R.inv.size
  have iT : Try.prog.info? 27 = some infT := by kernel_rfl
  have iE : Try.prog.info? 53 = some infE := by kernel_rfl
  have iD : infT.desc = .slice 53 := by kernel_rfl
  have iP : Try.prog.packed 27 = false := by kernel_rfl
  have iK : ∀ w, (Extern.Rtype.kind 53).run Try.prog w = .ok 25 w := fun _ => by kernel_rfl
  by_cases h2 : 2 ≤ U.length
  · obtain ⟨g, c, rfl, hbg, hgl⟩ : ∃ g c, v = .slice (some ⟨g, 0, none⟩) U.length c ∧ base ≤ g ∧ g < w.heap.size := by
      rcases h.2 with ⟨_, h0⟩ | ⟨g, c, cur, e, hb, hg, _⟩
      · omega
      · exact ⟨g, c, e, hb, (Array.getElem?_eq_some_iff.1 hg).1⟩
    have hgb : g ≠ bl := fun e => hne (by rw [e]; rfl)
    have K := sorter_of base g c bl U w (by omega) (fun r hr => R.inv.val r ((R.same r).1 hr)) hgb hgl hbl
    have hS := Any.sort_Slice_of_pdq (P := Try.prog) Try.laysGg6 27 53 infT infE iT iD iP iE 25 iK (some ⟨g, 0, none⟩) U.length c (by omega) 98 (by rw [inf_K _ h2]; kernel_rfl) (.func 55) #[] #[.pointer (some ⟨bl, 0, none⟩)] w
      (fun w' => OwnR w' base (.slice (some ⟨g, 0, none⟩) U.length c) L ∧ But (fun k => (some g : Option Nat) = some k) w w')
    change _ → Calls Try.prog 54 _ _ _ at hS
    refine hS ?_
    have hB : sliceBound Try.prog 53 infE 25 (some ⟨g, 0, none⟩) U.length c = #[.slice (some ⟨g, 0, none⟩) U.length c, typeHandle Try.prog 53] := by
      unfold sliceBound; rw [if_neg (swapperK_gt _ _ _ h2)]
    rw [hB]
    have bW : Below w.heap.size w (sliceWorld Try.prog Try.laysGg6_ren 27 (some ⟨g, 0, none⟩) U.length c w) := by
      unfold sliceWorld; exact ((Below.refl _ w).alloc (Nat.le_refl _) _).alloc (by simp) _
    generalize sliceWorld Try.prog Try.laysGg6_ren 27 (some ⟨g, 0, none⟩) U.length c w = W1 at bW
    have q0 : SQ base g c bl U U.toArray w := ⟨List.Perm.refl _, h, bx, hbl, hgl⟩
    have q1 := K.keep _ _ W1 ⟨q0, Nat.le_refl _⟩ (But.of_below bW)
    have h62 : Lib.bitLen U.length ≤ 62 := Lib.bitLen_le U.length 62 (by omega) (by omega)
    have hlim : Lib.bitLen U.length ≤ 100 := Nat.le_trans h62 (by decide)
    have P := pdq_calls K ltR_swo (by omega) (U.length + 1) 0 U.length (Lib.bitLen U.length) U.toArray W1 (by omega) q1 (Nat.zero_le _) (Nat.le_refl _) hlim (tot_keys R.keys) (.inl rfl)
    refine P.mono ?_
    rintro e w' ⟨rfl, d', p, s, q, b⟩
    have e := sorted_of R q.1.perm s
    have row := q.1.row
    rw [e] at row
    exact ⟨rfl, row, (But.of_below bW).trans b (fun _ _ h => h)⟩
  · have hUL : U = L := by
      rcases U with _ | ⟨x, _ | ⟨y, t⟩⟩
      · exact (List.eq_nil_of_length_eq_zero (by rw [← R.len]; rfl)).symm
      · have hl := R.len
        rcases L with _ | ⟨z, _ | ⟨z', t⟩⟩
        · simp at hl
        · have := (R.same x).1 (by simp)
          simp only [List.mem_singleton] at this
          rw [this]
        · simp at hl
      · simp at h2
    subst hUL
    obtain ⟨p, c, rfl⟩ := (OwnR.row h).form
    have done : ∀ f, (Try.prog.funcs.findIdx? (·.name == "internal/reflectlite" ++ ".Swapper$" ++ toString (swapperK U.length infE 25)) = some f) → Calls Try.prog 54 #[.iface 27 (.slice p U.length c), .func (.func 55) #[] #[.pointer (some ⟨bl, 0, none⟩)]] w fun e w' => e = .returned (.tuple #[]) ∧ (OwnR w' base (.slice p U.length c) U ∧ But (fun k => (Value.slice p U.length c).ownBlock = some k) w w') := fun f hf => by
      have hS := Any.sort_Slice_tiny (P := Try.prog) Try.laysGg6 27 53 infT infE iT iD iP iE 25 iK p U.length c (by omega) f hf (.func 55) #[] #[.pointer (some ⟨bl, 0, none⟩)] w
      change Calls Try.prog 54 _ _ _ at hS
      refine hS.mono ?_
      rintro e w' ⟨rfl, os, rfl⟩
      have b : Below w.heap.size w (Go.Sort.grow w os) := ⟨rfl, rfl, rfl, by simp [Go.Sort.grow], fun k hk => by simp [Go.Sort.grow, Array.getElem?_append, hk]⟩
      exact ⟨rfl, ownsKeep h b, But.of_below b⟩
    rcases Nat.lt_or_ge U.length 1 with h0 | h1
    · have e0 : U.length = 0 := by omega
      exact done 90 (by rw [e0]; kernel_rfl)
    · have e0 : U.length = 1 := by omega
      exact done 91 (by rw [e0]; kernel_rfl)
set_option maxHeartbeats 1000000 in
set_option maxRecDepth 100000 in
/-- The contract of the document's sortRoutes. -/
theorem sortR_calls (U L : List RT) (v : Value) (base : Nat) (W : World) (R : RelU U L) (h : OwnR W base v U) :
    Calls Try.prog 32 #[v] W fun e w' => e = .returned (.tuple #[]) ∧ OwnR w' base v L ∧ But (fun k => v.ownBlock = some k) W w' := by
  have hne : v.ownBlock ≠ some W.heap.size := fun e => by have := (h.lt _ e).2; omega
  have bA := (Below.refl W.heap.size W).alloc (Nat.le_refl _) (.cells #[v] 27)
  have SL := Lib.hid (slice_calls U L v base W.heap.size (W.alloc (.cells #[v] 27)) R (h.alloc _) (by simp) (by simp) hne)
  obtain ⟨p, c, rfl⟩ := (OwnR.row h).form
  clear R h
  generalize U.length = n at SL hne bA ⊢
  go_enter Try.func32, Try.ntmps32
  go_wp2_with fail
  refine SL.out.mono ?_
  rintro e w1 ⟨rfl, o1, b1⟩
  have B := (But.of_below bA).trans b1 (fun _ _ h => h)
  clear SL b1 bA
  go_wp2
  go_end0
  exact ⟨rfl, o1, B⟩
end Go.Proofs.Ytepfcphhgmmlhaa
