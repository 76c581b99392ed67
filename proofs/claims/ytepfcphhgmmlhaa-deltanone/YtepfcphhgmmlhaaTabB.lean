/-
  table.compare: the order of prefixes.
-/
import Derived.Test.YtepfcphhgmmlhaaTabA
import Derived.Test.YtepfcphhgmmlhaaTabM
namespace Go.Proofs.Ytepfcphhgmmlhaa
open Go.RowKit
set_option linter.unusedVariables false
set_option linter.unusedSimpArgs false

theorem compare_words (s : Bool) (x y : Nat) (n m : Int) : orI (cmpI (aH x) (aH y)) (cmpI (aL x) (aL y)) (cmpI n m) = cmpK (s, x, n) (s, y, m) := by
  have hl := words_lt x y
  have he := words_eq x y
  have hr := words_lt y x
  unfold orI cmpI cmpK ltK
  simp only [Prod.mk.injEq, true_and]
  rcases Int.lt_trichotomy (aH x) (aH y) with h | h | h
  · have : x < y := hl.2 (.inl h)
    simp [h, this]
  · rcases Int.lt_trichotomy (aL x) (aL y) with g | g | g
    · have : x < y := hl.2 (.inr ⟨h, g⟩)
      simp [h, g, this]
    · have : x = y := he.2 ⟨h, g⟩
      subst this
      rcases Int.lt_trichotomy n m with k | k | k
      · simp [k]
      · simp [k]
      · have k1 : ¬ n < m := by omega
        have k2 : ¬ n = m := by omega
        simp [k, k1, k2]
    · have : y < x := hr.2 (.inr ⟨h.symm, g⟩)
      have g1 : ¬ aL x < aL y := by omega
      have k1 : ¬ x < y := by omega
      have k2 : ¬ x = y := by omega
      simp [h, g, g1, k1, k2]
  · have : y < x := hr.2 (.inl h)
    have g1 : ¬ aH x < aH y := by omega
    have k1 : ¬ x < y := by omega
    have k2 : ¬ x = y := by omega
    simp [h, g1, k1, k2]
set_option maxHeartbeats 2000000 in
theorem compare_same (s : Bool) (x y : Nat) (n m : Int) (w : World) :
    Calls Try.prog 111 #[.agg #[.bool s, .int .u64 (aH x), .int .u64 (aL x), .int .i64 n], .agg #[.bool s, .int .u64 (aH y), .int .u64 (aL y), .int .i64 m]] w fun e w' => e = .returned (.int .i64 (cmpK (s, x, n) (s, y, m))) ∧ Below w.heap.size w w' := by
  rw [← compare_words]
  have P1 := (PreAt.new w s (aH x) (aL x) n 51).alloc (.cells #[.bool s, .int .u64 (aH y), .int .u64 (aL y), .int .i64 m] 51)
  have P2 := PreAt.new (w.alloc (.cells #[.bool s, .int .u64 (aH x), .int .u64 (aL x), .int .i64 n] 51)) s (aH y) (aL y) m 51
  have b1 := ((Below.refl _ w).alloc (Nat.le_refl _) (.cells #[.bool s, .int .u64 (aH x), .int .u64 (aL x), .int .i64 n] 51)).alloc (by simp) (.cells #[.bool s, .int .u64 (aH y), .int .u64 (aL y), .int .i64 m] 51)
  simp only [World.size_alloc] at P2
  go_enter Try.func111, Try.ntmps111
  go_wp2_with fail
  revert P1 P2 b1
  generalize (w.alloc (.cells #[.bool s, .int .u64 (aH x), .int .u64 (aL x), .int .i64 n] 51)).alloc (.cells #[.bool s, .int .u64 (aH y), .int .u64 (aL y), .int .i64 m] 51) = Y
  intro P1 b1 P2
  obtain ⟨p0, p1, p2, p3, pl⟩ := P1
  obtain ⟨q0, q1, q2, q3, ql⟩ := P2
  have A : ∀ (o : Obj) (b j : Nat) (u : Value), b < Y.heap.size → Y.cell? ⟨b, j, none⟩ = some u → (Y.alloc o).cell? ⟨b, j, none⟩ = some u := fun o b j u hb h => (((Below.refl Y.heap.size Y).alloc (Nat.le_refl _) o).cell (p := ⟨b, j, none⟩) hb).trans h
  have a1 := fun o => A o _ _ _ pl p1
  have a2 := fun o => A o _ _ _ pl p2
  have a3 := fun o => A o _ _ _ pl p3
  have a4 := fun o => A o _ _ _ ql q1
  have a5 := fun o => A o _ _ _ ql q2
  have a6 := fun o => A o _ _ _ ql q3
  clear A
  go_region_held3 (fun w' => w'.cell? ⟨w.heap.size, 1, none⟩ = some (.int .u64 (aH x)) ∧ w'.cell? ⟨w.heap.size, 2, none⟩ = some (.int .u64 (aL x)) ∧ w'.cell? ⟨w.heap.size, 3, none⟩ = some (.int .i64 n) ∧ w'.cell? ⟨w.heap.size + 1, 1, none⟩ = some (.int .u64 (aH y)) ∧ w'.cell? ⟨w.heap.size + 1, 2, none⟩ = some (.int .u64 (aL y)) ∧ w'.cell? ⟨w.heap.size + 1, 3, none⟩ = some (.int .i64 m))
    (first
      | (simp [go_sem, p1, p2, p3, q1, q2, q3]; done)
      | (simp only [World.cell?_drew]; exact ⟨a1 _, a2 _, a3 _, a4 _, a5 _, a6 _⟩)
      | exact ⟨a1 _, a2 _, a3 _, a4 _, a5 _, a6 _⟩
      | fail)
    (first
      | (go_at_call 127; with_reducible refine (compareU (aH x) (aH y) _).mono ?_; rintro e wa ⟨rfl, rfl⟩)
      | (go_at_call 127; with_reducible refine (compareU (aL x) (aL y) _).mono ?_; rintro e wa ⟨rfl, rfl⟩)
      | (go_at_call 128; with_reducible refine (compareI n m _).mono ?_; rintro e wa ⟨rfl, rfl⟩)
      | (go_at_call 126; refine (or3 Y.heap.size (cmpI (aH x) (aH y)) (cmpI (aL x) (aL y)) (cmpI n m) _ (by simp [go_sem]) (by simp [go_sem]) (by simp [go_sem])).mono ?_; rintro e wa ⟨rfl, rfl⟩)
      | fail)
  all_goals go_wp2
  all_goals go_ret
  all_goals exact ⟨rfl, by go_grown⟩
end Go.Proofs.Ytepfcphhgmmlhaa
