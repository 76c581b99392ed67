/-
  Package cidr: cmp.Compare, cmp.Or and less.
-/
import Derived.Test.YtnpcofaonimpcaaDoorPreF
import Derived.Test.YtnpcofaonimpcaaDoorOwns
namespace Go.Proofs.YtnpcofaonimpcaaDoor
open Go.RowKit
set_option linter.unusedVariables false
set_option linter.unusedSimpArgs false

theorem isNaN_calls (a : Int) (w : World) : Calls Tryd.prog 51 #[.int .u64 a] w fun e w' => e = .returned (.bool false) ∧ w' = w := by
  go_enter Tryd.func51, Tryd.ntmps51
  go_wp2
  go_returns
  exact ⟨by simp, rfl⟩
def cmpI (a b : Int) : Int := if a < b then -1 else if b < a then 1 else 0
theorem cmp_calls (a b : Int) (w : World) : Calls Tryd.prog 40 #[.int .u64 a, .int .u64 b] w fun e w' => e = .returned (.int .i64 (cmpI a b)) ∧ w' = w := by
  go_enter Tryd.func40, Tryd.ntmps40
  go_wp2_with (first
    | (go_at_call 51; refine (isNaN_calls _ _).mono ?_; rintro e w' ⟨rfl, rfl⟩))
  all_goals go_returns
  all_goals unfold cmpI
  all_goals first
    | exact ⟨by rw [if_pos (by omega)]; rfl, rfl⟩
    | exact ⟨by rw [if_neg (by omega), if_pos (by omega)]; rfl, rfl⟩
    | exact ⟨by rw [if_neg (by omega), if_neg (by omega)]; rfl, rfl⟩
theorem or_calls (c d : Int) (g : Nat) (w : World) (h0 : w.cell? ⟨g, 0, none⟩ = some (.int .i64 c)) (h1 : w.cell? ⟨g, 1, none⟩ = some (.int .i64 d)) :
    Calls Tryd.prog 39 #[.slice (some ⟨g, 0, none⟩) 2 2] w fun e w' => e = .returned (.int .i64 (if c = 0 then d else c)) ∧ w' = w := by
  by_cases hc : c = 0
  · subst hc
    rw [if_pos rfl]
    by_cases hd : d = 0
    · subst hd
      go_enter Tryd.func39, Tryd.ntmps39
      go_wp2
      go_rounds 3
      go_returns
      exact ⟨rfl, rfl⟩
    · go_enter Tryd.func39, Tryd.ntmps39
      go_wp2
      go_rounds 3
      go_returns
      exact ⟨rfl, rfl⟩
  · rw [if_neg hc]
    go_enter Tryd.func39, Tryd.ntmps39
    go_wp2
    go_rounds 2
    go_returns
    exact ⟨rfl, rfl⟩
theorem or_is (c d r : Int) (hr : (if c = 0 then d else c) = r) (g : Nat) (w : World) (h0 : w.cell? ⟨g, 0, none⟩ = some (.int .i64 c)) (h1 : w.cell? ⟨g, 1, none⟩ = some (.int .i64 d)) :
    Calls Tryd.prog 39 #[.slice (some ⟨g, 0, none⟩) 2 2] w fun e w' => e = .returned (.int .i64 r) ∧ w' = w := by
  have := or_calls c d g w h0 h1
  rw [hr] at this
  exact this
theorem less_num (x y : Nat) : (if cmpI (aH x) (aH y) = 0 then cmpI (aL x) (aL y) else cmpI (aH x) (aH y)) < 0 ↔ x < y := by
  unfold cmpI aH aL
  repeat' split
  all_goals omega
set_option maxHeartbeats 400000 in
theorem less_calls (s t : Bool) (x y : Nat) (w : World) :
    Calls Tryd.prog 25 #[.agg #[.bool s, .int .u64 (aH x), .int .u64 (aL x)], .agg #[.bool t, .int .u64 (aH y), .int .u64 (aL y)]] w fun e w' => e = .returned (.bool (decide (x < y))) ∧ Below w.heap.size w w' := by
  have E : decide (x < y) = decide ((if cmpI (aH x) (aH y) = 0 then cmpI (aL x) (aL y) else cmpI (aH x) (aH y)) < 0) := decide_eq_decide.2 (less_num x y).symm
  have C0 := Lib.hid (cmp_calls (aH x) (aH y))
  have C1 := Lib.hid (cmp_calls (aL x) (aL y))
  rw [E]
  clear E
  obtain ⟨c, hc⟩ : ∃ c, cmpI (aH x) (aH y) = c := ⟨_, rfl⟩
  obtain ⟨d, hd⟩ : ∃ d, cmpI (aL x) (aL y) = d := ⟨_, rfl⟩
  rw [hc] at C0 ⊢
  rw [hd] at C1 ⊢
  clear hc hd
  obtain ⟨r, hr⟩ : ∃ r, (if c = 0 then d else c) = r := ⟨_, rfl⟩
  rw [hr]
  have O := Lib.hid (or_is c d r hr)
  clear hr
  have A := (AddrAt.new w s (aH x) (aL x) 25).alloc (.cells #[.bool t, .int .u64 (aH y), .int .u64 (aL y)] 25)
  have B := AddrAt.new (w.alloc (.cells #[.bool s, .int .u64 (aH x), .int .u64 (aL x)] 25)) t (aH y) (aL y) 25
  have bw : Below w.heap.size w ((w.alloc (.cells #[.bool s, .int .u64 (aH x), .int .u64 (aL x)] 25)).alloc (.cells #[.bool t, .int .u64 (aH y), .int .u64 (aL y)] 25)) := by go_grown
  simp only [World.size_alloc] at A B
  go_enter Tryd.func25, Tryd.ntmps25
  go_wp2_with fail
  revert A B bw
  generalize ((w.alloc (.cells #[.bool s, .int .u64 (aH x), .int .u64 (aL x)] 25)).alloc (.cells #[.bool t, .int .u64 (aH y), .int .u64 (aL y)] 25)) = w1
  intro A bw B
  obtain ⟨p0, p1, p2, pl⟩ := A
  obtain ⟨q0, q1, q2, ql⟩ := B
  have k0 := fun o => World.cell?_alloc_lt w1 o ⟨w.heap.size, 1, none⟩ pl
  have k1 := fun o => World.cell?_alloc_lt w1 o ⟨w.heap.size, 2, none⟩ pl
  have k2 := fun o => World.cell?_alloc_lt w1 o ⟨w.heap.size + 1, 1, none⟩ ql
  have k3 := fun o => World.cell?_alloc_lt w1 o ⟨w.heap.size + 1, 2, none⟩ ql
  go_region_held3 (fun w' => w'.cell? ⟨w.heap.size, 1, none⟩ = some (.int .u64 (aH x)) ∧ w'.cell? ⟨w.heap.size, 2, none⟩ = some (.int .u64 (aL x)) ∧ w'.cell? ⟨w.heap.size + 1, 1, none⟩ = some (.int .u64 (aH y)) ∧ w'.cell? ⟨w.heap.size + 1, 2, none⟩ = some (.int .u64 (aL y))) (simp (disch := first | assumption | (simp; done) | (simp; omega)) [go_sem, World.cell?_alloc_past, World.cell?_setCell_far, p1, p2, q1, q2, k0, k1, k2, k3])
    (first
      | (go_at_call 40; with_reducible refine (C0.out _).mono ?_; rintro e w' ⟨rfl, rfl⟩)
      | (go_at_call 40; with_reducible refine (C1.out _).mono ?_; rintro e w' ⟨rfl, rfl⟩)
      | (go_at_call 39; refine (O.out _ _ (by simp) (by simp)).mono ?_; rintro e w' ⟨rfl, rfl⟩))
  go_wp2
  go_returns
  exact ⟨rfl, by go_grown⟩
end Go.Proofs.YtnpcofaonimpcaaDoor
