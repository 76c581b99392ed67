/-
  The law's samePres of two lists of prefixes that are the same.
-/
import Derived.Test.YtojdlhiibffnfaaDoorCidrB
import Derived.Test.YtojdlhiibffnfaaDoorBitsOf
namespace Go.Proofs.YtojdlhiibffnfaaDoor
open Go.RowKit
set_option linter.unusedVariables false
set_option linter.unusedSimpArgs false

/-- A list of prefixes that can be read: its k-th one lies there. -/
theorem owned_at {w : World} {base g cap n : Nat} {l : List PT} (h : Owned w base (.slice (some ⟨g, 0, none⟩) n cap) l) (hn : n = l.length) (k : Nat) (hk : k < l.length) :
    w.cell? ⟨g, k * 4, none⟩ = some (.bool (l[k]'hk).1) ∧ w.cell? ⟨g, k * 4 + 1, none⟩ = some (.int .u64 (aH (l[k]'hk).2.1)) ∧ w.cell? ⟨g, k * 4 + 2, none⟩ = some (.int .u64 (aL (l[k]'hk).2.1)) ∧ w.cell? ⟨g, k * 4 + 3, none⟩ = some (.int .i64 (l[k]'hk).2.2) := by
  subst hn
  have key : ∀ (m : List PT) (k : Nat) (hk : k < m.length) (j : Nat) (hj : j < 4), (pRow m)[k * 4 + j]? = (pcs (m[k]'hk))[j]? := by
    intro m
    induction m with
    | nil => intro k hk; cases hk
    | cons p m ih =>
      intro k hk j hj
      show (pcs p ++ pRow m)[k * 4 + j]? = _
      cases k with
      | zero => rw [List.getElem?_append_left (by simp [pcs]; omega)]; simp
      | succ k =>
        rw [List.getElem?_append_right (by simp [pcs]; omega), show (k + 1) * 4 + j - (pcs p).length = k * 4 + j by simp [pcs]; omega]
        exact ih k (by simpa using hk) j hj
  have c : ∀ j, j < 4 → w.cell? ⟨g, k * 4 + j, none⟩ = (pcs (l[k]'hk))[j]? := fun j hj => by
    rw [h.cellAt (k * 4 + j) (by omega), key l k hk j hj]
  exact ⟨c 0 (by omega), c 1 (by omega), c 2 (by omega), c 3 (by omega)⟩
set_option maxHeartbeats 2000000 in
theorem samePres_calls (b1 b2 : Nat) (v1 v2 : Value) (l : List PT) (hlen : l.length ≤ 1000000000) (w : World) (h1 : Owned w b1 v1 l) (h2 : Owned w b2 v2 l) :
    Calls Tryd.prog 14 #[v1, v2] w fun e w' => e = .returned (.bool true) ∧ Below w.heap.size w w' := by
  by_cases h0 : l.length = 0
  · obtain rfl := List.eq_nil_of_length_eq_zero h0
    obtain ⟨p1, c1, rfl⟩ : ∃ p c, v1 = .slice p 0 c := by
      rcases h1.2 with ⟨e, _⟩ | ⟨g, c, _, e, _⟩
      · exact ⟨none, 0, e⟩
      · exact ⟨_, c, e⟩
    obtain ⟨p2, c2, rfl⟩ : ∃ p c, v2 = .slice p 0 c := by
      rcases h2.2 with ⟨e, _⟩ | ⟨g, c, _, e, _⟩
      · exact ⟨none, 0, e⟩
      · exact ⟨_, c, e⟩
    go_enter Tryd.func14, Tryd.ntmps14
    go_wp2
    go_rounds 1
    go_returns
    exact ⟨rfl, Below.refl _ _⟩
  · obtain ⟨g1, c1, rfl, _, _⟩ := h1.form (by omega)
    obtain ⟨g2, c2, rfl, _, _⟩ := h2.form (by omega)
    obtain ⟨n, hn⟩ : ∃ n, l.length = n := ⟨_, rfl⟩
    have H1 := Lib.hid (fun k hk => owned_at h1 rfl k hk)
    have H2 := Lib.hid (fun k hk => owned_at h2 rfl k hk)
    have HN := Lib.hid hn
    rw [hn] at hlen ⊢
    clear h1 h2 h0 hn
    go_enter Tryd.func14, Tryd.ntmps14
    go_wp2
    go_loopw [5] (fun i wr => ∃ k q : Nat, k ≤ n ∧ i = .int .i64 k ∧ wr = w.drewN q) (fun i _ => n - (intOf i).toNat)
    case atStart => exact ⟨0, 0, Nat.zero_le _, rfl, rfl⟩
    case round =>
      obtain ⟨k, q, hk, rfl, rfl⟩ := hrel
      by_cases hlt : k < n
      · obtain ⟨x0, x1, x2, x3⟩ := H1.out k (by rw [HN.out]; exact hlt)
        obtain ⟨y0, y1, y2, y3⟩ := H2.out k (by rw [HN.out]; exact hlt)
        generalize (l[k]'(by rw [HN.out]; exact hlt)) = p at x0 x1 x2 x3 y0 y1 y2 y3
        obtain ⟨s, x, m⟩ := p
        simp only at x0 x1 x2 x3 y0 y1 y2 y3
        go_wp2_with fail
        go_quiet ((fail))
        go_wp2
        go_roundw
        case rel => exact ⟨k + 1, _, by omega, by go_num, rfl⟩
        case measure => simp [intOf]; omega
      · go_wp2
        go_returns
        exact ⟨rfl, below_drewN (Below.refl _ _) _⟩
end Go.Proofs.YtojdlhiibffnfaaDoor
