/-
  The document's CidrRange: 'look' whole; its own walk.
-/
import Derived.Test.YtojdlhiibffnfaaDoorRefLook
namespace Go.Proofs.YtojdlhiibffnfaaDoor
open Go.RowKit
set_option linter.unusedVariables false
set_option linter.unusedSimpArgs false

theorem look_calls (six : Bool) (a b : Nat) (ha : a < 2 ^ wideN six) (hb : b < 2 ^ wideN six) (bF bL bO bK base : Nat) : ∀ (k x : Nat), AL six x k → ∀ (W : World) (v : Value) (l : List PT), LookSt six a b bF bL bO bK base W v l → l.length + (cn six (fromTo a b) k x).length ≤ 1000000000 →
    Calls Tryd.prog 39 #[.agg #[.bool six, .int .u64 (aH x), .int .u64 (aL x), .int .i64 ((wideN six - k : Nat) : Int)], .pointer (some ⟨bF, 0, none⟩), .pointer (some ⟨bL, 0, none⟩), .pointer (some ⟨bO, 0, none⟩), .pointer (some ⟨bK, 0, none⟩)] W fun e w' => e = .returned (.tuple #[]) ∧ ∃ v', LookSt six a b bF bL bO bK base w' v' (l ++ cn six (fromTo a b) k x) ∧ Fr bO v W v' w'
  | k, x, hA, W, v, l, St, hN => by
    by_cases h0 : x + (2 ^ k - 1) < a
    · have e := cn_none (six := six) (S := fromTo a b) (k := k) (x := x) (fun c hc hs => by have := hc.2; have := hs.1; have := pow_one k; omega)
      rw [e] at hN ⊢
      exact lk_none1 six x k a b hA ha hb h0 bF bL bO bK base W v l St hN
    · by_cases h1 : b < x
      · have e := cn_none (six := six) (S := fromTo a b) (k := k) (x := x) (fun c hc hs => by have := hc.1; have := hs.2; omega)
        rw [e] at hN ⊢
        exact lk_none2 six x k a b hA ha hb h0 h1 bF bL bO bK base W v l St hN
      · by_cases h2 : x < a
        · match k, hA, hN, h0 with
          | 0, _, _, h0 => simp at h0; omega
          | k + 1, hA, hN, h0 =>
            have hn : ¬ ∀ c, inB x (k + 1) c → fromTo a b c := fun h => by have := (h x (inB_self _ _)).1; omega
            rw [cn_half hn] at hN ⊢
            exact lk_split1 six x k a b hA ha hb h0 h1 h2 _ _ bF bL bO bK base (Lib.hid (look_calls six a b ha hb bF bL bO bK base k x hA.low)) (Lib.hid (look_calls six a b ha hb bF bL bO bK base k (x + 2 ^ k) hA.high)) W v l St hN
        · by_cases h3 : b < x + (2 ^ k - 1)
          · match k, hA, hN, h0, h3 with
            | 0, _, _, h0, h3 => simp at h3; omega
            | k + 1, hA, hN, h0, h3 =>
              have hn : ¬ ∀ c, inB x (k + 1) c → fromTo a b c := fun h => by have := (h _ (inB_end x (k + 1))).2; omega
              rw [cn_half hn] at hN ⊢
              exact lk_split2 six x k a b hA ha hb h0 h1 h2 h3 _ _ bF bL bO bK base (Lib.hid (look_calls six a b ha hb bF bL bO bK base k x hA.low)) (Lib.hid (look_calls six a b ha hb bF bL bO bK base k (x + 2 ^ k) hA.high)) W v l St hN
          · have e := cn_all (six := six) (S := fromTo a b) (k := k) (x := x) (fun c hc => ⟨by have := hc.1; omega, by have := hc.2; have := pow_one k; omega⟩)
            rw [e] at hN ⊢
            exact lk_all six x k a b hA ha hb h0 h1 h2 h3 bF bL bO bK base W v l St hN
theorem top_calls (six : Bool) (w : World) : Calls Tryd.prog 42 #[.bool six] w fun e w' => e = .returned (.agg #[.bool six, .int .u64 0, .int .u64 0, .int .i64 0]) ∧ Below w.heap.size w w' := by
  go_enter Tryd.func42, Tryd.ntmps42
  go_wp2
  go_returns
  exact ⟨rfl, by go_grown⟩
end Go.Proofs.YtojdlhiibffnfaaDoor
