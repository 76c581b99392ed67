/-
  Laid together: TabC, TabD.
-/
import Derived.Test.YtgajepmnklbmpaaG6
import Derived.Test.YtgajepmnklbmpaaG2
/-
  table.compare, the search in a table's routes: where a prefix stands.
-/
namespace Go.Proofs.Ytgajepmnklbmpaa
open Go.RowKit
set_option linter.unusedVariables false
set_option linter.unusedSimpArgs false

theorem compare_calls (p q : PK) (w : World) :
    Calls Try.prog 99 #[.agg #[.bool p.1, .int .u64 (aH p.2.1), .int .u64 (aL p.2.1), .int .i64 p.2.2], .agg #[.bool q.1, .int .u64 (aH q.2.1), .int .u64 (aL q.2.1), .int .i64 q.2.2]] w fun e w' => e = .returned (.int .i64 (cmpK p q)) ∧ Below w.heap.size w w' := by
  obtain ⟨s, x, n⟩ := p
  obtain ⟨t, y, m⟩ := q
  by_cases h : s = t
  · subst h; exact compare_same s x y n m w
  · cases s <;> cases t
    · exact absurd rfl h
    · rw [show cmpK (false, x, n) (true, y, m) = -1 by simp [cmpK, ltK]]
      go_enter Try.func99, Try.ntmps99
      go_wp2
      go_ret
      exact ⟨rfl, by go_grown⟩
    · rw [show cmpK (true, x, n) (false, y, m) = 1 by simp [cmpK, ltK]]
      go_enter Try.func99, Try.ntmps99
      go_wp2
      go_ret
      exact ⟨rfl, by go_grown⟩
    · exact absurd rfl h
/-- A route as it lies in memory. -/
def rcs (r : RT) : List Value := [.bool r.1.1, .int .u64 (aH r.1.2.1), .int .u64 (aL r.1.2.1), .int .i64 r.1.2.2, .int .i64 r.2]
theorem rcs_len (r : RT) : (rcs r).length = 5 := rfl
theorem rcs_one (r : RT) : ∀ u ∈ rcs r, u.oneCell' = true := by
  intro u hu
  simp only [rcs, List.mem_cons, List.not_mem_nil, or_false] at hu
  rcases hu with h | h | h | h | h <;> subst h <;> rfl
theorem routeCells {w : World} {g o : Nat} {r : RT} (h : RecAt w g o (rcs r)) : w.cell? ⟨g, o, none⟩ = some (.bool r.1.1) ∧ w.cell? ⟨g, o + 1, none⟩ = some (.int .u64 (aH r.1.2.1)) ∧ w.cell? ⟨g, o + 2, none⟩ = some (.int .u64 (aL r.1.2.1)) ∧ w.cell? ⟨g, o + 3, none⟩ = some (.int .i64 r.1.2.2) ∧ w.cell? ⟨g, o + 4, none⟩ = some (.int .i64 r.2) :=
  ⟨h 0 _ rfl, h 1 _ rfl, h 2 _ rfl, h 3 _ rfl, h 4 _ rfl⟩
/-- A slice that holds these routes. -/
abbrev RowR (w : World) (v : Value) (l : List RT) : Prop := RowK rcs 5 w v l
theorem placeF_calls (r : RT) (q : PK) (w : World) :
    Calls Try.prog 98 #[.agg #[.bool r.1.1, .int .u64 (aH r.1.2.1), .int .u64 (aL r.1.2.1), .int .i64 r.1.2.2, .int .i64 r.2], .agg #[.bool q.1, .int .u64 (aH q.2.1), .int .u64 (aL q.2.1), .int .i64 q.2.2]] w fun e w' => e = .returned (.int .i64 (cmpK r.1 q)) ∧ Below w.heap.size w w' := by
  have C := Lib.hid (fun W => compare_calls r.1 q W)
  go_enter Try.func98, Try.ntmps98
  go_wp2_with fail
  refine (C.out _).mono ?_
  rintro e w1 ⟨rfl, hb1⟩
  have b1 := thenBelow (((Below.refl _ w).alloc (Nat.le_refl _) _).alloc (by simp) _) hb1
  go_wp2
  go_ret
  exact ⟨rfl, b1⟩
end Go.Proofs.Ytgajepmnklbmpaa
/-
  slices.BinarySearchFunc in a table's routes; table.place.
-/
namespace Go.Proofs.Ytgajepmnklbmpaa
open Go.RowKit
set_option linter.unusedVariables false
set_option linter.unusedSimpArgs false

set_option maxHeartbeats 4000000 in
set_option maxRecDepth 100000 in
theorem search_calls (l : List RT) (q : PK) (v : Value) (hs : SortedR l) (hlen : l.length ≤ 1000) (w : World) (row : RowR w v l) :
    Calls Try.prog 97 #[v, .agg #[.bool q.1, .int .u64 (aH q.2.1), .int .u64 (aL q.2.1), .int .i64 q.2.2], .func (.func 98) #[] #[]] w
      fun e w' => e = .returned (.tuple #[.int .i64 (posR l q : Nat), .bool (hasR l q)]) ∧ Below w.heap.size w w' := by
  obtain ⟨p, c, rfl, hcap, at_⟩ := row.at
  obtain ⟨n, hn⟩ : ∃ n, l.length = n := ⟨_, rfl⟩
  have HN := Lib.hid hn
  have SO := Lib.hid hs
  have AT := Lib.hid at_
  have PB := Lib.hid (PreAt.new w q.1 (aH q.2.1) (aL q.2.1) q.2.2 63)
  have bY := (Below.refl w.heap.size w).alloc (Nat.le_refl _) (.cells #[.bool q.1, .int .u64 (aH q.2.1), .int .u64 (aL q.2.1), .int .i64 q.2.2] 63)
  obtain ⟨P, hP⟩ : ∃ P, posR l q = P := ⟨_, rfl⟩
  obtain ⟨F, hF⟩ : ∃ F, hasR l q = F := ⟨_, rfl⟩
  have HP := Lib.hid hP
  have HF := Lib.hid hF
  rw [hn] at hlen ⊢
  rw [hP, hF]
  clear row hs at_ hn hP hF
  go_enter Try.func97, Try.ntmps97
  go_wp2
  revert PB bY
  generalize w.alloc (.cells #[.bool q.1, .int .u64 (aH q.2.1), .int .u64 (aL q.2.1), .int .i64 q.2.2] 63) = Y
  intro PB bY
  go_loopg [9, 10] n (fun kx s9 s10 wr => ∃ lo hi : Nat, s9 = .int .i64 lo ∧ s10 = .int .i64 hi ∧ lo ≤ hi ∧ hi ≤ n ∧ hi - lo ≤ kx ∧ Below Y.heap.size Y wr ∧
    Hid ((∀ t (h : t < l.length), t < lo → ltK l[t].1 q) ∧ (∀ t (h : t < l.length), hi ≤ t → ¬ ltK l[t].1 q)))
  case atStart => exact ⟨0, n, rfl, rfl, Nat.zero_le _, Nat.le_refl _, by omega, Below.refl _ _, Lib.hid ⟨fun t _ ht => by omega, fun t h ht => by rw [HN.out] at h; omega⟩⟩
  case round =>
    obtain ⟨lo, hi, rfl, rfl, hlh, hin, hg, hnx, I⟩ := hrel
    by_cases hlt : lo < hi
    · obtain ⟨h, hh⟩ : ∃ h, (lo + hi) / 2 = h := ⟨_, rfl⟩
      have h1 : lo ≤ h := by omega
      have h2 : h < hi := by omega
      have hln : h < l.length := by rw [HN.out]; omega
      have hhi : ((lo : Int) + (hi : Int)) / 2 = (h : Int) := by omega
      obtain ⟨g, o, rfl, hgw, hrec⟩ := AT.out h hln
      have hgr := Nat.lt_of_lt_of_le (Nat.lt_of_lt_of_le hgw bY.size) hnx.size
      obtain ⟨x0, x1, x2, x3, x4⟩ := routeCells ((hrec.keep bY hgw).keep hnx (Nat.lt_of_lt_of_le hgw bY.size))
      obtain ⟨y0, y1, y2, y3, yl⟩ := PB.out.keep hnx
      have LT := Lib.hid (show ltK l[h].1 q ↔ cmpK l[h].1 q < 0 from (cmpK_neg _ _).symm)
      have MO := Lib.hid (show (ltK l[h].1 q → ∀ t (h' : t < l.length), t < h + 1 → ltK l[t].1 q) ∧ (¬ ltK l[h].1 q → ∀ t (h' : t < l.length), h ≤ t → ¬ ltK l[t].1 q) from
        ⟨fun a t ht hth => by
          by_cases e : t = h
          · subst e; exact a
          · exact ltK_trans (SO.out.lt (show t < h by omega) hln) a,
         fun a t ht hth b => by
          by_cases e : t = h
          · subst e; exact a b
          · exact a (ltK_trans (SO.out.lt (show h < t by omega) ht) b)⟩)
      generalize hr : l[h] = r at x0 x1 x2 x3 x4 LT MO
      clear hr
      have C := Lib.hid (fun W => placeF_calls r q W)
      go_wp2_with fail
      have hln' : (h : Int) < (n : Int) := by omega
      have YB : Hid (∀ wa : World, Below wr.drew.heap.size wr.drew wa → Below Y.heap.size Y wa) := Lib.hid fun wa ba => (hnx.drew).trans (ba.mono (by have := hnx.size; simpa using this))
      go_region_held3 (fun w' => w'.cell? ⟨g, o + h * 5, none⟩ = some (.bool r.1.1) ∧ w'.cell? ⟨g, o + h * 5 + 1, none⟩ = some (.int .u64 (aH r.1.2.1)) ∧ w'.cell? ⟨g, o + h * 5 + 2, none⟩ = some (.int .u64 (aL r.1.2.1)) ∧ w'.cell? ⟨g, o + h * 5 + 3, none⟩ = some (.int .i64 r.1.2.2) ∧ w'.cell? ⟨g, o + h * 5 + 4, none⟩ = some (.int .i64 r.2) ∧ w'.cell? ⟨w.heap.size, 0, none⟩ = some (.bool q.1) ∧ w'.cell? ⟨w.heap.size, 1, none⟩ = some (.int .u64 (aH q.2.1)) ∧ w'.cell? ⟨w.heap.size, 2, none⟩ = some (.int .u64 (aL q.2.1)) ∧ w'.cell? ⟨w.heap.size, 3, none⟩ = some (.int .i64 q.2.2))
        (first
          | (simp [go_sem, x0, x1, x2, x3, x4, y0, y1, y2, y3]; done)
          | (simp [go_sem, z0, z1, z2, z3, z4, t0, t1, t2, t3]; done)
          | fail)
        (first
          | (go_at_call 98; (with_reducible refine (C.out _).mono ?_); rintro e wa ⟨rfl, ba⟩; have bq := YB.out wa ba; have z0 := (ba.cell (p := ⟨g, o + h * 5, none⟩) hgr).trans x0; have z1 := (ba.cell (p := ⟨g, o + h * 5 + 1, none⟩) hgr).trans x1; have z2 := (ba.cell (p := ⟨g, o + h * 5 + 2, none⟩) hgr).trans x2; have z3 := (ba.cell (p := ⟨g, o + h * 5 + 3, none⟩) hgr).trans x3; have z4 := (ba.cell (p := ⟨g, o + h * 5 + 4, none⟩) hgr).trans x4; have t0 := (ba.cell (p := ⟨w.heap.size, 0, none⟩) yl).trans y0; have t1 := (ba.cell (p := ⟨w.heap.size, 1, none⟩) yl).trans y1; have t2 := (ba.cell (p := ⟨w.heap.size, 2, none⟩) yl).trans y2; have t3 := (ba.cell (p := ⟨w.heap.size, 3, none⟩) yl).trans y3)
          | fail)
      by_cases hc : cmpK r.1 q < 0
      · have I2 := Lib.hid (show (∀ t (h' : t < l.length), t < h + 1 → ltK l[t].1 q) ∧ (∀ t (h' : t < l.length), hi ≤ t → ¬ ltK l[t].1 q) from ⟨MO.out.1 (LT.out.2 hc), I.out.2⟩)
        clear LT MO C x0 x1 x2 x3 x4 z0 z1 z2 z3 z4 y0 y1 y2 y3 t0 t1 t2 t3
        go_wp2
        go_roundg (hi - (h + 1))
        case measure => omega
        case rel => exact ⟨h + 1, hi, by go_num, rfl, by omega, hin, Nat.le_refl _, bq, I2⟩
      · have I2 := Lib.hid (show (∀ t (h' : t < l.length), t < lo → ltK l[t].1 q) ∧ (∀ t (h' : t < l.length), h ≤ t → ¬ ltK l[t].1 q) from ⟨I.out.1, MO.out.2 (fun e => hc (LT.out.1 e))⟩)
        clear LT MO C x0 x1 x2 x3 x4 z0 z1 z2 z3 z4 y0 y1 y2 y3 t0 t1 t2 t3
        go_wp2
        go_roundg (h - lo)
        case measure => omega
        case rel => exact ⟨lo, h, rfl, rfl, by omega, by omega, Nat.le_refl _, bq, I2⟩
    · obtain rfl : hi = lo := by omega
      have eP : P = hi := by rw [← HP.out]; exact posR_of hi (by rw [HN.out]; exact hin) (fun t h ht => I.out.1 t h ht) (fun t h ht => I.out.2 t h ht)
      subst eP
      by_cases hPn : P < n
      · have hln : P < l.length := by rw [HN.out]; exact hPn
        obtain ⟨g, o, rfl, hgw, hrec⟩ := AT.out P hln
        have hgr := Nat.lt_of_lt_of_le (Nat.lt_of_lt_of_le hgw bY.size) hnx.size
        obtain ⟨x0, x1, x2, x3, x4⟩ := routeCells ((hrec.keep bY hgw).keep hnx (Nat.lt_of_lt_of_le hgw bY.size))
        obtain ⟨y0, y1, y2, y3, yl⟩ := PB.out.keep hnx
        have FE : Hid (F = decide (cmpK l[P].1 q = 0)) := Lib.hid (by
          rw [← HF.out, Bool.eq_iff_iff, SO.out.found]
          simp only [HP.out, decide_eq_true_eq, cmpK_zero]
          exact ⟨fun ⟨_, h⟩ => h, fun h => ⟨hln, h⟩⟩)
        generalize hr : l[P] = r at x0 x1 x2 x3 x4 FE
        clear hr
        have C := Lib.hid (fun W => placeF_calls r q W)
        have hln' : (P : Int) < (n : Int) := by omega
        have hln2 : decide ((P : Int) < (n : Int)) = true := decide_eq_true hln'
        have YB : Hid (∀ wa : World, Below wr.drew.heap.size wr.drew wa → Below Y.heap.size Y wa) := Lib.hid fun wa ba => (hnx.drew).trans (ba.mono (by have := hnx.size; simpa using this))
        go_wp2_with fail
        go_region_held3 (fun w' => w'.cell? ⟨g, o + P * 5, none⟩ = some (.bool r.1.1) ∧ w'.cell? ⟨g, o + P * 5 + 1, none⟩ = some (.int .u64 (aH r.1.2.1)) ∧ w'.cell? ⟨g, o + P * 5 + 2, none⟩ = some (.int .u64 (aL r.1.2.1)) ∧ w'.cell? ⟨g, o + P * 5 + 3, none⟩ = some (.int .i64 r.1.2.2) ∧ w'.cell? ⟨g, o + P * 5 + 4, none⟩ = some (.int .i64 r.2) ∧ w'.cell? ⟨w.heap.size, 0, none⟩ = some (.bool q.1) ∧ w'.cell? ⟨w.heap.size, 1, none⟩ = some (.int .u64 (aH q.2.1)) ∧ w'.cell? ⟨w.heap.size, 2, none⟩ = some (.int .u64 (aL q.2.1)) ∧ w'.cell? ⟨w.heap.size, 3, none⟩ = some (.int .i64 q.2.2))
          (first
            | (simp [go_sem, x0, x1, x2, x3, x4, y0, y1, y2, y3]; done)
            | (simp [go_sem, z0, z1, z2, z3, z4, t0, t1, t2, t3]; done)
            | fail)
          (first
            | (go_at_call 98; (with_reducible refine (C.out _).mono ?_); rintro e wa ⟨rfl, ba⟩; have bq := YB.out wa ba; have z0 := (ba.cell (p := ⟨g, o + P * 5, none⟩) hgr).trans x0; have z1 := (ba.cell (p := ⟨g, o + P * 5 + 1, none⟩) hgr).trans x1; have z2 := (ba.cell (p := ⟨g, o + P * 5 + 2, none⟩) hgr).trans x2; have z3 := (ba.cell (p := ⟨g, o + P * 5 + 3, none⟩) hgr).trans x3; have z4 := (ba.cell (p := ⟨g, o + P * 5 + 4, none⟩) hgr).trans x4; have t0 := (ba.cell (p := ⟨w.heap.size, 0, none⟩) yl).trans y0; have t1 := (ba.cell (p := ⟨w.heap.size, 1, none⟩) yl).trans y1; have t2 := (ba.cell (p := ⟨w.heap.size, 2, none⟩) yl).trans y2; have t3 := (ba.cell (p := ⟨w.heap.size, 3, none⟩) yl).trans y3)
            | fail)
        go_wp2
        go_ret2
        exact ⟨by rw [FE.out]; rfl, thenBelow bY bq⟩
      · obtain rfl : P = n := by omega
        have eF : F = false := by
          rw [← HF.out, Bool.eq_false_iff]
          intro h
          obtain ⟨ht, _⟩ := SO.out.found.1 h
          rw [HP.out, HN.out] at ht
          omega
        subst eF
        go_wp2_with fail
        go_quiet ((fail))
        go_wp2
        go_ret2
        exact ⟨rfl, below_drewN (thenBelow bY hnx) _⟩
set_option maxHeartbeats 1000000 in
theorem place_calls (b : Nat) (l : List RT) (q : PK) (v : Value) (hs : SortedR l) (hlen : l.length ≤ 1000) (w : World) (hc : w.cell? ⟨b, 0, none⟩ = some v) (row : RowR w v l) :
    Calls Try.prog 85 #[.pointer (some ⟨b, 0, none⟩), .agg #[.bool q.1, .int .u64 (aH q.2.1), .int .u64 (aL q.2.1), .int .i64 q.2.2]] w
      fun e w' => e = .returned (.tuple #[.int .i64 (posR l q : Nat), .bool (hasR l q)]) ∧ Below w.heap.size w w' := by
  have hbw : b < w.heap.size := World.block_lt_of_cell? w _ hc
  obtain ⟨vp, vc, rfl⟩ := row.form
  have P1 := PreAt.new w q.1 (aH q.2.1) (aL q.2.1) q.2.2 63
  have bY := (Below.refl w.heap.size w).alloc (Nat.le_refl _) (.cells #[.bool q.1, .int .u64 (aH q.2.1), .int .u64 (aL q.2.1), .int .i64 q.2.2] 63)
  have hcY := (bY.cell (p := ⟨b, 0, none⟩) hbw).trans hc
  have C := Lib.hid (fun W (r : RowR W (.slice vp l.length vc) l) => search_calls l q _ hs hlen W r)
  have RW := Lib.hid (row.keep bY)
  clear row hs hc
  go_enter Try.func85, Try.ntmps85
  go_wp2_with fail
  revert P1 bY hcY RW
  generalize w.alloc (.cells #[.bool q.1, .int .u64 (aH q.2.1), .int .u64 (aL q.2.1), .int .i64 q.2.2] 63) = Y
  intro P1 bY hcY RW
  obtain ⟨y0, y1, y2, y3, yl⟩ := P1
  have hbY := Nat.lt_of_lt_of_le hbw bY.size
  have RD := Lib.hid (RW.out.keep (Below.refl _ Y).drew)
  go_region_held3 (fun w' => w'.cell? ⟨b, 0, none⟩ = some (.slice vp l.length vc) ∧ w'.cell? ⟨w.heap.size, 0, none⟩ = some (.bool q.1) ∧ w'.cell? ⟨w.heap.size, 1, none⟩ = some (.int .u64 (aH q.2.1)) ∧ w'.cell? ⟨w.heap.size, 2, none⟩ = some (.int .u64 (aL q.2.1)) ∧ w'.cell? ⟨w.heap.size, 3, none⟩ = some (.int .i64 q.2.2))
    (first
      | (simp [go_sem, hcY, y0, y1, y2, y3]; done)
      | (simp [go_sem, z0, t0, t1, t2, t3]; done)
      | fail)
    (first
      | (go_at_call 97; (with_reducible refine (C.out _ RD.out).mono ?_); rintro e wa ⟨rfl, ba⟩; have z0 := (ba.cell (p := ⟨b, 0, none⟩) hbY).trans hcY; have t0 := (ba.cell (p := ⟨w.heap.size, 0, none⟩) yl).trans y0; have t1 := (ba.cell (p := ⟨w.heap.size, 1, none⟩) yl).trans y1; have t2 := (ba.cell (p := ⟨w.heap.size, 2, none⟩) yl).trans y2; have t3 := (ba.cell (p := ⟨w.heap.size, 3, none⟩) yl).trans y3)
      | fail)
  go_wp2
  go_ret2
  exact ⟨rfl, thenBelow bY.drew ba⟩
end Go.Proofs.Ytgajepmnklbmpaa
