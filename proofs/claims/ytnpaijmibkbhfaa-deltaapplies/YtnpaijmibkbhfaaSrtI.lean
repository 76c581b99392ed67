/-
  The document's order of two routes: the function that it hands to sort.Slice.
-/
import Derived.Test.YtnpaijmibkbhfaaRefLess
import Derived.Test.YtnpaijmibkbhfaaG3
import Derived.Sort.LotD2
namespace Go.Proofs.Ytnpaijmibkbhfaa
open Go.RowKit
open Go.Sort (SWO)
set_option linter.unusedVariables false
set_option linter.unusedSimpArgs false
def ltR (r s : RT) : Bool := decide (ltK r.1 s.1)
theorem ltR_swo : SWO ltR where
  irrefl x := decide_eq_false (ltK_irrefl _)
  trans x y z a b := decide_eq_true (ltK_trans (of_decide_eq_true a) (of_decide_eq_true b))
  ntrans x y z a b := by
    have a' := of_decide_eq_false a
    have b' := of_decide_eq_false b
    refine decide_eq_false fun c => ?_
    rcases ltK_or x.1 y.1 with h | h | h
    · exact a' h
    · rw [h] at c; exact b' c
    · exact b' (ltK_trans h c)
/-- What addrLess says of two addresses. -/
def laK (p q : PK) : Bool := if p.1 = q.1 then decide (p.2.1 < q.2.1) else !p.1
theorem la_calls (p q : PK) (hp : p.2.1 < 2 ^ wideN p.1) (hq : q.2.1 < 2 ^ wideN q.1) (w : World) :
    Calls Try.prog 77 #[.agg #[.bool p.1, .int .u64 (aH p.2.1), .int .u64 (aL p.2.1)], .agg #[.bool q.1, .int .u64 (aH q.2.1), .int .u64 (aL q.2.1)]] w fun e w' => e = .returned (.bool (laK p q)) ∧ Below w.heap.size w w' := by
  obtain ⟨s, x, n⟩ := p
  obtain ⟨t, y, m⟩ := q
  by_cases h : s = t
  · subst h
    rw [show laK (s, x, n) (s, y, m) = decide (x < y) by simp [laK]]
    exact refLess_calls s x y _ hp hq rfl w
  · cases s <;> cases t
    · exact absurd rfl h
    · rw [show laK (false, x, n) (true, y, m) = true by simp [laK]]
      go_enter Try.func77, Try.ntmps77
      go_wp2
      go_ret
      exact ⟨rfl, by go_grown⟩
    · rw [show laK (true, x, n) (false, y, m) = false by simp [laK]]
      go_enter Try.func77, Try.ntmps77
      go_wp2
      go_ret
      exact ⟨rfl, by go_grown⟩
    · exact absurd rfl h
theorem la_or (p q : PK) : (laK p q = true ∧ ltK p q) ∨ (laK p q = false ∧ p.1 = q.1 ∧ p.2.1 = q.2.1) ∨ (laK p q = false ∧ ¬ ltK p q ∧ ((p.1 == q.1) = false ∨ (p.1 = q.1 ∧ (aH p.2.1 == aH q.2.1) = false) ∨ (p.1 = q.1 ∧ aH p.2.1 = aH q.2.1 ∧ (aL p.2.1 == aL q.2.1) = false))) := by
  obtain ⟨s, x, n⟩ := p
  obtain ⟨t, y, m⟩ := q
  unfold laK ltK
  simp only
  by_cases h : s = t
  · subst h
    simp only [if_true, true_and, decide_eq_true_eq, decide_eq_false_iff_not]
    by_cases hx : x < y
    · exact .inl ⟨hx, .inr (.inl hx)⟩
    · by_cases he : x = y
      · exact .inr (.inl ⟨hx, he⟩)
      · refine .inr (.inr ⟨hx, fun g => ?_, .inr ?_⟩)
        · rcases g with ⟨a, b⟩ | g
          · rw [a] at b; cases b
          · omega
        · by_cases h1 : aH x = aH y
          · by_cases h2 : aL x = aL y
            · exact absurd (a_inj h1 h2) he
            · exact .inr ⟨h1, by simpa using h2⟩
          · exact .inl (by simpa using h1)
  · rw [if_neg h]
    cases s <;> cases t
    · exact absurd rfl h
    · exact .inl ⟨rfl, .inl ⟨rfl, rfl⟩⟩
    · exact .inr (.inr ⟨rfl, by simp, .inl rfl⟩)
    · exact absurd rfl h
set_option maxHeartbeats 4000000 in
set_option maxRecDepth 100000 in
theorem sless_calls (l : List RT) (v : Value) (bl i k : Nat) (hi : i < l.length) (hk : k < l.length) (hl : l.length ≤ 1000) (hv : ∀ r ∈ l, r.1.2.1 < 2 ^ wideN r.1.1) (w : World) (row : RowR w v l) (bx : w.cell? ⟨bl, 0, none⟩ = some v) (hbl : bl < w.heap.size) :
    Calls Try.prog 76 #[.int .i64 i, .int .i64 k, .pointer (some ⟨bl, 0, none⟩)] w fun e w' => e = .returned (.bool (ltR l[i] l[k])) ∧ Below w.heap.size w w' := by
  obtain ⟨p, c, rfl, hcap, at_⟩ := row.at
  obtain ⟨g, o, rfl, hg, ri⟩ := at_ i hi
  obtain ⟨g', o', he, _, rk⟩ := at_ k hk
  simp only [Option.some.injEq, Addr.mk.injEq, and_true] at he
  obtain ⟨rfl, rfl⟩ := he
  obtain ⟨x0, x1, x2, x3, x4⟩ := routeCells ri
  have rk1 := rk.keep ((Below.refl w.heap.size w).alloc (Nat.le_refl _) (.cells #[.bool l[i].1.1, .int .u64 (aH l[i].1.2.1), .int .u64 (aL l[i].1.2.1), .int .i64 l[i].1.2.2] 26)) hg
  obtain ⟨y0, y1, y2, y3, y4⟩ := routeCells rk1
  have bx1 := (((Below.refl w.heap.size w).alloc (Nat.le_refl _) (.cells #[.bool l[i].1.1, .int .u64 (aH l[i].1.2.1), .int .u64 (aL l[i].1.2.1), .int .i64 l[i].1.2.2] 26)).cell (p := ⟨bl, 0, none⟩) hbl).trans bx
  have LC := Lib.hid (fun W => la_calls l[i].1 l[k].1 (hv _ (List.getElem_mem hi)) (hv _ (List.getElem_mem hk)) W)
  have LO := la_or l[i].1 l[k].1
  have hi' : (i : Int) < (l.length : Int) := by omega
  have hk' : (k : Int) < (l.length : Int) := by omega
  unfold ltR
  clear row at_ ri rk rk1 hv x4 y4
  generalize l[i] = r at x0 x1 x2 x3 y0 y1 y2 y3 LC LO bx1 ⊢
  generalize l[k] = q at y0 y1 y2 y3 LC LO ⊢
  generalize l.length = n at hi hk hl hcap hi' hk' bx bx1
  have P1 := (PreAt.new w r.1.1 (aH r.1.2.1) (aL r.1.2.1) r.1.2.2 26).alloc (.cells #[.bool q.1.1, .int .u64 (aH q.1.2.1), .int .u64 (aL q.1.2.1), .int .i64 q.1.2.2] 26)
  have P2 := PreAt.new (w.alloc (.cells #[.bool r.1.1, .int .u64 (aH r.1.2.1), .int .u64 (aL r.1.2.1), .int .i64 r.1.2.2] 26)) q.1.1 (aH q.1.2.1) (aL q.1.2.1) q.1.2.2 26
  have bY := ((Below.refl w.heap.size w).alloc (Nat.le_refl _) (.cells #[.bool r.1.1, .int .u64 (aH r.1.2.1), .int .u64 (aL r.1.2.1), .int .i64 r.1.2.2] 26)).alloc (by simp) (.cells #[.bool q.1.1, .int .u64 (aH q.1.2.1), .int .u64 (aL q.1.2.1), .int .i64 q.1.2.2] 26)
  simp only [World.size_alloc] at P2
  obtain ⟨rb, hrb⟩ : ∃ rb, decide (ltK r.1 q.1) = rb := ⟨_, rfl⟩
  rw [hrb]
  have HRB := Lib.hid hrb
  clear hrb
  go_enter Try.func76, Try.ntmps76
  go_wp2_with fail
  refine (LC.out _).mono ?_
  rintro e w1 ⟨rfl, hb1⟩
  obtain ⟨a0, a1, a2, a3, al⟩ := P1.keep hb1
  obtain ⟨b0, b1, b2, b3, bl'⟩ := P2.keep hb1
  have b1' := thenBelow bY hb1
  clear P1 P2 bY hb1 LC x0 x1 x2 x3 y0 y1 y2 y3 bx bx1
  rcases LO with ⟨e1, e2⟩ | ⟨e1, e2, e3⟩ | ⟨e1, e2, e3⟩
  · have H := Lib.hid (show true = rb by rw [← HRB.out, decide_eq_true e2])
    rw [e1]
    clear e1 e2
    go_wp2
    go_ret
    exact ⟨by rw [← H.out]; rfl, b1'⟩
  · have H := Lib.hid (show decide (r.1.2.2 < q.1.2.2) = rb by
      rw [← HRB.out]
      refine decide_eq_decide.2 ⟨fun h => .inr ⟨e2, .inr ⟨e3, h⟩⟩, ?_⟩
      rintro (⟨a, b⟩ | ⟨_, g | ⟨_, g⟩⟩)
      · rw [← e2, a] at b; cases b
      · omega
      · exact g)
    rw [e1]
    rw [← e2] at b0
    rw [← e3] at b1 b2
    clear e1 e2 e3
    go_wp2
    go_ret
    exact ⟨by rw [← H.out]; rfl, b1'⟩
  · have H := Lib.hid (show false = rb by rw [← HRB.out, decide_eq_false e2])
    rw [e1]
    clear e1 e2
    rcases e3 with e | ⟨e1, e⟩ | ⟨e1, e2, e⟩
    · go_wp2
      go_ret
      exact ⟨by rw [← H.out]; rfl, b1'⟩
    · rw [e1] at a0
      go_wp2
      go_ret
      exact ⟨by rw [← H.out]; rfl, b1'⟩
    · rw [e1] at a0
      rw [e2] at a1
      go_wp2
      go_ret
      exact ⟨by rw [← H.out]; rfl, b1'⟩
end Go.Proofs.Ytnpaijmibkbhfaa
