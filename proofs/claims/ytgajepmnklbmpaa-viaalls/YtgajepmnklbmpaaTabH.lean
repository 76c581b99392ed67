/-
  table.Check; the document's TableFault.
-/
import Derived.Test.YtgajepmnklbmpaaTabG
import Derived.Test.YtgajepmnklbmpaaG6
namespace Go.Proofs.Ytgajepmnklbmpaa
open Go.RowKit
set_option linter.unusedVariables false
set_option linter.unusedSimpArgs false

theorem tableCheck_calls (l : List RT) (v : Value) (hlen : l.length ≤ 9223372036854775807) (hw : WordsR l) (w : World) (row : RowR w v l) :
    Calls Try.prog 41 #[v] w fun e w' => e = .returned (.int .i64 (tabE l)) ∧ Below w.heap.size w w' := by
  have C := Lib.hid (build_calls l v hlen hw w row)
  obtain ⟨p, c, rfl⟩ := row.form
  go_enter Try.func41, Try.ntmps41
  go_wp2_with fail
  refine C.out.mono ?_
  rintro e w1 ⟨u, rfl, ho, _, hb1⟩
  generalize (if tabE l = 0 then srt l else []) = L at ho
  obtain ⟨q, d, rfl⟩ := ho.row.form
  clear ho
  go_wp2
  go_ret
  exact ⟨rfl, hb1.alloc hb1.size _⟩
theorem hasR_foldl (l : List RT) : ∀ (s : List RT) (p : PK), hasR (l.foldl insR s) p = (hasR s p || hasR l p) := by
  induction l with
  | nil => intro s p; simp [hasR]
  | cons r t ih =>
    intro s p
    rw [List.foldl_cons, ih, hasR_ins]
    simp only [hasR, List.any_cons]
    cases decide (r.1 = p) <;> cases (s.any fun r => decide (r.1 = p)) <;> rfl
theorem hasR_srt (l : List RT) (p : PK) : hasR (srt l) p = hasR l p := by
  unfold srt; rw [hasR_foldl]; simp [hasR]
theorem hasR_take {l : List RT} {k : Nat} {p : PK} (hk : k ≤ l.length) : hasR (l.take k) p = true ↔ ∃ j, ∃ h : j < l.length, j < k ∧ l[j].1 = p := by
  simp only [hasR, List.any_eq_true, decide_eq_true_eq]
  constructor
  · rintro ⟨x, hx, e⟩
    obtain ⟨j, hj, rfl⟩ := List.getElem_of_mem hx
    rw [List.length_take] at hj
    rw [List.getElem_take] at e
    exact ⟨j, by omega, by omega, e⟩
  · rintro ⟨j, h, hjk, e⟩
    exact ⟨l[j], List.mem_take_iff_getElem.2 ⟨j, by omega, rfl⟩, e⟩
/-- Two prefixes are the same, or differ in a cell. -/
theorem pk_cases (p q : PK) : p = q ∨ (p.1 == q.1) = false ∨ p.1 = q.1 ∧ (aH p.2.1 == aH q.2.1) = false ∨ p.1 = q.1 ∧ aH p.2.1 = aH q.2.1 ∧ (aL p.2.1 == aL q.2.1) = false ∨ p.1 = q.1 ∧ aH p.2.1 = aH q.2.1 ∧ aL p.2.1 = aL q.2.1 ∧ (p.2.2 == q.2.2) = false := by
  obtain ⟨s, x, n⟩ := p
  obtain ⟨t, y, m⟩ := q
  simp only [beq_eq_false_iff_ne, ne_eq, Prod.mk.injEq]
  by_cases h1 : s = t
  · by_cases h2 : aH x = aH y
    · by_cases h3 : aL x = aL y
      · by_cases h4 : n = m
        · exact .inl ⟨h1, a_inj h2 h3, h4⟩
        · exact .inr (.inr (.inr (.inr ⟨h1, h2, h3, h4⟩)))
      · exact .inr (.inr (.inr (.inl ⟨h1, h2, h3⟩)))
    · exact .inr (.inr (.inl ⟨h1, h2⟩))
  · exact .inr (.inl h1)
set_option maxHeartbeats 4000000 in
set_option maxRecDepth 100000 in
theorem tableFault_calls (l : List RT) (v : Value) (hlen : l.length ≤ 9223372036854775807) (hw : WordsR l) (w : World) (row : RowR w v l) :
    Calls Try.prog 33 #[v] w fun e w' => e = .returned (.int .i64 (tabE l)) ∧ Below w.heap.size w w' := by
  obtain ⟨p, c, rfl, hcap, at_⟩ := row.at
  by_cases h60 : 60 < l.length
  · have h60' : (60 : Int) < (l.length : Int) := by omega
    rw [show tabE l = 1 by simp [tabE, h60]]
    go_enter Try.func33, Try.ntmps33
    go_wp2
    go_ret
    exact ⟨rfl, Below.refl _ _⟩
  · have h60' : ¬ (60 : Int) < (l.length : Int) := by omega
    obtain ⟨n, hn⟩ : ∃ n, l.length = n := ⟨_, rfl⟩
    obtain ⟨E, hE⟩ : ∃ E, tabE l = E := ⟨_, rfl⟩
    have LE : Hid (behE [] l = E) := Lib.hid (by rw [← hE, tabE, if_neg h60])
    have HN := Lib.hid hn
    have AT := Lib.hid at_
    have HW := Lib.hid hw
    rw [hE]
    rw [hn] at hlen h60 h60' ⊢
    clear row hw at_ hn hE
    go_enter Try.func33, Try.ntmps33
    go_wp2
    go_loopw [13] (fun i wr => ∃ (k : Nat), k ≤ n ∧ i = .int .i64 k ∧ Below w.heap.size w wr ∧ Hid (behE (srt (l.take k)) (l.drop k) = E)) (fun i _ => n - (intOf i).toNat)
    case atStart => exact ⟨0, by omega, rfl, Below.refl _ _, Lib.hid LE.out⟩
    case round =>
      obtain ⟨k, hk, rfl, hnx, IV⟩ := hrel
      by_cases hlt : k < n
      · have hkl : k < l.length := by rw [HN.out]; exact hlt
        obtain ⟨g, o, rfl, hgw, hrec⟩ := AT.out k hkl
        obtain ⟨x0, x1, x2, x3, x4⟩ := routeCells (hrec.keep hnx hgw)
        have hwk := HW.out _ (List.getElem_mem hkl)
        have T1 := Lib.hid (fun h h2 => behE_ok (seen := srt (l.take k)) hkl h h2)
        have T2 := Lib.hid (fun h h2 => behE_twice (seen := srt (l.take k)) hkl h h2)
        have T3 := Lib.hid (fun h => behE_bad (seen := srt (l.take k)) hkl h)
        have T4 := Lib.hid (srt_take hkl)
        have hklt : (k : Int) < (n : Int) := by omega
        have hkc : k ≤ c := by rw [HN.out] at hcap; omega
        have hkc' : (k : Int) ≤ (c : Int) := by omega
        generalize hr : l[k] = r at x0 x1 x2 x3 x4 hwk T1 T2 T3 T4
        clear hr
        have CK := Lib.hid (fun W => refFault_calls r.1.1 r.1.2.1 r.1.2.2 hwk W)
        have hgr := Nat.lt_of_lt_of_le hgw hnx.size
        go_wp2_with fail
        refine (CK.out _).mono ?_
        rintro e w1 ⟨rfl, hb1⟩
        have hA : Below wr.heap.size wr (wr.alloc (.cells #[.bool r.1.1, .int .u64 (aH r.1.2.1), .int .u64 (aL r.1.2.1), .int .i64 r.1.2.2, .int .i64 r.2] 66)) := (Below.refl wr.heap.size wr).alloc (Nat.le_refl _) _
        have ba := thenBelow hA hb1
        have hal : wr.heap.size < (wr.alloc (.cells #[.bool r.1.1, .int .u64 (aH r.1.2.1), .int .u64 (aL r.1.2.1), .int .i64 r.1.2.2, .int .i64 r.2] 66)).heap.size := by simp
        have RR : RecAt w1 wr.heap.size 0 (rcs r) := by
          refine RecAt.keep ?_ hb1 hal
          intro j v hj
          match j, hj with
          | 0, hj => simp [rcs] at hj; simp [← hj]
          | 1, hj => simp [rcs] at hj; simp [← hj]
          | 2, hj => simp [rcs] at hj; simp [← hj]
          | 3, hj => simp [rcs] at hj; simp [← hj]
          | 4, hj => simp [rcs] at hj; simp [← hj]
          | j + 5, hj => simp [rcs] at hj
        have hn1 := thenBelow hnx ba
        have hrw1 : wr.heap.size < w1.heap.size := Nat.lt_of_lt_of_le hal hb1.size
        obtain ⟨y0, y1, y2, y3, y4⟩ := routeCells RR
        simp only [Nat.zero_add] at y0 y1 y2 y3 y4
        clear x0 x1 x2 x3 x4 hb1 hA hal CK
        by_cases hc : chkE r.1.1 r.1.2.1 r.1.2.2 = 0
        · rw [hc]
          by_cases hh : 1 ≤ r.2 ∧ r.2 ≤ 999
          · have hz : rtE r = 0 := by simp [rtE, hc, hh]
            have d1 : ¬ r.2 < 1 := by omega
            have d2 : ¬ r.2 > 999 := by omega
            have RH := Lib.hid RR
            have KN : Hid (∀ b : Bool, hasR (srt (l.take k)) r.1 = b → hasR (l.take k) r.1 = b) := Lib.hid fun b h => by rw [← hasR_srt]; exact h
            clear y0 y1 y2 y3
            go_wp2_with fail
            go_loopw [36] (fun i wq => ∃ (j : Nat), j ≤ k ∧ i = .int .i64 j ∧ Below w1.heap.size w1 wq ∧ Hid (∀ t (h : t < l.length), t < j → l[t].1 ≠ r.1)) (fun i _ => k - (intOf i).toNat)
            case atStart => exact ⟨0, by omega, rfl, Below.refl _ _, Lib.hid fun t _ ht => by omega⟩
            case round =>
              obtain ⟨j, hj, rfl, hny, JV⟩ := hrel
              by_cases hjk : j < k
              · have hjl : j < l.length := by omega
                obtain ⟨g', o', e', hgw', hrec'⟩ := AT.out j hjl
                simp only [Option.some.injEq, Addr.mk.injEq, and_true] at e'
                obtain ⟨rfl, rfl⟩ := e'
                have hg1 := Nat.lt_of_lt_of_le hgw hn1.size
                obtain ⟨x0, x1, x2, x3, x4⟩ := routeCells ((hrec'.keep hn1 hgw).keep hny hg1)
                obtain ⟨y0, y1, y2, y3, y4⟩ := routeCells (RH.out.keep hny hrw1)
                simp only [Nat.zero_add] at y0 y1 y2 y3 y4
                have J2 := Lib.hid (show l[j].1 ≠ r.1 → ∀ t (h : t < l.length), t < j + 1 → l[t].1 ≠ r.1 from fun a t ht htj => by
                  by_cases e : t = j
                  · subst e; exact a
                  · exact JV.out t ht (by omega))
                have J3 := Lib.hid (show l[j].1 = r.1 → hasR (l.take k) r.1 = true from fun a => (hasR_take (by omega)).2 ⟨j, hjl, hjk, a⟩)
                generalize hq : l[j] = q at x0 x1 x2 x3 x4 J2 J3
                clear hq JV
                have hjk' : (j : Int) < (k : Int) := by omega
                have hgq := Nat.lt_of_lt_of_le hg1 hny.size
                have hwq := Nat.lt_of_lt_of_le hrw1 hny.size
                have hne1 := Nat.ne_of_lt hwq
                rcases pk_cases q.1 r.1 with e | e | ⟨e1, e⟩ | ⟨e1, e2, e⟩ | ⟨e1, e2, e3, e⟩
                · obtain rfl : E = 8 := by
                    rw [← IV.out]
                    refine T2.out hz ?_
                    rw [hasR_srt]; exact J3.out e
                  rw [e] at x0 x1 x2 x3
                  clear e J2 J3 T1 T2 T3 T4
                  go_wp2
                  go_ret
                  exact ⟨rfl, thenBelow hn1 (hny.alloc hny.size _)⟩
                all_goals
                  have a := J2.out (fun h => by rw [h] at e; simp at e)
                  have J4 := Lib.hid a
                  clear J2 J3 T1 T2 T3 T4 a
                  try rw [e1] at x0
                  try rw [e2] at x1
                  try rw [e3] at x2
                  go_wp2
                  go_roundw
                  case rel => exact ⟨j + 1, by omega, by go_num, hny.alloc hny.size _, J4⟩
                  case measure => simp [intOf]; omega
              · obtain rfl : j = k := by omega
                have hh' : hasR (srt (l.take j)) r.1 = false := by
                  rw [hasR_srt, Bool.eq_false_iff]
                  intro h
                  obtain ⟨t, ht, htj, e⟩ := (hasR_take (by omega)).1 h
                  exact JV.out t ht htj e
                have NE := Lib.hid (show behE (srt (l.take (j + 1))) (l.drop (j + 1)) = E by rw [T4.out, ← T1.out hz hh']; exact IV.out)
                clear T1 T2 T3 T4 JV
                go_wp2
                go_roundw
                case rel => exact ⟨j + 1, by omega, by go_num, thenBelow hn1 hny, NE⟩
                case measure => simp [intOf]; omega
          · have hz : rtE r = 2 := by rw [rtE, if_pos hc, if_neg hh]
            obtain rfl : E = 2 := by rw [← IV.out, T3.out (by rw [hz]; decide), hz]
            by_cases d1 : r.2 < 1
            · go_wp2
              go_ret
              exact ⟨rfl, hn1⟩
            · have d2 : r.2 > 999 := by omega
              go_wp2
              go_ret
              exact ⟨rfl, hn1⟩
        · have hz1 : (chkE r.1.1 r.1.2.1 r.1.2.2 == 0) = false := by simpa using hc
          have hz2 : (chkE r.1.1 r.1.2.1 r.1.2.2 != 0) = true := by simp [bne, hz1]
          have hz : rtE r = chkE r.1.1 r.1.2.1 r.1.2.2 := by rw [rtE, if_neg hc]
          obtain rfl : E = chkE r.1.1 r.1.2.1 r.1.2.2 := by rw [← IV.out, T3.out (by rw [hz]; exact hc), hz]
          clear T1 T2 T3 T4
          go_wp2
          go_ret
          exact ⟨rfl, hn1⟩
      · obtain rfl : k = n := by omega
        obtain rfl : E = 0 := by rw [← IV.out, ← HN.out, List.drop_length]; cases srt (l.take l.length) <;> rfl
        go_wp2
        go_ret
        exact ⟨rfl, hnx⟩
end Go.Proofs.Ytgajepmnklbmpaa
