/-
  The document's ViaFault.
-/
import Derived.Test.YtgajepmnklbmpaaViaA
namespace Go.Proofs.Ytgajepmnklbmpaa
open Go.RowKit
set_option linter.unusedVariables false
set_option linter.unusedSimpArgs false
theorem vfE_mk (h p n : Int) : vfE (h, p, n) = if ¬ (1 ≤ h ∧ h ≤ 999) then 2 else if (p = 0 ↔ n = 0) then 4 else if ¬ (0 ≤ p ∧ p ≤ 999 ∧ 0 ≤ n ∧ n ≤ 999) then 2 else 0 := rfl
theorem hasV_take {l : List VT} {k : Nat} {h : Int} (hk : k ≤ l.length) : hasV (l.take k) h = true ↔ ∃ j, ∃ hj : j < l.length, j < k ∧ l[j].1 = h := by
  unfold hasV
  rw [List.any_eq_true]
  constructor
  · rintro ⟨x, hx, e⟩
    obtain ⟨j, hj, rfl⟩ := List.mem_iff_getElem.1 hx
    rw [List.length_take] at hj
    refine ⟨j, by omega, by omega, ?_⟩
    rw [List.getElem_take] at e
    exact of_decide_eq_true e
  · rintro ⟨j, hj, hjk, e⟩
    refine ⟨l[j], List.mem_iff_getElem.2 ⟨j, by rw [List.length_take]; omega, by rw [List.getElem_take]⟩, decide_eq_true e⟩
set_option maxHeartbeats 8000000 in
set_option maxRecDepth 100000 in
theorem viaFault_calls (l : List VT) (v : Value) (hlen : l.length ≤ 9223372036854775807) (w : World) (row : RowV w v l) :
    Calls Try.prog 16 #[v] w fun e w' => e = .returned (.int .i64 (viaE l)) ∧ Below w.heap.size w w' := by
  obtain ⟨p, c, rfl, hcap, at_⟩ := row.at
  by_cases h60 : 60 < l.length
  · have h60' : (60 : Int) < (l.length : Int) := by omega
    rw [show viaE l = 1 by simp [viaE, h60]]
    go_enter Try.func16, Try.ntmps16
    go_wp2
    go_ret
    exact ⟨rfl, Below.refl _ _⟩
  · have h60' : ¬ (60 : Int) < (l.length : Int) := by omega
    obtain ⟨n, hn⟩ : ∃ n, l.length = n := ⟨_, rfl⟩
    obtain ⟨E, hE⟩ : ∃ E, viaE l = E := ⟨_, rfl⟩
    have LE : Hid (veS [] l = E) := Lib.hid (by rw [← hE, viaE, if_neg h60])
    have HN := Lib.hid hn
    have AT := Lib.hid at_
    rw [hE]
    rw [hn] at hlen h60 h60' ⊢
    clear row at_ hn hE
    go_enter Try.func16, Try.ntmps16
    go_wp2
    go_loopw [12] (fun i wr => ∃ (k : Nat), k ≤ n ∧ i = .int .i64 k ∧ Below w.heap.size w wr ∧ Hid (veS (l.take k) (l.drop k) = E)) (fun i _ => n - (intOf i).toNat)
    case atStart => exact ⟨0, by omega, rfl, Below.refl _ _, Lib.hid LE.out⟩
    case round =>
      obtain ⟨k, hk, rfl, hnx, IV⟩ := hrel
      by_cases hlt : k < n
      · have hkl : k < l.length := by rw [HN.out]; exact hlt
        obtain ⟨g, o, rfl, hgw, hrec⟩ := AT.out k hkl
        obtain ⟨x0, x1, x2⟩ := viaCells (hrec.keep hnx hgw)
        have TT := Lib.hid (IV.out.symm.trans (veS_step hkl))
        have hklt : (k : Int) < (n : Int) := by omega
        have hkc : k ≤ c := by rw [HN.out] at hcap; omega
        have hkc' : (k : Int) ≤ (c : Int) := by omega
        generalize l[k] = r at x0 x1 x2 TT
        obtain ⟨h, p, nx⟩ := r
        simp only at x0 x1 x2 TT
        have hnA := hnx.alloc hnx.size (objV (h, p, nx))
        clear hrec IV
        by_cases h1 : h < 1
        · have HE2 := Lib.hid (show E = 2 by
            have h1 : vfE (h, p, nx) = 2 := by
              rw [vfE_mk]
              rw [if_pos (by omega)]
            rw [TT.out, h1, if_pos (by decide)])
          clear TT
          go_wp2
          go_ret
          exact ⟨by rw [HE2.out]; (first | done | rfl), hnA⟩
        by_cases h2 : 999 < h
        · have HE2 := Lib.hid (show E = 2 by
            have h1 : vfE (h, p, nx) = 2 := by
              rw [vfE_mk]
              rw [if_pos (by omega)]
            rw [TT.out, h1, if_pos (by decide)])
          clear TT
          go_wp2
          go_ret
          exact ⟨by rw [HE2.out]; (first | done | rfl), hnA⟩
        by_cases hp0 : p = 0
        · subst hp0
          by_cases hn0 : nx = 0
          · subst hn0
            have HE2 := Lib.hid (show E = 4 by
              have h1 : vfE (h, 0, 0) = 4 := by
                rw [vfE_mk]
                rw [if_neg (by omega), if_pos ⟨fun _ => rfl, fun _ => rfl⟩]
              rw [TT.out, h1, if_pos (by decide)])
            clear TT
            go_wp2
            go_ret
            exact ⟨by rw [HE2.out]; (first | done | rfl), hnA⟩
          have hnb : (nx == 0) = false := by simpa using hn0
          have hnb2 : (nx != 0) = true := by simp [bne, hnb]
          by_cases h3 : nx < 0
          · have HE2 := Lib.hid (show E = 2 by
              have h1 : vfE (h, 0, nx) = 2 := by
                rw [vfE_mk]
                rw [if_neg (by omega), if_neg (fun e => hn0 (e.1 rfl)), if_pos (by omega)]
              rw [TT.out, h1, if_pos (by decide)])
            clear TT
            go_wp2
            go_ret
            exact ⟨by rw [HE2.out]; (first | done | rfl), hnA⟩
          by_cases h4 : 999 < nx
          · have HE2 := Lib.hid (show E = 2 by
              have h1 : vfE (h, 0, nx) = 2 := by
                rw [vfE_mk]
                rw [if_neg (by omega), if_neg (fun e => hn0 (e.1 rfl)), if_pos (by omega)]
              rw [TT.out, h1, if_pos (by decide)])
            clear TT
            go_wp2
            go_ret
            exact ⟨by rw [HE2.out]; (first | done | rfl), hnA⟩
          have hv0 : vfE (h, 0, nx) = 0 := by
            rw [vfE_mk, if_neg (by omega), if_neg (fun e => hn0 (e.1 rfl)), if_neg (by omega)]
          rw [hv0, if_neg (by decide)] at TT
          have hgr := Nat.lt_of_lt_of_le hgw hnx.size
          go_wp2_with fail
          have RR := Lib.hid (objV_new wr (h, 0, nx))
          have hal : wr.heap.size < (wr.alloc (objV (h, 0, nx))).heap.size := by simp
          have hgY := Nat.lt_of_lt_of_le hgw hnA.size
          revert hnA RR hal hgY
          generalize wr.alloc (objV (h, 0, nx)) = Y
          intro hnA RR hal hgY
          obtain ⟨bp, hbp⟩ : ∃ b, wr.heap.size = b := ⟨_, rfl⟩
          rw [hbp] at RR hal ⊢
          clear hbp x0 x1 x2 hgr
          go_loopw [65] (fun i wq => ∃ (j : Nat), j ≤ k ∧ i = .int .i64 j ∧ Below Y.heap.size Y wq ∧ Hid (∀ t (h' : t < l.length), t < j → l[t].1 ≠ h)) (fun i _ => k - (intOf i).toNat)
          case atStart => exact ⟨0, by omega, rfl, Below.refl _ _, Lib.hid fun t _ ht => by omega⟩
          case round =>
            obtain ⟨j, hj, rfl, hny, JV⟩ := hrel
            by_cases hjk : j < k
            · have hjl : j < l.length := by omega
              obtain ⟨g', o', e', hgw', hrec'⟩ := AT.out j hjl
              simp only [Option.some.injEq, Addr.mk.injEq, and_true] at e'
              obtain ⟨rfl, rfl⟩ := e'
              obtain ⟨x0, x1, x2⟩ := viaCells ((hrec'.keep hnA hgw).keep hny hgY)
              obtain ⟨y0, y1, y2⟩ := viaCells (RR.out.keep hny hal)
              simp only [Nat.zero_add] at y0 y1 y2
              have J2 := Lib.hid (show l[j].1 ≠ h → ∀ t (h' : t < l.length), t < j + 1 → l[t].1 ≠ h from fun a t ht htj => by
                by_cases e : t = j
                · subst e; exact a
                · exact JV.out t ht (by omega))
              have J3 := Lib.hid (show l[j].1 = h → hasV (l.take k) h = true from fun a => (hasV_take (by omega)).2 ⟨j, hjl, hjk, a⟩)
              generalize l[j] = q at x0 x1 x2 J2 J3
              have hjk' : (j : Int) < (k : Int) := by omega
              have hwq := Nat.lt_of_lt_of_le hal hny.size
              have hne1 := Nat.ne_of_lt hwq
              have hnB := thenBelow hnA (hny.alloc hny.size (objV q))
              have hnB2 := hny.alloc hny.size (objV q)
              clear JV hrec'
              by_cases e : q.1 = h
              · have HE8 := Lib.hid (show E = 8 by rw [TT.out, if_pos (J3.out e)])
                have hb1 : (q.1 == h) = true := by rw [e]; exact beq_self_eq_true _
                clear e J2 J3 TT
                go_wp2
                go_ret
                exact ⟨by rw [HE8.out]; (first | done | rfl), hnB⟩
              · have J4 := Lib.hid (J2.out e)
                have hb1 : (q.1 == h) = false := by simpa using e
                clear J2 J3 e
                go_wp2_with fail
                go_roundw
                case rel => exact ⟨j + 1, by omega, by go_num, hnB2, J4⟩
                case measure => simp [intOf]; omega
            · obtain rfl : k = j := by omega
              have hno : hasV (l.take k) h = false := by
                rw [← Bool.not_eq_true, hasV_take (by omega)]
                rintro ⟨t, ht, htk, e⟩
                exact JV.out t ht htk e
              rw [hno, if_neg (by decide)] at TT
              have hnC := thenBelow hnA hny
              clear JV hno
              go_wp2_with fail
              go_roundw
              case rel => exact ⟨k + 1, by omega, by go_num, hnC, Lib.hid TT.out.symm⟩
              case measure => simp [intOf]; omega
        have hpb : (p == 0) = false := by simpa using hp0
        have hpb2 : (p != 0) = true := by simp [bne, hpb]
        by_cases hn0 : nx = 0
        · subst hn0
          by_cases h3 : p < 0
          · have HE2 := Lib.hid (show E = 2 by
              have h1 : vfE (h, p, 0) = 2 := by
                rw [vfE_mk]
                rw [if_neg (by omega), if_neg (fun e => hp0 (e.2 rfl)), if_pos (by omega)]
              rw [TT.out, h1, if_pos (by decide)])
            clear TT
            go_wp2
            go_ret
            exact ⟨by rw [HE2.out]; (first | done | rfl), hnA⟩
          by_cases h4 : 999 < p
          · have HE2 := Lib.hid (show E = 2 by
              have h1 : vfE (h, p, 0) = 2 := by
                rw [vfE_mk]
                rw [if_neg (by omega), if_neg (fun e => hp0 (e.2 rfl)), if_pos (by omega)]
              rw [TT.out, h1, if_pos (by decide)])
            clear TT
            go_wp2
            go_ret
            exact ⟨by rw [HE2.out]; (first | done | rfl), hnA⟩
          have hv0 : vfE (h, p, 0) = 0 := by
            rw [vfE_mk, if_neg (by omega), if_neg (fun e => hp0 (e.2 rfl)), if_neg (by omega)]
          rw [hv0, if_neg (by decide)] at TT
          have hgr := Nat.lt_of_lt_of_le hgw hnx.size
          go_wp2_with fail
          have RR := Lib.hid (objV_new wr (h, p, 0))
          have hal : wr.heap.size < (wr.alloc (objV (h, p, 0))).heap.size := by simp
          have hgY := Nat.lt_of_lt_of_le hgw hnA.size
          revert hnA RR hal hgY
          generalize wr.alloc (objV (h, p, 0)) = Y
          intro hnA RR hal hgY
          obtain ⟨bp, hbp⟩ : ∃ b, wr.heap.size = b := ⟨_, rfl⟩
          rw [hbp] at RR hal ⊢
          clear hbp x0 x1 x2 hgr
          go_loopw [65] (fun i wq => ∃ (j : Nat), j ≤ k ∧ i = .int .i64 j ∧ Below Y.heap.size Y wq ∧ Hid (∀ t (h' : t < l.length), t < j → l[t].1 ≠ h)) (fun i _ => k - (intOf i).toNat)
          case atStart => exact ⟨0, by omega, rfl, Below.refl _ _, Lib.hid fun t _ ht => by omega⟩
          case round =>
            obtain ⟨j, hj, rfl, hny, JV⟩ := hrel
            by_cases hjk : j < k
            · have hjl : j < l.length := by omega
              obtain ⟨g', o', e', hgw', hrec'⟩ := AT.out j hjl
              simp only [Option.some.injEq, Addr.mk.injEq, and_true] at e'
              obtain ⟨rfl, rfl⟩ := e'
              obtain ⟨x0, x1, x2⟩ := viaCells ((hrec'.keep hnA hgw).keep hny hgY)
              obtain ⟨y0, y1, y2⟩ := viaCells (RR.out.keep hny hal)
              simp only [Nat.zero_add] at y0 y1 y2
              have J2 := Lib.hid (show l[j].1 ≠ h → ∀ t (h' : t < l.length), t < j + 1 → l[t].1 ≠ h from fun a t ht htj => by
                by_cases e : t = j
                · subst e; exact a
                · exact JV.out t ht (by omega))
              have J3 := Lib.hid (show l[j].1 = h → hasV (l.take k) h = true from fun a => (hasV_take (by omega)).2 ⟨j, hjl, hjk, a⟩)
              generalize l[j] = q at x0 x1 x2 J2 J3
              have hjk' : (j : Int) < (k : Int) := by omega
              have hwq := Nat.lt_of_lt_of_le hal hny.size
              have hne1 := Nat.ne_of_lt hwq
              have hnB := thenBelow hnA (hny.alloc hny.size (objV q))
              have hnB2 := hny.alloc hny.size (objV q)
              clear JV hrec'
              by_cases e : q.1 = h
              · have HE8 := Lib.hid (show E = 8 by rw [TT.out, if_pos (J3.out e)])
                have hb1 : (q.1 == h) = true := by rw [e]; exact beq_self_eq_true _
                clear e J2 J3 TT
                go_wp2
                go_ret
                exact ⟨by rw [HE8.out]; (first | done | rfl), hnB⟩
              · have J4 := Lib.hid (J2.out e)
                have hb1 : (q.1 == h) = false := by simpa using e
                clear J2 J3 e
                go_wp2_with fail
                go_roundw
                case rel => exact ⟨j + 1, by omega, by go_num, hnB2, J4⟩
                case measure => simp [intOf]; omega
            · obtain rfl : k = j := by omega
              have hno : hasV (l.take k) h = false := by
                rw [← Bool.not_eq_true, hasV_take (by omega)]
                rintro ⟨t, ht, htk, e⟩
                exact JV.out t ht htk e
              rw [hno, if_neg (by decide)] at TT
              have hnC := thenBelow hnA hny
              clear JV hno
              go_wp2_with fail
              go_roundw
              case rel => exact ⟨k + 1, by omega, by go_num, hnC, Lib.hid TT.out.symm⟩
              case measure => simp [intOf]; omega
        have hnb : (nx == 0) = false := by simpa using hn0
        have hnb2 : (nx != 0) = true := by simp [bne, hnb]
        have HE2 := Lib.hid (show E = 4 by
          have h1 : vfE (h, p, nx) = 4 := by
            rw [vfE_mk]
            rw [if_neg (by omega), if_pos ⟨fun h => absurd h hp0, fun h => absurd h hn0⟩]
          rw [TT.out, h1, if_pos (by decide)])
        clear TT
        go_wp2
        go_ret
        exact ⟨by rw [HE2.out]; (first | done | rfl), hnA⟩
      · obtain rfl : n = k := by omega
        have HE0 := Lib.hid (show E = 0 by
          rw [← IV.out, ← HN.out]; exact veS_end l)
        clear IV
        go_wp2
        go_ret
        exact ⟨by rw [HE0.out]; (first | done | rfl), hnx⟩
end Go.Proofs.Ytgajepmnklbmpaa
