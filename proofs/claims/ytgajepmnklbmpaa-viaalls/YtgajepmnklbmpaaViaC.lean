/-
  The maps of via: hop to via, hops that were come to; via.byHop.
-/
import Derived.Test.YtgajepmnklbmpaaViaB
import Derived.Maps.OwnSet
import Derived.ChangeAlike
namespace Go.Proofs.Ytgajepmnklbmpaa
open Go.RowKit Go.Maps
set_option linter.unusedVariables false
set_option linter.unusedSimpArgs false
def vdat (v : VT) : DataW Unit := .agg [.lit (.int .i64 v.1), .lit (.int .i64 v.2.1), .lit (.int .i64 v.2.2)]
def viaElem : Value → Option (DataW Unit × List MemPlace)
  | .agg cs => match cs.toList with
    | [.int .i64 a, .int .i64 b, .int .i64 c] => some (vdat (a, b, c), [])
    | _ => none
  | _ => none
theorem viaElem_mk (v : VT) : viaElem (aggV v) = some (vdat v, []) := rfl
theorem viaElem_inv {u : Value} {z : VT} {ps : List MemPlace} (h : viaElem u = some (vdat z, ps)) : u = aggV z := by
  unfold viaElem at h
  split at h
  · rename_i cs
    split at h
    · rename_i a b c e
      simp only [Option.some.injEq, Prod.mk.injEq, vdat, DataW.agg.injEq, List.cons.injEq, DataW.lit.injEq, Lit.int.injEq, true_and, and_true] at h
      obtain ⟨⟨h1, h2, h3⟩, _⟩ := h
      obtain ⟨cs⟩ := cs
      simp only at e
      subst e
      rw [h1, h2, h3]
    · cases h
  · cases h
theorem keyInt (h : Int) (h1 : -9223372036854775808 ≤ h) (h2 : h ≤ 9223372036854775807) : keyOf Try.prog 3 (.int .i64 h) = some (.int .i64 h) :=
  keyOf_int_mk Try.underlying3 (WalkArith.wf_i64 (by omega))
theorem keyedInt : Keyed Try.prog 3 := int_keyed Try.underlying3
theorem zeroVia (w : World) : (zeroValue 27).run Try.prog w = .ok (aggV (0, 0, 0)) w := Try.zeroValue27 w
/-- Block b is the map of the vias of l. -/
def MV (w : World) (b : Nat) (l : List VT) : Prop := ∃ D : DataW Unit, w.ownsMap Try.prog 3 viaElem b l.length D ∧ ∀ h : Int, Maps.has D (.int .i64 h) = hasV l h ∧ D.atKey (.int .i64 h) (vdat (0, 0, 0)) = vdat (vget l h)
theorem MV.made (w : World) : MV (w.alloc (.map #[] 0)) w.heap.size [] :=
  ⟨.map [], World.ownsMap_made w _ _ _, fun h => ⟨rfl, rfl⟩⟩
theorem ownsMap_below {H : Type} {P : Program} {k : TypeId} {R : Value → Option (DataW H × List MemPlace)} {w w' : World} {b n m : Nat} {D : DataW H} (h : w.ownsMap P k R b n D) (hb : Below m w w') (hm : b < m) : w'.ownsMap P k R b n D := by
  obtain ⟨es, clock, h1, F, hs, hD⟩ := h
  exact ⟨es, clock, (hb.block b hm).trans h1, F, hs, hD⟩
theorem MV.lt {w : World} {b : Nat} {l : List VT} (h : MV w b l) : b < w.heap.size := by obtain ⟨D, o, _⟩ := h; exact o.lt
theorem MV.keep {w w' : World} {b : Nat} {l : List VT} (h : MV w b l) (hb : Below w.heap.size w w') : MV w' b l := by
  have hl := h.lt
  obtain ⟨D, o, a⟩ := h
  exact ⟨D, ownsMap_below o hb hl, a⟩
theorem MV.grown {w w' : World} {b : Nat} {l : List VT} {row : Option Nat} (h : MV w b l) (hg : w.grownBy w' row) (hn : some b ≠ row) : MV w' b l := by
  obtain ⟨D, o, a⟩ := h
  exact ⟨D, o.kept hg hn, a⟩
theorem MV.look {w : World} {b : Nat} {l : List VT} (m : MV w b l) (h : Int) (h1 : -9223372036854775808 ≤ h) (h2 : h ≤ 9223372036854775807) :
    (Instr.lookup 48 (.map (some b)) (.int .i64 h) true).run Try.prog w = .ok (.tuple #[aggV (vget l h), .bool (hasV l h)]) w := by
  obtain ⟨D, o, a⟩ := m
  obtain ⟨v, ps, hrun, hv⟩ := o.look_ok keyedInt Try.underlying48 (zeroVia w) (viaElem_mk (0, 0, 0)) (keyInt h h1 h2)
  rw [(a h).2] at hv
  rw [viaElem_inv hv, (a h).1] at hrun
  exact hrun
theorem lit_ne {a b : Int} (h : a ≠ b) : (Lit.int .i64 a) ≠ .int .i64 b := fun e => h (by injection e)
theorem MV.store {w : World} {b : Nat} {l : List VT} (m : MV w b l) (v : VT) (h1 : -9223372036854775808 ≤ v.1) (h2 : v.1 ≤ 9223372036854775807) (hno : hasV l v.1 = false) (hl : l.length ≤ 1000) :
    ∃ w', (Instr.mapUpdate 48 (.map (some b)) (.int .i64 v.1) (aggV v)).run Try.prog w = .ok () w' ∧ MV w' b (l ++ [v]) ∧ w.grownBy w' (some b) := by
  obtain ⟨D, o, a⟩ := m
  obtain ⟨w', hrun, o', ht⟩ := o.store keyedInt Try.underlying48 (by unfold maxLen; omega) (keyInt v.1 h1 h2) (viaElem_mk v)
  refine ⟨w', hrun, ⟨_, by rw [List.length_append]; exact o', fun h => ?_⟩, ht.grown⟩
  have hD := o.isMap
  by_cases e : h = v.1
  · subst e
    rw [has_put_same hD (keyedInt.key (keyInt v.1 h1 h2)), atKey_put_same hD (keyedInt.key (keyInt v.1 h1 h2)), hasV_snoc, vget, vfind_snoc_same hno]
    simp
  · rw [has_put_other (lit_ne e), atKey_put_other (lit_ne e), (a h).1, (a h).2, hasV_snoc, decide_eq_false (Ne.symm e), Bool.or_false, vget, vget, vfind_snoc_other e]
    exact ⟨rfl, rfl⟩
/-- Block b is the set of the hops of s. -/
def MB (w : World) (b : Nat) (s : List Int) : Prop := ∃ D : DataW Unit, w.ownsMap Try.prog 3 (plainElem Try.prog 4) b s.length D ∧ ∀ h : Int, D.atKey (.int .i64 h) (.lit (.bool false)) = .lit (.bool (decide (h ∈ s)))
theorem MB.made (w : World) : MB (w.alloc (.map #[] 0)) w.heap.size [] :=
  ⟨.map [], World.ownsMap_made w _ _ _, fun h => rfl⟩
theorem MB.lt {w : World} {b : Nat} {s : List Int} (h : MB w b s) : b < w.heap.size := by obtain ⟨D, o, _⟩ := h; exact o.lt
theorem MB.keep {w w' : World} {b : Nat} {s : List Int} (h : MB w b s) (hb : Below w.heap.size w w') : MB w' b s := by
  have hl := h.lt
  obtain ⟨D, o, a⟩ := h
  exact ⟨D, ownsMap_below o hb hl, a⟩
theorem plainBool_inv {v : Value} {b : Bool} {ps : List MemPlace} (h : plainElem (H := Unit) Try.prog 4 v = some (.lit (.bool b), ps)) : v = .bool b := by
  unfold plainElem at h
  split at h
  · rename_i x _
    simp only [Option.some.injEq, Prod.mk.injEq, DataW.lit.injEq, Lit.bool.injEq] at h
    rw [h.1]
  · rename_i he
    rw [Try.underlying4] at he
    cases he
  · rename_i he
    rw [Try.underlying4] at he
    cases he
  · cases h
theorem MB.look {w : World} {b : Nat} {s : List Int} (m : MB w b s) (h : Int) (h1 : -9223372036854775808 ≤ h) (h2 : h ≤ 9223372036854775807) :
    (Instr.lookup 75 (.map (some b)) (.int .i64 h) false).run Try.prog w = .ok (.bool (decide (h ∈ s))) w := by
  obtain ⟨D, o, a⟩ := m
  obtain ⟨v, ps, hrun, hv⟩ := o.lookup keyedInt Try.underlying75 (Try.zeroValue4 w) (plainElem_bool Try.underlying4 false) (keyInt h h1 h2)
  rw [a h] at hv
  rw [plainBool_inv hv] at hrun
  exact hrun
theorem MB.store {w : World} {b : Nat} {s : List Int} (m : MB w b s) (h : Int) (h1 : -9223372036854775808 ≤ h) (h2 : h ≤ 9223372036854775807) (hl : s.length ≤ 1000) :
    ∃ w', (Instr.mapUpdate 75 (.map (some b)) (.int .i64 h) (.bool true)).run Try.prog w = .ok () w' ∧ MB w' b (s ++ [h]) ∧ w.grownBy w' (some b) := by
  obtain ⟨D, o, a⟩ := m
  obtain ⟨w', hrun, o', ht⟩ := o.store keyedInt Try.underlying75 (by unfold maxLen; omega) (keyInt h h1 h2) (plainElem_bool Try.underlying4 true)
  refine ⟨w', hrun, ⟨_, by rw [List.length_append]; exact o', fun k => ?_⟩, ht.grown⟩
  have hD := o.isMap
  by_cases e : k = h
  · subst e
    rw [atKey_put_same hD (keyedInt.key (keyInt k h1 h2))]
    simp
  · rw [atKey_put_other (lit_ne e), a k]
    simp [e]
set_option maxHeartbeats 8000000 in
set_option maxRecDepth 100000 in
theorem byHop_calls (l : List VT) (v : Value) (hlen : l.length ≤ 9223372036854775807) (w : World) (row : RowV w v l) :
    Calls Try.prog 24 #[v] w fun e w' => ∃ u, e = .returned (.tuple #[u, .int .i64 (viaE l)]) ∧ (viaE l = 0 → ∃ b, u = .map (some b) ∧ w.heap.size ≤ b ∧ MV w' b l) ∧ (viaE l ≠ 0 → u = .map none) ∧ Below w.heap.size w w' := by
  obtain ⟨p, c, rfl, hcap, at_⟩ := row.at
  by_cases h60 : 60 < l.length
  · have h60' : (60 : Int) < (l.length : Int) := by omega
    rw [show viaE l = 1 by simp [viaE, h60]]
    go_enter Try.func24, Try.ntmps24
    go_wp2
    go_ret2
    exact ⟨.map none, by simp, fun h => absurd h (by decide), fun _ => rfl, Below.refl _ _⟩
  · have h60' : ¬ (60 : Int) < (l.length : Int) := by omega
    obtain ⟨n, hn⟩ : ∃ n, l.length = n := ⟨_, rfl⟩
    obtain ⟨E, hE⟩ : ∃ E, viaE l = E := ⟨_, rfl⟩
    have LE : Hid (veS [] l = E) := Lib.hid (by rw [← hE, viaE, if_neg h60])
    have HN := Lib.hid hn
    have AT := Lib.hid at_
    have hmm := @run_makeMap Try.prog
    have M0 := Lib.hid (MV.made w)
    have b0 := (Below.refl w.heap.size w).alloc (Nat.le_refl _) (.map #[] 0)
    rw [hE]
    rw [hn] at hlen h60 h60' ⊢
    clear row at_ hn hE
    obtain ⟨bm, hbm⟩ : ∃ b, w.heap.size = b := ⟨_, rfl⟩
    have HBM := Lib.hid hbm
    rw [hbm] at M0
    go_enter Try.func24, Try.ntmps24
    go_wp2_with fail
    clear hbm hmm
    go_loopw [16] (fun i wr => ∃ (k : Nat), k ≤ n ∧ i = .int .i64 k ∧ Below w.heap.size w wr ∧ Hid (MV wr bm (l.take k)) ∧ Hid (veS (l.take k) (l.drop k) = E)) (fun i _ => n - (intOf i).toNat)
    case atStart => exact ⟨0, by omega, rfl, b0, M0, Lib.hid LE.out⟩
    case round =>
      clear b0 M0 LE
      obtain ⟨k, hk, rfl, hnx, MM, IV⟩ := hrel
      by_cases hlt : k < n
      · have hkl : k < l.length := by rw [HN.out]; exact hlt
        obtain ⟨g, o, rfl, hgw, hrec⟩ := AT.out k hkl
        obtain ⟨x0, x1, x2⟩ := viaCells (hrec.keep hnx hgw)
        have TT := Lib.hid (IV.out.symm.trans (veS_step hkl))
        have TK := Lib.hid (List.take_succ_eq_append_getElem hkl)
        have hlk := Lib.hid (show (l.take k).length ≤ 1000 by rw [List.length_take]; omega)
        have hklt : (k : Int) < (n : Int) := by omega
        generalize l[k] = r at x0 x1 x2 TT TK
        generalize l.take k = S at MM TT TK hlk
        have hnA := hnx.alloc hnx.size (objV r)
        have C1 := Lib.hid (fun (W : World) => vfields_calls r W)
        have RR := Lib.hid (objV_new wr r)
        have MA := Lib.hid (MM.out.keep ((Below.refl _ wr).alloc (Nat.le_refl _) (objV r)))
        have hal : wr.heap.size < (wr.alloc (objV r)).heap.size := by simp
        clear hrec IV MM
        go_wp2_with fail
        refine (C1.out _).mono ?_
        rintro e w2 ⟨rfl, hb2⟩
        have hn2 := thenBelow hnA hb2
        obtain ⟨y0, y1, y2⟩ := viaCells (RR.out.keep hb2 hal)
        simp only [Nat.zero_add] at y0 y1 y2
        have M2 := Lib.hid (MA.out.keep hb2)
        have hw2 := Nat.lt_of_lt_of_le hal hb2.size
        clear C1 RR MA hal hnA hnx x0 x1 x2 hb2
        by_cases hv : vfE r = 0
        · have hr := vfE_0 hv
          have hr1 : -9223372036854775808 ≤ r.1 ∧ r.1 ≤ 9223372036854775807 := by omega
          have HR := Lib.hid hr1
          have hlook := M2.out.look r.1 hr1.1 hr1.2
          have TT2 := Lib.hid (show E = if hasV S r.1 = true then 8 else veS (l.take (k + 1)) (l.drop (k + 1)) by rw [TT.out, hv]; rfl)
          rw [hv]
          clear hr hr1 hv TT
          cases hh : hasV S r.1 with
          | true =>
            rw [hh] at hlook
            have HE8 := Lib.hid (show E = 8 by rw [TT2.out, if_pos hh])
            clear TT2 hh HR
            go_wp2_with fail
            go_ret2
            exact ⟨.map none, by rw [HE8.out]; simp, fun h => absurd (HE8.out.symm.trans h) (by decide), fun _ => rfl, hn2.alloc hn2.size _⟩
          | false =>
            rw [hh] at hlook
            have TT3 := Lib.hid (show veS (l.take (k + 1)) (l.drop (k + 1)) = E by rw [TT2.out, hh, if_neg (by decide)])
            have bA2 := (Below.refl w2.heap.size w2).alloc (Nat.le_refl _) (objV (vget S r.1))
            obtain ⟨w4, hrun, M4, hg4⟩ := (M2.out.keep bA2).store r HR.out.1 HR.out.2 hh hlk.out
            have hnB := hn2.alloc hn2.size (objV (vget S r.1))
            have hn4 : Below w.heap.size w w4 := hnB.grown hg4 hnB.size (fun j hj => by cases hj; rw [HBM.out]; exact Nat.le_refl _)
            have M5 : Hid (MV w4 bm (l.take (k + 1))) := Lib.hid (by rw [TK.out]; exact M4)
            clear TT2 hh HR bA2 M4 hg4 hnB M2 hn2 TK
            go_wp2_with fail
            go_roundw
            case rel => exact ⟨k + 1, by omega, by go_num, hn4, M5, TT3⟩
            case measure => simp [intOf]; omega
        · have HE2 := Lib.hid (show E = vfE r by rw [TT.out, if_pos hv])
          generalize vfE r = t at HE2 hv ⊢
          have hz1 : (t == 0) = false := by simpa using hv
          have hz2 : (t != 0) = true := by simp [bne, hz1]
          have HZ := Lib.hid hv
          clear TT hv
          go_wp2_with fail
          go_ret2
          exact ⟨.map none, by rw [HE2.out]; simp, fun h => absurd (HE2.out.symm.trans h) HZ.out, fun _ => rfl, hn2⟩
      · obtain rfl : n = k := by omega
        have HE0 := Lib.hid (show E = 0 by rw [← IV.out, ← HN.out]; exact veS_end l)
        rw [show l.take n = l by rw [← HN.out]; exact List.take_length] at MM
        clear IV
        go_wp2_with fail
        go_ret2
        exact ⟨.map (some bm), by rw [HE0.out]; simp, fun _ => ⟨bm, rfl, by rw [HBM.out]; exact Nat.le_refl _, MM.out⟩, fun h => absurd HE0.out h, hnx⟩
theorem viaCheck_calls (l : List VT) (v : Value) (hlen : l.length ≤ 9223372036854775807) (w : World) (row : RowV w v l) :
    Calls Try.prog 15 #[v] w fun e w' => e = .returned (.int .i64 (viaE l)) ∧ Below w.heap.size w w' := by
  have C := Lib.hid (byHop_calls l v hlen w row)
  obtain ⟨p, c, rfl⟩ := row.form
  clear row
  generalize viaE l = E at C ⊢
  go_enter Try.func15, Try.ntmps15
  go_wp2_with fail
  refine C.out.mono ?_
  rintro e w1 ⟨u, rfl, _, _, hb1⟩
  clear C
  go_wp2
  go_ret
  exact ⟨by simp, hb1⟩
end Go.Proofs.Ytgajepmnklbmpaa
