/-
  The document's sameWay and FewestSame.
-/
import Derived.Test.YtgajepmnklbmpaaG16
import Derived.Test.YtgajepmnklbmpaaRefOver
import Derived.Test.YtgajepmnklbmpaaG9
import Derived.Test.YtgajepmnklbmpaaTabH
namespace Go.Proofs.Ytgajepmnklbmpaa
open Go.RowKit
set_option linter.unusedVariables false
set_option linter.unusedSimpArgs false
set_option maxHeartbeats 1000000 in
theorem overM_calls {s : Bool} {x k : Nat} (hA : AL s x k) (r : RT) (hc : chkE r.1.1 r.1.2.1 r.1.2.2 = 0) (w : World) :
    Calls Try.prog 50 #[.agg #[.bool s, .int .u64 (aH x), .int .u64 (aL x), .int .i64 ((wideN s - k : Nat) : Int)], .agg #[.bool r.1.1, .int .u64 (aH r.1.2.1), .int .u64 (aL r.1.2.1), .int .i64 r.1.2.2]] w fun e w' => e = .returned (.bool (ovR s x k r)) ∧ Below w.heap.size w w' := by
  obtain ⟨hB, e⟩ := al_of hc
  obtain ⟨j, hj⟩ : ∃ j, kR r = j := ⟨_, rfl⟩
  by_cases hs : r.1.1 = s
  · have ho : ovR s x k r = cov x k r.1.2.1 j := by rw [ovR, decide_eq_true hs, Bool.true_and, hj]
    rw [hj] at hB e
    rw [ho]
    obtain ⟨⟨t, z, n⟩, h⟩ := r
    simp only at hs hB e ⊢
    subst hs
    rw [e]
    exact refOver_al hA hB _ rfl w
  · have ho : ovR s x k r = false := by rw [ovR, decide_eq_false hs, Bool.false_and]
    rw [ho]
    have hm0 : mB r.1.1 r.1.2.1 ((s, x, ((wideN s - k : Nat) : Int)), 0) = false := by
      rw [← Bool.not_eq_true, mB_iff]; exact fun c => hs c.1.symm
    have IN := Lib.hid (fun W : World => refInM_calls ((s, x, ((wideN s - k : Nat) : Int)), 0) r.1.1 r.1.2.1 hA.chk hB.lt W)
    rw [hm0] at IN
    clear hm0 ho hc e hB hj
    obtain ⟨⟨t, z, n⟩, h⟩ := r
    simp only at IN hs ⊢
    obtain ⟨q, hq⟩ : ∃ q : Nat, wideN s - k = q := ⟨_, rfl⟩
    rw [hq] at IN ⊢
    by_cases hle : (q : Int) ≤ n
    · have hle' : ¬ n < (q : Int) := by omega
      go_enter Try.func50, Try.ntmps50
      go_wp2_with fail
      refine (IN.out _).mono ?_
      rintro e w1 ⟨rfl, hb1⟩
      have b1 := thenBelow (((Below.refl _ w).alloc (Nat.le_refl _) _).alloc (by simp) _) hb1
      go_wp2
      go_ret
      exact ⟨rfl, b1⟩
    · have hlt : n < (q : Int) := by omega
      have b1 : Below w.heap.size w ((w.alloc (.cells #[.bool s, .int .u64 (aH x), .int .u64 (aL x), .int .i64 (q : Int)] 63)).alloc (.cells #[.bool t, .int .u64 (aH z), .int .u64 (aL z), .int .i64 n] 63)) := ((Below.refl _ w).alloc (Nat.le_refl _) _).alloc (by simp) _
      go_enter Try.func50, Try.ntmps50
      go_wp2
      go_ret
      exact ⟨rfl, b1⟩
theorem atH_take {p : PK} {l : List RT} {a : Int} {k : Nat} (hk : k < l.length) : atH p (l.take (k + 1)) a = if l[k].1 = p then l[k].2 else atH p (l.take k) a := by
  rw [atH, List.take_succ_eq_append_getElem hk, List.foldl_append]; rfl
theorem deep_take {s : Bool} {x k : Nat} {l : List RT} {j : Nat} (hj : j < l.length) : deepR s x k (l.take (j + 1)) = (deepR s x k (l.take j) || (!decide (l[j].1 = pkB s x k) && ovR s x k l[j])) := by
  rw [deepR, List.take_succ_eq_append_getElem hj, List.any_append]; simp [deepR]
theorem sw_shallow {s : Bool} {l m : List RT} (k x : Nat) (a b : Int) (h : (deepR s x k l || deepR s x k m) = false) : swE s l m k x a b = decide (atH (pkB s x k) l a = atH (pkB s x k) m b) := by
  cases k with
  | zero => rw [swE]
  | succ k => rw [swE, h]; rfl
theorem sw_deep {s : Bool} {l m : List RT} (k x : Nat) (a b : Int) (h : (deepR s x (k + 1) l || deepR s x (k + 1) m) = true) : swE s l m (k + 1) x a b = (swE s l m k x (atH (pkB s x (k + 1)) l a) (atH (pkB s x (k + 1)) m b) && swE s l m k (x + 2 ^ k) (atH (pkB s x (k + 1)) l a) (atH (pkB s x (k + 1)) m b)) := by
  rw [swE, if_pos h]
set_option maxHeartbeats 8000000 in
set_option maxRecDepth 100000 in
theorem sameWay_calls (s : Bool) (l m : List RT) (v1 v2 : Value) (hl : ValR l) (hm : ValR m) (ll : l.length ≤ 1000) (lm : m.length ≤ 1000) :
    ∀ (k x : Nat) (a b : Int) (w : World), AL s x k → RowR w v1 l → RowR w v2 m →
      Calls Try.prog 34 #[.agg #[.bool s, .int .u64 (aH x), .int .u64 (aL x), .int .i64 ((wideN s - k : Nat) : Int)], v1, v2, .int .i64 a, .int .i64 b] w fun e w' => e = .returned (.bool (swE s l m k x a b)) ∧ Below w.heap.size w w' := by
  intro k
  induction k using Nat.strongRecOn with
  | _ k ih =>
    intro x a b w hA r1 r2
    have IH := Lib.hid ih
    have HA := Lib.hid hA
    have OV := Lib.hid (fun (r : RT) (hc : chkE r.1.1 r.1.2.1 r.1.2.2 = 0) (W : World) => overM_calls hA r hc W)
    have HV := Lib.hid (And.intro hl hm)
    have HVL := Lib.hid (And.intro hl hm)
    have R1 := Lib.hid r1
    have R2 := Lib.hid r2
    obtain ⟨p1, q1, rfl, _, at1⟩ := r1.at
    obtain ⟨p2, q2, rfl, _, at2⟩ := r2.at
    have AT1 := Lib.hid at1
    have AT2 := Lib.hid at2
    obtain ⟨n1, hn1⟩ : ∃ n, l.length = n := ⟨_, rfl⟩
    obtain ⟨n2, hn2⟩ : ∃ n, m.length = n := ⟨_, rfl⟩
    have HN1 := Lib.hid hn1
    have HN2 := Lib.hid hn2
    rw [hn1] at R1 ll ⊢
    rw [hn2] at R2 lm ⊢
    obtain ⟨q, hq⟩ : ∃ q : Nat, wideN s - k = q := ⟨_, rfl⟩
    rw [hq] at OV ⊢
    have HQ := Lib.hid hq
    have PB := PreAt.new w s (aH x) (aL x) (q : Int) 63
    have bB := (Below.refl w.heap.size w).alloc (Nat.le_refl _) (.cells #[.bool s, .int .u64 (aH x), .int .u64 (aL x), .int .i64 (q : Int)] 63)
    have hp : pkB s x k = (s, x, (q : Int)) := by rw [pkB, hq]
    have HP := Lib.hid hp
    obtain ⟨A1, hA1⟩ : ∃ z, atH (pkB s x k) l a = z := ⟨_, rfl⟩
    obtain ⟨B1, hB1⟩ : ∃ z, atH (pkB s x k) m b = z := ⟨_, rfl⟩
    obtain ⟨D1, hD1⟩ : ∃ z, deepR s x k l = z := ⟨_, rfl⟩
    obtain ⟨D2, hD2⟩ : ∃ z, deepR s x k m = z := ⟨_, rfl⟩
    have HE := Lib.hid (And.intro hA1 (And.intro hB1 (And.intro hD1 hD2)))
    clear ih hA r1 r2 at1 at2 hq hp hn1 hn2 hA1 hB1 hD1 hD2 hl hm
    obtain ⟨SW, hSW⟩ : ∃ z, swE s l m k x a b = z := ⟨_, rfl⟩
    have HSW := Lib.hid hSW
    rw [hSW]
    clear hSW
    go_enter Try.func34, Try.ntmps34
    go_wp2
    have PY := PB.alloc (.cells #[.slice p1 n1 q1, .slice p2 n2 q2] 33)
    have T0 : ((w.alloc (.cells #[.bool s, .int .u64 (aH x), .int .u64 (aL x), .int .i64 (q : Int)] 63)).alloc (.cells #[.slice p1 n1 q1, .slice p2 n2 q2] 33)).cell? ⟨w.heap.size + 1, 0, none⟩ = some (.slice p1 n1 q1) := by simp
    have T1 : ((w.alloc (.cells #[.bool s, .int .u64 (aH x), .int .u64 (aL x), .int .i64 (q : Int)] 63)).alloc (.cells #[.slice p1 n1 q1, .slice p2 n2 q2] 33)).cell? ⟨w.heap.size + 1, 1, none⟩ = some (.slice p2 n2 q2) := by simp
    have hYs : w.heap.size + 1 < ((w.alloc (.cells #[.bool s, .int .u64 (aH x), .int .u64 (aL x), .int .i64 (q : Int)] 63)).alloc (.cells #[.slice p1 n1 q1, .slice p2 n2 q2] 33)).heap.size := by simp
    have bY := bB.alloc bB.size (.cells #[.slice p1 n1 q1, .slice p2 n2 q2] 33)
    revert PY T0 T1 hYs bY
    clear PB bB
    generalize (w.alloc (.cells #[.bool s, .int .u64 (aH x), .int .u64 (aL x), .int .i64 (q : Int)] 63)).alloc (.cells #[.slice p1 n1 q1, .slice p2 n2 q2] 33) = Y
    intro PY T0 T1 hYs bY
    obtain ⟨bp, hbp⟩ : ∃ b, w.heap.size = b := ⟨_, rfl⟩
    rw [hbp] at PY T0 T1 hYs ⊢
    have HBP := Lib.hid hbp
    clear hbp
    go_loopw [3, 4, 11, 23] (fun A B D i wr => ((i = .int .i64 0 ∧ A = .int .i64 a ∧ B = .int .i64 b ∧ D = .bool false) ∨ (i = .int .i64 1 ∧ A = .int .i64 A1 ∧ B = .int .i64 b ∧ D = .bool D1) ∨ (i = .int .i64 2 ∧ A = .int .i64 A1 ∧ B = .int .i64 B1 ∧ D = .bool (D1 || D2))) ∧ Below Y.heap.size Y wr) (fun _ _ _ i _ => 2 - (intOf i).toNat)
    case atStart => exact ⟨.inl ⟨rfl, rfl, rfl, rfl⟩, Below.refl _ _⟩
    case round =>
      obtain ⟨hst, BR⟩ := hrel
      have t0 := (BR.cell (p := ⟨bp + 1, 0, none⟩) hYs).trans T0
      have t1 := (BR.cell (p := ⟨bp + 1, 1, none⟩) hYs).trans T1
      rcases hst with ⟨rfl, rfl, rfl, rfl⟩ | ⟨rfl, rfl, rfl, rfl⟩ | ⟨rfl, rfl, rfl, rfl⟩
      · go_wp2_with fail
        go_loopw [3, 4, 11, 30] (fun A B D j wr2 => ∃ j' : Nat, j' ≤ n1 ∧ A = .int .i64 (atH (pkB s x k) (l.take j') a) ∧ B = .int .i64 b ∧ D = .bool (deepR s x k (l.take j')) ∧ j = .int .i64 j' ∧ Below Y.heap.size Y wr2) (fun _ _ _ j _ => n1 - (intOf j).toNat)
        case atStart => exact ⟨0, by omega, rfl, rfl, rfl, rfl, BR⟩
        case round =>
          obtain ⟨j, hj, rfl, rfl, rfl, rfl, BJ⟩ := hrel
          by_cases hlt : j < n1
          · have hjl : j < l.length := by rw [HN1.out]; exact hlt
            obtain ⟨g, o, rfl, hg, hrec⟩ := AT1.out j hjl
            obtain ⟨x0, x1, x2, x3, x4⟩ := routeCells (hrec.keep (thenBelow bY BJ) hg)
            obtain ⟨y0, y1, y2, y3, yl⟩ := PY.keep BJ
            have HTA := Lib.hid (atH_take (p := pkB s x k) (a := a) hjl)
            have HTD := Lib.hid (deep_take (s := s) (x := x) (k := k) hjl)
            have hc := HV.out.1 _ (List.getElem_mem hjl)
            generalize l[j] = r at x0 x1 x2 x3 x4 HTA HTD hc
            have OVr := Lib.hid (fun (W : World) => OV.out r hc W)
            have hltj : (j : Int) < (n1 : Int) := by omega
            have hne : ¬ bp = wr.heap.size := by omega
            have hnJ := BJ.alloc BJ.size (.cells #[.bool r.1.1, .int .u64 (aH r.1.2.1), .int .u64 (aL r.1.2.1), .int .i64 r.1.2.2, .int .i64 r.2] 66)
            clear hrec hc
            rcases pk_cases r.1 (s, x, (q : Int)) with e | e | ⟨e1, e⟩ | ⟨e1, e2, e⟩ | ⟨e1, e2, e3, e⟩
            · have ek : r.1 = pkB s x k := e.trans HP.out.symm
              rw [if_pos ek] at HTA
              rw [decide_eq_true ek, Bool.not_true, Bool.false_and, Bool.or_false] at HTD
              have e0 : r.1.1 = s := by rw [e]
              have e1 : r.1.2.1 = x := by rw [e]
              have e2 : r.1.2.2 = (q : Int) := by rw [e]
              rw [e0, e1, e2] at hnJ
              rw [e0] at x0
              rw [e1] at x1 x2
              rw [e2] at x3
              clear e ek OVr
              go_wp2_with fail
              go_roundw
              case rel => exact ⟨j + 1, by omega, by rw [HTA.out], rfl, by rw [HTD.out], by go_num, hnJ⟩
              case measure => simp [intOf]; omega
            all_goals
              have ek : ¬ r.1 = pkB s x k := fun h => by rw [h, HP.out] at e; simp at e
              rw [if_neg ek] at HTA
              rw [decide_eq_false ek, Bool.not_false, Bool.true_and] at HTD
              clear ek
              simp only at e
              try (have e1b : (r.1.1 == s) = true := (by rw [e1]; exact beq_self_eq_true s))
              try (have e2b : (aH r.1.2.1 == aH x) = true := (by rw [e2]; exact beq_self_eq_true (aH x)))
              try (have e3b : (aL r.1.2.1 == aL x) = true := (by rw [e3]; exact beq_self_eq_true (aL x)))
              try clear e1
              try clear e2
              try clear e3
              go_wp2_with fail
              refine (OVr.out _).mono ?_
              rintro e' w5 ⟨rfl, hb5⟩
              have hn5 := thenBelow hnJ hb5
              generalize ovR s x k r = ov at HTD
              clear OVr hb5 hnJ x0 x1 x2 x3 x4 y0 y1 y2 y3 hne
              cases ov
              · rw [Bool.or_false] at HTD
                go_wp2_with fail
                go_roundw
                case rel => exact ⟨j + 1, by omega, by rw [HTA.out], rfl, by rw [HTD.out], by go_num, hn5⟩
                case measure => simp [intOf]; omega
              · rw [Bool.or_true] at HTD
                go_wp2_with fail
                go_roundw
                case rel => exact ⟨j + 1, by omega, by rw [HTA.out], rfl, by rw [HTD.out], by go_num, hn5⟩
                case measure => simp [intOf]; omega
          · obtain rfl : j = n1 := by omega
            have e1 : l.take j = l := by rw [← HN1.out]; exact List.take_length
            rw [e1]
            rw [HE.out.1, HE.out.2.2.1]
            go_wp2_with fail
            go_roundw
            case rel => exact ⟨.inr (.inl ⟨rfl, rfl, rfl, rfl⟩), BJ⟩
            case measure => simp [intOf]
      · go_wp2_with fail
        go_loopw [3, 4, 11, 30] (fun A B D j wr2 => ∃ (j' : Nat) (dd : Bool), j' ≤ n2 ∧ A = .int .i64 A1 ∧ B = .int .i64 (atH (pkB s x k) (m.take j') b) ∧ D = .bool dd ∧ Hid ((D1 || deepR s x k (m.take j')) = dd) ∧ j = .int .i64 j' ∧ Below Y.heap.size Y wr2) (fun _ _ _ j _ => n2 - (intOf j).toNat)
        case atStart => exact ⟨0, D1, by omega, rfl, rfl, rfl, Lib.hid (by simp [deepR]), rfl, BR⟩
        case round =>
          obtain ⟨j, dd, hj, rfl, rfl, rfl, HDD, rfl, BJ⟩ := hrel
          by_cases hlt : j < n2
          · have hjl : j < m.length := by rw [HN2.out]; exact hlt
            obtain ⟨g, o, rfl, hg, hrec⟩ := AT2.out j hjl
            obtain ⟨x0, x1, x2, x3, x4⟩ := routeCells (hrec.keep (thenBelow bY BJ) hg)
            obtain ⟨y0, y1, y2, y3, yl⟩ := PY.keep BJ
            have HTA := Lib.hid (atH_take (p := pkB s x k) (a := b) hjl)
            have HTD := Lib.hid (deep_take (s := s) (x := x) (k := k) hjl)
            have hc := HV.out.2 _ (List.getElem_mem hjl)
            generalize m[j] = r at x0 x1 x2 x3 x4 HTA HTD hc
            have OVr := Lib.hid (fun (W : World) => OV.out r hc W)
            have hltj : (j : Int) < (n2 : Int) := by omega
            have hne : ¬ bp = wr.heap.size := by omega
            have hnJ := BJ.alloc BJ.size (.cells #[.bool r.1.1, .int .u64 (aH r.1.2.1), .int .u64 (aL r.1.2.1), .int .i64 r.1.2.2, .int .i64 r.2] 66)
            clear hrec hc
            rcases pk_cases r.1 (s, x, (q : Int)) with e | e | ⟨e1, e⟩ | ⟨e1, e2, e⟩ | ⟨e1, e2, e3, e⟩
            · have ek : r.1 = pkB s x k := e.trans HP.out.symm
              rw [if_pos ek] at HTA
              rw [decide_eq_true ek, Bool.not_true, Bool.false_and, Bool.or_false] at HTD
              have e0 : r.1.1 = s := by rw [e]
              have e1 : r.1.2.1 = x := by rw [e]
              have e2 : r.1.2.2 = (q : Int) := by rw [e]
              rw [e0, e1, e2] at hnJ
              rw [e0] at x0
              rw [e1] at x1 x2
              rw [e2] at x3
              clear e ek OVr
              go_wp2_with fail
              go_roundw
              case rel => exact ⟨j + 1, dd, by omega, rfl, by rw [HTA.out], rfl, Lib.hid (by rw [HTD.out]; exact HDD.out), by go_num, hnJ⟩
              case measure => simp [intOf]; omega
            all_goals
              have ek : ¬ r.1 = pkB s x k := fun h => by rw [h, HP.out] at e; simp at e
              rw [if_neg ek] at HTA
              rw [decide_eq_false ek, Bool.not_false, Bool.true_and] at HTD
              clear ek
              simp only at e
              try (have e1b : (r.1.1 == s) = true := (by rw [e1]; exact beq_self_eq_true s))
              try (have e2b : (aH r.1.2.1 == aH x) = true := (by rw [e2]; exact beq_self_eq_true (aH x)))
              try (have e3b : (aL r.1.2.1 == aL x) = true := (by rw [e3]; exact beq_self_eq_true (aL x)))
              try clear e1
              try clear e2
              try clear e3
              go_wp2_with fail
              refine (OVr.out _).mono ?_
              rintro e' w5 ⟨rfl, hb5⟩
              have hn5 := thenBelow hnJ hb5
              generalize ovR s x k r = ov at HTD
              clear OVr hb5 hnJ x0 x1 x2 x3 x4 y0 y1 y2 y3 hne
              cases ov
              · rw [Bool.or_false] at HTD
                go_wp2_with fail
                go_roundw
                case rel => exact ⟨j + 1, dd, by omega, rfl, by rw [HTA.out], rfl, Lib.hid (by rw [HTD.out]; exact HDD.out), by go_num, hn5⟩
                case measure => simp [intOf]; omega
              · rw [Bool.or_true] at HTD
                go_wp2_with fail
                go_roundw
                case rel => exact ⟨j + 1, true, by omega, rfl, by rw [HTA.out], rfl, Lib.hid (by rw [HTD.out]; simp), by go_num, hn5⟩
                case measure => simp [intOf]; omega
          · obtain rfl : j = n2 := by omega
            have e1 : m.take j = m := by rw [← HN2.out]; exact List.take_length
            rw [e1] at HDD
            rw [e1]
            rw [HE.out.2.1]
            rw [HE.out.2.2.2] at HDD
            go_wp2_with fail
            go_roundw
            case rel => exact ⟨.inr (.inr ⟨rfl, rfl, rfl, by rw [HDD.out]⟩), BJ⟩
            case measure => simp [intOf]
      · obtain ⟨y0, y1, y2, y3, yl⟩ := PY.keep BR
        have hnR := thenBelow bY BR
        obtain ⟨D, hD⟩ : ∃ D, (D1 || D2) = D := ⟨_, rfl⟩
        rw [hD]
        clear t0 t1 T0 T1 PY bY BR AT1 AT2 OV HV
        cases D
        · have hs : SW = decide (A1 = B1) := by rw [← HSW.out, sw_shallow _ _ _ _ (by rw [HE.out.2.2.1, HE.out.2.2.2]; exact hD), HE.out.1, HE.out.2.1]
          have hs2 : SW = (A1 == B1) := by rw [hs]; rfl
          clear hs HSW HE hD
          subst hs2
          go_wp2
          go_ret
          exact ⟨by simp, by first | exact hnR | (rw [← HBP.out]; exact hnR)⟩
        · have hk0 : k ≠ 0 := fun h0 => by
            subst h0
            have := HE.out.2.2
            rw [deep_zero HVL.out.1, deep_zero HVL.out.2] at this
            rw [← this.1, ← this.2] at hD
            cases hD
          obtain ⟨k', hk'⟩ : ∃ k', k = k' + 1 := ⟨k - 1, by omega⟩
          subst hk'
          have hs : SW = (swE s l m k' x A1 B1 && swE s l m k' (x + 2 ^ k') A1 B1) := by rw [← HSW.out, sw_deep _ _ _ _ (by rw [HE.out.2.2.1, HE.out.2.2.2]; exact hD), HE.out.1, HE.out.2.1]
          have HS := Lib.hid hs
          have PHC := Lib.hid (fun (W : World) => refHalves_al2 HA.out W)
          have IHl := Lib.hid (fun (W : World) (r1 : RowR W (.slice p1 l.length q1) l) (r2 : RowR W (.slice p2 m.length q2) m) => IH.out k' (by omega) x A1 B1 W HA.out.low r1 r2)
          have IHh := Lib.hid (fun (W : World) (r1 : RowR W (.slice p1 l.length q1) l) (r2 : RowR W (.slice p2 m.length q2) m) => IH.out k' (by omega) (x + 2 ^ k') A1 B1 W HA.out.high r1 r2)
          rw [HN1.out, HN2.out] at IHl IHh
          rw [HQ.out] at PHC
          obtain ⟨q2', hq2'⟩ : ∃ z : Nat, wideN s - k' = z := ⟨_, rfl⟩
          rw [hq2'] at PHC IHl IHh
          obtain ⟨S1, hS1⟩ : ∃ z, swE s l m k' x A1 B1 = z := ⟨_, rfl⟩
          obtain ⟨S2, hS2⟩ : ∃ z, swE s l m k' (x + 2 ^ k') A1 B1 = z := ⟨_, rfl⟩
          rw [hS1] at IHl HS
          rw [hS2] at IHh HS
          obtain ⟨xh, hxh⟩ : ∃ z, x + 2 ^ k' = z := ⟨_, rfl⟩
          rw [hxh] at PHC IHh
          clear hs HSW HE hD IH HA HQ hq2' hS1 hS2 hxh hk0
          go_wp2_with fail
          refine (PHC.out _).mono ?_
          rintro e w5 ⟨rfl, hb5⟩
          have hn5 := thenBelow hnR hb5
          have hn6 := (hn5.alloc hn5.size (.cells #[.bool s, .int .u64 (aH x), .int .u64 (aL x), .int .i64 (q2' : Int)] 63)).alloc (by have := hn5.size; simp; omega) (.cells #[.bool s, .int .u64 (aH xh), .int .u64 (aL xh), .int .i64 (q2' : Int)] 63)
          have PHh := PreAt.new (w5.alloc (.cells #[.bool s, .int .u64 (aH x), .int .u64 (aL x), .int .i64 (q2' : Int)] 63)) s (aH xh) (aL xh) (q2' : Int) 63
          simp only [World.size_alloc] at PHh
          have R1a := Lib.hid (R1.out.keep hn6)
          have R2a := Lib.hid (R2.out.keep hn6)
          clear hb5 hn5 hnR y0 y1 y2 y3 yl PHC
          go_wp2_with fail
          refine (IHl.out _ R1a.out R2a.out).mono ?_
          rintro e w7 ⟨rfl, hb7⟩
          have hn7 := thenBelow hn6 hb7
          obtain ⟨z0, z1, z2, z3, zl⟩ := PHh.keep hb7
          have R1b := Lib.hid (R1.out.keep hn7)
          have R2b := Lib.hid (R2.out.keep hn7)
          clear hb7 hn6 PHh R1a R2a IHl
          cases S1
          · have hs3 : SW = false := by rw [HS.out]; rfl
            clear HS
            subst hs3
            go_wp2
            go_ret
            exact ⟨by simp, by first | exact hn7 | (rw [← HBP.out]; exact hn7)⟩
          · have hs3 : SW = S2 := by rw [HS.out]; rfl
            clear HS
            subst hs3
            go_wp2_with fail
            refine (IHh.out _ R1b.out R2b.out).mono ?_
            rintro e w8 ⟨rfl, hb8⟩
            have hn8 := thenBelow hn7 hb8
            go_wp2
            go_ret
            exact ⟨by simp, by first | exact hn8 | (rw [← HBP.out]; exact hn8)⟩
end Go.Proofs.Ytgajepmnklbmpaa
