/-
  Laid together: RefParseD, RefParseE, RefParseF, RefParseG, RefParseH.
-/
import Derived.Test.YtojdlhiibffnfabDoorG1
import Derived.Test.YtojdlhiibffnfabDoorAppTwo
/-
  The document's AddrParse where two colons stand side by side.
-/
namespace Go.Proofs.YtojdlhiibffnfabDoor
open Go.RowKit Go.Sort
set_option linter.unusedVariables false
set_option linter.unusedSimpArgs false

/-- What stands ahead of the two colons, and behind them, read. -/
def sideL (s : List UInt8) : Option (List Int) := if s = [] then some [] else rn 16 65535 58 [] (-1) s
theorem nums_none (B : Nat) (M : Int) (hB : B ≤ 16) (hB0 : 1 ≤ B) (hM0 : 0 ≤ M) (hM : M ≤ 65535) (c : UInt8) (s : List UInt8) (hl : s.length ≤ 600) (h : rn B M c [] (-1) s = none) (w : World) :
    Calls Tryd.prog 14 #[.string ⟨s.toArray⟩, .int .u8 (c.toNat : Int), .int .i64 B, .int .i64 M] w fun e w' => e = .returned (.tuple #[.slice none 0 0, .bool false]) ∧ Below w.heap.size w w' := by
  have := refNums_calls B M hB hB0 hM0 hM c s hl w
  rw [h] at this
  exact this
/-- A reading of one side: whether it is one, and then its numbers. -/
theorem nums_side (s : List UInt8) (hl : s.length ≤ 600) (w : World) :
    Calls Tryd.prog 14 #[.string ⟨s.toArray⟩, .int .u8 58, .int .i64 16, .int .i64 65535] w fun e w' => (∃ v, e = .returned (.tuple #[v, .bool (rn 16 65535 58 [] (-1) s).isSome]) ∧ w'.ownsRow w.heap.size 3 1 v ((rn 16 65535 58 [] (-1) s).getD []).length (((rn 16 65535 58 [] (-1) s).getD []).map (Value.int .i64))) ∧ Below w.heap.size w w' := by
  refine (refNums_calls 16 65535 (by decide) (by decide) (by decide) (by decide) 58 s hl w).mono ?_
  rintro e w' ⟨ho, hb⟩
  refine ⟨?_, hb⟩
  cases hr : rn 16 65535 58 [] (-1) s with
  | none => rw [hr] at ho; exact ⟨_, ho, World.ownsRow_nil _ _ _ _⟩
  | some ns => rw [hr] at ho; exact ho
theorem ext_to (T : List UInt8) (k : Nat) : (⟨T.toArray⟩ : ByteArray).extract 0 k = ⟨(T.take k).toArray⟩ := by
  rw [Lib.extract_eq]; simp
theorem ext_from (T : List UInt8) (k : Nat) : (⟨T.toArray⟩ : ByteArray).extract k T.length = ⟨(T.drop k).toArray⟩ := by
  rw [Lib.extract_eq]
  show (⟨((T.drop k).take (T.length - k)).toArray⟩ : ByteArray) = _
  rw [List.take_of_length_le (by rw [List.length_drop]; exact Nat.le_refl _)]
/-- A row stays where another one grows. -/
theorem ownsFar {w w' : World} {base : Nat} {e : TypeId} {size : Nat} {v : Value} {n : Nat} {xs : List Value} {row : Option Nat} (h : w.ownsRow base e size v n xs) (hg : w.grownBy w' row) (hne : ∀ k, v.ownBlock = some k → some k ≠ row) : w'.ownsRow base e size v n xs := by
  refine ⟨h.1, ?_⟩
  rcases h.2 with h2 | ⟨g, cap, cur, a, b, c, d⟩
  · exact .inl h2
  · have hl := h.lt g (by rw [a]; rfl)
    exact .inr ⟨g, cap, cur, a, b, (hg.block g hl.2 (hne g (by rw [a]; rfl))).trans c, d⟩
def errAns : Value := .tuple #[.agg #[.bool false, .int .u64 0, .int .u64 0], .int .i64 4]
/-- What AddrParse answers of two sides. -/
def twoOf (l r : Option (List Int)) (s : List UInt8) : Value := match l, r with
  | some l, some r => if 6 < l.length + r.length then errAns else tryAns true (l ++ List.replicate (8 - (l.length + r.length)) 0 ++ r) s
  | _, _ => errAns
theorem two_no1 {l r : Option (List Int)} {s : List UInt8} (h : l.isSome = false) : twoOf l r s = errAns := by
  cases l with
  | none => cases r <;> rfl
  | some l => cases h
theorem two_no2 {l r : Option (List Int)} {s : List UInt8} (h : r.isSome = false) : twoOf l r s = errAns := by
  cases r with
  | none => cases l <;> rfl
  | some l => cases h
theorem two_long {l r : Option (List Int)} {s : List UInt8} {ln rn : List Int} (hl : l.isSome = true) (hr : r.isSome = true) (el : l.getD [] = ln) (er : r.getD [] = rn) (h : 6 < ln.length + rn.length) : twoOf l r s = errAns := by
  cases l with
  | none => cases hl
  | some l => cases r with
    | none => cases hr
    | some r => cases el; cases er; exact if_pos h
theorem two_ok {l r : Option (List Int)} {s : List UInt8} {ln rn : List Int} (hl : l.isSome = true) (hr : r.isSome = true) (el : l.getD [] = ln) (er : r.getD [] = rn) (h : ¬ 6 < ln.length + rn.length) :
    twoOf l r s = tryAns true (ln ++ List.replicate (8 - (ln.length + rn.length)) 0 ++ rn) s := by
  cases l with
  | none => cases hl
  | some l => cases r with
    | none => cases hr
    | some r => cases el; cases er; exact if_neg h
theorem two_some {l : Option (List Int)} {ln : List Int} (hl : l.isSome = true) (el : l.getD [] = ln) : l = some ln := by
  cases l with
  | none => cases hl
  | some l => cases el; rfl
def sliceLen : Value → Nat
  | .slice _ n _ => n
  | _ => 0
theorem owns_slice {w : World} {base : Nat} {e : TypeId} {size : Nat} {v : Value} {n : Nat} {xs : List Value} (h : w.ownsRow base e size v n xs) : ∃ p cap, v = .slice p n cap := by
  rcases h.2 with ⟨a, b⟩ | ⟨g, cap, cur, a, _⟩
  · exact ⟨none, 0, by rw [a, b]⟩
  · exact ⟨_, _, a⟩
theorem map_one (l : List Int) : ∀ u ∈ l.map (Value.int .i64), u.oneCell' = true := by
  intro u hu
  obtain ⟨z, _, rfl⟩ := List.mem_map.1 hu
  rfl
end Go.Proofs.YtojdlhiibffnfabDoor
/-
  The document's AddrParse where two colons stand side by side: the walks.
-/
namespace Go.Proofs.YtojdlhiibffnfabDoor
open Go.RowKit Go.Sort
set_option linter.unusedVariables false
set_option linter.unusedSimpArgs false
set_option maxHeartbeats 8000000 in
set_option maxRecDepth 100000 in
theorem ap_two_11 (s : List UInt8) (hl : s.length ≤ 600) (h4 : rn 10 255 46 [] (-1) s = none) (h8 : rn 16 65535 58 [] (-1) s = none) (F : Nat) (hF : F + 1 < s.length) (e0 : s[F] = 58) (e1 : s[F + 1] = 58)
    (hno : ∀ k (h : k + 1 < s.length), k < F → ¬ (s[k] = 58 ∧ s[k + 1] = 58)) (hF0 : 0 < F) (hFe : F + 2 < s.length) (oL oR : Option (List Int)) (hoL : (rn 16 65535 58 [] (-1) (s.take F)) = oL) (hoR : (rn 16 65535 58 [] (-1) (s.drop (F + 2))) = oR) (w : World) :
    Calls Tryd.prog 6 #[.string ⟨s.toArray⟩] w fun e w' => e = .returned (twoOf oL oR s) ∧ Below w.heap.size w w' := by
  have hsz : (⟨s.toArray⟩ : ByteArray).size = s.length := by simp [ByteArray.size]
  have hli : ¬ 600 < (s.length : Int) := by omega
  obtain ⟨i0, hii, hz0, hz1, hz2⟩ := info_parts info_int
  have K0 := Lib.hid (fun (W : World) => nums_none 10 255 (by decide) (by decide) (by decide) (by decide) 46 s hl h4 W)
  have K1 := Lib.hid (fun (W : World) => nums_none 16 65535 (by decide) (by decide) (by decide) (by decide) 58 s hl h8 W)
  have KL := Lib.hid (fun (W : World) => nums_side (s.take F) (by rw [List.length_take]; omega) W)
  rw [hoL] at KL
  obtain ⟨fl, hfl⟩ : ∃ f, oL.isSome = f := ⟨_, rfl⟩
  obtain ⟨ln, hln⟩ : ∃ f, oL.getD [] = f := ⟨_, rfl⟩
  rw [hfl, hln] at KL
  have hbL : ln.length ≤ 601 := by
    rw [← hln]
    cases hc : oL with
    | none => simp
    | some ns =>
      have := (rn_bd 16 65535 58 (s.take F) [] (-1) ns (by simp) (hoL.trans hc)).2
      simp only [List.length_take, List.length_drop, List.length_nil] at this
      simp only [Option.getD_some]; omega
  have VL := Lib.hid (fun ns (h : oL = some ns) => (rn_bd 16 65535 58 (s.take F) [] (-1) ns (by simp) (hoL.trans h)).1)
  have KR := Lib.hid (fun (W : World) => nums_side (s.drop (F + 2)) (by rw [List.length_drop]; omega) W)
  rw [hoR] at KR
  obtain ⟨fr, hfr⟩ : ∃ f, oR.isSome = f := ⟨_, rfl⟩
  obtain ⟨rn', hrn⟩ : ∃ f, oR.getD [] = f := ⟨_, rfl⟩
  rw [hfr, hrn] at KR
  have hbR : rn'.length ≤ 601 := by
    rw [← hrn]
    cases hc : oR with
    | none => simp
    | some ns =>
      have := (rn_bd 16 65535 58 (s.drop (F + 2)) [] (-1) ns (by simp) (hoR.trans hc)).2
      simp only [List.length_take, List.length_drop, List.length_nil] at this
      simp only [Option.getD_some]; omega
  have VR := Lib.hid (fun ns (h : oR = some ns) => (rn_bd 16 65535 58 (s.drop (F + 2)) [] (-1) ns (by simp) (hoR.trans h)).1)
  obtain ⟨RR, hRR⟩ : ∃ R, twoOf oL oR s = R := ⟨_, rfl⟩
  rw [hRR]
  have HRR := Lib.hid hRR
  have HFL := Lib.hid hfl
  have HFR := Lib.hid hfr
  have HLN := Lib.hid hln
  have HRN := Lib.hid hrn
  clear hRR hfl hfr hln hrn
  have NO := Lib.hid hno
  have hx := index_list s F (by omega)
  have hy := index_up s F hF
  rw [e0] at hx
  rw [e1] at hy
  replace hx : ∀ W, (Instr.index 9 (.string ⟨s.toArray⟩) (.int .i64 (F : Int))).run Tryd.prog W = .ok (.int .u8 58) W := hx
  replace hy : ∀ W, (Instr.index 9 (.string ⟨s.toArray⟩) (.int .i64 ((F : Int) + 1))).run Tryd.prog W = .ok (.int .u8 58) W := hy
  have HX := Lib.hid hx
  have HY := Lib.hid hy
  have EXT := Lib.hid (ext_to s F)
  have EXF := Lib.hid (ext_from s (F + 2))
  clear h4 h8 hno hx hy e0 e1
  go_enter Tryd.func6, Tryd.ntmps6
  go_wp2_with fail
  refine (K0.out _).mono ?_
  rintro e w0 ⟨rfl, hb0⟩
  have b0 := thenBelow (((Below.refl _ w).alloc (Nat.le_refl _) (.cells #[.string ⟨s.toArray⟩] 9)).alloc (by simp) (.cells #[.bool false, .int .u64 0, .int .u64 0] 24)) hb0
  have HR0 := Lib.hid ((AddrV.new (w.alloc (.cells #[.string ⟨s.toArray⟩] 9)) false 0 0 24).keep hb0)
  have hs0 : w0.cell? ⟨w.heap.size, 0, none⟩ = some (.string ⟨s.toArray⟩) := (hb0.cell (p := ⟨w.heap.size, 0, none⟩) (by simp; omega)).trans (by rw [World.cell?_alloc_lt _ _ _ (by simp)]; exact cell_one_new _ _ _ 0 _ rfl)
  have hbw0 : w.heap.size < w0.heap.size := by have := hb0.size; simp at this; omega
  clear hb0 K0
  go_wp2_with fail
  refine (K1.out _).mono ?_
  rintro e w1 ⟨rfl, hb1⟩
  have b1 := thenBelow b0 hb1
  have hs1 : w1.cell? ⟨w.heap.size, 0, none⟩ = some (.string ⟨s.toArray⟩) := (hb1.cell (p := ⟨w.heap.size, 0, none⟩) hbw0).trans hs0
  have hbw1 : w.heap.size < w1.heap.size := Nat.lt_of_lt_of_le hbw0 hb1.size
  have HR1 := Lib.hid (HR0.out.keep hb1)
  clear hb1 K1 b0 hs0 hbw0 HR0
  go_wp2
  go_loopw [9] (fun iv wr => ∃ k : Nat, k ≤ F ∧ iv = .int .i64 k ∧ wr = w1) (fun iv _ => s.length - (intOf iv).toNat)
  case atStart => exact ⟨0, by omega, rfl, rfl⟩
  case round =>
    obtain ⟨k, hk, rfl, rfl⟩ := hrel
    by_cases hlt : k < F
    · have hlt2 : k + 1 < s.length := by omega
      have hx := index_list s k (by omega)
      have hy := index_up s k hlt2
      have hn := NO.out k hlt2 hlt
      generalize s[k]'(by omega) = x at hx hn
      generalize s[k + 1]'hlt2 = y at hy hn
      by_cases e : x = 58
      · subst e
        obtain ⟨y0, y1, y2⟩ := byte_ne (fun h => hn ⟨rfl, h⟩)
        replace hx : ∀ W, (Instr.index 9 (.string ⟨s.toArray⟩) (.int .i64 (k : Int))).run Tryd.prog W = .ok (.int .u8 58) W := hx
        clear hn
        go_wp2_with fail
        go_roundw
        case rel => exact ⟨k + 1, by omega, by go_num, by first | rfl | trivial⟩
        case measure => simp [intOf]; omega
      · obtain ⟨x0, x1, x2⟩ := byte_ne e
        clear hn e
        go_wp2_with fail
        go_roundw
        case rel => exact ⟨k + 1, by omega, by go_num, by first | rfl | trivial⟩
        case measure => simp [intOf]; omega
    · obtain rfl : k = F := by omega
      have hx := HX.out
      have hy := HY.out
      clear HX HY NO hlt hk
      obtain ⟨B, hB⟩ : ∃ B, wr.heap.size = B := ⟨_, rfl⟩
      rw [hB] at hbw1
      have hr1 : w.heap.size + 1 < B := by have := HR1.out.1.2.2.2; simp at this; omega
      have hB0 := b1.size
      have HR := HR1
      simp only [World.size_alloc] at HR
      have bB : Below B wr wr := Below.refl _ _
      have hsB := hs1
      clear hs1 HR1
      have hF1 : (0 : Int) < (k : Int) := by omega
      have hFk : (k : Int) ≤ (s.length : Int) := by omega
      go_wp2_with fail
      rw [EXT.out]
      refine (KL.out _).mono ?_
      rintro e w2 ⟨⟨vl, rfl, ol⟩, hb2⟩
      rw [hB] at ol
      have b2 : Below B wr w2 := by rw [hB] at hb2; exact hb2
      obtain ⟨pl, cl, rfl⟩ := owns_slice ol
      clear hb2 KL hF1 bB
      have hs2 : w2.cell? ⟨w.heap.size, 0, none⟩ = some (.string ⟨s.toArray⟩) := (b2.cell (p := ⟨w.heap.size, 0, none⟩) hbw1).trans hsB
      have hR1 : (k : Int) + 2 < (s.length : Int) := by omega
      have hR2 : (k : Int) + 2 ≤ (s.length : Int) := by omega
      have hR3 : (0 : Int) ≤ (k : Int) + 2 := by omega
      have hR4 : ((k : Int) + 2).toNat = k + 2 := by omega
      go_wp2_with fail
      first | rw [EXF.out] | rw [hR4, hsz, EXF.out] | rw [hsz, EXF.out] | rw [hR4, EXF.out]
      refine (KR.out _).mono ?_
      rintro e w3 ⟨⟨vr, rfl, or⟩, hb3⟩
      have hsz2 := b2.size
      obtain ⟨pr, cr, rfl⟩ := owns_slice or
      have hne : ∀ q, (Value.slice pl ln.length cl).ownBlock = some q → (Value.slice pr rn'.length cr).ownBlock ≠ some q := fun q h1 h2 => by
        have := (ol.lt q h1).2; have := (or.lt q h2).1; omega
      have ol := ownsKeep ol hb3
      have or := ownsLow or (Nat.le_trans (Nat.le_of_eq hB.symm) hsz2)
      have b3 := b2.trans (hb3.mono (Nat.le_trans (Nat.le_of_eq hB.symm) hsz2))
      clear hb3 hs2 b2 hR1 hR2 hR3 hR4 KR
      have HR3 := Lib.hid (HR.out.keep (by rw [hB]; exact b3))
      have hs3 : w3.cell? ⟨w.heap.size, 0, none⟩ = some (.string ⟨s.toArray⟩) := (b3.cell (p := ⟨w.heap.size, 0, none⟩) hbw1).trans hsB
      have bA : Below w.heap.size w w3 := b1.trans (b3.mono (by omega))
      have hBW : B ≤ w3.heap.size := by rw [← hB]; exact b3.size
      clear hsB b1 EXT EXF
      cases fl
      · skip
        obtain ⟨⟨r0, r1, r2, rl⟩, rf⟩ := HR3.out
        have f0 := rf 0; have f1 := rf 1; have f2 := rf 2
        clear rf HR3
        go_wp2
        try simp only [Exit.inBlock, Exit.then]
        refine bodyPost_ret (v := .tuple #[.agg #[.bool false, .int .u64 0, .int .u64 0], .int .i64 4]) (by simp [results, Tryd.results6, go_sem, r0, r1, r2]) rfl ?_
        exact ⟨by rw [← HRR.out, two_no1 HFL.out]; rfl, ((bA.setCell (by simp) _).setCell (by simp) _).setCell (by simp) _⟩
      · skip
        cases fr
        · skip
          obtain ⟨⟨r0, r1, r2, rl⟩, rf⟩ := HR3.out
          have f0 := rf 0; have f1 := rf 1; have f2 := rf 2
          clear rf HR3
          go_wp2
          try simp only [Exit.inBlock, Exit.then]
          refine bodyPost_ret (v := .tuple #[.agg #[.bool false, .int .u64 0, .int .u64 0], .int .i64 4]) (by simp [results, Tryd.results6, go_sem, r0, r1, r2]) rfl ?_
          exact ⟨by rw [← HRR.out, two_no2 HFR.out]; rfl, ((bA.setCell (by simp) _).setCell (by simp) _).setCell (by simp) _⟩
        · skip
      
          by_cases h6 : 6 < (ln.length + rn'.length)
          · have h6i : (6 : Int) < (ln.length : Int) + (rn'.length : Int) := by omega
            obtain ⟨⟨r0, r1, r2, rl⟩, rf⟩ := HR3.out
            have f0 := rf 0; have f1 := rf 1; have f2 := rf 2
            clear rf HR3
            go_wp2
            try simp only [Exit.inBlock, Exit.then]
            refine bodyPost_ret (v := .tuple #[.agg #[.bool false, .int .u64 0, .int .u64 0], .int .i64 4]) (by simp [results, Tryd.results6, go_sem, r0, r1, r2]) rfl ?_
            exact ⟨by rw [← HRR.out, two_long HFL.out HFR.out HLN.out HRN.out h6]; rfl, ((bA.setCell (by simp) _).setCell (by simp) _).setCell (by simp) _⟩
          · skip
            have h6i : ¬ (6 : Int) < (ln.length : Int) + (rn'.length : Int) := by omega
            have h6j : ¬ (6 : Int) < (ln.length : Int) := by omega
            have h6k : ¬ (6 : Int) < (rn'.length : Int) := by omega
            have HT := Lib.hid (two_ok (s := s) HFL.out HFR.out HLN.out HRN.out h6)
            have VAL : Hid (∀ v ∈ ln ++ List.replicate (8 - (ln.length + rn'.length)) (0 : Int) ++ rn', 0 ≤ v ∧ v ≤ 65535) := Lib.hid (by
              intro v hv
              rcases List.mem_append.1 hv with hv | hv
              · rcases List.mem_append.1 hv with hv | hv
                · exact VL.out ln (two_some HFL.out HLN.out) v hv
                · rw [List.mem_replicate] at hv; omega
              · exact VR.out rn' (two_some HFR.out HRN.out) v hv)
            rw [HRR.out] at HT
            have HL8 : (ln ++ List.replicate (8 - (ln.length + rn'.length)) (0 : Int) ++ rn').length = 8 := by simp only [List.length_append, List.length_replicate]; omega
            obtain ⟨sx, Hh, Ll, Ee, hR⟩ := tryAns_form true (ln ++ List.replicate (8 - (ln.length + rn'.length)) (0 : Int) ++ rn') s
            have K2 := Lib.hid (try8 _ HL8 VAL.out s _ hR)
            have HT2 := Lib.hid (HT.out.trans hR)
            clear HT hR VAL HL8
            clear HRR HFL HFR HLN HRN VL VR
            go_wp2
            go_loopw [10] (fun v wq => ∃ m : Nat, ln.length + rn'.length + m ≤ 8 ∧ wq.ownsRow B 3 1 v (ln.length + m) ((ln ++ List.replicate m (0 : Int)).map (Value.int .i64)) ∧ wq.ownsRow B 3 1 (Value.slice pr rn'.length cr) rn'.length (rn'.map (Value.int .i64)) ∧ (∀ q, v.ownBlock = some q → (Value.slice pr rn'.length cr).ownBlock ≠ some q) ∧ Below B w3 wq)
              (fun v _ => 8 - sliceLen v)
            case atStart => exact ⟨0, by omega, by simpa using ol, or, hne, Below.refl _ _⟩
            case round =>
              obtain ⟨m, hm, ol, or, hne, hb⟩ := hrel
              obtain ⟨p, c, rfl⟩ := owns_slice ol
              have hqs := hb.size
              by_cases hlt : ln.length + rn'.length + m < 8
              · have hli2 : ((ln.length + m : Nat) : Int) + (rn'.length : Int) < 8 := by omega
                have hli3 : (ln.length : Int) + (m : Int) + (rn'.length : Int) < 8 := by omega
                have hli4 : (ln.length : Int) + (m : Int) < 8 := by omega
                go_wp2_with (first
                  | (at_builtin; refine wpList_append_lies _ rfl _ _ 37 rfl B 3 i0 (.int .i64 0) 1 8 Tryd.underlying37 hii hz0 hz1 hz2 rfl (by decide) _ _ _ rfl (ol.alloc _) ⟨wr.heap.size, 0, none⟩ 1 1 [.int .i64 0] rfl rfl ?c1 ?c2 (by decide) ?c3 ?c4 ?c5 _ rfl ?_))
                case c1 => exact World.news_of_block (heap_alloc_new wr _)
                case c2 => intro u hu; simp at hu; subst hu; rfl
                case c3 => unfold maxLen; omega
                case c4 => omega
                case c5 => first | omega | (simp; omega)
                intro g2 c2 w4 ol4 hgrow hat hlt4
                have hb4 := below_app hb (Nat.le_refl B) hBW ol hgrow
                have or4 := ownsFar (or.alloc _) hgrow (fun q h1 h2 => hne q h2.symm h1)
                have hne4 : ∀ q, (Value.slice (some ⟨g2, 0, none⟩) (ln.length + m + 1) c2).ownBlock = some q → (Value.slice pr rn'.length cr).ownBlock ≠ some q := by
                  intro q h1 h2
                  have hq : g2 = q := by simpa [Value.ownBlock] using h1
                  subst hq
                  rcases hat with h | h
                  · exact hne _ h h2
                  · have := (or.lt _ h2).2; omega
                have ol5 : w4.ownsRow B 3 1 (Value.slice (some ⟨g2, 0, none⟩) (ln.length + m + 1) c2) (ln.length + (m + 1)) ((ln ++ List.replicate (m + 1) (0 : Int)).map (Value.int .i64)) := by
                  rw [List.replicate_succ']
                  simpa [Nat.add_assoc] using ol4
                clear ol4 hgrow ol or hne hb hat
                go_wp2
                go_roundw
                case rel => exact ⟨m + 1, by omega, ol5, or4, hne4, hb4⟩
                case measure => simp [sliceLen]; omega
              · have hli2 : ¬ ((ln.length + m : Nat) : Int) + (rn'.length : Int) < 8 := by omega
                have hli3 : ¬ (ln.length : Int) + (m : Int) + (rn'.length : Int) < 8 := by omega
                obtain rfl : m = 8 - (ln.length + rn'.length) := by omega
                have e8 : ln.length + (8 - (ln.length + rn'.length)) + rn'.length = 8 := by omega
                have d1 : (ln.length + (8 - (ln.length + rn'.length)) + rn'.length) * 8 ≤ 140737488355328 := by omega
                have d2 : ln.length + (8 - (ln.length + rn'.length)) + rn'.length ≤ maxLen := by unfold maxLen; omega
                have d3 : B ≤ wr.heap.size := by omega
                go_wp2_with (first
                  | (at_builtin; refine wpList_append_two rfl _ _ 37 rfl B 3 i0 (.int .i64 0) 1 8 Tryd.underlying37 hii hz0 hz1 hz2 rfl (by decide) _ _ _ rfl ol _ B _ _ rfl or (map_one _) d1 d2 d3 ?_))
                intro v5 w5 ol5 hb5
                have ol5 : w5.ownsRow B 3 1 v5 8 ((ln ++ List.replicate (8 - (ln.length + rn'.length)) (0 : Int) ++ rn').map (Value.int .i64)) := by
                  rw [List.map_append, List.map_append, List.map_replicate, List.append_assoc]
                  first
                    | exact ol5
                    | (rw [e8] at ol5; exact ol5)
                    | (rw [List.append_assoc] at ol5; exact ol5)
                    | (simpa [e8] using ol5)
                obtain ⟨g5, c5, rfl, hg5, hg6⟩ := ol5.form (by omega)
                have HCB : Hid (∀ j u, (ln ++ List.replicate (8 - (ln.length + rn'.length)) (0 : Int) ++ rn')[j]? = some u → w5.cell? ⟨g5, j, none⟩ = some (.int .i64 u)) := Lib.hid (by
                  intro j u hj
                  have hjl := (List.getElem?_eq_some_iff.1 hj).1
                  simp only [List.length_append, List.length_replicate] at hjl
                  rw [ol5.cellAt j (by omega), List.getElem?_map, hj]; rfl)
                have hs5 : w5.cell? ⟨w.heap.size, 0, none⟩ = some (.string ⟨s.toArray⟩) := (hb5.cell (p := ⟨w.heap.size, 0, none⟩) hbw1).trans ((hb.cell (p := ⟨w.heap.size, 0, none⟩) hbw1).trans hs3)
                have hbw5 : w.heap.size < w5.heap.size := by have := hb5.size; omega
                have HR5 := HR.out.keep (by rw [hB]; exact b3.trans (hb.trans hb5))
                have b5 : Below w.heap.size w w5 := bA.trans ((hb.trans hb5).mono (by omega))
                have HK := Lib.hid (K2.out g5 c5 w.heap.size w5 hg6 hbw5 HCB.out hs5)
                clear hb5 hb K2 HCB ol5 ol or hne
                go_wp2_with fail
                refine HK.out.mono ?_
                rintro e w6 ⟨rfl, hb6⟩
                have b6 := thenBelow b5 hb6
                obtain ⟨⟨r0, r1, r2, rl⟩, rf⟩ := HR5.keep hb6
                have f0 := rf 0; have f1 := rf 1; have f2 := rf 2
                clear rf hb6 HR5 HK b5
                go_wp2
                try simp only [Exit.inBlock, Exit.then]
                refine bodyPost_ret (v := .tuple #[.agg #[.bool sx, .int .u64 Hh, .int .u64 Ll], .int .i64 Ee]) (by simp [results, Tryd.results6, go_sem, r0, r1, r2]) rfl ?_
                exact ⟨by rw [HT2.out], ((b6.setCell (by simp) _).setCell (by simp) _).setCell (by simp) _⟩
end Go.Proofs.YtojdlhiibffnfabDoor
/-
  The document's AddrParse where two colons stand side by side: the walks.
-/
namespace Go.Proofs.YtojdlhiibffnfabDoor
open Go.RowKit Go.Sort
set_option linter.unusedVariables false
set_option linter.unusedSimpArgs false
set_option maxHeartbeats 8000000 in
set_option maxRecDepth 100000 in
theorem ap_two_10 (s : List UInt8) (hl : s.length ≤ 600) (h4 : rn 10 255 46 [] (-1) s = none) (h8 : rn 16 65535 58 [] (-1) s = none) (F : Nat) (hF : F + 1 < s.length) (e0 : s[F] = 58) (e1 : s[F + 1] = 58)
    (hno : ∀ k (h : k + 1 < s.length), k < F → ¬ (s[k] = 58 ∧ s[k + 1] = 58)) (hF0 : 0 < F) (hFe : ¬ F + 2 < s.length) (oL oR : Option (List Int)) (hoL : (rn 16 65535 58 [] (-1) (s.take F)) = oL) (hoR : (some []) = oR) (w : World) :
    Calls Tryd.prog 6 #[.string ⟨s.toArray⟩] w fun e w' => e = .returned (twoOf oL oR s) ∧ Below w.heap.size w w' := by
  have hsz : (⟨s.toArray⟩ : ByteArray).size = s.length := by simp [ByteArray.size]
  have hli : ¬ 600 < (s.length : Int) := by omega
  obtain ⟨i0, hii, hz0, hz1, hz2⟩ := info_parts info_int
  have K0 := Lib.hid (fun (W : World) => nums_none 10 255 (by decide) (by decide) (by decide) (by decide) 46 s hl h4 W)
  have K1 := Lib.hid (fun (W : World) => nums_none 16 65535 (by decide) (by decide) (by decide) (by decide) 58 s hl h8 W)
  have KL := Lib.hid (fun (W : World) => nums_side (s.take F) (by rw [List.length_take]; omega) W)
  rw [hoL] at KL
  obtain ⟨fl, hfl⟩ : ∃ f, oL.isSome = f := ⟨_, rfl⟩
  obtain ⟨ln, hln⟩ : ∃ f, oL.getD [] = f := ⟨_, rfl⟩
  rw [hfl, hln] at KL
  have hbL : ln.length ≤ 601 := by
    rw [← hln]
    cases hc : oL with
    | none => simp
    | some ns =>
      have := (rn_bd 16 65535 58 (s.take F) [] (-1) ns (by simp) (hoL.trans hc)).2
      simp only [List.length_take, List.length_drop, List.length_nil] at this
      simp only [Option.getD_some]; omega
  have VL := Lib.hid (fun ns (h : oL = some ns) => (rn_bd 16 65535 58 (s.take F) [] (-1) ns (by simp) (hoL.trans h)).1)
  have hfr : oR.isSome = true := by rw [← hoR]; rfl
  obtain ⟨rn', hrz⟩ : ∃ l : List Int, [] = l := ⟨_, rfl⟩
  have hrn : oR.getD [] = rn' := by rw [← hoR, ← hrz]; rfl
  have hr0 : rn'.length < 1 := by rw [← hrz]; decide
  have VR := Lib.hid (fun ns (h : oR = some ns) => show ∀ v ∈ ns, 0 ≤ v ∧ v ≤ 65535 from by rw [← hoR] at h; cases h; simp)
  obtain ⟨RR, hRR⟩ : ∃ R, twoOf oL oR s = R := ⟨_, rfl⟩
  rw [hRR]
  have HRR := Lib.hid hRR
  have HFL := Lib.hid hfl
  have HFR := Lib.hid hfr
  have HLN := Lib.hid hln
  have HRN := Lib.hid hrn
  clear hRR hfl hfr hln hrn
  have NO := Lib.hid hno
  have hx := index_list s F (by omega)
  have hy := index_up s F hF
  rw [e0] at hx
  rw [e1] at hy
  replace hx : ∀ W, (Instr.index 9 (.string ⟨s.toArray⟩) (.int .i64 (F : Int))).run Tryd.prog W = .ok (.int .u8 58) W := hx
  replace hy : ∀ W, (Instr.index 9 (.string ⟨s.toArray⟩) (.int .i64 ((F : Int) + 1))).run Tryd.prog W = .ok (.int .u8 58) W := hy
  have HX := Lib.hid hx
  have HY := Lib.hid hy
  have EXT := Lib.hid (ext_to s F)
  have EXF := Lib.hid (ext_from s (F + 2))
  clear h4 h8 hno hx hy e0 e1
  go_enter Tryd.func6, Tryd.ntmps6
  go_wp2_with fail
  refine (K0.out _).mono ?_
  rintro e w0 ⟨rfl, hb0⟩
  have b0 := thenBelow (((Below.refl _ w).alloc (Nat.le_refl _) (.cells #[.string ⟨s.toArray⟩] 9)).alloc (by simp) (.cells #[.bool false, .int .u64 0, .int .u64 0] 24)) hb0
  have HR0 := Lib.hid ((AddrV.new (w.alloc (.cells #[.string ⟨s.toArray⟩] 9)) false 0 0 24).keep hb0)
  have hs0 : w0.cell? ⟨w.heap.size, 0, none⟩ = some (.string ⟨s.toArray⟩) := (hb0.cell (p := ⟨w.heap.size, 0, none⟩) (by simp; omega)).trans (by rw [World.cell?_alloc_lt _ _ _ (by simp)]; exact cell_one_new _ _ _ 0 _ rfl)
  have hbw0 : w.heap.size < w0.heap.size := by have := hb0.size; simp at this; omega
  clear hb0 K0
  go_wp2_with fail
  refine (K1.out _).mono ?_
  rintro e w1 ⟨rfl, hb1⟩
  have b1 := thenBelow b0 hb1
  have hs1 : w1.cell? ⟨w.heap.size, 0, none⟩ = some (.string ⟨s.toArray⟩) := (hb1.cell (p := ⟨w.heap.size, 0, none⟩) hbw0).trans hs0
  have hbw1 : w.heap.size < w1.heap.size := Nat.lt_of_lt_of_le hbw0 hb1.size
  have HR1 := Lib.hid (HR0.out.keep hb1)
  clear hb1 K1 b0 hs0 hbw0 HR0
  go_wp2
  go_loopw [9] (fun iv wr => ∃ k : Nat, k ≤ F ∧ iv = .int .i64 k ∧ wr = w1) (fun iv _ => s.length - (intOf iv).toNat)
  case atStart => exact ⟨0, by omega, rfl, rfl⟩
  case round =>
    obtain ⟨k, hk, rfl, rfl⟩ := hrel
    by_cases hlt : k < F
    · have hlt2 : k + 1 < s.length := by omega
      have hx := index_list s k (by omega)
      have hy := index_up s k hlt2
      have hn := NO.out k hlt2 hlt
      generalize s[k]'(by omega) = x at hx hn
      generalize s[k + 1]'hlt2 = y at hy hn
      by_cases e : x = 58
      · subst e
        obtain ⟨y0, y1, y2⟩ := byte_ne (fun h => hn ⟨rfl, h⟩)
        replace hx : ∀ W, (Instr.index 9 (.string ⟨s.toArray⟩) (.int .i64 (k : Int))).run Tryd.prog W = .ok (.int .u8 58) W := hx
        clear hn
        go_wp2_with fail
        go_roundw
        case rel => exact ⟨k + 1, by omega, by go_num, by first | rfl | trivial⟩
        case measure => simp [intOf]; omega
      · obtain ⟨x0, x1, x2⟩ := byte_ne e
        clear hn e
        go_wp2_with fail
        go_roundw
        case rel => exact ⟨k + 1, by omega, by go_num, by first | rfl | trivial⟩
        case measure => simp [intOf]; omega
    · obtain rfl : k = F := by omega
      have hx := HX.out
      have hy := HY.out
      clear HX HY NO hlt hk
      obtain ⟨B, hB⟩ : ∃ B, wr.heap.size = B := ⟨_, rfl⟩
      rw [hB] at hbw1
      have hr1 : w.heap.size + 1 < B := by have := HR1.out.1.2.2.2; simp at this; omega
      have hB0 := b1.size
      have HR := HR1
      simp only [World.size_alloc] at HR
      have bB : Below B wr wr := Below.refl _ _
      have hsB := hs1
      clear hs1 HR1
      have hF1 : (0 : Int) < (k : Int) := by omega
      have hFk : (k : Int) ≤ (s.length : Int) := by omega
      go_wp2_with fail
      rw [EXT.out]
      refine (KL.out _).mono ?_
      rintro e w2 ⟨⟨vl, rfl, ol⟩, hb2⟩
      rw [hB] at ol
      have b2 : Below B wr w2 := by rw [hB] at hb2; exact hb2
      obtain ⟨pl, cl, rfl⟩ := owns_slice ol
      clear hb2 KL hF1 bB
      have hs2 : w2.cell? ⟨w.heap.size, 0, none⟩ = some (.string ⟨s.toArray⟩) := (b2.cell (p := ⟨w.heap.size, 0, none⟩) hbw1).trans hsB
      have hR1 : ¬ (k : Int) + 2 < (s.length : Int) := by omega
      obtain ⟨w3, hw3⟩ : ∃ w3, w2 = w3 := ⟨_, rfl⟩
      have or : w3.ownsRow B 3 1 (.slice none 0 0) rn'.length (rn'.map (Value.int .i64)) := by rw [← hrz]; exact World.ownsRow_nil _ _ _ _
      have hne : ∀ q, (Value.slice pl ln.length cl).ownBlock = some q → (Value.slice none 0 0).ownBlock ≠ some q := fun q h1 h2 => by cases h2
      have b3 : Below B wr w3 := by rw [← hw3]; exact b2
      subst hw3
      clear b2
      have HR3 := Lib.hid (HR.out.keep (by rw [hB]; exact b3))
      have hs3 : w2.cell? ⟨w.heap.size, 0, none⟩ = some (.string ⟨s.toArray⟩) := (b3.cell (p := ⟨w.heap.size, 0, none⟩) hbw1).trans hsB
      have bA : Below w.heap.size w w2 := b1.trans (b3.mono (by omega))
      have hBW : B ≤ w2.heap.size := by rw [← hB]; exact b3.size
      clear hsB b1 EXT EXF
      cases fl
      · skip
        obtain ⟨⟨r0, r1, r2, rl⟩, rf⟩ := HR3.out
        have f0 := rf 0; have f1 := rf 1; have f2 := rf 2
        clear rf HR3
        go_wp2
        try simp only [Exit.inBlock, Exit.then]
        refine bodyPost_ret (v := .tuple #[.agg #[.bool false, .int .u64 0, .int .u64 0], .int .i64 4]) (by simp [results, Tryd.results6, go_sem, r0, r1, r2]) rfl ?_
        exact ⟨by rw [← HRR.out, two_no1 HFL.out]; rfl, ((bA.setCell (by simp) _).setCell (by simp) _).setCell (by simp) _⟩
      · skip
      
        by_cases h6 : 6 < (ln.length + rn'.length)
        · have h6i : (6 : Int) < (ln.length : Int) + (rn'.length : Int) := by omega
          have h6j : (6 : Int) < (ln.length : Int) := by omega
          obtain ⟨⟨r0, r1, r2, rl⟩, rf⟩ := HR3.out
          have f0 := rf 0; have f1 := rf 1; have f2 := rf 2
          clear rf HR3
          go_wp2
          try simp only [Exit.inBlock, Exit.then]
          refine bodyPost_ret (v := .tuple #[.agg #[.bool false, .int .u64 0, .int .u64 0], .int .i64 4]) (by simp [results, Tryd.results6, go_sem, r0, r1, r2]) rfl ?_
          exact ⟨by rw [← HRR.out, two_long HFL.out HFR.out HLN.out HRN.out h6]; rfl, ((bA.setCell (by simp) _).setCell (by simp) _).setCell (by simp) _⟩
        · skip
          have h6i : ¬ (6 : Int) < (ln.length : Int) + (rn'.length : Int) := by omega
          have h6j : ¬ (6 : Int) < (ln.length : Int) := by omega
          have h6k : ¬ (6 : Int) < (rn'.length : Int) := by omega
          have HT := Lib.hid (two_ok (s := s) HFL.out HFR.out HLN.out HRN.out h6)
          have VAL : Hid (∀ v ∈ ln ++ List.replicate (8 - (ln.length + rn'.length)) (0 : Int) ++ rn', 0 ≤ v ∧ v ≤ 65535) := Lib.hid (by
            intro v hv
            rcases List.mem_append.1 hv with hv | hv
            · rcases List.mem_append.1 hv with hv | hv
              · exact VL.out ln (two_some HFL.out HLN.out) v hv
              · rw [List.mem_replicate] at hv; omega
            · exact VR.out rn' (two_some HFR.out HRN.out) v hv)
          rw [HRR.out] at HT
          have HL8 : (ln ++ List.replicate (8 - (ln.length + rn'.length)) (0 : Int) ++ rn').length = 8 := by simp only [List.length_append, List.length_replicate]; omega
          obtain ⟨sx, Hh, Ll, Ee, hR⟩ := tryAns_form true (ln ++ List.replicate (8 - (ln.length + rn'.length)) (0 : Int) ++ rn') s
          have K2 := Lib.hid (try8 _ HL8 VAL.out s _ hR)
          have HT2 := Lib.hid (HT.out.trans hR)
          clear HT hR VAL HL8
          clear HRR HFL HFR HLN HRN VL VR
          go_wp2
          go_loopw [10] (fun v wq => ∃ m : Nat, ln.length + rn'.length + m ≤ 8 ∧ wq.ownsRow B 3 1 v (ln.length + m) ((ln ++ List.replicate m (0 : Int)).map (Value.int .i64)) ∧ wq.ownsRow B 3 1 (Value.slice none 0 0) rn'.length (rn'.map (Value.int .i64)) ∧ (∀ q, v.ownBlock = some q → (Value.slice none 0 0).ownBlock ≠ some q) ∧ Below B w2 wq)
            (fun v _ => 8 - sliceLen v)
          case atStart => exact ⟨0, by omega, by simpa using ol, or, hne, Below.refl _ _⟩
          case round =>
            obtain ⟨m, hm, ol, or, hne, hb⟩ := hrel
            obtain ⟨p, c, rfl⟩ := owns_slice ol
            have hqs := hb.size
            by_cases hlt : ln.length + rn'.length + m < 8
            · have hli2 : ((ln.length + m : Nat) : Int) + (rn'.length : Int) < 8 := by omega
              have hli3 : (ln.length : Int) + (m : Int) + (rn'.length : Int) < 8 := by omega
              have hli4 : (ln.length : Int) + (m : Int) < 8 := by omega
              go_wp2_with (first
                | (at_builtin; refine wpList_append_lies _ rfl _ _ 37 rfl B 3 i0 (.int .i64 0) 1 8 Tryd.underlying37 hii hz0 hz1 hz2 rfl (by decide) _ _ _ rfl (ol.alloc _) ⟨wr.heap.size, 0, none⟩ 1 1 [.int .i64 0] rfl rfl ?c1 ?c2 (by decide) ?c3 ?c4 ?c5 _ rfl ?_))
              case c1 => exact World.news_of_block (heap_alloc_new wr _)
              case c2 => intro u hu; simp at hu; subst hu; rfl
              case c3 => unfold maxLen; omega
              case c4 => omega
              case c5 => first | omega | (simp; omega)
              intro g2 c2 w4 ol4 hgrow hat hlt4
              have hb4 := below_app hb (Nat.le_refl B) hBW ol hgrow
              have or4 := ownsFar (or.alloc _) hgrow (fun q h1 h2 => hne q h2.symm h1)
              have hne4 : ∀ q, (Value.slice (some ⟨g2, 0, none⟩) (ln.length + m + 1) c2).ownBlock = some q → (Value.slice none 0 0).ownBlock ≠ some q := by
                intro q h1 h2
                have hq : g2 = q := by simpa [Value.ownBlock] using h1
                subst hq
                rcases hat with h | h
                · exact hne _ h h2
                · have := (or.lt _ h2).2; omega
              have ol5 : w4.ownsRow B 3 1 (Value.slice (some ⟨g2, 0, none⟩) (ln.length + m + 1) c2) (ln.length + (m + 1)) ((ln ++ List.replicate (m + 1) (0 : Int)).map (Value.int .i64)) := by
                rw [List.replicate_succ']
                simpa [Nat.add_assoc] using ol4
              clear ol4 hgrow ol or hne hb hat
              go_wp2
              go_roundw
              case rel => exact ⟨m + 1, by omega, ol5, or4, hne4, hb4⟩
              case measure => simp [sliceLen]; omega
            · have hli2 : ¬ ((ln.length + m : Nat) : Int) + (rn'.length : Int) < 8 := by omega
              have hli3 : ¬ (ln.length : Int) + (m : Int) + (rn'.length : Int) < 8 := by omega
              have hli4 : ¬ (ln.length : Int) + (m : Int) < 8 := by omega
              obtain rfl : m = 8 - (ln.length + rn'.length) := by omega
              have e8 : ln.length + (8 - (ln.length + rn'.length)) + rn'.length = 8 := by omega
              have d1 : (ln.length + (8 - (ln.length + rn'.length)) + rn'.length) * 8 ≤ 140737488355328 := by omega
              have d2 : ln.length + (8 - (ln.length + rn'.length)) + rn'.length ≤ maxLen := by unfold maxLen; omega
              have d3 : B ≤ wr.heap.size := by omega
              go_wp2_with (first
                | (at_builtin; refine wpList_append_two rfl _ _ 37 rfl B 3 i0 (.int .i64 0) 1 8 Tryd.underlying37 hii hz0 hz1 hz2 rfl (by decide) _ _ _ rfl ol _ B _ _ rfl or (map_one _) d1 d2 d3 ?_))
              intro v5 w5 ol5 hb5
              have ol5 : w5.ownsRow B 3 1 v5 8 ((ln ++ List.replicate (8 - (ln.length + rn'.length)) (0 : Int) ++ rn').map (Value.int .i64)) := by
                rw [List.map_append, List.map_append, List.map_replicate, List.append_assoc]
                first
                  | exact ol5
                  | (rw [e8] at ol5; exact ol5)
                  | (rw [List.append_assoc] at ol5; exact ol5)
                  | (simpa [e8] using ol5)
              obtain ⟨g5, c5, rfl, hg5, hg6⟩ := ol5.form (by omega)
              have HCB : Hid (∀ j u, (ln ++ List.replicate (8 - (ln.length + rn'.length)) (0 : Int) ++ rn')[j]? = some u → w5.cell? ⟨g5, j, none⟩ = some (.int .i64 u)) := Lib.hid (by
                intro j u hj
                have hjl := (List.getElem?_eq_some_iff.1 hj).1
                simp only [List.length_append, List.length_replicate] at hjl
                rw [ol5.cellAt j (by omega), List.getElem?_map, hj]; rfl)
              have hs5 : w5.cell? ⟨w.heap.size, 0, none⟩ = some (.string ⟨s.toArray⟩) := (hb5.cell (p := ⟨w.heap.size, 0, none⟩) hbw1).trans ((hb.cell (p := ⟨w.heap.size, 0, none⟩) hbw1).trans hs3)
              have hbw5 : w.heap.size < w5.heap.size := by have := hb5.size; omega
              have HR5 := HR.out.keep (by rw [hB]; exact b3.trans (hb.trans hb5))
              have b5 : Below w.heap.size w w5 := bA.trans ((hb.trans hb5).mono (by omega))
              have HK := Lib.hid (K2.out g5 c5 w.heap.size w5 hg6 hbw5 HCB.out hs5)
              clear hb5 hb K2 HCB ol5 ol or hne
              go_wp2_with fail
              refine HK.out.mono ?_
              rintro e w6 ⟨rfl, hb6⟩
              have b6 := thenBelow b5 hb6
              obtain ⟨⟨r0, r1, r2, rl⟩, rf⟩ := HR5.keep hb6
              have f0 := rf 0; have f1 := rf 1; have f2 := rf 2
              clear rf hb6 HR5 HK b5
              go_wp2
              try simp only [Exit.inBlock, Exit.then]
              refine bodyPost_ret (v := .tuple #[.agg #[.bool sx, .int .u64 Hh, .int .u64 Ll], .int .i64 Ee]) (by simp [results, Tryd.results6, go_sem, r0, r1, r2]) rfl ?_
              exact ⟨by rw [HT2.out], ((b6.setCell (by simp) _).setCell (by simp) _).setCell (by simp) _⟩
end Go.Proofs.YtojdlhiibffnfabDoor
/-
  The document's AddrParse where two colons stand side by side: the walks.
-/
namespace Go.Proofs.YtojdlhiibffnfabDoor
open Go.RowKit Go.Sort
set_option linter.unusedVariables false
set_option linter.unusedSimpArgs false
set_option maxHeartbeats 8000000 in
set_option maxRecDepth 100000 in
theorem ap_two_01 (s : List UInt8) (hl : s.length ≤ 600) (h4 : rn 10 255 46 [] (-1) s = none) (h8 : rn 16 65535 58 [] (-1) s = none) (F : Nat) (hF : F + 1 < s.length) (e0 : s[F] = 58) (e1 : s[F + 1] = 58)
    (hno : ∀ k (h : k + 1 < s.length), k < F → ¬ (s[k] = 58 ∧ s[k + 1] = 58)) (hF0 : F < 1) (hFe : F + 2 < s.length) (oL oR : Option (List Int)) (hoL : (some []) = oL) (hoR : (rn 16 65535 58 [] (-1) (s.drop (F + 2))) = oR) (w : World) :
    Calls Tryd.prog 6 #[.string ⟨s.toArray⟩] w fun e w' => e = .returned (twoOf oL oR s) ∧ Below w.heap.size w w' := by
  have hsz : (⟨s.toArray⟩ : ByteArray).size = s.length := by simp [ByteArray.size]
  have hli : ¬ 600 < (s.length : Int) := by omega
  obtain ⟨i0, hii, hz0, hz1, hz2⟩ := info_parts info_int
  have K0 := Lib.hid (fun (W : World) => nums_none 10 255 (by decide) (by decide) (by decide) (by decide) 46 s hl h4 W)
  have K1 := Lib.hid (fun (W : World) => nums_none 16 65535 (by decide) (by decide) (by decide) (by decide) 58 s hl h8 W)
  have hfl : oL.isSome = true := by rw [← hoL]; rfl
  obtain ⟨ln, hlz⟩ : ∃ l : List Int, [] = l := ⟨_, rfl⟩
  have hln : oL.getD [] = ln := by rw [← hoL, ← hlz]; rfl
  have hl0 : ln.length < 1 := by rw [← hlz]; decide
  have VL := Lib.hid (fun ns (h : oL = some ns) => show ∀ v ∈ ns, 0 ≤ v ∧ v ≤ 65535 from by rw [← hoL] at h; cases h; simp)
  have KR := Lib.hid (fun (W : World) => nums_side (s.drop (F + 2)) (by rw [List.length_drop]; omega) W)
  rw [hoR] at KR
  obtain ⟨fr, hfr⟩ : ∃ f, oR.isSome = f := ⟨_, rfl⟩
  obtain ⟨rn', hrn⟩ : ∃ f, oR.getD [] = f := ⟨_, rfl⟩
  rw [hfr, hrn] at KR
  have hbR : rn'.length ≤ 601 := by
    rw [← hrn]
    cases hc : oR with
    | none => simp
    | some ns =>
      have := (rn_bd 16 65535 58 (s.drop (F + 2)) [] (-1) ns (by simp) (hoR.trans hc)).2
      simp only [List.length_take, List.length_drop, List.length_nil] at this
      simp only [Option.getD_some]; omega
  have VR := Lib.hid (fun ns (h : oR = some ns) => (rn_bd 16 65535 58 (s.drop (F + 2)) [] (-1) ns (by simp) (hoR.trans h)).1)
  obtain ⟨RR, hRR⟩ : ∃ R, twoOf oL oR s = R := ⟨_, rfl⟩
  rw [hRR]
  have HRR := Lib.hid hRR
  have HFL := Lib.hid hfl
  have HFR := Lib.hid hfr
  have HLN := Lib.hid hln
  have HRN := Lib.hid hrn
  clear hRR hfl hfr hln hrn
  have NO := Lib.hid hno
  have hx := index_list s F (by omega)
  have hy := index_up s F hF
  rw [e0] at hx
  rw [e1] at hy
  replace hx : ∀ W, (Instr.index 9 (.string ⟨s.toArray⟩) (.int .i64 (F : Int))).run Tryd.prog W = .ok (.int .u8 58) W := hx
  replace hy : ∀ W, (Instr.index 9 (.string ⟨s.toArray⟩) (.int .i64 ((F : Int) + 1))).run Tryd.prog W = .ok (.int .u8 58) W := hy
  have HX := Lib.hid hx
  have HY := Lib.hid hy
  have EXT := Lib.hid (ext_to s F)
  have EXF := Lib.hid (ext_from s (F + 2))
  clear h4 h8 hno hx hy e0 e1
  go_enter Tryd.func6, Tryd.ntmps6
  go_wp2_with fail
  refine (K0.out _).mono ?_
  rintro e w0 ⟨rfl, hb0⟩
  have b0 := thenBelow (((Below.refl _ w).alloc (Nat.le_refl _) (.cells #[.string ⟨s.toArray⟩] 9)).alloc (by simp) (.cells #[.bool false, .int .u64 0, .int .u64 0] 24)) hb0
  have HR0 := Lib.hid ((AddrV.new (w.alloc (.cells #[.string ⟨s.toArray⟩] 9)) false 0 0 24).keep hb0)
  have hs0 : w0.cell? ⟨w.heap.size, 0, none⟩ = some (.string ⟨s.toArray⟩) := (hb0.cell (p := ⟨w.heap.size, 0, none⟩) (by simp; omega)).trans (by rw [World.cell?_alloc_lt _ _ _ (by simp)]; exact cell_one_new _ _ _ 0 _ rfl)
  have hbw0 : w.heap.size < w0.heap.size := by have := hb0.size; simp at this; omega
  clear hb0 K0
  go_wp2_with fail
  refine (K1.out _).mono ?_
  rintro e w1 ⟨rfl, hb1⟩
  have b1 := thenBelow b0 hb1
  have hs1 : w1.cell? ⟨w.heap.size, 0, none⟩ = some (.string ⟨s.toArray⟩) := (hb1.cell (p := ⟨w.heap.size, 0, none⟩) hbw0).trans hs0
  have hbw1 : w.heap.size < w1.heap.size := Nat.lt_of_lt_of_le hbw0 hb1.size
  have HR1 := Lib.hid (HR0.out.keep hb1)
  clear hb1 K1 b0 hs0 hbw0 HR0
  go_wp2
  go_loopw [9] (fun iv wr => ∃ k : Nat, k ≤ F ∧ iv = .int .i64 k ∧ wr = w1) (fun iv _ => s.length - (intOf iv).toNat)
  case atStart => exact ⟨0, by omega, rfl, rfl⟩
  case round =>
    obtain ⟨k, hk, rfl, rfl⟩ := hrel
    by_cases hlt : k < F
    · exfalso; omega
    · obtain rfl : k = F := by omega
      have hx := HX.out
      have hy := HY.out
      clear HX HY NO hlt hk
      obtain ⟨B, hB⟩ : ∃ B, wr.heap.size = B := ⟨_, rfl⟩
      rw [hB] at hbw1
      have hr1 : w.heap.size + 1 < B := by have := HR1.out.1.2.2.2; simp at this; omega
      have hB0 := b1.size
      have HR := HR1
      simp only [World.size_alloc] at HR
      have bB : Below B wr wr := Below.refl _ _
      have hsB := hs1
      clear hs1 HR1
      have hF1 : ¬ (0 : Int) < (k : Int) := by omega
      obtain ⟨w2, hw2⟩ : ∃ w2, wr = w2 := ⟨_, rfl⟩
      have ol : w2.ownsRow B 3 1 (.slice none 0 0) ln.length (ln.map (Value.int .i64)) := by rw [← hlz]; exact World.ownsRow_nil _ _ _ _
      have b2 : Below B wr w2 := by rw [← hw2]; exact bB
      clear bB
      have hs2 : w2.cell? ⟨w.heap.size, 0, none⟩ = some (.string ⟨s.toArray⟩) := (b2.cell (p := ⟨w.heap.size, 0, none⟩) hbw1).trans hsB
      subst hw2
      have hR1 : (k : Int) + 2 < (s.length : Int) := by omega
      have hR2 : (k : Int) + 2 ≤ (s.length : Int) := by omega
      have hR3 : (0 : Int) ≤ (k : Int) + 2 := by omega
      have hR4 : ((k : Int) + 2).toNat = k + 2 := by omega
      go_wp2_with fail
      first | rw [EXF.out] | rw [hR4, hsz, EXF.out] | rw [hsz, EXF.out] | rw [hR4, EXF.out]
      refine (KR.out _).mono ?_
      rintro e w3 ⟨⟨vr, rfl, or⟩, hb3⟩
      have hsz2 := b2.size
      obtain ⟨pr, cr, rfl⟩ := owns_slice or
      have hne : ∀ q, (Value.slice none 0 0).ownBlock = some q → (Value.slice pr rn'.length cr).ownBlock ≠ some q := fun q h1 h2 => by
        have := (ol.lt q h1).2; have := (or.lt q h2).1; omega
      have ol := ownsKeep ol hb3
      have or := ownsLow or (Nat.le_trans (Nat.le_of_eq hB.symm) hsz2)
      have b3 := b2.trans (hb3.mono (Nat.le_trans (Nat.le_of_eq hB.symm) hsz2))
      clear hb3 hs2 b2 hR1 hR2 hR3 hR4 KR
      have HR3 := Lib.hid (HR.out.keep (by rw [hB]; exact b3))
      have hs3 : w3.cell? ⟨w.heap.size, 0, none⟩ = some (.string ⟨s.toArray⟩) := (b3.cell (p := ⟨w.heap.size, 0, none⟩) hbw1).trans hsB
      have bA : Below w.heap.size w w3 := b1.trans (b3.mono (by omega))
      have hBW : B ≤ w3.heap.size := by rw [← hB]; exact b3.size
      clear hsB b1 EXT EXF
      cases fr
      · skip
        obtain ⟨⟨r0, r1, r2, rl⟩, rf⟩ := HR3.out
        have f0 := rf 0; have f1 := rf 1; have f2 := rf 2
        clear rf HR3
        go_wp2
        try simp only [Exit.inBlock, Exit.then]
        refine bodyPost_ret (v := .tuple #[.agg #[.bool false, .int .u64 0, .int .u64 0], .int .i64 4]) (by simp [results, Tryd.results6, go_sem, r0, r1, r2]) rfl ?_
        exact ⟨by rw [← HRR.out, two_no2 HFR.out]; rfl, ((bA.setCell (by simp) _).setCell (by simp) _).setCell (by simp) _⟩
      · skip
      
        by_cases h6 : 6 < (ln.length + rn'.length)
        · have h6i : (6 : Int) < (ln.length : Int) + (rn'.length : Int) := by omega
          have h6j : (6 : Int) < (rn'.length : Int) := by omega
          obtain ⟨⟨r0, r1, r2, rl⟩, rf⟩ := HR3.out
          have f0 := rf 0; have f1 := rf 1; have f2 := rf 2
          clear rf HR3
          go_wp2
          try simp only [Exit.inBlock, Exit.then]
          refine bodyPost_ret (v := .tuple #[.agg #[.bool false, .int .u64 0, .int .u64 0], .int .i64 4]) (by simp [results, Tryd.results6, go_sem, r0, r1, r2]) rfl ?_
          exact ⟨by rw [← HRR.out, two_long HFL.out HFR.out HLN.out HRN.out h6]; rfl, ((bA.setCell (by simp) _).setCell (by simp) _).setCell (by simp) _⟩
        · skip
          have h6i : ¬ (6 : Int) < (ln.length : Int) + (rn'.length : Int) := by omega
          have h6j : ¬ (6 : Int) < (ln.length : Int) := by omega
          have h6k : ¬ (6 : Int) < (rn'.length : Int) := by omega
          have HT := Lib.hid (two_ok (s := s) HFL.out HFR.out HLN.out HRN.out h6)
          have VAL : Hid (∀ v ∈ ln ++ List.replicate (8 - (ln.length + rn'.length)) (0 : Int) ++ rn', 0 ≤ v ∧ v ≤ 65535) := Lib.hid (by
            intro v hv
            rcases List.mem_append.1 hv with hv | hv
            · rcases List.mem_append.1 hv with hv | hv
              · exact VL.out ln (two_some HFL.out HLN.out) v hv
              · rw [List.mem_replicate] at hv; omega
            · exact VR.out rn' (two_some HFR.out HRN.out) v hv)
          rw [HRR.out] at HT
          have HL8 : (ln ++ List.replicate (8 - (ln.length + rn'.length)) (0 : Int) ++ rn').length = 8 := by simp only [List.length_append, List.length_replicate]; omega
          obtain ⟨sx, Hh, Ll, Ee, hR⟩ := tryAns_form true (ln ++ List.replicate (8 - (ln.length + rn'.length)) (0 : Int) ++ rn') s
          have K2 := Lib.hid (try8 _ HL8 VAL.out s _ hR)
          have HT2 := Lib.hid (HT.out.trans hR)
          clear HT hR VAL HL8
          clear HRR HFL HFR HLN HRN VL VR
          go_wp2
          go_loopw [10] (fun v wq => ∃ m : Nat, ln.length + rn'.length + m ≤ 8 ∧ wq.ownsRow B 3 1 v (ln.length + m) ((ln ++ List.replicate m (0 : Int)).map (Value.int .i64)) ∧ wq.ownsRow B 3 1 (Value.slice pr rn'.length cr) rn'.length (rn'.map (Value.int .i64)) ∧ (∀ q, v.ownBlock = some q → (Value.slice pr rn'.length cr).ownBlock ≠ some q) ∧ Below B w3 wq)
            (fun v _ => 8 - sliceLen v)
          case atStart => exact ⟨0, by omega, by simpa using ol, or, hne, Below.refl _ _⟩
          case round =>
            obtain ⟨m, hm, ol, or, hne, hb⟩ := hrel
            obtain ⟨p, c, rfl⟩ := owns_slice ol
            have hqs := hb.size
            by_cases hlt : ln.length + rn'.length + m < 8
            · have hli2 : ((ln.length + m : Nat) : Int) + (rn'.length : Int) < 8 := by omega
              have hli3 : (ln.length : Int) + (m : Int) + (rn'.length : Int) < 8 := by omega
              have hli4 : (ln.length : Int) + (m : Int) < 8 := by omega
              go_wp2_with (first
                | (at_builtin; refine wpList_append_lies _ rfl _ _ 37 rfl B 3 i0 (.int .i64 0) 1 8 Tryd.underlying37 hii hz0 hz1 hz2 rfl (by decide) _ _ _ rfl (ol.alloc _) ⟨wr.heap.size, 0, none⟩ 1 1 [.int .i64 0] rfl rfl ?c1 ?c2 (by decide) ?c3 ?c4 ?c5 _ rfl ?_))
              case c1 => exact World.news_of_block (heap_alloc_new wr _)
              case c2 => intro u hu; simp at hu; subst hu; rfl
              case c3 => unfold maxLen; omega
              case c4 => omega
              case c5 => first | omega | (simp; omega)
              intro g2 c2 w4 ol4 hgrow hat hlt4
              have hb4 := below_app hb (Nat.le_refl B) hBW ol hgrow
              have or4 := ownsFar (or.alloc _) hgrow (fun q h1 h2 => hne q h2.symm h1)
              have hne4 : ∀ q, (Value.slice (some ⟨g2, 0, none⟩) (ln.length + m + 1) c2).ownBlock = some q → (Value.slice pr rn'.length cr).ownBlock ≠ some q := by
                intro q h1 h2
                have hq : g2 = q := by simpa [Value.ownBlock] using h1
                subst hq
                rcases hat with h | h
                · exact hne _ h h2
                · have := (or.lt _ h2).2; omega
              have ol5 : w4.ownsRow B 3 1 (Value.slice (some ⟨g2, 0, none⟩) (ln.length + m + 1) c2) (ln.length + (m + 1)) ((ln ++ List.replicate (m + 1) (0 : Int)).map (Value.int .i64)) := by
                rw [List.replicate_succ']
                simpa [Nat.add_assoc] using ol4
              clear ol4 hgrow ol or hne hb hat
              go_wp2
              go_roundw
              case rel => exact ⟨m + 1, by omega, ol5, or4, hne4, hb4⟩
              case measure => simp [sliceLen]; omega
            · have hli2 : ¬ ((ln.length + m : Nat) : Int) + (rn'.length : Int) < 8 := by omega
              have hli3 : ¬ (ln.length : Int) + (m : Int) + (rn'.length : Int) < 8 := by omega
              obtain rfl : m = 8 - (ln.length + rn'.length) := by omega
              have e8 : ln.length + (8 - (ln.length + rn'.length)) + rn'.length = 8 := by omega
              have d1 : (ln.length + (8 - (ln.length + rn'.length)) + rn'.length) * 8 ≤ 140737488355328 := by omega
              have d2 : ln.length + (8 - (ln.length + rn'.length)) + rn'.length ≤ maxLen := by unfold maxLen; omega
              have d3 : B ≤ wr.heap.size := by omega
              go_wp2_with (first
                | (at_builtin; refine wpList_append_two rfl _ _ 37 rfl B 3 i0 (.int .i64 0) 1 8 Tryd.underlying37 hii hz0 hz1 hz2 rfl (by decide) _ _ _ rfl ol _ B _ _ rfl or (map_one _) d1 d2 d3 ?_))
              intro v5 w5 ol5 hb5
              have ol5 : w5.ownsRow B 3 1 v5 8 ((ln ++ List.replicate (8 - (ln.length + rn'.length)) (0 : Int) ++ rn').map (Value.int .i64)) := by
                rw [List.map_append, List.map_append, List.map_replicate, List.append_assoc]
                first
                  | exact ol5
                  | (rw [e8] at ol5; exact ol5)
                  | (rw [List.append_assoc] at ol5; exact ol5)
                  | (simpa [e8] using ol5)
              obtain ⟨g5, c5, rfl, hg5, hg6⟩ := ol5.form (by omega)
              have HCB : Hid (∀ j u, (ln ++ List.replicate (8 - (ln.length + rn'.length)) (0 : Int) ++ rn')[j]? = some u → w5.cell? ⟨g5, j, none⟩ = some (.int .i64 u)) := Lib.hid (by
                intro j u hj
                have hjl := (List.getElem?_eq_some_iff.1 hj).1
                simp only [List.length_append, List.length_replicate] at hjl
                rw [ol5.cellAt j (by omega), List.getElem?_map, hj]; rfl)
              have hs5 : w5.cell? ⟨w.heap.size, 0, none⟩ = some (.string ⟨s.toArray⟩) := (hb5.cell (p := ⟨w.heap.size, 0, none⟩) hbw1).trans ((hb.cell (p := ⟨w.heap.size, 0, none⟩) hbw1).trans hs3)
              have hbw5 : w.heap.size < w5.heap.size := by have := hb5.size; omega
              have HR5 := HR.out.keep (by rw [hB]; exact b3.trans (hb.trans hb5))
              have b5 : Below w.heap.size w w5 := bA.trans ((hb.trans hb5).mono (by omega))
              have HK := Lib.hid (K2.out g5 c5 w.heap.size w5 hg6 hbw5 HCB.out hs5)
              clear hb5 hb K2 HCB ol5 ol or hne
              go_wp2_with fail
              refine HK.out.mono ?_
              rintro e w6 ⟨rfl, hb6⟩
              have b6 := thenBelow b5 hb6
              obtain ⟨⟨r0, r1, r2, rl⟩, rf⟩ := HR5.keep hb6
              have f0 := rf 0; have f1 := rf 1; have f2 := rf 2
              clear rf hb6 HR5 HK b5
              go_wp2
              try simp only [Exit.inBlock, Exit.then]
              refine bodyPost_ret (v := .tuple #[.agg #[.bool sx, .int .u64 Hh, .int .u64 Ll], .int .i64 Ee]) (by simp [results, Tryd.results6, go_sem, r0, r1, r2]) rfl ?_
              exact ⟨by rw [HT2.out], ((b6.setCell (by simp) _).setCell (by simp) _).setCell (by simp) _⟩
end Go.Proofs.YtojdlhiibffnfabDoor
/-
  The document's AddrParse where two colons stand side by side: the walks.
-/
namespace Go.Proofs.YtojdlhiibffnfabDoor
open Go.RowKit Go.Sort
set_option linter.unusedVariables false
set_option linter.unusedSimpArgs false
set_option maxHeartbeats 8000000 in
set_option maxRecDepth 100000 in
theorem ap_two_00 (s : List UInt8) (hl : s.length ≤ 600) (h4 : rn 10 255 46 [] (-1) s = none) (h8 : rn 16 65535 58 [] (-1) s = none) (F : Nat) (hF : F + 1 < s.length) (e0 : s[F] = 58) (e1 : s[F + 1] = 58)
    (hno : ∀ k (h : k + 1 < s.length), k < F → ¬ (s[k] = 58 ∧ s[k + 1] = 58)) (hF0 : F < 1) (hFe : ¬ F + 2 < s.length) (oL oR : Option (List Int)) (hoL : (some []) = oL) (hoR : (some []) = oR) (w : World) :
    Calls Tryd.prog 6 #[.string ⟨s.toArray⟩] w fun e w' => e = .returned (twoOf oL oR s) ∧ Below w.heap.size w w' := by
  have hsz : (⟨s.toArray⟩ : ByteArray).size = s.length := by simp [ByteArray.size]
  have hli : ¬ 600 < (s.length : Int) := by omega
  obtain ⟨i0, hii, hz0, hz1, hz2⟩ := info_parts info_int
  have K0 := Lib.hid (fun (W : World) => nums_none 10 255 (by decide) (by decide) (by decide) (by decide) 46 s hl h4 W)
  have K1 := Lib.hid (fun (W : World) => nums_none 16 65535 (by decide) (by decide) (by decide) (by decide) 58 s hl h8 W)
  have hfl : oL.isSome = true := by rw [← hoL]; rfl
  obtain ⟨ln, hlz⟩ : ∃ l : List Int, [] = l := ⟨_, rfl⟩
  have hln : oL.getD [] = ln := by rw [← hoL, ← hlz]; rfl
  have hl0 : ln.length < 1 := by rw [← hlz]; decide
  have VL := Lib.hid (fun ns (h : oL = some ns) => show ∀ v ∈ ns, 0 ≤ v ∧ v ≤ 65535 from by rw [← hoL] at h; cases h; simp)
  have hfr : oR.isSome = true := by rw [← hoR]; rfl
  obtain ⟨rn', hrz⟩ : ∃ l : List Int, [] = l := ⟨_, rfl⟩
  have hrn : oR.getD [] = rn' := by rw [← hoR, ← hrz]; rfl
  have hr0 : rn'.length < 1 := by rw [← hrz]; decide
  have VR := Lib.hid (fun ns (h : oR = some ns) => show ∀ v ∈ ns, 0 ≤ v ∧ v ≤ 65535 from by rw [← hoR] at h; cases h; simp)
  obtain ⟨RR, hRR⟩ : ∃ R, twoOf oL oR s = R := ⟨_, rfl⟩
  rw [hRR]
  have HRR := Lib.hid hRR
  have HFL := Lib.hid hfl
  have HFR := Lib.hid hfr
  have HLN := Lib.hid hln
  have HRN := Lib.hid hrn
  clear hRR hfl hfr hln hrn
  have NO := Lib.hid hno
  have hx := index_list s F (by omega)
  have hy := index_up s F hF
  rw [e0] at hx
  rw [e1] at hy
  replace hx : ∀ W, (Instr.index 9 (.string ⟨s.toArray⟩) (.int .i64 (F : Int))).run Tryd.prog W = .ok (.int .u8 58) W := hx
  replace hy : ∀ W, (Instr.index 9 (.string ⟨s.toArray⟩) (.int .i64 ((F : Int) + 1))).run Tryd.prog W = .ok (.int .u8 58) W := hy
  have HX := Lib.hid hx
  have HY := Lib.hid hy
  have EXT := Lib.hid (ext_to s F)
  have EXF := Lib.hid (ext_from s (F + 2))
  clear h4 h8 hno hx hy e0 e1
  go_enter Tryd.func6, Tryd.ntmps6
  go_wp2_with fail
  refine (K0.out _).mono ?_
  rintro e w0 ⟨rfl, hb0⟩
  have b0 := thenBelow (((Below.refl _ w).alloc (Nat.le_refl _) (.cells #[.string ⟨s.toArray⟩] 9)).alloc (by simp) (.cells #[.bool false, .int .u64 0, .int .u64 0] 24)) hb0
  have HR0 := Lib.hid ((AddrV.new (w.alloc (.cells #[.string ⟨s.toArray⟩] 9)) false 0 0 24).keep hb0)
  have hs0 : w0.cell? ⟨w.heap.size, 0, none⟩ = some (.string ⟨s.toArray⟩) := (hb0.cell (p := ⟨w.heap.size, 0, none⟩) (by simp; omega)).trans (by rw [World.cell?_alloc_lt _ _ _ (by simp)]; exact cell_one_new _ _ _ 0 _ rfl)
  have hbw0 : w.heap.size < w0.heap.size := by have := hb0.size; simp at this; omega
  clear hb0 K0
  go_wp2_with fail
  refine (K1.out _).mono ?_
  rintro e w1 ⟨rfl, hb1⟩
  have b1 := thenBelow b0 hb1
  have hs1 : w1.cell? ⟨w.heap.size, 0, none⟩ = some (.string ⟨s.toArray⟩) := (hb1.cell (p := ⟨w.heap.size, 0, none⟩) hbw0).trans hs0
  have hbw1 : w.heap.size < w1.heap.size := Nat.lt_of_lt_of_le hbw0 hb1.size
  have HR1 := Lib.hid (HR0.out.keep hb1)
  clear hb1 K1 b0 hs0 hbw0 HR0
  go_wp2
  go_loopw [9] (fun iv wr => ∃ k : Nat, k ≤ F ∧ iv = .int .i64 k ∧ wr = w1) (fun iv _ => s.length - (intOf iv).toNat)
  case atStart => exact ⟨0, by omega, rfl, rfl⟩
  case round =>
    obtain ⟨k, hk, rfl, rfl⟩ := hrel
    by_cases hlt : k < F
    · exfalso; omega
    · obtain rfl : k = F := by omega
      have hx := HX.out
      have hy := HY.out
      clear HX HY NO hlt hk
      obtain ⟨B, hB⟩ : ∃ B, wr.heap.size = B := ⟨_, rfl⟩
      rw [hB] at hbw1
      have hr1 : w.heap.size + 1 < B := by have := HR1.out.1.2.2.2; simp at this; omega
      have hB0 := b1.size
      have HR := HR1
      simp only [World.size_alloc] at HR
      have bB : Below B wr wr := Below.refl _ _
      have hsB := hs1
      clear hs1 HR1
      have hF1 : ¬ (0 : Int) < (k : Int) := by omega
      obtain ⟨w2, hw2⟩ : ∃ w2, wr = w2 := ⟨_, rfl⟩
      have ol : w2.ownsRow B 3 1 (.slice none 0 0) ln.length (ln.map (Value.int .i64)) := by rw [← hlz]; exact World.ownsRow_nil _ _ _ _
      have b2 : Below B wr w2 := by rw [← hw2]; exact bB
      clear bB
      have hs2 : w2.cell? ⟨w.heap.size, 0, none⟩ = some (.string ⟨s.toArray⟩) := (b2.cell (p := ⟨w.heap.size, 0, none⟩) hbw1).trans hsB
      subst hw2
      have hR1 : ¬ (k : Int) + 2 < (s.length : Int) := by omega
      obtain ⟨w3, hw3⟩ : ∃ w3, wr = w3 := ⟨_, rfl⟩
      have or : w3.ownsRow B 3 1 (.slice none 0 0) rn'.length (rn'.map (Value.int .i64)) := by rw [← hrz]; exact World.ownsRow_nil _ _ _ _
      have hne : ∀ q, (Value.slice none 0 0).ownBlock = some q → (Value.slice none 0 0).ownBlock ≠ some q := fun q h1 h2 => by cases h2
      have b3 : Below B wr w3 := by rw [← hw3]; exact b2
      subst hw3
      clear b2
      have HR3 := Lib.hid (HR.out.keep (by rw [hB]; exact b3))
      have hs3 : wr.cell? ⟨w.heap.size, 0, none⟩ = some (.string ⟨s.toArray⟩) := (b3.cell (p := ⟨w.heap.size, 0, none⟩) hbw1).trans hsB
      have bA : Below w.heap.size w wr := b1.trans (b3.mono (by omega))
      have hBW : B ≤ wr.heap.size := by rw [← hB]; exact b3.size
      clear hsB b1 EXT EXF
      
      have h6 : ¬ 6 < (ln.length + rn'.length) := by omega
      have h6i : ¬ (6 : Int) < (ln.length : Int) + (rn'.length : Int) := by omega
      have h6j : ¬ (6 : Int) < (ln.length : Int) := by omega
      have h6k : ¬ (6 : Int) < (rn'.length : Int) := by omega
      have HT := Lib.hid (two_ok (s := s) HFL.out HFR.out HLN.out HRN.out h6)
      have VAL : Hid (∀ v ∈ ln ++ List.replicate (8 - (ln.length + rn'.length)) (0 : Int) ++ rn', 0 ≤ v ∧ v ≤ 65535) := Lib.hid (by
        intro v hv
        rcases List.mem_append.1 hv with hv | hv
        · rcases List.mem_append.1 hv with hv | hv
          · exact VL.out ln (two_some HFL.out HLN.out) v hv
          · rw [List.mem_replicate] at hv; omega
        · exact VR.out rn' (two_some HFR.out HRN.out) v hv)
      rw [HRR.out] at HT
      have HL8 : (ln ++ List.replicate (8 - (ln.length + rn'.length)) (0 : Int) ++ rn').length = 8 := by simp only [List.length_append, List.length_replicate]; omega
      obtain ⟨sx, Hh, Ll, Ee, hR⟩ := tryAns_form true (ln ++ List.replicate (8 - (ln.length + rn'.length)) (0 : Int) ++ rn') s
      have K2 := Lib.hid (try8 _ HL8 VAL.out s _ hR)
      have HT2 := Lib.hid (HT.out.trans hR)
      clear HT hR VAL HL8
      clear HRR HFL HFR HLN HRN VL VR
      go_wp2
      go_loopw [10] (fun v wq => ∃ m : Nat, ln.length + rn'.length + m ≤ 8 ∧ wq.ownsRow B 3 1 v (ln.length + m) ((ln ++ List.replicate m (0 : Int)).map (Value.int .i64)) ∧ wq.ownsRow B 3 1 (Value.slice none 0 0) rn'.length (rn'.map (Value.int .i64)) ∧ (∀ q, v.ownBlock = some q → (Value.slice none 0 0).ownBlock ≠ some q) ∧ Below B wr wq)
        (fun v _ => 8 - sliceLen v)
      case atStart => exact ⟨0, by omega, by simpa using ol, or, hne, Below.refl _ _⟩
      case round =>
        obtain ⟨m, hm, ol, or, hne, hb⟩ := hrel
        obtain ⟨p, c, rfl⟩ := owns_slice ol
        have hqs := hb.size
        by_cases hlt : ln.length + rn'.length + m < 8
        · have hli2 : ((ln.length + m : Nat) : Int) + (rn'.length : Int) < 8 := by omega
          have hli3 : (ln.length : Int) + (m : Int) + (rn'.length : Int) < 8 := by omega
          have hli4 : (ln.length : Int) + (m : Int) < 8 := by omega
          go_wp2_with (first
            | (at_builtin; refine wpList_append_lies _ rfl _ _ 37 rfl B 3 i0 (.int .i64 0) 1 8 Tryd.underlying37 hii hz0 hz1 hz2 rfl (by decide) _ _ _ rfl (ol.alloc _) ⟨wr.heap.size, 0, none⟩ 1 1 [.int .i64 0] rfl rfl ?c1 ?c2 (by decide) ?c3 ?c4 ?c5 _ rfl ?_))
          case c1 => exact World.news_of_block (heap_alloc_new wr _)
          case c2 => intro u hu; simp at hu; subst hu; rfl
          case c3 => unfold maxLen; omega
          case c4 => omega
          case c5 => first | omega | (simp; omega)
          intro g2 c2 w4 ol4 hgrow hat hlt4
          have hb4 := below_app hb (Nat.le_refl B) hBW ol hgrow
          have or4 := ownsFar (or.alloc _) hgrow (fun q h1 h2 => hne q h2.symm h1)
          have hne4 : ∀ q, (Value.slice (some ⟨g2, 0, none⟩) (ln.length + m + 1) c2).ownBlock = some q → (Value.slice none 0 0).ownBlock ≠ some q := by
            intro q h1 h2
            have hq : g2 = q := by simpa [Value.ownBlock] using h1
            subst hq
            rcases hat with h | h
            · exact hne _ h h2
            · have := (or.lt _ h2).2; omega
          have ol5 : w4.ownsRow B 3 1 (Value.slice (some ⟨g2, 0, none⟩) (ln.length + m + 1) c2) (ln.length + (m + 1)) ((ln ++ List.replicate (m + 1) (0 : Int)).map (Value.int .i64)) := by
            rw [List.replicate_succ']
            simpa [Nat.add_assoc] using ol4
          clear ol4 hgrow ol or hne hb hat
          go_wp2
          go_roundw
          case rel => exact ⟨m + 1, by omega, ol5, or4, hne4, hb4⟩
          case measure => simp [sliceLen]; omega
        · have hli2 : ¬ ((ln.length + m : Nat) : Int) + (rn'.length : Int) < 8 := by omega
          have hli3 : ¬ (ln.length : Int) + (m : Int) + (rn'.length : Int) < 8 := by omega
          have hli4 : ¬ (ln.length : Int) + (m : Int) < 8 := by omega
          obtain rfl : m = 8 - (ln.length + rn'.length) := by omega
          have e8 : ln.length + (8 - (ln.length + rn'.length)) + rn'.length = 8 := by omega
          have d1 : (ln.length + (8 - (ln.length + rn'.length)) + rn'.length) * 8 ≤ 140737488355328 := by omega
          have d2 : ln.length + (8 - (ln.length + rn'.length)) + rn'.length ≤ maxLen := by unfold maxLen; omega
          have d3 : B ≤ wr.heap.size := by omega
          go_wp2_with (first
            | (at_builtin; refine wpList_append_two rfl _ _ 37 rfl B 3 i0 (.int .i64 0) 1 8 Tryd.underlying37 hii hz0 hz1 hz2 rfl (by decide) _ _ _ rfl ol _ B _ _ rfl or (map_one _) d1 d2 d3 ?_))
          intro v5 w5 ol5 hb5
          have ol5 : w5.ownsRow B 3 1 v5 8 ((ln ++ List.replicate (8 - (ln.length + rn'.length)) (0 : Int) ++ rn').map (Value.int .i64)) := by
            rw [List.map_append, List.map_append, List.map_replicate, List.append_assoc]
            first
              | exact ol5
              | (rw [e8] at ol5; exact ol5)
              | (rw [List.append_assoc] at ol5; exact ol5)
              | (simpa [e8] using ol5)
          obtain ⟨g5, c5, rfl, hg5, hg6⟩ := ol5.form (by omega)
          have HCB : Hid (∀ j u, (ln ++ List.replicate (8 - (ln.length + rn'.length)) (0 : Int) ++ rn')[j]? = some u → w5.cell? ⟨g5, j, none⟩ = some (.int .i64 u)) := Lib.hid (by
            intro j u hj
            have hjl := (List.getElem?_eq_some_iff.1 hj).1
            simp only [List.length_append, List.length_replicate] at hjl
            rw [ol5.cellAt j (by omega), List.getElem?_map, hj]; rfl)
          have hs5 : w5.cell? ⟨w.heap.size, 0, none⟩ = some (.string ⟨s.toArray⟩) := (hb5.cell (p := ⟨w.heap.size, 0, none⟩) hbw1).trans ((hb.cell (p := ⟨w.heap.size, 0, none⟩) hbw1).trans hs3)
          have hbw5 : w.heap.size < w5.heap.size := by have := hb5.size; omega
          have HR5 := HR.out.keep (by rw [hB]; exact b3.trans (hb.trans hb5))
          have b5 : Below w.heap.size w w5 := bA.trans ((hb.trans hb5).mono (by omega))
          have HK := Lib.hid (K2.out g5 c5 w.heap.size w5 hg6 hbw5 HCB.out hs5)
          clear hb5 hb K2 HCB ol5 ol or hne
          go_wp2_with fail
          refine HK.out.mono ?_
          rintro e w6 ⟨rfl, hb6⟩
          have b6 := thenBelow b5 hb6
          obtain ⟨⟨r0, r1, r2, rl⟩, rf⟩ := HR5.keep hb6
          have f0 := rf 0; have f1 := rf 1; have f2 := rf 2
          clear rf hb6 HR5 HK b5
          go_wp2
          try simp only [Exit.inBlock, Exit.then]
          refine bodyPost_ret (v := .tuple #[.agg #[.bool sx, .int .u64 Hh, .int .u64 Ll], .int .i64 Ee]) (by simp [results, Tryd.results6, go_sem, r0, r1, r2]) rfl ?_
          exact ⟨by rw [HT2.out], ((b6.setCell (by simp) _).setCell (by simp) _).setCell (by simp) _⟩
end Go.Proofs.YtojdlhiibffnfabDoor
