/-
  Laid together: FwA, FwC.
-/
import Derived.Test.YtgajepmnklbmpaaConcatR
import Derived.Test.YtgajepmnklbmpaaG2
import Derived.Deep.QuietTactic
import Derived.Test.YtgajepmnklbmpaaG8
import Derived.Test.YtgajepmnklbmpaaG10
/-
  Slices of ints: slices.Index, Contains, IndexFunc, Clone.
-/
namespace Go.Proofs.Ytgajepmnklbmpaa
open Go.RowKit
set_option linter.unusedVariables false
set_option linter.unusedSimpArgs false
def ics (i : Int) : List Value := [.int .i64 i]
theorem ics_len (i : Int) : (ics i).length = 1 := rfl
theorem ics_one (i : Int) : ∀ u ∈ ics i, u.oneCell' = true := by intro u hu; simp [ics] at hu; subst hu; rfl
abbrev RowN (w : World) (v : Value) (l : List Int) : Prop := RowK ics 1 w v l
abbrev OwnN (w : World) (base : Nat) (v : Value) (l : List Int) : Prop := w.ownsRow base 3 1 v l.length (rowOf ics l)
theorem OwnN.row {w : World} {base : Nat} {v : Value} {l : List Int} (h : OwnN w base v l) : RowN w v l := RowK.owned ics_len h
theorem intCell {w : World} {g o k : Nat} {z : Int} (h : RecAt w g (o + k * 1) (ics z)) : w.cell? ⟨g, o + k, none⟩ = some (.int .i64 z) := by
  have := h 0 _ rfl
  simpa using this
set_option maxHeartbeats 2000000 in
theorem idxN_calls (l : List Int) (v : Value) (q : Int) (hlen : l.length ≤ 100000) (w : World) (row : RowN w v l) :
    Calls Try.prog 68 #[v, .int .i64 q] w fun e w' => ∃ r : Int, e = .returned (.int .i64 r) ∧ (0 ≤ r ↔ q ∈ l) ∧ Below w.heap.size w w' := by
  obtain ⟨p, c, rfl, hcap, at_⟩ := row.at
  obtain ⟨n, hn⟩ : ∃ n, l.length = n := ⟨_, rfl⟩
  have HN := Lib.hid hn
  have AT := Lib.hid at_
  rw [hn] at hlen ⊢
  clear row at_ hn
  go_enter Try.func68, Try.ntmps68
  go_wp2
  go_loopw [8] (fun i wr => ∃ k : Nat, k ≤ n ∧ i = .int .i64 k ∧ wr = w ∧ Hid (∀ c ∈ l.take k, c ≠ q)) (fun i _ => n - (intOf i).toNat)
  case atStart => exact ⟨0, by omega, rfl, rfl, Lib.hid (fun c h => by simp at h)⟩
  case round =>
    obtain ⟨k, hk, rfl, rfl, HF⟩ := hrel
    by_cases hlt : k < n
    · have hkl : k < l.length := by rw [HN.out]; exact hlt
      obtain ⟨g, o, rfl, hg, hrec⟩ := AT.out k hkl
      have x0 := intCell hrec
      have HA := Lib.hid (show l[k] = q → q ∈ l from fun h => by rw [← h]; exact List.getElem_mem hkl)
      have HT := Lib.hid (show l[k] ≠ q → ∀ c ∈ l.take (k + 1), c ≠ q from fun h c hc => by
        rw [List.take_succ_eq_append_getElem hkl, List.mem_append, List.mem_singleton] at hc
        rcases hc with hc | rfl
        · exact HF.out c hc
        · exact h)
      have hlt' : (k : Int) < (n : Int) := by omega
      generalize l[k] = r at x0 HA HT
      clear hrec
      by_cases e : r = q
      · have H2 := Lib.hid (HA.out e)
        have hb : (q == r) = true := by simp [e]
        clear HA HT e
        go_wp2
        go_ret
        exact ⟨k, by simp, ⟨fun _ => H2.out, fun _ => by omega⟩, Below.refl _ _⟩
      · have H2 := Lib.hid (HT.out e)
        have hb : (q == r) = false := by simpa using fun h => e h.symm
        clear HA HT e
        go_wp2_with fail
        go_roundw
        case rel => exact ⟨k + 1, by omega, by go_num, by first | rfl | trivial, H2⟩
        case measure => simp [intOf]; omega
    · obtain rfl : k = n := by omega
      have e1 : l.take k = l := by rw [← HN.out]; exact List.take_length
      rw [e1] at HF
      go_wp2
      go_ret
      exact ⟨-1, rfl, ⟨fun h => by omega, fun h => absurd rfl (HF.out q h)⟩, Below.refl _ _⟩
set_option maxHeartbeats 1000000 in
theorem hasN_calls (l : List Int) (v : Value) (q : Int) (hlen : l.length ≤ 100000) (w : World) (row : RowN w v l) :
    Calls Try.prog 48 #[v, .int .i64 q] w fun e w' => e = .returned (.bool (decide (q ∈ l))) ∧ Below w.heap.size w w' := by
  have C := Lib.hid (idxN_calls l v q hlen w row)
  obtain ⟨p, c, rfl⟩ := row.form
  obtain ⟨b, hb⟩ : ∃ b, decide (q ∈ l) = b := ⟨_, rfl⟩
  have HB := Lib.hid hb
  rw [hb]
  clear row hb
  generalize l.length = n at C hlen ⊢
  go_enter Try.func48, Try.ntmps48
  go_wp2_with fail
  refine C.out.mono ?_
  rintro e w1 ⟨r, rfl, hr, hb1⟩
  cases b with
  | true =>
    have h0 : (0 : Int) ≤ r := hr.2 (of_decide_eq_true HB.out)
    clear hr
    go_wp2
    go_ret
    exact ⟨by simp, hb1⟩
  | false =>
    have h0 : ¬ (0 : Int) ≤ r := fun h => of_decide_eq_false HB.out (hr.1 h)
    clear hr
    go_wp2
    go_ret
    exact ⟨by simp; omega, hb1⟩
set_option maxHeartbeats 2000000 in
/-- The first element of which the function says yes, or -1. -/
theorem idxFN_calls (l : List Int) (v : Value) (F : Nat) (fb : Array Value) (P : Int → Bool) (hlen : l.length ≤ 100000) (w : World) (row : RowN w v l) (eg : ∀ args W, (callFunc F args).run Try.prog W = .ok (.enter F args) W)
    (KF : Hid (∀ c ∈ l, ∀ W, Below w.heap.size w W → Calls Try.prog F (#[.int .i64 c] ++ fb) W fun e w' => e = .returned (.bool (P c)) ∧ Below W.heap.size W w')) :
    Calls Try.prog 89 #[v, .func (.func F) #[] fb] w fun e w' => ∃ k : Nat, k ≤ l.length ∧ (∀ c ∈ l.take k, P c = false) ∧ (∀ c, l[k]? = some c → P c = true) ∧ e = .returned (.int .i64 (if k < l.length then (k : Int) else -1)) ∧ Below w.heap.size w w' := by
  obtain ⟨p, c, rfl, hcap, at_⟩ := row.at
  obtain ⟨n, hn⟩ : ∃ n, l.length = n := ⟨_, rfl⟩
  have HN := Lib.hid hn
  have AT := Lib.hid at_
  rw [hn] at hlen ⊢
  clear row at_ hn
  go_enter Try.func89, Try.ntmps89
  go_wp2
  go_loopw [8] (fun i wr => ∃ k : Nat, k ≤ n ∧ i = .int .i64 k ∧ Below w.heap.size w wr ∧ Hid (∀ c ∈ l.take k, P c = false)) (fun i _ => n - (intOf i).toNat)
  case atStart => exact ⟨0, by omega, rfl, Below.refl _ _, Lib.hid (fun c h => by simp at h)⟩
  case round =>
    obtain ⟨k, hk, rfl, hnk, HF⟩ := hrel
    by_cases hlt : k < n
    · have hkl : k < l.length := by rw [HN.out]; exact hlt
      obtain ⟨g, o, rfl, hg, hrec⟩ := AT.out k hkl
      have x0 := intCell (hrec.keep hnk hg)
      have C := KF.out l[k] (List.getElem_mem hkl) wr hnk
      have HA := Lib.hid (show ∀ h : k < l.length, P l[k] = P l[k] from fun _ => rfl)
      have HT := Lib.hid (show P l[k] = false → ∀ c ∈ l.take (k + 1), P c = false from fun h c hc => by
        rw [List.take_succ_eq_append_getElem hkl, List.mem_append, List.mem_singleton] at hc
        rcases hc with hc | rfl
        · exact HF.out c hc
        · exact h)
      have hlt' : (k : Int) < (n : Int) := by omega
      have HR := Lib.hid (show ∃ r, l[k] = r from ⟨_, rfl⟩)
      obtain ⟨r, hr⟩ := HR.out
      have HRR := Lib.hid hr
      rw [hr] at x0 C HT
      clear hr HR HA hrec
      cases hP : P r with
      | true =>
        rw [hP] at C
        go_wp2_with (go_at_fn F; refine C.mono ?_; rintro e w1 ⟨rfl, hb1⟩)
        go_ret
        exact ⟨k, by omega, HF.out, fun d hd => by rw [← HRR.out] at hP; rw [List.getElem?_eq_getElem hkl] at hd; injection hd with hd; rw [← hd]; exact hP, by rw [if_pos hlt]; rfl, thenBelow hnk hb1⟩
      | false =>
        rw [hP] at C
        go_wp2_with (go_at_fn F; refine C.mono ?_; rintro e w1 ⟨rfl, hb1⟩)
        have hn1 := thenBelow hnk hb1
        go_roundw
        case rel => exact ⟨k + 1, by omega, by go_num, hn1, Lib.hid (HT.out hP)⟩
        case measure => simp [intOf]; omega
    · obtain rfl : k = n := by omega
      go_wp2
      go_ret
      exact ⟨k, Nat.le_refl _, HF.out, (fun d hd => by rw [List.getElem?_eq_none (by rw [HN.out]; exact Nat.le_refl _)] at hd; cases hd), by rw [if_neg (Nat.lt_irrefl _)]; rfl, hnk⟩
set_option maxHeartbeats 2000000 in
set_option maxRecDepth 100000 in
theorem cloneN_calls (l : List Int) (v : Value) (hlen : l.length ≤ 100000) (hne : l ≠ []) (w : World) (row : RowN w v l) :
    Calls Try.prog 65 #[v] w fun e w' => ∃ u, e = .returned u ∧ OwnN w' w.heap.size u l ∧ Below w.heap.size w w' := by
  obtain ⟨i0, hii, hz0, hz1, hz2⟩ := info_parts info_int
  obtain ⟨p, c, rfl, _, at_⟩ := row.at
  obtain ⟨g, o, rfl, _, _⟩ := at_ 0 (List.length_pos_iff.2 hne)
  have R := Lib.hid row
  clear row at_
  have hby : (0 + l.length) * 8 ≤ 140737488355328 := by omega
  have h63 : 0 + l.length ≤ maxLen := by unfold maxLen; omega
  have qn : ∀ (w : World) (a : Option Addr) (n c n' c' : Nat), (binOp .eql 41 (.slice a n c) (.slice none n' c')).run Try.prog w = .ok (.bool a.isNone) w := fun w a n c n' c' => Go.Lib.run_eql_slice_nil w _ _ a n c n' c' Try.underlying41
  have bA := (Below.refl w.heap.size w).alloc (Nat.le_refl _) (.cells #[] 3)
  go_enter Try.func65, Try.ntmps65
  go_wp2_with (at_builtin; refine wpList_append_any rfl _ _ 41 rfl w.heap.size 3 i0 _ 8 Try.underlying41 hii hz0 hz1 hz2 rfl (by decide) ics_len ics_one _ 0 [] rfl (World.ownsRow_made w #[] 0 (Nat.le_refl _) (Nat.zero_le _) rfl) _ l rfl (R.out.keep bA) hby h63 (by simp) ?_; intro v6 w6 ho6 hb6)
  have O6 : Hid (OwnN w6 w.heap.size v6 l) := Lib.hid (by have := ho6; rw [Nat.zero_add, List.nil_append] at this; exact this)
  have b6 := bA.trans hb6
  clear ho6 hb6
  go_wp2
  go_ret
  exact ⟨_, by simp, O6.out, b6⟩
end Go.Proofs.Ytgajepmnklbmpaa
/-
  slices.DeleteFunc of ints.
-/
namespace Go.Proofs.Ytgajepmnklbmpaa
open Go.RowKit Go.Lib
set_option linter.unusedVariables false
set_option linter.unusedSimpArgs false
theorem rowN_map : ∀ (L : List Int), rowOf ics L = L.map (Value.int .i64)
  | [] => rfl
  | x :: t => by
    have := rowN_map t
    show ics x ++ rowOf ics t = _
    rw [this]; rfl
theorem rowN_set (L : List Int) (i : Nat) (z : Int) : rowOf ics (L.set i z) = (rowOf ics L).set i (.int .i64 z) := by rw [rowN_map, rowN_map, List.map_set]
theorem rowN_len (L : List Int) : (rowOf ics L).length = L.length := by rw [rowN_map, List.length_map]
theorem rowN_at (L : List Int) {i : Nat} (h : i < L.length) : (rowOf ics L)[i]? = some (.int .i64 L[i]) := by rw [rowN_map, List.getElem?_map, List.getElem?_eq_getElem h]; rfl
theorem drop_at {α : Type} {L l : List α} {j : Nat} (h : L.drop j = l.drop j) (h1 : j < L.length) (h2 : j < l.length) : L[j] = l[j] := by
  have := congrArg (fun t => t[0]?) h
  simp only [List.getElem?_drop, Nat.add_zero, List.getElem?_eq_getElem h1, List.getElem?_eq_getElem h2, Option.some.injEq] at this
  exact this
theorem owns_thaw {w : World} {base size g n cap m : Nat} {e : TypeId} {xs : List Value} (h : w.ownsRow base e size (.slice (some ⟨g, 0, none⟩) m cap) n xs) (j : Nat) : w.frozen? ⟨g, j, none⟩ = false := by
  rcases h.2 with ⟨hv, _⟩ | ⟨g', cap', cur, hv, hb, hg, _⟩
  · cases hv
  · cases hv
    simp [World.frozen?, hg]
theorem zc_one (n : Nat) : ∀ v ∈ (Builtin.zeroCells (Value.int .i64 0).cells n).toList, v.oneCell' = true := by
  intro v hv
  simp only [Builtin.zeroCells, Array.toList_map, List.mem_map] at hv
  obtain ⟨i, _, rfl⟩ := hv
  have h1 : (Value.int IntKind.i64 0).cells = #[Value.int .i64 0] := rfl
  rw [h1]
  have h2 : i % (#[Value.int IntKind.i64 0] : Array Value).size = 0 := Nat.mod_one i
  rw [h2]; rfl
theorem zc_len (n : Nat) : (Builtin.zeroCells (Value.int .i64 0).cells n).toList.length = n := by
  rw [Array.length_toList, size_zeroCells]
  show n * 1 = n
  omega
theorem zero_int (w : World) : (zeroValue 3).run Try.prog w = .ok (.int .i64 0) w := Try.zeroValue3 w
set_option maxHeartbeats 4000000 in
set_option maxRecDepth 100000 in
theorem delN_calls (l : List Int) (v : Value) (base F : Nat) (fb : Array Value) (P : Int → Bool) (hlen : l.length ≤ 100000) (w : World) (own : OwnN w base v l) (hbw : base ≤ w.heap.size) (eg : ∀ args W, (callFunc F args).run Try.prog W = .ok (.enter F args) W)
    (KF : Hid (∀ c ∈ l, ∀ W, Below base w W → Calls Try.prog F (#[.int .i64 c] ++ fb) W fun e w' => e = .returned (.bool (P c)) ∧ Below W.heap.size W w')) :
    Calls Try.prog 64 #[v, .func (.func F) #[] fb] w fun e w' => ∃ u, e = .returned u ∧ OwnN w' base u (l.filter fun c => !P c) ∧ Below base w w' := by
  have IX := Lib.hid (idxFN_calls l v F fb P hlen w own.row eg (Lib.hid fun c hc W hW => KF.out c hc W (hW.mono hbw)))
  have OW := Lib.hid own
  rcases own.2 with ⟨rfl, h0⟩ | ⟨g, cap, cur, rfl, hbg, hg, hnc, hcm, hcs, htake⟩
  · obtain rfl : l = [] := List.eq_nil_of_length_eq_zero h0
    clear KF own
    go_enter Try.func64, Try.ntmps64
    go_wp2_with fail
    refine IX.out.mono ?_
    rintro e w1 ⟨k, hk, hf, ht, rfl, hb1⟩
    rw [if_neg (by simp)]
    go_wp2
    go_ret
    exact ⟨_, rfl, World.ownsRow_nil _ _ _ _, hb1.mono hbw⟩
  · clear own hg hcs htake cur
    obtain ⟨n, hn⟩ : ∃ n, l.length = n := ⟨_, rfl⟩
    have HN := Lib.hid hn
    rw [hn] at hnc hlen OW IX ⊢
    clear hn
    go_enter Try.func64, Try.ntmps64
    go_wp2_with fail
    refine IX.out.mono ?_
    rintro e w1 ⟨k, hk, hf, ht, rfl, hb1⟩
    have b1 : Below base w w1 := hb1.mono hbw
    have O1 : Hid (w1.ownsRow base 3 1 (.slice (some ⟨g, 0, none⟩) n cap) n (rowOf ics l)) := Lib.hid (by have := ownsKeep OW.out hb1; rw [HN.out] at this; exact this)
    clear hb1 IX OW
    by_cases hkn : k < n
    · rw [if_pos hkn]
      have HT := Lib.hid (ht _ (List.getElem?_eq_getElem (by rw [HN.out]; exact hkn)))
      have HF := Lib.hid hf
      have hk1 : ¬ (k : Int) = -1 := by omega
      have hkb : ((k : Int) == -1) = false := by simp
      clear hf ht hk
      go_wp2_with fail
      go_loopw [5, 6] (fun a b wr => ∃ (i j : Nat) (L : List Int), i < j ∧ j ≤ n ∧ a = .int .i64 i ∧ b = .int .i64 j ∧ Below base w wr ∧ Hid (wr.ownsRow base 3 1 (.slice (some ⟨g, 0, none⟩) n cap) n (rowOf ics L)) ∧ Hid (L.length = n ∧ L.take i = (l.take j).filter (fun c => !P c) ∧ L.drop j = l.drop j)) (fun _ j _ => n - (intOf j).toNat)
      case atStart =>
        have hkl : k < l.length := by rw [HN.out]; exact hkn
        refine ⟨k, k + 1, l, by omega, by omega, rfl, by go_num, b1, O1, Lib.hid ⟨HN.out, ?_, rfl⟩⟩
        rw [List.take_succ_eq_append_getElem hkl, List.filter_append, List.filter_eq_self.2 (fun c hc => by rw [HF.out c hc]; rfl)]
        simp [HT.out]
      case round =>
        clear b1 O1
        obtain ⟨i, j, L, hij, hj, rfl, rfl, bw, O, HL⟩ := hrel
        by_cases hlt : j < n
        · have hjL : j < L.length := by rw [HL.out.1]; exact hlt
          have hjl : j < l.length := by rw [HN.out]; exact hlt
          have x0 : wr.cell? ⟨g, j, none⟩ = some (.int .i64 l[j]) := owns_cellAt O.out j _ (by rw [rowN_at L hjL, drop_at HL.out.2.2 hjL hjl])
          have C := Lib.hid (KF.out l[j] (List.getElem_mem hjl) wr bw)
          have HR := Lib.hid (show ∃ r, l[j] = r from ⟨_, rfl⟩)
          obtain ⟨r, hr⟩ := HR.out
          have HRR := Lib.hid hr
          rw [hr] at x0 C
          have hlt' : (j : Int) < (n : Int) := by omega
          clear hr HR
          cases hP : P r with
          | true =>
            rw [hP] at C
            have H2 : Hid (L.length = n ∧ L.take i = (l.take (j + 1)).filter (fun c => !P c) ∧ L.drop (j + 1) = l.drop (j + 1)) := Lib.hid ⟨HL.out.1, by
              rw [List.take_succ_eq_append_getElem hjl, List.filter_append, HRR.out, HL.out.2.1]; simp [hP], by
              rw [← List.drop_drop, ← List.drop_drop, HL.out.2.2]⟩
            clear HL
            go_wp2_with (go_at_fn F; refine C.out.mono ?_; rintro e w2 ⟨rfl, hb2⟩)
            have bw2 := bw.trans (hb2.mono (Nat.le_trans hbw bw.size))
            have O2 : Hid (w2.ownsRow base 3 1 (.slice (some ⟨g, 0, none⟩) n cap) n (rowOf ics L)) := Lib.hid (ownsKeep O.out hb2)
            go_roundw
            case rel => exact ⟨i, j + 1, L, by omega, by omega, rfl, by go_num, bw2, O2, H2⟩
            case measure => simp [intOf]; omega
          | false =>
            rw [hP] at C
            have hiL : i < L.length := by rw [HL.out.1]; omega
            have H2 : Hid ((L.set i r).length = n ∧ (L.set i r).take (i + 1) = (l.take (j + 1)).filter (fun c => !P c) ∧ (L.set i r).drop (j + 1) = l.drop (j + 1)) := Lib.hid ⟨by rw [List.length_set]; exact HL.out.1, by
              rw [List.take_succ_eq_append_getElem (by rw [List.length_set]; exact hiL), List.getElem_set_self, List.take_set_of_le (Nat.le_refl _), HL.out.2.1, List.take_succ_eq_append_getElem hjl, List.filter_append, HRR.out]; simp [hP], by
              rw [List.drop_set_of_lt (by omega), ← List.drop_drop, ← List.drop_drop, HL.out.2.2]⟩
            have HI := Lib.hid (show ∃ z, L[i] = z from ⟨_, rfl⟩)
            obtain ⟨z, hz⟩ := HI.out
            have HZ := Lib.hid (show (rowOf ics L)[i]? = some (.int .i64 z) by rw [rowN_at L hiL, hz])
            have hin : i < n := by rw [← HL.out.1]; exact hiL
            have hin' : (i : Int) < (n : Int) := by omega
            clear HL HI hz
            go_wp2_with (go_at_fn F; refine C.out.mono ?_; rintro e w2 ⟨rfl, hb2⟩; have O2 : Hid (w2.ownsRow base 3 1 (.slice (some ⟨g, 0, none⟩) n cap) n (rowOf ics L)) := Lib.hid (ownsKeep O.out hb2); have y0 : w2.cell? ⟨g, i, none⟩ = some (.int .i64 z) := owns_cellAt O2.out i _ HZ.out; have y1 : w2.frozen? ⟨g, i, none⟩ = false := owns_thaw O2.out i)
            have bw2 := (bw.trans (hb2.mono (Nat.le_trans hbw bw.size))).setCell (p := ⟨g, i, none⟩) hbg (.int .i64 r)
            have O3 : Hid ((w2.setCell ⟨g, i, none⟩ (.int .i64 r)).ownsRow base 3 1 (.slice (some ⟨g, 0, none⟩) n cap) n (rowOf ics (L.set i r))) := Lib.hid (by rw [rowN_set]; exact ownsRow_set O2.out i _)
            go_roundw
            case rel => exact ⟨i + 1, j + 1, L.set i r, by omega, by omega, by go_num, by go_num, bw2, O3, H2⟩
            case measure => simp [intOf]; omega
        · obtain rfl : j = n := by omega
          have H2 : Hid (L.length = j ∧ L.take i = l.filter (fun c => !P c)) := Lib.hid ⟨HL.out.1, by have := HL.out.2.1; rwa [show l.take j = l by rw [← HN.out]; exact List.take_length] at this⟩
          rcases O.out.2 with ⟨hv, _⟩ | ⟨g', cap', cur, hv, _, hg, _, _, hcs, htake⟩
          · cases hv
          · injection hv with e1 e2 e3
            injection e1 with e1
            injection e1 with e1
            subst e1
            subst e3
            clear HL e2
            have hil : i < j := hij
            have hjc : j ≤ cap := hnc
            obtain ⟨C, hC⟩ : ∃ C, (cur.toList.take i ++ (Builtin.zeroCells (Value.int .i64 0).cells (j - i)).toList ++ cur.toList.drop (i + (Builtin.zeroCells (Value.int .i64 0).cells (j - i)).toList.length)) = C := ⟨_, rfl⟩
            have hcl : C.length = cap := by
              rw [← hC, List.length_append, List.length_append, List.length_take, List.length_drop, zc_len, Array.length_toList]; omega
            have hct : C.take i = rowOf ics (L.take i) := by
              have h1 : (cur.toList.take i).length = i := by rw [List.length_take, Array.length_toList]; omega
              rw [← hC, List.append_assoc, List.take_append_of_le_length (by omega), List.take_of_length_le (by omega), rowN_map, List.map_take, ← rowN_map, ← htake, List.take_take, Nat.min_eq_left (by omega)]
            have hclr : ∀ ty, (Builtin.clear_ #[41] ty #[.slice (some ⟨g, i, none⟩) (j - i) (cap - i)]).run Try.prog wr = .ok (.tuple #[]) (wr.setRow g C.toArray) := fun ty => by
              have h := run_clear_rowK (P := Try.prog) wr 41 ty 3 _ g i (j - i) (cap - i) cur 3 Try.underlying41 zero_int hg (by omega) (by rw [zc_len]; omega) (zc_one _)
              rw [hC] at h
              exact h
            have hW : (wr.setRow g C.toArray).heap[g]? = some (.cells C.toArray 3 (0, 0)) := setRow_heap wr g cur _ 3 _ hg
            have hfl : Hid ((l.filter (fun c => !P c)).length = i) := Lib.hid (by rw [← H2.out.2, List.length_take, H2.out.1]; omega)
            have HCT := Lib.hid hct
            have HCL := Lib.hid hcl
            have HCR := Lib.hid hclr
            have HWW := Lib.hid hW
            have hcap0 : (i : Int) ≤ (cap : Int) := by omega
            have hcap1 : (i : Int) ≤ (j : Int) := by omega
            have hcap2 : (j : Int) ≤ (cap : Int) := by omega
            have hk1 : i ≤ cap := by omega
            have hi0 : (0 : Int) ≤ (i : Int) := by omega
            have hne : ¬ cap = i := by omega
            have hij2 : i ≤ j := by omega
            clear hC hcl hct hclr hW O hg hcs htake
            have hcr0 := HCR.out 0
            go_wp2_with fail
            go_ret
            refine ⟨_, rfl, ?_, ?_⟩
            · refine ⟨by rw [rowN_len, Nat.mul_one], .inr ⟨g, cap, C.toArray, by rw [hfl.out]; (first | done | rfl), hbg, HWW.out, by rw [hfl.out]; omega, hcm, by rw [List.size_toArray, HCL.out, Nat.mul_one], ?_⟩⟩
              rw [hfl.out, List.toList_toArray, Nat.mul_one, HCT.out, H2.out.2]
            · exact bw.trans ⟨rfl, rfl, rfl, by simp, fun k hk => setRow_other _ g k _ (by omega)⟩
    · obtain rfl : k = n := by omega
      rw [if_neg (Nat.lt_irrefl _)]
      have HF : Hid (l.filter (fun c => !P c) = l) := Lib.hid (List.filter_eq_self.2 fun c hc => by rw [hf c (by rw [← HN.out, List.take_length]; exact hc)]; rfl)
      clear hf ht hk
      go_wp2
      go_ret
      exact ⟨_, rfl, by rw [HF.out]; have := O1.out; rw [← HN.out] at this; unfold OwnN; rw [HN.out] at this ⊢; exact this, b1⟩
end Go.Proofs.Ytgajepmnklbmpaa
