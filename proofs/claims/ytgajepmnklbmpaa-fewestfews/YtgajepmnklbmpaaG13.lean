/-
  Laid together: FwA, FwC, FwB, FwE.
-/
import Derived.Test.YtgajepmnklbmpaaConcatR
import Derived.Test.YtgajepmnklbmpaaG5
import Derived.Deep.QuietTactic
import Derived.Test.YtgajepmnklbmpaaG7
import Derived.Test.YtgajepmnklbmpaaG9
import Derived.Test.YtgajepmnklbmpaaG16
/-
  Slices of ints: slices.Index, Contains, IndexFunc, Clone.
-/
namespace Go.Proofs.Ytgajepmnklbmpaa
open Go.RowKit
set_option linter.unusedVariables false
set_option linter.unusedSimpArgs false
def ics (i : Int) : List Value := [.int .i64 i]
theorem ics_len (i : Int) : (ics i).length = 1 := rfl
theorem ics_one (i : Int) : ∀ u ∈ ics i, u.oneCell' = true := by intro u hu; simp [ics] at hu; subst hu; rfl
abbrev RowN (w : World) (v : Value) (l : List Int) : Prop := RowK ics 1 w v l
abbrev OwnN (w : World) (base : Nat) (v : Value) (l : List Int) : Prop := w.ownsRow base 3 1 v l.length (rowOf ics l)
theorem OwnN.row {w : World} {base : Nat} {v : Value} {l : List Int} (h : OwnN w base v l) : RowN w v l := RowK.owned ics_len h
theorem intCell {w : World} {g o k : Nat} {z : Int} (h : RecAt w g (o + k * 1) (ics z)) : w.cell? ⟨g, o + k, none⟩ = some (.int .i64 z) := by
  have := h 0 _ rfl
  simpa using this
set_option maxHeartbeats 2000000 in
theorem idxN_calls (l : List Int) (v : Value) (q : Int) (hlen : l.length ≤ 100000) (w : World) (row : RowN w v l) :
    Calls Try.prog 68 #[v, .int .i64 q] w fun e w' => ∃ r : Int, e = .returned (.int .i64 r) ∧ (0 ≤ r ↔ q ∈ l) ∧ Below w.heap.size w w' := by
  obtain ⟨p, c, rfl, hcap, at_⟩ := row.at
  obtain ⟨n, hn⟩ : ∃ n, l.length = n := ⟨_, rfl⟩
  have HN := Lib.hid hn
  have AT := Lib.hid at_
  rw [hn] at hlen ⊢
  clear row at_ hn
  go_enter Try.func68, Try.ntmps68
  go_wp2
  go_loopw [8] (fun i wr => ∃ k : Nat, k ≤ n ∧ i = .int .i64 k ∧ wr = w ∧ Hid (∀ c ∈ l.take k, c ≠ q)) (fun i _ => n - (intOf i).toNat)
  case atStart => exact ⟨0, by omega, rfl, rfl, Lib.hid (fun c h => by simp at h)⟩
  case round =>
    obtain ⟨k, hk, rfl, rfl, HF⟩ := hrel
    by_cases hlt : k < n
    · have hkl : k < l.length := by rw [HN.out]; exact hlt
      obtain ⟨g, o, rfl, hg, hrec⟩ := AT.out k hkl
      have x0 := intCell hrec
      have HA := Lib.hid (show l[k] = q → q ∈ l from fun h => by rw [← h]; exact List.getElem_mem hkl)
      have HT := Lib.hid (show l[k] ≠ q → ∀ c ∈ l.take (k + 1), c ≠ q from fun h c hc => by
        rw [List.take_succ_eq_append_getElem hkl, List.mem_append, List.mem_singleton] at hc
        rcases hc with hc | rfl
        · exact HF.out c hc
        · exact h)
      have hlt' : (k : Int) < (n : Int) := by omega
      generalize l[k] = r at x0 HA HT
      clear hrec
      by_cases e : r = q
      · have H2 := Lib.hid (HA.out e)
        have hb : (q == r) = true := by simp [e]
        clear HA HT e
        go_wp2
        go_ret
        exact ⟨k, by simp, ⟨fun _ => H2.out, fun _ => by omega⟩, Below.refl _ _⟩
      · have H2 := Lib.hid (HT.out e)
        have hb : (q == r) = false := by simpa using fun h => e h.symm
        clear HA HT e
        go_wp2_with fail
        go_roundw
        case rel => exact ⟨k + 1, by omega, by go_num, by first | rfl | trivial, H2⟩
        case measure => simp [intOf]; omega
    · obtain rfl : k = n := by omega
      have e1 : l.take k = l := by rw [← HN.out]; exact List.take_length
      rw [e1] at HF
      go_wp2
      go_ret
      exact ⟨-1, rfl, ⟨fun h => by omega, fun h => absurd rfl (HF.out q h)⟩, Below.refl _ _⟩
set_option maxHeartbeats 1000000 in
theorem hasN_calls (l : List Int) (v : Value) (q : Int) (hlen : l.length ≤ 100000) (w : World) (row : RowN w v l) :
    Calls Try.prog 48 #[v, .int .i64 q] w fun e w' => e = .returned (.bool (decide (q ∈ l))) ∧ Below w.heap.size w w' := by
  have C := Lib.hid (idxN_calls l v q hlen w row)
  obtain ⟨p, c, rfl⟩ := row.form
  obtain ⟨b, hb⟩ : ∃ b, decide (q ∈ l) = b := ⟨_, rfl⟩
  have HB := Lib.hid hb
  rw [hb]
  clear row hb
  generalize l.length = n at C hlen ⊢
  go_enter Try.func48, Try.ntmps48
  go_wp2_with fail
  refine C.out.mono ?_
  rintro e w1 ⟨r, rfl, hr, hb1⟩
  cases b with
  | true =>
    have h0 : (0 : Int) ≤ r := hr.2 (of_decide_eq_true HB.out)
    clear hr
    go_wp2
    go_ret
    exact ⟨by simp, hb1⟩
  | false =>
    have h0 : ¬ (0 : Int) ≤ r := fun h => of_decide_eq_false HB.out (hr.1 h)
    clear hr
    go_wp2
    go_ret
    exact ⟨by simp; omega, hb1⟩
set_option maxHeartbeats 2000000 in
/-- The first element of which the function says yes, or -1. -/
theorem idxFN_calls (l : List Int) (v : Value) (F : Nat) (fb : Array Value) (P : Int → Bool) (hlen : l.length ≤ 100000) (w : World) (row : RowN w v l) (eg : ∀ args W, (callFunc F args).run Try.prog W = .ok (.enter F args) W)
    (KF : Hid (∀ c ∈ l, ∀ W, Below w.heap.size w W → Calls Try.prog F (#[.int .i64 c] ++ fb) W fun e w' => e = .returned (.bool (P c)) ∧ Below W.heap.size W w')) :
    Calls Try.prog 89 #[v, .func (.func F) #[] fb] w fun e w' => ∃ k : Nat, k ≤ l.length ∧ (∀ c ∈ l.take k, P c = false) ∧ (∀ c, l[k]? = some c → P c = true) ∧ e = .returned (.int .i64 (if k < l.length then (k : Int) else -1)) ∧ Below w.heap.size w w' := by
  obtain ⟨p, c, rfl, hcap, at_⟩ := row.at
  obtain ⟨n, hn⟩ : ∃ n, l.length = n := ⟨_, rfl⟩
  have HN := Lib.hid hn
  have AT := Lib.hid at_
  rw [hn] at hlen ⊢
  clear row at_ hn
  go_enter Try.func89, Try.ntmps89
  go_wp2
  go_loopw [8] (fun i wr => ∃ k : Nat, k ≤ n ∧ i = .int .i64 k ∧ Below w.heap.size w wr ∧ Hid (∀ c ∈ l.take k, P c = false)) (fun i _ => n - (intOf i).toNat)
  case atStart => exact ⟨0, by omega, rfl, Below.refl _ _, Lib.hid (fun c h => by simp at h)⟩
  case round =>
    obtain ⟨k, hk, rfl, hnk, HF⟩ := hrel
    by_cases hlt : k < n
    · have hkl : k < l.length := by rw [HN.out]; exact hlt
      obtain ⟨g, o, rfl, hg, hrec⟩ := AT.out k hkl
      have x0 := intCell (hrec.keep hnk hg)
      have C := KF.out l[k] (List.getElem_mem hkl) wr hnk
      have HA := Lib.hid (show ∀ h : k < l.length, P l[k] = P l[k] from fun _ => rfl)
      have HT := Lib.hid (show P l[k] = false → ∀ c ∈ l.take (k + 1), P c = false from fun h c hc => by
        rw [List.take_succ_eq_append_getElem hkl, List.mem_append, List.mem_singleton] at hc
        rcases hc with hc | rfl
        · exact HF.out c hc
        · exact h)
      have hlt' : (k : Int) < (n : Int) := by omega
      have HR := Lib.hid (show ∃ r, l[k] = r from ⟨_, rfl⟩)
      obtain ⟨r, hr⟩ := HR.out
      have HRR := Lib.hid hr
      rw [hr] at x0 C HT
      clear hr HR HA hrec
      cases hP : P r with
      | true =>
        rw [hP] at C
        go_wp2_with (go_at_fn F; refine C.mono ?_; rintro e w1 ⟨rfl, hb1⟩)
        go_ret
        exact ⟨k, by omega, HF.out, fun d hd => by rw [← HRR.out] at hP; rw [List.getElem?_eq_getElem hkl] at hd; injection hd with hd; rw [← hd]; exact hP, by rw [if_pos hlt]; rfl, thenBelow hnk hb1⟩
      | false =>
        rw [hP] at C
        go_wp2_with (go_at_fn F; refine C.mono ?_; rintro e w1 ⟨rfl, hb1⟩)
        have hn1 := thenBelow hnk hb1
        go_roundw
        case rel => exact ⟨k + 1, by omega, by go_num, hn1, Lib.hid (HT.out hP)⟩
        case measure => simp [intOf]; omega
    · obtain rfl : k = n := by omega
      go_wp2
      go_ret
      exact ⟨k, Nat.le_refl _, HF.out, (fun d hd => by rw [List.getElem?_eq_none (by rw [HN.out]; exact Nat.le_refl _)] at hd; cases hd), by rw [if_neg (Nat.lt_irrefl _)]; rfl, hnk⟩
set_option maxHeartbeats 2000000 in
set_option maxRecDepth 100000 in
theorem cloneN_calls (l : List Int) (v : Value) (hlen : l.length ≤ 100000) (hne : l ≠ []) (w : World) (row : RowN w v l) :
    Calls Try.prog 65 #[v] w fun e w' => ∃ u, e = .returned u ∧ OwnN w' w.heap.size u l ∧ Below w.heap.size w w' := by
  obtain ⟨i0, hii, hz0, hz1, hz2⟩ := info_parts info_int
  obtain ⟨p, c, rfl, _, at_⟩ := row.at
  obtain ⟨g, o, rfl, _, _⟩ := at_ 0 (List.length_pos_iff.2 hne)
  have R := Lib.hid row
  clear row at_
  have hby : (0 + l.length) * 8 ≤ 140737488355328 := by omega
  have h63 : 0 + l.length ≤ maxLen := by unfold maxLen; omega
  have qn : ∀ (w : World) (a : Option Addr) (n c n' c' : Nat), (binOp .eql 41 (.slice a n c) (.slice none n' c')).run Try.prog w = .ok (.bool a.isNone) w := fun w a n c n' c' => Go.Lib.run_eql_slice_nil w _ _ a n c n' c' Try.underlying41
  have bA := (Below.refl w.heap.size w).alloc (Nat.le_refl _) (.cells #[] 3)
  go_enter Try.func65, Try.ntmps65
  go_wp2_with (at_builtin; refine wpList_append_any rfl _ _ 41 rfl w.heap.size 3 i0 _ 8 Try.underlying41 hii hz0 hz1 hz2 rfl (by decide) ics_len ics_one _ 0 [] rfl (World.ownsRow_made w #[] 0 (Nat.le_refl _) (Nat.zero_le _) rfl) _ l rfl (R.out.keep bA) hby h63 (by simp) ?_; intro v6 w6 ho6 hb6)
  have O6 : Hid (OwnN w6 w.heap.size v6 l) := Lib.hid (by have := ho6; rw [Nat.zero_add, List.nil_append] at this; exact this)
  have b6 := bA.trans hb6
  clear ho6 hb6
  go_wp2
  go_ret
  exact ⟨_, by simp, O6.out, b6⟩
end Go.Proofs.Ytgajepmnklbmpaa
/-
  slices.DeleteFunc of ints.
-/
namespace Go.Proofs.Ytgajepmnklbmpaa
open Go.RowKit Go.Lib
set_option linter.unusedVariables false
set_option linter.unusedSimpArgs false
theorem rowN_map : ∀ (L : List Int), rowOf ics L = L.map (Value.int .i64)
  | [] => rfl
  | x :: t => by
    have := rowN_map t
    show ics x ++ rowOf ics t = _
    rw [this]; rfl
theorem rowN_set (L : List Int) (i : Nat) (z : Int) : rowOf ics (L.set i z) = (rowOf ics L).set i (.int .i64 z) := by rw [rowN_map, rowN_map, List.map_set]
theorem rowN_len (L : List Int) : (rowOf ics L).length = L.length := by rw [rowN_map, List.length_map]
theorem rowN_at (L : List Int) {i : Nat} (h : i < L.length) : (rowOf ics L)[i]? = some (.int .i64 L[i]) := by rw [rowN_map, List.getElem?_map, List.getElem?_eq_getElem h]; rfl
theorem drop_at {α : Type} {L l : List α} {j : Nat} (h : L.drop j = l.drop j) (h1 : j < L.length) (h2 : j < l.length) : L[j] = l[j] := by
  have := congrArg (fun t => t[0]?) h
  simp only [List.getElem?_drop, Nat.add_zero, List.getElem?_eq_getElem h1, List.getElem?_eq_getElem h2, Option.some.injEq] at this
  exact this
theorem owns_thaw {w : World} {base size g n cap m : Nat} {e : TypeId} {xs : List Value} (h : w.ownsRow base e size (.slice (some ⟨g, 0, none⟩) m cap) n xs) (j : Nat) : w.frozen? ⟨g, j, none⟩ = false := by
  rcases h.2 with ⟨hv, _⟩ | ⟨g', cap', cur, hv, hb, hg, _⟩
  · cases hv
  · cases hv
    simp [World.frozen?, hg]
theorem zc_one (n : Nat) : ∀ v ∈ (Builtin.zeroCells (Value.int .i64 0).cells n).toList, v.oneCell' = true := by
  intro v hv
  simp only [Builtin.zeroCells, Array.toList_map, List.mem_map] at hv
  obtain ⟨i, _, rfl⟩ := hv
  have h1 : (Value.int IntKind.i64 0).cells = #[Value.int .i64 0] := rfl
  rw [h1]
  have h2 : i % (#[Value.int IntKind.i64 0] : Array Value).size = 0 := Nat.mod_one i
  rw [h2]; rfl
theorem zc_len (n : Nat) : (Builtin.zeroCells (Value.int .i64 0).cells n).toList.length = n := by
  rw [Array.length_toList, size_zeroCells]
  show n * 1 = n
  omega
theorem zero_int (w : World) : (zeroValue 3).run Try.prog w = .ok (.int .i64 0) w := Try.zeroValue3 w
set_option maxHeartbeats 4000000 in
set_option maxRecDepth 100000 in
theorem delN_calls (l : List Int) (v : Value) (base F : Nat) (fb : Array Value) (P : Int → Bool) (hlen : l.length ≤ 100000) (w : World) (own : OwnN w base v l) (hbw : base ≤ w.heap.size) (eg : ∀ args W, (callFunc F args).run Try.prog W = .ok (.enter F args) W)
    (KF : Hid (∀ c ∈ l, ∀ W, Below base w W → Calls Try.prog F (#[.int .i64 c] ++ fb) W fun e w' => e = .returned (.bool (P c)) ∧ Below W.heap.size W w')) :
    Calls Try.prog 64 #[v, .func (.func F) #[] fb] w fun e w' => ∃ u, e = .returned u ∧ OwnN w' base u (l.filter fun c => !P c) ∧ Below base w w' := by
  have IX := Lib.hid (idxFN_calls l v F fb P hlen w own.row eg (Lib.hid fun c hc W hW => KF.out c hc W (hW.mono hbw)))
  have OW := Lib.hid own
  rcases own.2 with ⟨rfl, h0⟩ | ⟨g, cap, cur, rfl, hbg, hg, hnc, hcm, hcs, htake⟩
  · obtain rfl : l = [] := List.eq_nil_of_length_eq_zero h0
    clear KF own
    go_enter Try.func64, Try.ntmps64
    go_wp2_with fail
    refine IX.out.mono ?_
    rintro e w1 ⟨k, hk, hf, ht, rfl, hb1⟩
    rw [if_neg (by simp)]
    go_wp2
    go_ret
    exact ⟨_, rfl, World.ownsRow_nil _ _ _ _, hb1.mono hbw⟩
  · clear own hg hcs htake cur
    obtain ⟨n, hn⟩ : ∃ n, l.length = n := ⟨_, rfl⟩
    have HN := Lib.hid hn
    rw [hn] at hnc hlen OW IX ⊢
    clear hn
    go_enter Try.func64, Try.ntmps64
    go_wp2_with fail
    refine IX.out.mono ?_
    rintro e w1 ⟨k, hk, hf, ht, rfl, hb1⟩
    have b1 : Below base w w1 := hb1.mono hbw
    have O1 : Hid (w1.ownsRow base 3 1 (.slice (some ⟨g, 0, none⟩) n cap) n (rowOf ics l)) := Lib.hid (by have := ownsKeep OW.out hb1; rw [HN.out] at this; exact this)
    clear hb1 IX OW
    by_cases hkn : k < n
    · rw [if_pos hkn]
      have HT := Lib.hid (ht _ (List.getElem?_eq_getElem (by rw [HN.out]; exact hkn)))
      have HF := Lib.hid hf
      have hk1 : ¬ (k : Int) = -1 := by omega
      have hkb : ((k : Int) == -1) = false := by simp
      clear hf ht hk
      go_wp2_with fail
      go_loopw [5, 6] (fun a b wr => ∃ (i j : Nat) (L : List Int), i < j ∧ j ≤ n ∧ a = .int .i64 i ∧ b = .int .i64 j ∧ Below base w wr ∧ Hid (wr.ownsRow base 3 1 (.slice (some ⟨g, 0, none⟩) n cap) n (rowOf ics L)) ∧ Hid (L.length = n ∧ L.take i = (l.take j).filter (fun c => !P c) ∧ L.drop j = l.drop j)) (fun _ j _ => n - (intOf j).toNat)
      case atStart =>
        have hkl : k < l.length := by rw [HN.out]; exact hkn
        refine ⟨k, k + 1, l, by omega, by omega, rfl, by go_num, b1, O1, Lib.hid ⟨HN.out, ?_, rfl⟩⟩
        rw [List.take_succ_eq_append_getElem hkl, List.filter_append, List.filter_eq_self.2 (fun c hc => by rw [HF.out c hc]; rfl)]
        simp [HT.out]
      case round =>
        clear b1 O1
        obtain ⟨i, j, L, hij, hj, rfl, rfl, bw, O, HL⟩ := hrel
        by_cases hlt : j < n
        · have hjL : j < L.length := by rw [HL.out.1]; exact hlt
          have hjl : j < l.length := by rw [HN.out]; exact hlt
          have x0 : wr.cell? ⟨g, j, none⟩ = some (.int .i64 l[j]) := owns_cellAt O.out j _ (by rw [rowN_at L hjL, drop_at HL.out.2.2 hjL hjl])
          have C := Lib.hid (KF.out l[j] (List.getElem_mem hjl) wr bw)
          have HR := Lib.hid (show ∃ r, l[j] = r from ⟨_, rfl⟩)
          obtain ⟨r, hr⟩ := HR.out
          have HRR := Lib.hid hr
          rw [hr] at x0 C
          have hlt' : (j : Int) < (n : Int) := by omega
          clear hr HR
          cases hP : P r with
          | true =>
            rw [hP] at C
            have H2 : Hid (L.length = n ∧ L.take i = (l.take (j + 1)).filter (fun c => !P c) ∧ L.drop (j + 1) = l.drop (j + 1)) := Lib.hid ⟨HL.out.1, by
              rw [List.take_succ_eq_append_getElem hjl, List.filter_append, HRR.out, HL.out.2.1]; simp [hP], by
              rw [← List.drop_drop, ← List.drop_drop, HL.out.2.2]⟩
            clear HL
            go_wp2_with (go_at_fn F; refine C.out.mono ?_; rintro e w2 ⟨rfl, hb2⟩)
            have bw2 := bw.trans (hb2.mono (Nat.le_trans hbw bw.size))
            have O2 : Hid (w2.ownsRow base 3 1 (.slice (some ⟨g, 0, none⟩) n cap) n (rowOf ics L)) := Lib.hid (ownsKeep O.out hb2)
            go_roundw
            case rel => exact ⟨i, j + 1, L, by omega, by omega, rfl, by go_num, bw2, O2, H2⟩
            case measure => simp [intOf]; omega
          | false =>
            rw [hP] at C
            have hiL : i < L.length := by rw [HL.out.1]; omega
            have H2 : Hid ((L.set i r).length = n ∧ (L.set i r).take (i + 1) = (l.take (j + 1)).filter (fun c => !P c) ∧ (L.set i r).drop (j + 1) = l.drop (j + 1)) := Lib.hid ⟨by rw [List.length_set]; exact HL.out.1, by
              rw [List.take_succ_eq_append_getElem (by rw [List.length_set]; exact hiL), List.getElem_set_self, List.take_set_of_le (Nat.le_refl _), HL.out.2.1, List.take_succ_eq_append_getElem hjl, List.filter_append, HRR.out]; simp [hP], by
              rw [List.drop_set_of_lt (by omega), ← List.drop_drop, ← List.drop_drop, HL.out.2.2]⟩
            have HI := Lib.hid (show ∃ z, L[i] = z from ⟨_, rfl⟩)
            obtain ⟨z, hz⟩ := HI.out
            have HZ := Lib.hid (show (rowOf ics L)[i]? = some (.int .i64 z) by rw [rowN_at L hiL, hz])
            have hin : i < n := by rw [← HL.out.1]; exact hiL
            have hin' : (i : Int) < (n : Int) := by omega
            clear HL HI hz
            go_wp2_with (go_at_fn F; refine C.out.mono ?_; rintro e w2 ⟨rfl, hb2⟩; have O2 : Hid (w2.ownsRow base 3 1 (.slice (some ⟨g, 0, none⟩) n cap) n (rowOf ics L)) := Lib.hid (ownsKeep O.out hb2); have y0 : w2.cell? ⟨g, i, none⟩ = some (.int .i64 z) := owns_cellAt O2.out i _ HZ.out; have y1 : w2.frozen? ⟨g, i, none⟩ = false := owns_thaw O2.out i)
            have bw2 := (bw.trans (hb2.mono (Nat.le_trans hbw bw.size))).setCell (p := ⟨g, i, none⟩) hbg (.int .i64 r)
            have O3 : Hid ((w2.setCell ⟨g, i, none⟩ (.int .i64 r)).ownsRow base 3 1 (.slice (some ⟨g, 0, none⟩) n cap) n (rowOf ics (L.set i r))) := Lib.hid (by rw [rowN_set]; exact ownsRow_set O2.out i _)
            go_roundw
            case rel => exact ⟨i + 1, j + 1, L.set i r, by omega, by omega, by go_num, by go_num, bw2, O3, H2⟩
            case measure => simp [intOf]; omega
        · obtain rfl : j = n := by omega
          have H2 : Hid (L.length = j ∧ L.take i = l.filter (fun c => !P c)) := Lib.hid ⟨HL.out.1, by have := HL.out.2.1; rwa [show l.take j = l by rw [← HN.out]; exact List.take_length] at this⟩
          rcases O.out.2 with ⟨hv, _⟩ | ⟨g', cap', cur, hv, _, hg, _, _, hcs, htake⟩
          · cases hv
          · injection hv with e1 e2 e3
            injection e1 with e1
            injection e1 with e1
            subst e1
            subst e3
            clear HL e2
            have hil : i < j := hij
            have hjc : j ≤ cap := hnc
            obtain ⟨C, hC⟩ : ∃ C, (cur.toList.take i ++ (Builtin.zeroCells (Value.int .i64 0).cells (j - i)).toList ++ cur.toList.drop (i + (Builtin.zeroCells (Value.int .i64 0).cells (j - i)).toList.length)) = C := ⟨_, rfl⟩
            have hcl : C.length = cap := by
              rw [← hC, List.length_append, List.length_append, List.length_take, List.length_drop, zc_len, Array.length_toList]; omega
            have hct : C.take i = rowOf ics (L.take i) := by
              have h1 : (cur.toList.take i).length = i := by rw [List.length_take, Array.length_toList]; omega
              rw [← hC, List.append_assoc, List.take_append_of_le_length (by omega), List.take_of_length_le (by omega), rowN_map, List.map_take, ← rowN_map, ← htake, List.take_take, Nat.min_eq_left (by omega)]
            have hclr : ∀ ty, (Builtin.clear_ #[41] ty #[.slice (some ⟨g, i, none⟩) (j - i) (cap - i)]).run Try.prog wr = .ok (.tuple #[]) (wr.setRow g C.toArray) := fun ty => by
              have h := run_clear_rowK (P := Try.prog) wr 41 ty 3 _ g i (j - i) (cap - i) cur 3 Try.underlying41 zero_int hg (by omega) (by rw [zc_len]; omega) (zc_one _)
              rw [hC] at h
              exact h
            have hW : (wr.setRow g C.toArray).heap[g]? = some (.cells C.toArray 3 (0, 0)) := setRow_heap wr g cur _ 3 _ hg
            have hfl : Hid ((l.filter (fun c => !P c)).length = i) := Lib.hid (by rw [← H2.out.2, List.length_take, H2.out.1]; omega)
            have HCT := Lib.hid hct
            have HCL := Lib.hid hcl
            have HCR := Lib.hid hclr
            have HWW := Lib.hid hW
            have hcap0 : (i : Int) ≤ (cap : Int) := by omega
            have hcap1 : (i : Int) ≤ (j : Int) := by omega
            have hcap2 : (j : Int) ≤ (cap : Int) := by omega
            have hk1 : i ≤ cap := by omega
            have hi0 : (0 : Int) ≤ (i : Int) := by omega
            have hne : ¬ cap = i := by omega
            have hij2 : i ≤ j := by omega
            clear hC hcl hct hclr hW O hg hcs htake
            have hcr0 := HCR.out 0
            go_wp2_with fail
            go_ret
            refine ⟨_, rfl, ?_, ?_⟩
            · refine ⟨by rw [rowN_len, Nat.mul_one], .inr ⟨g, cap, C.toArray, by rw [hfl.out]; (first | done | rfl), hbg, HWW.out, by rw [hfl.out]; omega, hcm, by rw [List.size_toArray, HCL.out, Nat.mul_one], ?_⟩⟩
              rw [hfl.out, List.toList_toArray, Nat.mul_one, HCT.out, H2.out.2]
            · exact bw.trans ⟨rfl, rfl, rfl, by simp, fun k hk => setRow_other _ g k _ (by omega)⟩
    · obtain rfl : k = n := by omega
      rw [if_neg (Nat.lt_irrefl _)]
      have HF : Hid (l.filter (fun c => !P c) = l) := Lib.hid (List.filter_eq_self.2 fun c hc => by rw [hf c (by rw [← HN.out, List.take_length]; exact hc)]; rfl)
      clear hf ht hk
      go_wp2
      go_ret
      exact ⟨_, rfl, by rw [HF.out]; have := O1.out; rw [← HN.out] at this; unfold OwnN; rw [HN.out] at this ⊢; exact this, b1⟩
end Go.Proofs.Ytgajepmnklbmpaa
/-
  slices.Grow, Concat of ints.
-/
namespace Go.Proofs.Ytgajepmnklbmpaa
open Go.RowKit
set_option linter.unusedVariables false
set_option linter.unusedSimpArgs false
set_option maxHeartbeats 1000000 in
theorem growN_calls (n : Nat) (hn : n ≤ 1000) (w : World) :
    Calls Try.prog 90 #[.slice none 0 0, .int .i64 n] w fun e w' => ∃ v, e = .returned v ∧ w'.ownsRow w.heap.size 3 1 v 0 [] ∧ Below w.heap.size w w' := by
  obtain ⟨i0, hii, hz0, hz1, hz2⟩ := info_parts info_int
  by_cases h0 : n = 0
  · subst h0
    go_enter Try.func90, Try.ntmps90
    go_wp2
    go_returns
    exact ⟨_, rfl, World.ownsRow_nil _ _ _ _, Below.refl _ _⟩
  · have hpos : 0 < n := by omega
    have hp1 : (0 : Int) < (n : Int) := by omega
    have hp2 : ¬ (n : Int) < 0 := by omega
    have R := Lib.hid (fun (W : World) => Go.Lib.run_append_nil_zeros (P := Try.prog) W 41 3 41 3 i0 _ .i64 .i64 Try.underlying41 Try.underlying3 hii hz0 n hpos (by rw [hz1]; decide) (by omega) (by rw [hz2]; omega))
    have c1 := grownCap_ge w n 0 3
    have c2 := grownCap_le_maxLen w n 0 3 (by unfold maxLen; omega)
    obtain ⟨cap, hcap⟩ : ∃ cap, grownCap w n 0 3 = cap := ⟨_, rfl⟩
    have R1 := R.out w
    rw [hcap] at R1 c1 c2
    have hc3 : (0 : Int) ≤ (cap : Int) := by omega
    clear R hcap
    go_enter Try.func90, Try.ntmps90
    go_wp2_with (at_builtin; refine Go.Lib.wpList_append_run _ rfl _ _ _ _ rfl _ _ rfl rfl _ _ R1 ?_)
    go_returns
    refine ⟨_, rfl, ⟨rfl, .inr ⟨w.heap.size, cap, _, rfl, Nat.le_refl _, _root_.Go.heap_alloc_new w.drew _, Nat.zero_le _, c2, ?_, by simp⟩⟩, ((Below.refl _ w).drew).alloc (Nat.le_refl _) _⟩
    rw [Array.size_append, size_zeroCells, size_zeroCells, ← Nat.add_mul]
    simp
    omega
set_option maxHeartbeats 4000000 in
set_option maxRecDepth 100000 in
theorem concatN_calls (l m : List Int) (v1 v2 : Value) (b : Nat) (hl : l.length ≤ 100) (hm : m.length ≤ 100) (w : World) (r1 : RowN w v1 l) (r2 : RowN w v2 m) (c0 : w.cell? ⟨b, 0, none⟩ = some v1) (c1 : w.cell? ⟨b, 1, none⟩ = some v2) (hb : b < w.heap.size) :
    Calls Try.prog 67 #[.slice (some ⟨b, 0, none⟩) 2 2] w fun e w' => ∃ v, e = .returned v ∧ OwnN w' w.heap.size v (l ++ m) ∧ Below w.heap.size w w' := by
  obtain ⟨i0, hii, hz0, hz1, hz2⟩ := info_parts info_int
  have IN := Lib.hid (And.intro hii (And.intro hz0 (And.intro hz1 hz2)))
  have R1 := Lib.hid r1
  have R2 := Lib.hid r2
  obtain ⟨p1, q1, rfl⟩ := r1.form
  obtain ⟨p2, q2, rfl⟩ := r2.form
  obtain ⟨n1, hn1⟩ : ∃ n, l.length = n := ⟨_, rfl⟩
  obtain ⟨n2, hn2⟩ : ∃ n, m.length = n := ⟨_, rfl⟩
  have HN1 := Lib.hid hn1
  have HN2 := Lib.hid hn2
  rw [hn1] at hl R1 c0
  rw [hn2] at hm R2 c1
  have GC := Lib.hid (fun W => growN_calls (n1 + n2) (by omega) W)
  have e1 : ((n1 + n2 : Nat) : Int) = (n1 : Int) + (n2 : Int) := by omega
  rw [e1] at GC
  have hz1' : ¬ (n1 : Int) < 0 := by omega
  have hz2' : ¬ (n1 : Int) + (n2 : Int) < 0 := by omega
  clear r1 r2 e1 hn1 hn2 hii hz0 hz1 hz2
  obtain ⟨B, hB⟩ : ∃ B, w.heap.size = B := ⟨_, rfl⟩
  have HB := Lib.hid hB
  have HBB : Hid (b < B) := Lib.hid (by omega)
  rw [hB]
  go_enter Try.func67, Try.ntmps67
  go_wp2_with fail
  go_loopw [3, 11] (fun u i wr => wr = w ∧ ((u = .int .i64 0 ∧ i = .int .i64 0) ∨ (u = .int .i64 n1 ∧ i = .int .i64 1) ∨ (u = .int .i64 ((n1 : Int) + (n2 : Int)) ∧ i = .int .i64 2))) (fun _ i _ => 2 - (intOf i).toNat)
  case atStart => exact ⟨rfl, .inl ⟨rfl, rfl⟩⟩
  case round =>
    obtain ⟨rfl, h | h | h⟩ := hrel
    · obtain ⟨rfl, rfl⟩ := h
      go_wp2
      go_roundw
      case rel => exact ⟨by first | rfl | trivial, .inr (.inl ⟨rfl, rfl⟩)⟩
      case measure => simp [intOf]
    · obtain ⟨rfl, rfl⟩ := h
      go_wp2
      go_roundw
      case rel => exact ⟨by first | rfl | trivial, .inr (.inr ⟨rfl, rfl⟩)⟩
      case measure => simp [intOf]
    · obtain ⟨rfl, rfl⟩ := h
      go_wp2_with fail
      refine (GC.out _).mono ?_
      rintro e w1 ⟨v, rfl, ho, hb1⟩
      have O1 : Hid (OwnN w1 B v []) := Lib.hid (by rw [← HB.out]; exact ho)
      have b1 : Below B wr w1 := by rw [← HB.out]; exact hb1
      have s1 : B ≤ w1.heap.size := by rw [← HB.out]; exact hb1.size
      clear ho hb1 GC
      go_wp2_with fail
      go_loopw [6, 27] (fun u i wx => Below B wr wx ∧ B ≤ wx.heap.size ∧ ((Hid (OwnN wx B u []) ∧ i = .int .i64 0) ∨ (Hid (OwnN wx B u l) ∧ i = .int .i64 1) ∨ (Hid (OwnN wx B u (l ++ m)) ∧ i = .int .i64 2))) (fun _ i _ => 2 - (intOf i).toNat)
      case atStart => exact ⟨b1, s1, .inl ⟨O1, rfl⟩⟩
      case round =>
        clear b1 s1 O1
        obtain ⟨b1, s1, h | h | h⟩ := hrel
        · obtain ⟨O, rfl⟩ := h
          have d0 := (b1.cell (p := ⟨b, 0, none⟩) HBB.out).trans c0
          have RR := Lib.hid (R1.out.keep (by rw [HB.out]; exact b1))
          obtain ⟨hii, hz0, hz1, hz2⟩ := IN.out
          have hby : (0 + l.length) * 8 ≤ 140737488355328 := by rw [HN1.out]; omega
          have h63 : 0 + l.length ≤ maxLen := by rw [HN1.out]; unfold maxLen; omega
          go_wp2_with (at_builtin; refine wpList_append_any rfl _ _ 41 rfl B 3 i0 _ 8 Try.underlying41 hii hz0 hz1 hz2 rfl (by decide) ics_len ics_one _ 0 [] rfl O.out _ l rfl RR.out hby h63 s1 ?_; intro v6 w6 ho6 hb6)
          have O6 : Hid (OwnN w6 B v6 l) := Lib.hid (by have := ho6; rw [Nat.zero_add, List.nil_append] at this; exact this)
          have b6 := b1.trans hb6
          have s6 : B ≤ w6.heap.size := Nat.le_trans s1 hb6.size
          clear ho6 hb6 hii hz0 hz1 hz2
          go_roundw
          case rel => exact ⟨b6, s6, .inr (.inl ⟨O6, rfl⟩)⟩
          case measure => simp [intOf]
        · obtain ⟨O, rfl⟩ := h
          have d1 := (b1.cell (p := ⟨b, 1, none⟩) HBB.out).trans c1
          have RR := Lib.hid (R2.out.keep (by rw [HB.out]; exact b1))
          obtain ⟨hii, hz0, hz1, hz2⟩ := IN.out
          have hby : (l.length + m.length) * 8 ≤ 140737488355328 := by rw [HN1.out, HN2.out]; omega
          have h63 : l.length + m.length ≤ maxLen := by rw [HN1.out, HN2.out]; unfold maxLen; omega
          go_wp2_with (at_builtin; refine wpList_append_any rfl _ _ 41 rfl B 3 i0 _ 8 Try.underlying41 hii hz0 hz1 hz2 rfl (by decide) ics_len ics_one _ l.length (rowOf ics l) rfl O.out _ m rfl RR.out hby h63 s1 ?_; intro v6 w6 ho6 hb6)
          have O6 : Hid (OwnN w6 B v6 (l ++ m)) := Lib.hid (by unfold OwnN; rw [List.length_append, rowOf_app]; exact ho6)
          have b6 := b1.trans hb6
          have s6 : B ≤ w6.heap.size := Nat.le_trans s1 hb6.size
          clear ho6 hb6 hii hz0 hz1 hz2
          go_roundw
          case rel => exact ⟨b6, s6, .inr (.inr ⟨O6, rfl⟩)⟩
          case measure => simp [intOf]
        · obtain ⟨O, rfl⟩ := h
          go_wp2
          go_ret
          exact ⟨_, by simp, O.out, b1⟩
end Go.Proofs.Ytgajepmnklbmpaa
/-
  fewest.best.
-/
namespace Go.Proofs.Ytgajepmnklbmpaa
open Go.RowKit
set_option linter.unusedVariables false
set_option linter.unusedSimpArgs false
set_option maxHeartbeats 1000000 in
theorem bestF_calls (q : Int) (m : List Int) (v2 : Value) (b : Nat) (lm : m.length ≤ 1000) (w : World) (r2 : RowN w v2 m) (c0 : w.cell? ⟨b, 0, none⟩ = some v2) (hb : b < w.heap.size) :
    Calls Try.prog 66 #[.int .i64 q, .pointer (some ⟨b, 0, none⟩)] w fun e w' => e = .returned (.bool (!decide (q ∈ m))) ∧ Below w.heap.size w w' := by
  have C := Lib.hid (fun (W : World) (r : RowN W v2 m) => hasN_calls m v2 q (by omega) W r)
  have R := Lib.hid r2
  obtain ⟨p, c, rfl⟩ := r2.form
  generalize decide (q ∈ m) = d at C ⊢
  generalize m.length = n at C R c0
  clear r2
  go_enter Try.func66, Try.ntmps66
  go_wp2_with fail
  refine (C.out _ (R.out.keep ?_)).mono ?_
  · first | exact Below.refl _ _ | exact (Below.refl _ _).drew
  rintro e w1 ⟨rfl, hb1⟩
  go_wp2
  go_ret
  exact ⟨by simp, hb1⟩
set_option maxHeartbeats 4000000 in
theorem best_calls (a b : List Int) (v1 v2 : Value) (la : a.length ≤ 100) (lb : b.length ≤ 100) (ha : a ≠ []) (hb : b ≠ []) (w : World) (r1 : RowN w v1 a) (r2 : RowN w v2 b) :
    Calls Try.prog 47 #[v1, v2] w fun e w' => ∃ u, e = .returned u ∧ OwnN w' w.heap.size u (bestL a b) ∧ Below w.heap.size w w' := by
  have CL := Lib.hid (fun (W : World) (r : RowN W v1 a) => cloneN_calls a v1 (by omega) ha W r)
  have BF := Lib.hid (fun (q : Int) (x : Nat) (W : World) (r : RowN W v2 b) (c : W.cell? ⟨x, 0, none⟩ = some v2) (h : x < W.heap.size) => bestF_calls q b v2 x (by omega) W r c h)
  have DL := Lib.hid (fun (u : Value) (base x : Nat) (W : World) (o : OwnN W base u a) (hbw : base ≤ W.heap.size) (KF) => delN_calls a u base 66 #[.pointer (some ⟨x, 0, none⟩)] (fun c => !decide (c ∈ b)) (by omega) W o hbw (enters_of Try.func66 (by kernel_rfl) rfl) KF)
  have CO := Lib.hid (fun (x : Nat) (W : World) (r1 : RowN W v1 a) (r2 : RowN W v2 b) (c0 : W.cell? ⟨x, 0, none⟩ = some v1) (c1 : W.cell? ⟨x, 1, none⟩ = some v2) (hx : x < W.heap.size) => concatN_calls a b v1 v2 x (by omega) (by omega) W r1 r2 c0 c1 hx)
  have R1 := Lib.hid r1
  have R2 := Lib.hid r2
  obtain ⟨p1, q1, rfl⟩ := r1.form
  obtain ⟨p2, q2, rfl⟩ := r2.form
  have hff : ∀ c, (!(!decide (c ∈ b))) = decide (c ∈ b) := fun c => Bool.not_not _
  have HFF : Hid (a.filter (fun c => !(!decide (c ∈ b))) = a.filter fun c => decide (c ∈ b)) := Lib.hid (List.filter_congr fun c _ => hff c)
  have HBL := Lib.hid (show bestL a b = if (a.filter fun h => decide (h ∈ b)) = [] then a ++ b else a.filter fun h => decide (h ∈ b) from rfl)
  obtain ⟨Z, hZ⟩ : ∃ Z, bestL a b = Z := ⟨_, rfl⟩
  rw [hZ] at HBL ⊢
  have bA := (Below.refl w.heap.size w).alloc (Nat.le_refl _) (.cells #[.slice p2 b.length q2] 41)
  have hc0 : (w.alloc (.cells #[.slice p2 b.length q2] 41)).cell? ⟨w.heap.size, 0, none⟩ = some (.slice p2 b.length q2) := by simp
  have hsz : w.heap.size < (w.alloc (.cells #[.slice p2 b.length q2] 41)).heap.size := by simp
  clear r1 r2 hff hZ
  go_enter Try.func47, Try.ntmps47
  go_wp2_with fail
  generalize w.alloc (.cells #[.slice p2 b.length q2] 41) = Y at bA hc0 hsz ⊢
  refine (CL.out _ (R1.out.keep bA)).mono ?_
  rintro e w1 ⟨u1, rfl, o1, hb1⟩
  have b1 : Below w.heap.size w w1 := thenBelow bA hb1
  have hs1 : Y.heap.size ≤ w1.heap.size := hb1.size
  have c1 := (hb1.cell (p := ⟨w.heap.size, 0, none⟩) hsz).trans hc0
  have D1 := Lib.hid (DL.out u1 Y.heap.size w.heap.size w1 o1 hs1 (Lib.hid fun c hc W hW => BF.out c w.heap.size W (R2.out.keep (b1.trans (hW.mono (Nat.le_of_lt hsz)))) ((hW.cell (p := ⟨w.heap.size, 0, none⟩) hsz).trans c1) (by have := hW.size; omega)))
  rw [HFF.out] at D1
  obtain ⟨p3, q3, rfl⟩ := o1.row.form
  clear CL BF DL o1 hc0
  go_wp2_with fail
  refine D1.out.mono ?_
  rintro e w2 ⟨u2, rfl, o2, hb2⟩
  have b2 : Below w.heap.size w w2 := b1.trans (hb2.mono (Nat.le_of_lt hsz))
  have c2 := (hb2.cell (p := ⟨w.heap.size, 0, none⟩) hsz).trans c1
  have O2 : Hid (OwnN w2 w.heap.size u2 (a.filter fun h => decide (h ∈ b))) := Lib.hid (ownsLow o2 (Nat.le_of_lt hsz))
  have hs2 : w.heap.size < w2.heap.size := by have := hb2.size; omega
  clear D1 hb2 o2 b1 hb1 c1 HFF
  generalize a.filter (fun h => decide (h ∈ b)) = f at HBL O2
  obtain ⟨p4, q4, rfl⟩ := O2.out.row.form
  by_cases hf : f = []
  · subst hf
    have HZ : Hid (Z = a ++ b) := Lib.hid (by rw [HBL.out, if_pos rfl])
    have R1b := Lib.hid (R1.out.keep b2)
    have R2b := Lib.hid (R2.out.keep b2)
    have bS := (Below.refl w2.heap.size w2).alloc (Nat.le_refl _) (.cells #[.slice p1 a.length q1, .slice p2 b.length q2] 41)
    have C1 := Lib.hid (CO.out w2.heap.size (w2.alloc (.cells #[.slice p1 a.length q1, .slice p2 b.length q2] 41)) (R1b.out.keep bS) (R2b.out.keep bS) (by simp) (by simp) (by simp))
    clear HBL O2 R1 R2 CO
    go_wp2_with fail
    refine C1.out.mono ?_
    rintro e w3 ⟨u3, rfl, ho3, hb3⟩
    have b3 : Below w2.heap.size w2 w3 := thenBelow bS hb3
    have O3 : Hid (OwnN w3 w.heap.size u3 (a ++ b)) := Lib.hid (ownsLow ho3 (by simp; omega))
    have b4 := thenBelow b2 b3
    clear C1 ho3 hb3 bS
    go_wp2
    go_ret
    exact ⟨_, rfl, by rw [HZ.out]; exact O3.out, b4⟩
  · have HZ : Hid (Z = f) := Lib.hid (by rw [HBL.out, if_neg hf])
    have hpos : 0 < f.length := List.length_pos_iff.2 hf
    obtain ⟨n, hn⟩ : ∃ n, f.length = n := ⟨_, rfl⟩
    rw [hn] at hpos O2 ⊢
    have hpos' : (0 : Int) < (n : Int) := by omega
    clear HBL hf CO
    go_wp2
    go_ret
    exact ⟨_, rfl, by rw [HZ.out]; exact O2.out, b2⟩
end Go.Proofs.Ytgajepmnklbmpaa
