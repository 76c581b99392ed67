/-
  Slices of ints: slices.Index, Contains, IndexFunc, Clone.
-/
import Derived.Test.YtgajepmnklbmpaaConcatR
import Derived.Test.YtgajepmnklbmpaaG2
import Derived.Deep.QuietTactic
namespace Go.Proofs.Ytgajepmnklbmpaa
open Go.RowKit
set_option linter.unusedVariables false
set_option linter.unusedSimpArgs false
def ics (i : Int) : List Value := [.int .i64 i]
theorem ics_len (i : Int) : (ics i).length = 1 := rfl
theorem ics_one (i : Int) : ∀ u ∈ ics i, u.oneCell' = true := by intro u hu; simp [ics] at hu; subst hu; rfl
abbrev RowN (w : World) (v : Value) (l : List Int) : Prop := RowK ics 1 w v l
abbrev OwnN (w : World) (base : Nat) (v : Value) (l : List Int) : Prop := w.ownsRow base 3 1 v l.length (rowOf ics l)
theorem OwnN.row {w : World} {base : Nat} {v : Value} {l : List Int} (h : OwnN w base v l) : RowN w v l := RowK.owned ics_len h
theorem intCell {w : World} {g o k : Nat} {z : Int} (h : RecAt w g (o + k * 1) (ics z)) : w.cell? ⟨g, o + k, none⟩ = some (.int .i64 z) := by
  have := h 0 _ rfl
  simpa using this
set_option maxHeartbeats 2000000 in
theorem idxN_calls (l : List Int) (v : Value) (q : Int) (hlen : l.length ≤ 100000) (w : World) (row : RowN w v l) :
    Calls Try.prog 68 #[v, .int .i64 q] w fun e w' => ∃ r : Int, e = .returned (.int .i64 r) ∧ (0 ≤ r ↔ q ∈ l) ∧ Below w.heap.size w w' := by
  obtain ⟨p, c, rfl, hcap, at_⟩ := row.at
  obtain ⟨n, hn⟩ : ∃ n, l.length = n := ⟨_, rfl⟩
  have HN := Lib.hid hn
  have AT := Lib.hid at_
  rw [hn] at hlen ⊢
  clear row at_ hn
  go_enter Try.func68, Try.ntmps68
  go_wp2
  go_loopw [8] (fun i wr => ∃ k : Nat, k ≤ n ∧ i = .int .i64 k ∧ wr = w ∧ Hid (∀ c ∈ l.take k, c ≠ q)) (fun i _ => n - (intOf i).toNat)
  case atStart => exact ⟨0, by omega, rfl, rfl, Lib.hid (fun c h => by simp at h)⟩
  case round =>
    obtain ⟨k, hk, rfl, rfl, HF⟩ := hrel
    by_cases hlt : k < n
    · have hkl : k < l.length := by rw [HN.out]; exact hlt
      obtain ⟨g, o, rfl, hg, hrec⟩ := AT.out k hkl
      have x0 := intCell hrec
      have HA := Lib.hid (show l[k] = q → q ∈ l from fun h => by rw [← h]; exact List.getElem_mem hkl)
      have HT := Lib.hid (show l[k] ≠ q → ∀ c ∈ l.take (k + 1), c ≠ q from fun h c hc => by
        rw [List.take_succ_eq_append_getElem hkl, List.mem_append, List.mem_singleton] at hc
        rcases hc with hc | rfl
        · exact HF.out c hc
        · exact h)
      have hlt' : (k : Int) < (n : Int) := by omega
      generalize l[k] = r at x0 HA HT
      clear hrec
      by_cases e : r = q
      · have H2 := Lib.hid (HA.out e)
        have hb : (q == r) = true := by simp [e]
        clear HA HT e
        go_wp2
        go_ret
        exact ⟨k, by simp, ⟨fun _ => H2.out, fun _ => by omega⟩, Below.refl _ _⟩
      · have H2 := Lib.hid (HT.out e)
        have hb : (q == r) = false := by simpa using fun h => e h.symm
        clear HA HT e
        go_wp2_with fail
        go_roundw
        case rel => exact ⟨k + 1, by omega, by go_num, by first | rfl | trivial, H2⟩
        case measure => simp [intOf]; omega
    · obtain rfl : k = n := by omega
      have e1 : l.take k = l := by rw [← HN.out]; exact List.take_length
      rw [e1] at HF
      go_wp2
      go_ret
      exact ⟨-1, rfl, ⟨fun h => by omega, fun h => absurd rfl (HF.out q h)⟩, Below.refl _ _⟩
set_option maxHeartbeats 1000000 in
theorem hasN_calls (l : List Int) (v : Value) (q : Int) (hlen : l.length ≤ 100000) (w : World) (row : RowN w v l) :
    Calls Try.prog 48 #[v, .int .i64 q] w fun e w' => e = .returned (.bool (decide (q ∈ l))) ∧ Below w.heap.size w w' := by
  have C := Lib.hid (idxN_calls l v q hlen w row)
  obtain ⟨p, c, rfl⟩ := row.form
  obtain ⟨b, hb⟩ : ∃ b, decide (q ∈ l) = b := ⟨_, rfl⟩
  have HB := Lib.hid hb
  rw [hb]
  clear row hb
  generalize l.length = n at C hlen ⊢
  go_enter Try.func48, Try.ntmps48
  go_wp2_with fail
  refine C.out.mono ?_
  rintro e w1 ⟨r, rfl, hr, hb1⟩
  cases b with
  | true =>
    have h0 : (0 : Int) ≤ r := hr.2 (of_decide_eq_true HB.out)
    clear hr
    go_wp2
    go_ret
    exact ⟨by simp, hb1⟩
  | false =>
    have h0 : ¬ (0 : Int) ≤ r := fun h => of_decide_eq_false HB.out (hr.1 h)
    clear hr
    go_wp2
    go_ret
    exact ⟨by simp; omega, hb1⟩
set_option maxHeartbeats 2000000 in
/-- The first element of which the function says yes, or -1. -/
theorem idxFN_calls (l : List Int) (v : Value) (F : Nat) (fb : Array Value) (P : Int → Bool) (hlen : l.length ≤ 100000) (w : World) (row : RowN w v l) (eg : ∀ args W, (callFunc F args).run Try.prog W = .ok (.enter F args) W)
    (KF : Hid (∀ c ∈ l, ∀ W, Below w.heap.size w W → Calls Try.prog F (#[.int .i64 c] ++ fb) W fun e w' => e = .returned (.bool (P c)) ∧ Below W.heap.size W w')) :
    Calls Try.prog 89 #[v, .func (.func F) #[] fb] w fun e w' => ∃ k : Nat, k ≤ l.length ∧ (∀ c ∈ l.take k, P c = false) ∧ (∀ c, l[k]? = some c → P c = true) ∧ e = .returned (.int .i64 (if k < l.length then (k : Int) else -1)) ∧ Below w.heap.size w w' := by
  obtain ⟨p, c, rfl, hcap, at_⟩ := row.at
  obtain ⟨n, hn⟩ : ∃ n, l.length = n := ⟨_, rfl⟩
  have HN := Lib.hid hn
  have AT := Lib.hid at_
  rw [hn] at hlen ⊢
  clear row at_ hn
  go_enter Try.func89, Try.ntmps89
  go_wp2
  go_loopw [8] (fun i wr => ∃ k : Nat, k ≤ n ∧ i = .int .i64 k ∧ Below w.heap.size w wr ∧ Hid (∀ c ∈ l.take k, P c = false)) (fun i _ => n - (intOf i).toNat)
  case atStart => exact ⟨0, by omega, rfl, Below.refl _ _, Lib.hid (fun c h => by simp at h)⟩
  case round =>
    obtain ⟨k, hk, rfl, hnk, HF⟩ := hrel
    by_cases hlt : k < n
    · have hkl : k < l.length := by rw [HN.out]; exact hlt
      obtain ⟨g, o, rfl, hg, hrec⟩ := AT.out k hkl
      have x0 := intCell (hrec.keep hnk hg)
      have C := KF.out l[k] (List.getElem_mem hkl) wr hnk
      have HA := Lib.hid (show ∀ h : k < l.length, P l[k] = P l[k] from fun _ => rfl)
      have HT := Lib.hid (show P l[k] = false → ∀ c ∈ l.take (k + 1), P c = false from fun h c hc => by
        rw [List.take_succ_eq_append_getElem hkl, List.mem_append, List.mem_singleton] at hc
        rcases hc with hc | rfl
        · exact HF.out c hc
        · exact h)
      have hlt' : (k : Int) < (n : Int) := by omega
      have HR := Lib.hid (show ∃ r, l[k] = r from ⟨_, rfl⟩)
      obtain ⟨r, hr⟩ := HR.out
      have HRR := Lib.hid hr
      rw [hr] at x0 C HT
      clear hr HR HA hrec
      cases hP : P r with
      | true =>
        rw [hP] at C
        go_wp2_with (go_at_fn F; refine C.mono ?_; rintro e w1 ⟨rfl, hb1⟩)
        go_ret
        exact ⟨k, by omega, HF.out, fun d hd => by rw [← HRR.out] at hP; rw [List.getElem?_eq_getElem hkl] at hd; injection hd with hd; rw [← hd]; exact hP, by rw [if_pos hlt]; rfl, thenBelow hnk hb1⟩
      | false =>
        rw [hP] at C
        go_wp2_with (go_at_fn F; refine C.mono ?_; rintro e w1 ⟨rfl, hb1⟩)
        have hn1 := thenBelow hnk hb1
        go_roundw
        case rel => exact ⟨k + 1, by omega, by go_num, hn1, Lib.hid (HT.out hP)⟩
        case measure => simp [intOf]; omega
    · obtain rfl : k = n := by omega
      go_wp2
      go_ret
      exact ⟨k, Nat.le_refl _, HF.out, (fun d hd => by rw [List.getElem?_eq_none (by rw [HN.out]; exact Nat.le_refl _)] at hd; cases hd), by rw [if_neg (Nat.lt_irrefl _)]; rfl, hnk⟩
set_option maxHeartbeats 2000000 in
set_option maxRecDepth 100000 in
theorem cloneN_calls (l : List Int) (v : Value) (hlen : l.length ≤ 100000) (hne : l ≠ []) (w : World) (row : RowN w v l) :
    Calls Try.prog 65 #[v] w fun e w' => ∃ u, e = .returned u ∧ OwnN w' w.heap.size u l ∧ Below w.heap.size w w' := by
  obtain ⟨i0, hii, hz0, hz1, hz2⟩ := info_parts info_int
  obtain ⟨p, c, rfl, _, at_⟩ := row.at
  obtain ⟨g, o, rfl, _, _⟩ := at_ 0 (List.length_pos_iff.2 hne)
  have R := Lib.hid row
  clear row at_
  have hby : (0 + l.length) * 8 ≤ 140737488355328 := by omega
  have h63 : 0 + l.length ≤ maxLen := by unfold maxLen; omega
  have qn : ∀ (w : World) (a : Option Addr) (n c n' c' : Nat), (binOp .eql 41 (.slice a n c) (.slice none n' c')).run Try.prog w = .ok (.bool a.isNone) w := fun w a n c n' c' => Go.Lib.run_eql_slice_nil w _ _ a n c n' c' Try.underlying41
  have bA := (Below.refl w.heap.size w).alloc (Nat.le_refl _) (.cells #[] 3)
  go_enter Try.func65, Try.ntmps65
  go_wp2_with (at_builtin; refine wpList_append_any rfl _ _ 41 rfl w.heap.size 3 i0 _ 8 Try.underlying41 hii hz0 hz1 hz2 rfl (by decide) ics_len ics_one _ 0 [] rfl (World.ownsRow_made w #[] 0 (Nat.le_refl _) (Nat.zero_le _) rfl) _ l rfl (R.out.keep bA) hby h63 (by simp) ?_; intro v6 w6 ho6 hb6)
  have O6 : Hid (OwnN w6 w.heap.size v6 l) := Lib.hid (by have := ho6; rw [Nat.zero_add, List.nil_append] at this; exact this)
  have b6 := bA.trans hb6
  clear ho6 hb6
  go_wp2
  go_ret
  exact ⟨_, by simp, O6.out, b6⟩
end Go.Proofs.Ytgajepmnklbmpaa
