/-
  The document's PreParse, whole: it answers the prefix whose text this is, or ErrForm.
-/
import Derived.Test.YtojdlhiibffnfabDoorG4
import Derived.Test.YtojdlhiibffnfabDoorG5
namespace Go.Proofs.YtojdlhiibffnfabDoor
open Go.RowKit Go.Sort
set_option linter.unusedVariables false
set_option linter.unusedSimpArgs false

/-- The first slash, if there is one. -/
theorem first47 (s : List UInt8) : (∀ k (h : k < s.length), s[k] ≠ 47) ∨ ∃ F, ∃ h : F < s.length, s[F] = 47 ∧ ∀ k (h : k < s.length), k < F → s[k] ≠ 47 := by
  induction s with
  | nil => exact .inl fun k h => by simp at h
  | cons c t ih =>
    by_cases hc : c = 47
    · exact .inr ⟨0, by simp, hc, fun k _ h => by omega⟩
    · rcases ih with h | ⟨F, hF, e, h⟩
      · refine .inl fun k hk => ?_
        cases k with
        | zero => exact hc
        | succ k => exact h k (by simpa using hk)
      · refine .inr ⟨F + 1, by simpa using hF, e, fun k hk hlt => ?_⟩
        cases k with
        | zero => exact hc
        | succ k => exact h k (by simpa using hk) (by omega)
theorem dp_none (s : List UInt8) (hl : s.length ≤ 600) (hno : ∀ six x n, ¬ IsPre s six x n) (w : World) :
    Calls Tryd.prog 8 #[.string ⟨s.toArray⟩] w fun e w' => e = .returned pErr ∧ Below w.heap.size w w' := by
  rcases first47 s with h | ⟨F, hF, e0, hf⟩
  · exact pd_none s hl h w
  · have htl : (s.take F).length ≤ 600 := by rw [List.length_take]; omega
    have KA := fun W : World => doc_parse (s.take F) htl W
    cases hp : parseOf (s.take F) with
    | none =>
      rw [hp] at KA
      exact pd_noaddr s hl F hF e0 hf false 0 0 4 (Lib.hid KA) rfl w
    | some t =>
      obtain ⟨six, H, L⟩ := t
      rw [hp] at KA
      obtain ⟨hH, hL⟩ := parseOf_some hp
      have eH : (H : Int) = aH (H * 18446744073709551616 + L) := by unfold aH; omega
      have eL : (L : Int) = aL (H * 18446744073709551616 + L) := by unfold aL; omega
      have KA' : ∀ W : World, Calls Tryd.prog 6 #[.string ⟨(s.take F).toArray⟩] W fun e w' => e = .returned (.tuple #[.agg #[.bool six, .int .u64 (aH (H * 18446744073709551616 + L)), .int .u64 (aL (H * 18446744073709551616 + L))], .int .i64 0]) ∧ Below W.heap.size W w' := by
        rw [← eH, ← eL]; exact KA
      have hx : H * 18446744073709551616 + L < 2 ^ 128 := by omega
      generalize H * 18446744073709551616 + L = x at KA' hx
      cases hr : rn 10 128 47 [] (-1) (s.drop (F + 1)) with
      | none => exact pd_nonum s hl F hF e0 hf six _ _ (Lib.hid KA') (by rw [hr]; rfl) w
      | some ns =>
        by_cases h1 : ns.length = 1
        · obtain ⟨n, rfl⟩ := List.length_eq_one_iff.1 h1
          by_cases hc : chkE six x n = 0
          · obtain ⟨hxv, m, rfl, hm, hlow⟩ := chk0 hc
            have hne : (preT six x m == s) = false := by
              have : preT six x m ≠ s := fun e => hno six x m ⟨hxv, hm, hc, e⟩
              simpa using this
            exact pd_ne s hl F hF e0 hf six _ _ (Lib.hid KA') m hr _ 0 (Lib.hid fun W => refPText_ok six x m hxv hm hc W) rfl hne w
          · exact pd_err s hl F hF e0 hf six _ _ (Lib.hid KA') n hr [] _ (Lib.hid fun W => refPText_err six x n _ hx rfl (by simpa using hc) W) (by simpa using hc) w
        · exact pd_len s hl F hF e0 hf six _ _ (Lib.hid KA') ns hr h1 w
theorem nodig47 : NoDig 47 := fun d => dig_not47 d
theorem dp_some (s : List UInt8) (hl : s.length ≤ 600) (six : Bool) (x n : Nat) (h : IsPre s six x n) (w : World) :
    Calls Tryd.prog 8 #[.string ⟨s.toArray⟩] w fun e w' => e = .returned (.tuple #[.agg #[.bool six, .int .u64 (aH x), .int .u64 (aL x), .int .i64 n], .int .i64 0]) ∧ Below w.heap.size w w' := by
  obtain ⟨hx, hn, hc, hs⟩ := h
  have hx' := lt128 hx
  have hW := wideN_le six
  obtain ⟨A, hA⟩ : ∃ A, textL six (x / 18446744073709551616) (x % 18446744073709551616) = A := ⟨_, rfl⟩
  obtain ⟨B, hB⟩ : ∃ B, numText 10 3 n = B := ⟨_, rfl⟩
  have no : ∀ c ∈ A, c ≠ 47 := fun c hc e => by
    have := textL_no47 six (x / 18446744073709551616) (x % 18446744073709551616)
    rw [hA] at this
    exact absurd (e ▸ hc) (List.count_eq_zero.1 this)
  have es : s = A ++ 47 :: B := by rw [← hs]; unfold preT; rw [hA, hB]; simp
  have hF : A.length < s.length := by rw [es]; simp
  have e0 : s[A.length]'hF = 47 := by simp [es]
  have hf : ∀ k (h : k < s.length), k < A.length → s[k] ≠ 47 := fun k hk hlt => by
    have : s[k] = A[k] := by simp [es, List.getElem_append_left hlt]
    rw [this]; exact no _ (List.getElem_mem hlt)
  have et : s.take A.length = A := by rw [es]; simp
  have ed : s.drop (A.length + 1) = B := by rw [es]; simp [List.drop_append]
  have KA : ∀ W : World, Calls Tryd.prog 6 #[.string ⟨(s.take A.length).toArray⟩] W fun e w' => e = .returned (.tuple #[.agg #[.bool six, .int .u64 (aH x), .int .u64 (aL x)], .int .i64 0]) ∧ Below W.heap.size W w' := fun W => by
    rw [et]
    have := doc_parse A (by rw [es] at hl; simp at hl; omega) W
    rw [← hA, parse_back six _ _ (by omega) (by omega) (textE0 six x hx)] at this
    rw [← hA]
    have eH : aH x = ((x / 18446744073709551616 : Nat) : Int) := by unfold aH; omega
    have eL : aL x = ((x % 18446744073709551616 : Nat) : Int) := by unfold aL; omega
    rw [eH, eL]
    exact this
  have hr : rn 10 128 47 [] (-1) (s.drop (A.length + 1)) = some [(n : Int)] := by
    rw [ed, ← hB]
    have := rn_num 10 128 47 (by decide) (by decide) (by decide) nodig47 [] 2 n (by omega) (by omega) []
    rw [List.append_nil] at this
    rw [this]
    unfold rn
    rw [if_neg (by omega)]; rfl
  exact pd_yes s hl A.length hF e0 hf six _ _ (Lib.hid KA) n hr (Lib.hid fun W => by have := refPText_ok six x n hx hn hc W; rw [hs] at this; exact this) w
end Go.Proofs.YtojdlhiibffnfabDoor
