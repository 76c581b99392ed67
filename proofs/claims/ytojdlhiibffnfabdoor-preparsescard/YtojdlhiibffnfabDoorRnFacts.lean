/-
  Plain facts on what the document's readNumbers reads: it undoes writing; what it does not read.
-/
import Derived.Test.YtojdlhiibffnfabDoorRefNums
import Derived.Test.YtojdlhiibffnfabDoorChars
namespace Go.Proofs.YtojdlhiibffnfabDoor
open Go.RowKit Go.Sort
set_option linter.unusedVariables false
set_option linter.unusedSimpArgs false

theorem dig_inj : ∀ a b : Fin 16, dig a.1 = dig b.1 → a = b := by decide +kernel
theorem rdTo_dig (d : Nat) : ∀ k, k ≤ 16 → d < k → rdTo (dig d) k = d
  | 0, _, h => by omega
  | k + 1, hk, h => by
    unfold rdTo
    by_cases e : k = d
    · subst e; rw [if_pos rfl]
    · rw [if_neg (fun he => e (congrArg Fin.val (dig_inj ⟨k, by omega⟩ ⟨d, by omega⟩ he)))]
      exact rdTo_dig d k (by omega) (by omega)
/-- A byte that is no digit. -/
def NoDig (x : UInt8) : Prop := ∀ d, ¬ dig d = x
theorem noDig46 : NoDig 46 := fun d => (dig_not d).1
theorem noDig58 : NoDig 58 := fun d => (dig_not d).2
theorem rdTo_no (x : UInt8) (h : NoDig x) : ∀ k, rdTo x k = -1
  | 0 => rfl
  | k + 1 => by unfold rdTo; rw [if_neg (h k)]; exact rdTo_no x h k
theorem rn_dig (B : Nat) (M : Int) (c : UInt8) (hB : B ≤ 16) (hc : NoDig c) (out : List Int) (n : Int) (d : Nat) (hd : d < B) (hn : n ≤ M) (rest : List UInt8) :
    rn B M c out n (dig d :: rest) = rn B M c out (max n 0 * B + d) rest := by
  conv => lhs; unfold rn
  rw [if_neg (hc d), rdTo_dig d B hB hd, if_neg (by omega), if_pos hn]
theorem rn_num (B : Nat) (M : Int) (c : UInt8) (hB : B ≤ 16) (hB2 : 2 ≤ B) (hM : 0 ≤ M) (hc : NoDig c) (out : List Int) : ∀ (f n : Nat), n < B ^ (f + 1) → (n : Int) ≤ M → ∀ rest, rn B M c out (-1) (numText B (f + 1) n ++ rest) = rn B M c out n rest
  | f, n, h, hm, rest => by
    unfold numText
    split
    · rename_i hlt
      show rn B M c out (-1) (dig n :: rest) = _
      rw [rn_dig B M c hB hc out (-1) n hlt (by omega), show max (-1 : Int) 0 * (B : Int) + (n : Int) = n from by rw [show max (-1 : Int) 0 = 0 from rfl, Int.zero_mul, Int.zero_add]]
    · rename_i hge
      have hpos : 0 < B := by omega
      cases f with
      | zero => simp at h; omega
      | succ f =>
        have h1 : n / B < B ^ (f + 1) := by
          rw [Nat.div_lt_iff_lt_mul hpos]
          rw [Nat.pow_succ] at h; exact h
        have h0 : n / B ≤ n := Nat.div_le_self _ _
        have h3 : n % B < B := Nat.mod_lt _ hpos
        have h4 : n / B * B + n % B = n := by rw [Nat.mul_comm]; exact Nat.div_add_mod n B
        rw [List.append_assoc, rn_num B M c hB hB2 hM hc out f (n / B) h1 (by omega)]
        show rn B M c out ((n / B : Nat) : Int) (dig (n % B) :: rest) = _
        rw [rn_dig B M c hB hc out _ _ h3 (by omega)]
        congr 1
        have : max ((n / B : Nat) : Int) 0 = ((n / B : Nat) : Int) := Int.max_eq_left (Int.natCast_nonneg _)
        rw [this, ← Int.natCast_mul, ← Int.natCast_add, h4]
theorem rn_tail (B : Nat) (M : Int) (c : UInt8) (f : Nat) (hB : B ≤ 16) (hB2 : 2 ≤ B) (hM : 0 ≤ M) (hc : NoDig c) : ∀ (ns : List Nat) (out : List Int) (n : Int), 0 ≤ n → n ≤ M → (∀ m ∈ ns, m < B ^ (f + 1) ∧ (m : Int) ≤ M) →
    rn B M c out n (Lib.joinTail [c] (ns.map (numText B (f + 1)))) = some (out ++ n :: ns.map (fun m : Nat => (m : Int)))
  | [], out, n, h0, h1, _ => by
    show rn B M c out n [] = _
    unfold rn
    rw [if_neg (by omega)]; rfl
  | m :: ns, out, n, h0, h1, h => by
    have hm := h m (.head _)
    show rn B M c out n (c :: (numText B (f + 1) m ++ Lib.joinTail [c] (ns.map (numText B (f + 1))))) = _
    conv => lhs; unfold rn
    rw [if_pos rfl, if_neg (by omega), rn_num B M c hB hB2 hM hc _ f m hm.1 hm.2, rn_tail B M c f hB hB2 hM hc ns _ m (by omega) hm.2 (fun k hk => h k (.tail _ hk))]
    simp
/-- Reading undoes writing. -/
theorem rn_join (B : Nat) (M : Int) (c : UInt8) (f : Nat) (hB : B ≤ 16) (hB2 : 2 ≤ B) (hM : 0 ≤ M) (hc : NoDig c) (m : Nat) (ns : List Nat) (h : ∀ k ∈ m :: ns, k < B ^ (f + 1) ∧ (k : Int) ≤ M) :
    rn B M c [] (-1) (Lib.join ((m :: ns).map (numText B (f + 1))) [c]) = some ((m :: ns).map (fun k : Nat => (k : Int))) := by
  have hm := h m (.head _)
  rw [List.map_cons, Lib.join_cons, rn_num B M c hB hB2 hM hc [] f m hm.1 hm.2, rn_tail B M c f hB hB2 hM hc ns [] m (by omega) hm.2 (fun k hk => h k (.tail _ hk))]
  rfl
/-- A byte that is neither a digit nor the sign. -/
theorem rn_bad (B : Nat) (M : Int) (c x : UInt8) (hx : x ≠ c) (hn : rdTo x B < 0) : ∀ (s : List UInt8) (out : List Int) (n : Int), x ∈ s → rn B M c out n s = none
  | [], _, _, h => by cases h
  | y :: s, out, n, h => by
    unfold rn
    by_cases hy : y = c
    · rw [if_pos hy]
      split
      · rfl
      · exact rn_bad B M c x hx hn s _ _ (by rcases List.mem_cons.1 h with e | e; exact absurd (e.trans hy) hx; exact e)
    · rw [if_neg hy]
      split
      · rfl
      · rename_i h2
        exact rn_bad B M c x hx hn s _ _ (by rcases List.mem_cons.1 h with e | e; exact absurd (e ▸ hn) h2; exact e)
/-- Two signs side by side. -/
theorem rn_two (B : Nat) (M : Int) (c : UInt8) (q : List UInt8) : ∀ (p : List UInt8) (out : List Int) (n : Int), rn B M c out n (p ++ c :: c :: q) = none
  | [], out, n => by
    show rn B M c out n (c :: c :: q) = none
    unfold rn
    rw [if_pos rfl]
    split
    · rfl
    · unfold rn
      rw [if_pos rfl, if_pos (by omega)]
  | y :: p, out, n => by
    show rn B M c out n (y :: (p ++ c :: c :: q)) = none
    unfold rn
    split
    · split
      · rfl
      · exact rn_two B M c q p _ _
    · split
      · rfl
      · exact rn_two B M c q p _ _
/-- What comes out: numbers from 0 to M, one more than there are bytes at the most. -/
theorem rn_bd (B : Nat) (M : Int) (c : UInt8) : ∀ (s : List UInt8) (out : List Int) (n : Int) (ns : List Int), (∀ v ∈ out, 0 ≤ v ∧ v ≤ M) → rn B M c out n s = some ns → (∀ v ∈ ns, 0 ≤ v ∧ v ≤ M) ∧ ns.length ≤ out.length + s.length + 1
  | [], out, n, ns, ho, h => by
    unfold rn at h
    split at h
    · cases h
    · rename_i hn
      cases h
      refine ⟨fun v hv => ?_, by simp⟩
      rcases List.mem_append.1 hv with e | e
      · exact ho v e
      · simp at e; omega
  | y :: s, out, n, ns, ho, h => by
    unfold rn at h
    split at h
    · split at h
      · cases h
      · rename_i hn
        have := rn_bd B M c s (out ++ [n]) (-1) ns (fun v hv => by
          rcases List.mem_append.1 hv with e | e
          · exact ho v e
          · simp at e; omega) h
        simp only [List.length_append, List.length_cons, List.length_nil] at this ⊢
        exact ⟨this.1, by omega⟩
    · split at h
      · cases h
      · have := rn_bd B M c s out _ ns ho h
        simp only [List.length_cons]
        exact ⟨this.1, by omega⟩
end Go.Proofs.YtojdlhiibffnfabDoor
