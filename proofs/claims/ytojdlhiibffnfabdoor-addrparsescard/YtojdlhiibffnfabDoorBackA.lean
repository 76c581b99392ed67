/-
  Reading undoes writing: numbers, pieces, two colons. Plain facts.
-/
import Derived.Test.YtojdlhiibffnfabDoorParse
import Derived.Test.YtojdlhiibffnfabDoorChars
namespace Go.Proofs.YtojdlhiibffnfabDoor
open Go.RowKit
set_option linter.unusedVariables false
set_option linter.unusedSimpArgs false

theorem dv_dig (B d : Nat) (hB : B ≤ 16) (hd : d < B) : dv B (dig d) = some d := by
  have h : ∀ k : Fin 16, (if 48 ≤ (dig k.1).toNat ∧ (dig k.1).toNat ≤ 57 then (dig k.1).toNat - 48 = k.1 else (97 ≤ low (dig k.1) ∧ low (dig k.1) ≤ 122 ∧ low (dig k.1) - 87 = k.1)) := by decide +kernel
  have := h ⟨d, by omega⟩
  unfold dv
  simp only at this
  split at this
  · rename_i h1
    rw [if_pos h1, this, if_pos hd]
  · rename_i h1
    rw [if_neg h1, if_pos ⟨this.1, this.2.1⟩, this.2.2, if_pos hd]
theorem pu_app (B M : Nat) : ∀ (l r : List UInt8) (acc : Nat), pu B M acc (l ++ r) = (pu B M acc l).bind fun a => pu B M a r
  | [], r, acc => rfl
  | c :: l, r, acc => by
    rw [List.cons_append]
    cases hd : dv B c with
    | none => rw [pu_none hd, pu_none hd]; rfl
    | some d =>
      by_cases hm : acc * B + d ≤ M
      · rw [pu_step hd hm, pu_step hd hm]; exact pu_app B M l r _
      · rw [pu_over hd hm, pu_over hd hm]; rfl
theorem pu_num (B M : Nat) (hB : B ≤ 16) (hB2 : 2 ≤ B) : ∀ (f n : Nat), n < B ^ (f + 1) → n ≤ M → pu B M 0 (numText B (f + 1) n) = some n
  | f, n, h, hm => by
    unfold numText
    split
    · rename_i hlt
      rw [pu_step (dv_dig B n hB hlt) (by omega)]
      simp [pu]
    · rename_i hge
      have hpos : 0 < B := by omega
      cases f with
      | zero => simp at h; omega
      | succ f =>
        have h1 : n / B < B ^ (f + 1) := by
          rw [Nat.div_lt_iff_lt_mul hpos]
          rw [Nat.pow_succ] at h; exact h
        have h2 : n / B ≤ M := Nat.le_trans (Nat.div_le_self _ _) hm
        have h3 : n % B < B := Nat.mod_lt _ hpos
        have h4 : n / B * B + n % B = n := by rw [Nat.mul_comm]; exact Nat.div_add_mod n B
        rw [pu_app, pu_num B M hB hB2 f (n / B) h1 h2]
        show pu B M (n / B) [dig (n % B)] = some n
        rw [pu_step (dv_dig B _ hB h3) (by omega), h4]
        rfl
theorem puE_num (B M f n : Nat) (hB : B ≤ 16) (hB2 : 2 ≤ B) (h : n < B ^ (f + 1)) (hm : n ≤ M) : puE B M (numText B (f + 1) n) = some n := by
  unfold puE
  rw [if_neg (fun e => by have := numText_pos B f n; rw [e] at this; simp at this)]
  exact pu_num B M hB hB2 f n h hm
theorem nums_map (B M f : Nat) (hB : B ≤ 16) (hB2 : 2 ≤ B) : ∀ (ns : List Nat), (∀ n ∈ ns, n < B ^ (f + 1) ∧ n ≤ M) → nums (puE B M) (ns.map (numText B (f + 1))) = some ns
  | [], _ => rfl
  | n :: ns, h => by
    have h1 := h n (.head _)
    have h2 := nums_map B M f hB hB2 ns (fun x hx => h x (.tail _ hx))
    rw [List.map_cons]
    unfold nums
    rw [puE_num B M f n hB hB2 h1.1 h1.2, h2]
    rfl

theorem indexByte_in (c : UInt8) (rest : List UInt8) : ∀ (t : List UInt8), t.count c = 0 → Lib.indexByte (t ++ c :: rest) c = t.length
  | [], _ => by simp [Lib.indexByte]
  | x :: t, h => by
    have hx : ¬ x = c := fun e => by rw [e, List.count_cons_self] at h; omega
    have ht : t.count c = 0 := by rw [List.count_cons] at h; omega
    have ih := indexByte_in c rest t ht
    rw [List.cons_append]
    unfold Lib.indexByte
    rw [if_neg (by simpa using hx), ih, if_neg (by simp)]
    simp
theorem indexByte_out (c : UInt8) : ∀ (t : List UInt8), t.count c = 0 → Lib.indexByte t c = -1
  | [], _ => rfl
  | x :: t, h => by
    have hx : ¬ x = c := fun e => by rw [e, List.count_cons_self] at h; omega
    have ht : t.count c = 0 := by rw [List.count_cons] at h; omega
    unfold Lib.indexByte
    rw [if_neg (by simpa using hx), indexByte_out c t ht]
    rfl
theorem indexByte_pos (c : UInt8) : ∀ (t : List UInt8), 0 < t.count c → 0 ≤ Lib.indexByte t c
  | [], h => by simp at h
  | x :: t, h => by
    unfold Lib.indexByte
    by_cases hx : x = c
    · rw [if_pos (by simpa using hx)]; omega
    · rw [if_neg (by simpa using hx)]
      have := indexByte_pos c t (by rw [List.count_cons, if_neg (by simpa using hx)] at h; exact h)
      rw [if_neg (by simp; omega)]
      omega

theorem split_join (c : UInt8) : ∀ (ts : List (List UInt8)), ts ≠ [] → (∀ t ∈ ts, t.count c = 0) → Lib.split (Lib.join ts [c]) [c] = ts
  | [], h, _ => absurd rfl h
  | [t], _, h => by
    have h1 := h t (.head _)
    rw [Lib.join_one]
    unfold Lib.split
    rw [Lib.count_miss (by rw [Lib.index_one]; exact indexByte_out c t h1)]
    rfl
  | t :: u :: r, _, h => by
    have h1 := h t (.head _)
    have ih := split_join c (u :: r) (by simp) (fun x hx => h x (.tail _ hx))
    have e : Lib.join (t :: u :: r) [c] = t ++ c :: Lib.join (u :: r) [c] := by
      simp [Lib.join_cons, Lib.joinTail]
    have hi : Lib.index (t ++ c :: Lib.join (u :: r) [c]) [c] = t.length := by rw [Lib.index_one]; exact indexByte_in c _ t h1
    have hd : (t ++ c :: Lib.join (u :: r) [c]).drop (t.length + [c].length) = Lib.join (u :: r) [c] := by
      rw [List.drop_append]; simp
    rw [e]
    unfold Lib.split
    rw [Lib.count_hit (by simp) hi, hd, Nat.add_comm 1]
    unfold Lib.splitK
    rw [if_neg (by rw [hi]; simp), hi, Int.toNat_natCast, hd]
    unfold Lib.split at ih
    rw [ih]
    simp

/-- No two colons side by side, and none at the end. -/
def okc : List UInt8 → Prop
  | [] => True
  | [x] => x ≠ 58
  | x :: y :: l => (x = 58 → y ≠ 58) ∧ okc (y :: l)
theorem index_on {x : UInt8} {l : List UInt8} {n : Nat} (hp : ([58, 58] : List UInt8).isPrefixOf (x :: l) = false) (h : Lib.index l [58, 58] = n) : Lib.index (x :: l) [58, 58] = (n + 1 : Nat) := by
  unfold Lib.index
  rw [hp, h, if_neg (by simp), if_neg (by simp)]
  simp
theorem index_off {x : UInt8} {l : List UInt8} (hp : ([58, 58] : List UInt8).isPrefixOf (x :: l) = false) (h : Lib.index l [58, 58] = -1) : Lib.index (x :: l) [58, 58] = -1 := by
  unfold Lib.index
  rw [hp, h]
  rfl
theorem pre2 {x y : UInt8} {l : List UInt8} (h : x = 58 → y ≠ 58) : ([58, 58] : List UInt8).isPrefixOf (x :: y :: l) = false := by
  by_cases hx : x = 58
  · have hy := h hx
    have : ((58 : UInt8) == y) = false := by simpa using fun e => hy e.symm
    simp [List.isPrefixOf, this]
  · have : ((58 : UInt8) == x) = false := by simpa using fun e => hx e.symm
    simp [List.isPrefixOf, this]
theorem cc_in (rest : List UInt8) : ∀ (p : List UInt8), okc p → Lib.index (p ++ 58 :: 58 :: rest) [58, 58] = p.length
  | [], _ => by simp [Lib.index]
  | [x], h => index_on (n := 0) (pre2 (fun e => absurd e h)) (cc_in rest [] trivial)
  | x :: y :: l, h => index_on (n := (y :: l).length) (pre2 h.1) (cc_in rest (y :: l) h.2)
theorem cc_out : ∀ (p : List UInt8), okc p → Lib.index p [58, 58] = -1
  | [], _ => rfl
  | [x], h => by
    have : ((58 : UInt8) == x) = false := by simpa using fun e => h e.symm
    exact index_off (by simp [List.isPrefixOf, this]) rfl
  | x :: y :: l, h => index_off (pre2 h.1) (cc_out (y :: l) h.2)

theorem okc_no : ∀ (t : List UInt8), t.count 58 = 0 → okc t
  | [], _ => trivial
  | [x], h => fun e => by rw [e] at h; simp at h
  | x :: y :: l, h => by
    have hx : ¬ x = 58 := fun e => by rw [e, List.count_cons_self] at h; omega
    exact ⟨fun e => absurd e hx, okc_no (y :: l) (by rw [List.count_cons] at h; omega)⟩
theorem okc_mid (y : UInt8) (q : List UInt8) (hy : y ≠ 58) (hq : okc (y :: q)) : ∀ (t : List UInt8), t ≠ [] → t.count 58 = 0 → okc (t ++ 58 :: y :: q)
  | [], h, _ => absurd rfl h
  | [x], _, h => by
    have hx : ¬ x = 58 := fun e => by rw [e] at h; simp at h
    exact ⟨fun e => absurd e hx, fun _ => hy, hq⟩
  | x :: z :: l, _, h => by
    have hx : ¬ x = 58 := fun e => by rw [e, List.count_cons_self] at h; omega
    exact ⟨fun e => absurd e hx, okc_mid y q hy hq (z :: l) (by simp) (by rw [List.count_cons] at h; omega)⟩
theorem okc_join : ∀ (ts : List (List UInt8)), (∀ t ∈ ts, t ≠ [] ∧ t.count 58 = 0) → okc (Lib.join ts [58])
  | [], _ => trivial
  | [t], h => by rw [Lib.join_one]; exact okc_no t (h t (.head _)).2
  | t :: u :: r, h => by
    have ih := okc_join (u :: r) (fun x hx => h x (.tail _ hx))
    have e : Lib.join (t :: u :: r) [58] = t ++ 58 :: Lib.join (u :: r) [58] := by simp [Lib.join_cons, Lib.joinTail]
    have hu := h u (.tail _ (.head _))
    have e2 : ∃ y q, Lib.join (u :: r) [58] = y :: q ∧ y ≠ 58 := by
      match u, hu with
      | [], hu => exact absurd rfl hu.1
      | y :: u, hu =>
        refine ⟨y, u ++ Lib.joinTail [58] r, by rw [Lib.join_cons]; rfl, fun e => ?_⟩
        have := hu.2
        rw [e, List.count_cons_self] at this
        omega
    obtain ⟨y, q, e3, hy⟩ := e2
    rw [e3] at ih
    rw [e, e3]
    exact okc_mid y q hy ih t (h t (.head _)).1 (h t (.head _)).2
end Go.Proofs.YtojdlhiibffnfabDoor
