/-
  The document's readNumbers.
-/
import Derived.Test.YtojdlhiibffnfabDoorRefText
import Derived.Test.YtojdlhiibffnfabDoorOwns
import Derived.Test.YtojdlhiibffnfabDoorIndex
namespace Go.Proofs.YtojdlhiibffnfabDoor
open Go.RowKit Go.Sort
set_option linter.unusedVariables false
set_option linter.unusedSimpArgs false

/-- The digit that stands at the last place before k. -/
def rdTo (x : UInt8) : Nat → Int
  | 0 => -1
  | k + 1 => if dig k = x then (k : Int) else rdTo x k
theorem rdTo_bd (x : UInt8) : ∀ k, -1 ≤ rdTo x k ∧ rdTo x k < k
  | 0 => by simp [rdTo]
  | k + 1 => by
    have := rdTo_bd x k
    unfold rdTo
    split <;> omega
/-- What the document's readNumbers reads on. -/
def rn (B : Nat) (M : Int) (c : UInt8) : List Int → Int → List UInt8 → Option (List Int)
  | out, n, [] => if n < 0 ∨ M < n then none else some (out ++ [n])
  | out, n, x :: xs =>
    if x = c then (if n < 0 ∨ M < n then none else rn B M c (out ++ [n]) (-1) xs)
    else if rdTo x B < 0 then none else rn B M c out (if n ≤ M then max n 0 * B + rdTo x B else n) xs
/-- What it answers. -/
def IntsOut (base : Nat) (r : Option (List Int)) (e : Ending) (w' : World) : Prop := match r with
  | some ns => ∃ v, e = .returned (.tuple #[v, .bool true]) ∧ w'.ownsRow base 3 1 v ns.length (ns.map (Value.int .i64))
  | none => e = .returned (.tuple #[.slice none 0 0, .bool false])

theorem index_digs (k : Nat) (h : k < 16) (W : World) :
    (Instr.index 9 (.string ⟨#[48, 49, 50, 51, 52, 53, 54, 55, 56, 57, 97, 98, 99, 100, 101, 102]⟩) (.int .i64 (k : Int))).run Tryd.prog W = .ok (.int .u8 (((dig k).toNat : Nat) : Int)) W := by
  have := index_list digs k (by simpa [digs] using h) W
  have e : dig k = digs[k]'(by simpa [digs] using h) := by
    unfold dig
    rw [List.getD_eq_getElem?_getD, List.getElem?_eq_getElem (by simpa [digs] using h)]
    rfl
  rw [e]
  exact this

set_option maxHeartbeats 4000000 in
set_option maxRecDepth 100000 in
theorem refNums_calls (B : Nat) (M : Int) (hB : B ≤ 16) (hB0 : 1 ≤ B) (hM0 : 0 ≤ M) (hM : M ≤ 65535) (c : UInt8) (s : List UInt8) (hl : s.length ≤ 600) (w : World) :
    Calls Tryd.prog 14 #[.string ⟨s.toArray⟩, .int .u8 (c.toNat : Int), .int .i64 B, .int .i64 M] w fun e w' => IntsOut w.heap.size (rn B M c [] (-1) s) e w' ∧ Below w.heap.size w w' := by
  have hsz : (⟨s.toArray⟩ : ByteArray).size = s.length := by simp [ByteArray.size]
  obtain ⟨R, hR⟩ : ∃ R, rn B M c [] (-1) s = R := ⟨_, rfl⟩
  rw [hR]
  have HR0 := Lib.hid hR
  clear hR
  obtain ⟨i0, hii, hz0, hz1, hz2⟩ := info_parts info_int
  go_enter Tryd.func14, Tryd.ntmps14
  go_wp2
  go_loopw [10, 11, 12] (fun v nv iv wr => ∃ (k : Nat) (n : Int) (out : List Int), k ≤ s.length + 1 ∧ iv = .int .i64 k ∧ nv = .int .i64 n ∧ -1 ≤ n ∧ n ≤ 2000000 ∧ out.length ≤ k ∧ wr.ownsRow w.heap.size 3 1 v out.length (out.map (Value.int .i64)) ∧ Below w.heap.size w wr ∧ Hid (if k ≤ s.length then rn B M c out n (s.drop k) = R else some out = R))
    (fun _ _ iv _ => s.length + 1 - (intOf iv).toNat)
  case atStart => exact ⟨0, -1, [], by omega, rfl, rfl, by omega, by omega, by simp, by simpa using World.ownsRow_nil _ _ _ _, Below.refl _ _, by show _; rw [if_pos (Nat.zero_le _)]; exact HR0.out⟩
  case round =>
    obtain ⟨k, n, out, hk, rfl, rfl, hn0, hn1, hol, hown, hb, hrest⟩ := hrel
    have hbs := hb.size
    by_cases hle : k ≤ s.length
    · have hrs := hrest.out
      rw [if_pos hle] at hrs
      by_cases hlt : k < s.length
      · have hkne : ((k : Int) == (s.length : Int)) = false := by simp; omega
        have hdrop : s.drop k = s[k]'hlt :: s.drop (k + 1) := List.drop_eq_getElem_cons hlt
        have hx := index_list s k hlt
        rw [hdrop] at hrs
        generalize s[k]'hlt = x at hrs hx
        clear hdrop hrest
        by_cases hxc : x = c
        · subst hxc
          have hrs2 : (if n < 0 ∨ M < n then none else rn B M x (out ++ [n]) (-1) (s.drop (k + 1))) = R := by rw [← hrs]; conv => rhs; unfold rn; rw [if_pos rfl]
          clear hrs
          by_cases hbad : n < 0 ∨ M < n
          · rw [if_pos hbad] at hrs2
            subst hrs2
            go_wp2
            all_goals go_ret2
            all_goals exact ⟨rfl, hb⟩
          · rw [if_neg hbad] at hrs2
            have hn2 : ¬ n < 0 := fun h => hbad (.inl h)
            have hn3 : ¬ M < n := fun h => hbad (.inr h)
            have HRS : Hid (if k + 1 ≤ s.length then rn B M x (out ++ [n]) (-1) (s.drop (k + 1)) = R else some (out ++ [n]) = R) := Lib.hid (by rw [if_pos (by omega)]; exact hrs2)
            clear hrs2 hbad
            go_wp2_with (first
              | (at_builtin; refine wpList_append_own _ rfl _ _ 37 rfl w.heap.size 3 i0 (.int .i64 0) 1 8 Tryd.underlying37 hii hz0 hz1 hz2 rfl (by decide) _ _ _ rfl (hown.alloc _) ⟨wr.heap.size, 0, none⟩ 1 1 [.int .i64 n] rfl rfl ?c1 ?c2 ?c3 ?c4 ?c5 ?_))
            case c2 => first | rfl | (intro u hu; simp at hu; subst hu; rfl)
            case c3 => unfold maxLen; omega
            case c4 => have := hb.size; omega
            case c5 => first | omega | (simp; omega)
            intro v' w3 hown' hgrow _
            have hb3 := below_app hb (Nat.le_refl _) (Nat.le_refl _) hown hgrow
            have hown3 : w3.ownsRow w.heap.size 3 1 v' (out ++ [n]).length ((out ++ [n]).map (Value.int .i64)) := by rw [List.map_append, List.length_append]; exact hown'
            clear hown' hgrow hown hb
            go_wp2
            go_roundw
            case rel => exact ⟨k + 1, -1, out ++ [n], by omega, by go_num, rfl, by omega, by omega, by simp; omega, hown3, hb3, HRS⟩
            case measure => simp [intOf]; omega
        · have hxn : ((x.toNat : Int) == (c.toNat : Int)) = false := by
            simp only [beq_eq_false_iff_ne]; intro h; exact hxc (UInt8.toNat_inj.1 (by omega))
          have hrs2 : (if rdTo x B < 0 then none else rn B M c out (if n ≤ M then max n 0 * B + rdTo x B else n) (s.drop (k + 1))) = R := by rw [← hrs]; conv => rhs; unfold rn; rw [if_neg hxc]
          have HRS2 := Lib.hid hrs2
          clear hrs hrs2
          go_wp2
          go_loopw [13, 14] (fun d jv wq => ∃ (j m : Nat), j ≤ B ∧ jv = .int .i64 j ∧ d = .int .i64 (rdTo x j) ∧ wq = wr.drewN m) (fun _ jv _ => B - (intOf jv).toNat)
          case atStart => exact ⟨0, 0, by omega, rfl, rfl, rfl⟩
          case round =>
            obtain ⟨j, m, hj, rfl, rfl, rfl⟩ := hrel
            have hownD : (wr.drewN m).ownsRow w.heap.size 3 1 u10 out.length (out.map (Value.int .i64)) := hown
            have hbD := below_drewN hb m
            have hbd := rdTo_bd x j
            by_cases hjB : j < B
            · have hd := index_digs j (by omega)
              by_cases he : dig j = x
              · have hst : Hid (rdTo x (j + 1) = (j : Int)) := Lib.hid (by unfold rdTo; rw [if_pos he])
                rw [he] at hd
                clear he
                go_wp2
                go_region
                go_wp2
                go_roundw
                case rel => exact ⟨j + 1, m + 1, by omega, by go_num, by rw [hst.out], rfl⟩
                case measure => simp [intOf]; omega
              · have hst : Hid (rdTo x (j + 1) = rdTo x j) := Lib.hid (by conv => lhs; unfold rdTo; rw [if_neg he])
                have hdn : (((dig j).toNat : Int) == (x.toNat : Int)) = false := by
                  simp only [beq_eq_false_iff_ne]; intro h; exact he (UInt8.toNat_inj.1 (by omega))
                clear he
                go_wp2
                go_region
                go_wp2
                go_roundw
                case rel => exact ⟨j + 1, m + 1, by omega, by go_num, by rw [hst.out], rfl⟩
                case measure => simp [intOf]; omega
            · obtain rfl : j = B := by omega
              have hrs3 := HRS2.out
              by_cases hneg : rdTo x j < 0
              · rw [if_pos hneg] at hrs3
                subst hrs3
                go_wp2
                go_ret2
                exact ⟨rfl, hbD⟩
              · rw [if_neg hneg] at hrs3
                generalize rdTo x j = d at hrs3 hneg hbd
                have HRS : Hid (if k + 1 ≤ s.length then rn j M c out (if n ≤ M then max n 0 * j + d else n) (s.drop (k + 1)) = R else some out = R) := Lib.hid (by rw [if_pos (by omega)]; exact hrs3)
                clear hrs3 HRS2
                by_cases hnM : n ≤ M
                · rw [if_pos hnM] at HRS
                  obtain ⟨u, hu⟩ : ∃ u, max n 0 = u := ⟨_, rfl⟩
                  have hu0 : 0 ≤ u := by omega
                  have hu1 : u ≤ 65535 := by omega
                  have hmul : 0 ≤ u * (j : Int) ∧ u * (j : Int) ≤ 65535 * 16 := ⟨Int.mul_nonneg hu0 (by omega), Int.mul_le_mul hu1 (by omega) (by omega) (by omega)⟩
                  rw [hu] at HRS
                  obtain ⟨z, hz⟩ : ∃ z, u * (j : Int) = z := ⟨_, rfl⟩
                  rw [hz] at hmul HRS
                  obtain ⟨hz3, hz4⟩ := hmul
                  go_wp2
                  go_roundw
                  case rel => exact ⟨k + 1, z + d, out, by omega, by go_num, rfl, by omega, by omega, by omega, hownD, hbD, HRS⟩
                  case measure => simp [intOf]; omega
                · rw [if_neg hnM] at HRS
                  go_wp2
                  go_roundw
                  case rel => exact ⟨k + 1, n, out, by omega, by go_num, rfl, by omega, by omega, by omega, hownD, hbD, HRS⟩
                  case measure => simp [intOf]; omega
      · obtain rfl : k = s.length := by omega
        rw [List.drop_length] at hrs
        have hrs2 : (if n < 0 ∨ M < n then none else some (out ++ [n])) = R := hrs
        clear hrs hrest
        by_cases hbad : n < 0 ∨ M < n
        · rw [if_pos hbad] at hrs2
          subst hrs2
          go_wp2
          all_goals go_ret2
          all_goals exact ⟨rfl, hb⟩
        · rw [if_neg hbad] at hrs2
          have hn2 : ¬ n < 0 := fun h => hbad (.inl h)
          have hn3 : ¬ M < n := fun h => hbad (.inr h)
          have HRS : Hid (if s.length + 1 ≤ s.length then rn B M c (out ++ [n]) (-1) (s.drop (s.length + 1)) = R else some (out ++ [n]) = R) := Lib.hid (by rw [if_neg (by omega)]; exact hrs2)
          clear hrs2 hbad
          go_wp2_with (first
            | (at_builtin; refine wpList_append_own _ rfl _ _ 37 rfl w.heap.size 3 i0 (.int .i64 0) 1 8 Tryd.underlying37 hii hz0 hz1 hz2 rfl (by decide) _ _ _ rfl (hown.alloc _) ⟨wr.heap.size, 0, none⟩ 1 1 [.int .i64 n] rfl rfl ?c1 ?c2 ?c3 ?c4 ?c5 ?_))
          case c2 => first | rfl | (intro u hu; simp at hu; subst hu; rfl)
          case c3 => unfold maxLen; omega
          case c4 => have := hb.size; omega
          case c5 => first | omega | (simp; omega)
          intro v' w3 hown' hgrow _
          have hb3 := below_app hb (Nat.le_refl _) (Nat.le_refl _) hown hgrow
          have hown3 : w3.ownsRow w.heap.size 3 1 v' (out ++ [n]).length ((out ++ [n]).map (Value.int .i64)) := by rw [List.map_append, List.length_append]; exact hown'
          clear hown' hgrow hown hb
          go_wp2
          go_roundw
          case rel => exact ⟨s.length + 1, -1, out ++ [n], by omega, by go_num, rfl, by omega, by omega, by simp; omega, hown3, hb3, HRS⟩
          case measure => simp [intOf]
    · obtain rfl : k = s.length + 1 := by omega
      have h2 := hrest.out
      rw [if_neg hle] at h2
      subst h2
      clear hrest
      go_wp2
      go_ret2
      exact ⟨⟨_, rfl, hown⟩, hb⟩
end Go.Proofs.YtojdlhiibffnfabDoor
