/-
  addr.readNumbers.
-/
import Derived.Test.YtojdlhiibffnfabDoorReadBase
import Derived.Test.YtojdlhiibffnfabDoorBitsOf
import Derived.Test.YtojdlhiibffnfabDoorOwns
import Derived.Lib.SplitLaws
namespace Go.Proofs.YtojdlhiibffnfabDoor
open Go.RowKit Go.Sort
set_option linter.unusedVariables false
set_option linter.unusedSimpArgs false

/-- All pieces read, or none. -/
def nums (f : List UInt8 → Option Nat) : List (List UInt8) → Option (List Nat)
  | [] => some []
  | p :: ps => match f p with
    | none => none
    | some n => (nums f ps).map (n :: ·)
theorem nums_on {f : List UInt8 → Option Nat} {p : List UInt8} {ps : List (List UInt8)} {n : Nat} {ns : List Nat} (h : f p = some n) : (nums f (p :: ps)).map (ns ++ ·) = (nums f ps).map ((ns ++ [n]) ++ ·) := by
  simp only [nums, h]
  cases nums f ps <;> simp
theorem nums_no {f : List UInt8 → Option Nat} {p : List UInt8} {ps : List (List UInt8)} {ns : List Nat} (h : f p = none) : (nums f (p :: ps)).map (ns ++ ·) = none := by
  simp [nums, h]
theorem nums_length {f : List UInt8 → Option Nat} : ∀ {ps : List (List UInt8)} {ns : List Nat}, nums f ps = some ns → ns.length = ps.length
  | [], ns, h => by simp [nums] at h; subst h; rfl
  | p :: ps, ns, h => by
    unfold nums at h
    split at h
    · cases h
    · obtain ⟨ms, hm, rfl⟩ := Option.map_eq_some_iff.1 h
      simp [nums_length hm]

/-- The numbers that are read of a text. -/
def numsOf (B M : Nat) (c : UInt8) (s : List UInt8) : Option (List Nat) := nums (puE B M) (Lib.split s [c])

/-- What readNumbers answers. -/
def NumsOut (base : Nat) (r : Option (List Nat)) (e : Ending) (w' : World) : Prop := match r with
  | some ns => ∃ v, e = .returned (.tuple #[v, .bool true]) ∧ w'.ownsRow base 22 1 v ns.length (ns.map fun n => Value.int .u64 ((n : Nat) : Int))
  | none => e = .returned (.tuple #[.slice none 0 0, .bool false])

theorem info_u64 : (Tryd.prog.info? 22).map (fun i => (i.zero, i.size, i.bytes)) = some (some (.int .u64 0), 1, 8) := by kernel_rfl

theorem one_sz (c : UInt8) : 1 ≤ (⟨#[c]⟩ : ByteArray).size := Nat.le_refl 1
theorem map_nil_app (x : Option (List Nat)) : x.map ([] ++ ·) = x := by cases x <;> rfl
theorem splitB_small (sep : ByteArray) : ∀ (k : Nat) (s q : ByteArray), q ∈ Lib.splitB sep 0 k s → q.size ≤ s.size
  | 0, s, q, h => by
    rw [Lib.splitB_zero, List.mem_singleton] at h
    rw [h]; exact Nat.le_refl _
  | k + 1, s, q, h => by
    unfold Lib.splitB at h
    split at h
    · rw [List.mem_singleton] at h
      rw [h]; exact Nat.le_refl _
    · rcases List.mem_cons.1 h with rfl | h
      · rw [ByteArray.size_extract]; omega
      · have := splitB_small sep k _ q h
        rw [ByteArray.size_extract] at this
        omega

set_option maxHeartbeats 2000000 in
set_option maxRecDepth 100000 in
theorem readNumbers_calls (B Z M : Nat) (hw : Way B Z M) (c : UInt8) (t : ByteArray) (s : List UInt8) (hs : t.data.toList = s) (hl : s.length ≤ 600) (w : World) (hr : RTabs w) :
    Calls Tryd.prog 35 #[.string t, .string ⟨#[c]⟩, .int .i64 B, .int .i64 Z] w fun e w' => NumsOut w.heap.size (numsOf B M c s) e w' ∧ Below w.heap.size w w' := by
  obtain ⟨hr1, ⟨mx, hmx⟩, hr3⟩ := hr
  have hr : RTabs w := ⟨hr1, ⟨mx, hmx⟩, hr3⟩
  have hts : t.size ≤ 600 := by rw [Lib.size_eq, hs]; exact hl
  have cs := Tryd.strings_Split t ⟨#[c]⟩ mx w (by omega) hmx (one_sz c)
  have hql := Lib.splitB_all ⟨#[c]⟩ (one_sz c) 0 (Lib.countB t ⟨#[c]⟩) t rfl
  have hqd := Lib.splitB_data ⟨#[c]⟩ 0 (Lib.countB t ⟨#[c]⟩) t
  have hcl := Lib.countB_le ⟨#[c]⟩ (one_sz c) t.size t (Nat.le_refl _)
  have hqb : ∀ q ∈ Lib.splitB ⟨#[c]⟩ 0 (Lib.countB t ⟨#[c]⟩) t, q.data.toList.length ≤ 1000 := by
    intro q hq
    have := splitB_small _ _ _ _ hq
    rw [← Lib.size_eq]; omega
  have hns : numsOf B M c s = nums (puE B M) ((Lib.splitB ⟨#[c]⟩ 0 (Lib.countB t ⟨#[c]⟩) t).map (·.data.toList)) := by
    rw [hqd, ← hs]
    rfl
  rw [hns]
  obtain ⟨qs, hqs⟩ : ∃ qs, Lib.splitB ⟨#[c]⟩ 0 (Lib.countB t ⟨#[c]⟩) t = qs := ⟨_, rfl⟩
  rw [hqs] at cs hql hqb ⊢
  obtain ⟨n, hn⟩ : ∃ n, Lib.countB t ⟨#[c]⟩ = n := ⟨_, rfl⟩
  rw [hn] at cs hql hcl
  obtain ⟨R, hR⟩ : ∃ R, nums (puE B M) (qs.map (·.data.toList)) = R := ⟨_, rfl⟩
  rw [hR]
  have HRR := Lib.hid hR
  have CS := Lib.hid cs
  have HQB := Lib.hid hqb
  have HQL := Lib.hid hql
  have HWAY := Lib.hid hw
  have HR := Lib.hid hr
  have hn6 : n ≤ 600 := by omega
  clear hns hqs hn hqd hR cs hqb hql hw hr hr1 hmx hr3 hs hl hcl
  obtain ⟨i0, hii, hz0, hz1, hz2⟩ := info_parts info_u64
  go_enter Tryd.func35, Tryd.ntmps35
  go_wp2_with (go_at_call 49; refine CS.out.mono ?_; rintro e w1 ⟨rfl, rfl⟩)
  have HC : Hid (∀ (k : Nat) q, qs[k]? = some q → (w.alloc (.cells (qs.map Value.string).toArray 9)).cell? ⟨w.heap.size, k, none⟩ = some (.string q)) := Lib.hid (fun k q h => by
    simp [h])
  have R1 : Hid (RTabs (w.alloc (.cells (qs.map Value.string).toArray 9))) := Lib.hid (HR.out.alloc _)
  have B1 : Below w.heap.size w (w.alloc (.cells (qs.map Value.string).toArray 9)) := (Below.refl _ w).alloc (Nat.le_refl _) _
  have hlt1 : w.heap.size < (w.alloc (.cells (qs.map Value.string).toArray 9)).heap.size := by simp
  obtain ⟨w1, hw1⟩ : ∃ w1, w.alloc (.cells (qs.map Value.string).toArray 9) = w1 := ⟨_, rfl⟩
  rw [hw1] at HC R1 B1 hlt1 ⊢
  clear hw1 CS HR
  go_loopw [10, 19] (fun v i wr => ∃ (k : Nat) (ns : List Nat), k ≤ n + 1 ∧ i = .int .i64 k ∧ ns.length = k ∧ wr.ownsRow w1.heap.size 22 1 v ns.length (ns.map fun n => Value.int .u64 ((n : Nat) : Int)) ∧ Below w1.heap.size w1 wr ∧ Hid ((nums (puE B M) ((qs.drop k).map (·.data.toList))).map (ns ++ ·) = R))
    (fun _ i _ => n + 1 - (intOf i).toNat)
  case atStart => exact ⟨0, [], by omega, rfl, rfl, by simpa using World.ownsRow_nil _ _ _ _, Below.refl _ _, by show _ = _; rw [map_nil_app]; exact HRR.out⟩
  case round =>
    obtain ⟨k, ns, hk, rfl, hkn, hown, hnx, hrest⟩ := hrel
    have hsz := hnx.size
    by_cases hlt : k < n + 1
    · have hkq : k < qs.length := by rw [HQL.out]; exact hlt
      have hcell : wr.cell? ⟨w.heap.size, k, none⟩ = some (.string qs[k]) := (hnx.cell (p := ⟨w.heap.size, k, none⟩) hlt1).trans (HC.out k _ (List.getElem?_eq_getElem hkq))
      have hdrop : (qs.drop k).map (·.data.toList) = qs[k].data.toList :: (qs.drop (k + 1)).map (·.data.toList) := by rw [List.drop_eq_getElem_cons hkq]; rfl
      have hqb := HQB.out _ (List.getElem_mem hkq)
      have hrs := hrest.out
      rw [hdrop] at hrs
      generalize qs[k] = q at hcell hrs hqb
      have CP := Lib.hid (parseUint_calls B Z M HWAY.out q _ rfl hqb wr (R1.out.keep hnx))
      clear hdrop hrest hkq hqb
      go_wp2_with fail
      refine CP.out.mono ?_
      rintro e w2 ⟨he, hb2⟩
      obtain ⟨r, hre⟩ : ∃ r, puE B M q.data.toList = r := ⟨_, rfl⟩
      rw [hre] at he
      cases r with
      | none =>
        obtain ⟨m, ty, v, rfl⟩ := he
        rw [nums_no hre] at hrs
        subst hrs
        clear hre CP
        go_wp2
        go_ret2
        exact ⟨rfl, thenBelow B1 (thenBelow hnx hb2)⟩
      | some u =>
        obtain rfl : e = _ := he
        rw [nums_on hre] at hrs
        have HRS := Lib.hid hrs
        have hown2 := ownsKeep hown hb2
        have hnx2 := thenBelow hnx hb2
        have hsz2 := hnx2.size
        have hn7 : ns.length ≤ 600 := by omega
        clear hre CP hrs hown hnx
        go_wp2_with (first
          | (at_builtin; refine wpList_append_own _ rfl _ _ 59 rfl w1.heap.size 22 i0 (.int .u64 0) 1 8 Tryd.underlying59 hii hz0 hz1 hz2 rfl (by decide) _ _ _ rfl (hown2.alloc _) ⟨w2.heap.size, 0, none⟩ 1 1 [.int .u64 (u : Int)] rfl rfl ?c1 ?c2 ?c3 ?c4 ?c5 ?_))
        case c1 => exact cell_one_new _ _ _
        case c2 => intro u hu; simp at hu; subst hu; rfl
        case c3 => unfold maxLen; omega
        case c4 => omega
        case c5 => simp; omega
        · intro v' w3 hown' hgrow _
          have hb3 := below_app hnx2 (Nat.le_refl _) (Nat.le_refl _) hown2 hgrow
          have hown3 : w3.ownsRow w1.heap.size 22 1 v' (ns ++ [u]).length ((ns ++ [u]).map fun n => Value.int .u64 ((n : Nat) : Int)) := by rw [List.map_append, List.length_append, hkn]; exact hown'
          clear hown' hgrow hown2 hnx2 hcell
          go_wp2
          go_roundw
          case rel => exact ⟨k + 1, ns ++ [u], by omega, by go_num, by simp [hkn], hown3, hb3, HRS⟩
          case measure => simp [intOf]; omega
    · obtain rfl : k = n + 1 := by omega
      have hrs := hrest.out
      rw [List.drop_of_length_le (by rw [HQL.out]; omega)] at hrs
      have h2 : some ns = R := by rw [← hrs]; simp [nums]
      subst h2
      clear hrs hrest
      go_wp2
      go_ret2
      exact ⟨⟨_, rfl, ownsLow hown (by have := B1.size; omega)⟩, thenBelow B1 hnx⟩
end Go.Proofs.YtojdlhiibffnfabDoor
