/-
  addr.readFour, addr.readGroups.
-/
import Derived.Test.YtojdlhiibffnfabDoorReadNums
import Derived.Test.YtojdlhiibffnfabDoorJoined
import Derived.Test.YtojdlhiibffnfabDoorText
import Derived.Test.YtojdlhiibffnfabDoorAddrAt
namespace Go.Proofs.YtojdlhiibffnfabDoor
open Go.RowKit Go.Sort
set_option linter.unusedVariables false
set_option linter.unusedSimpArgs false

/-- What addr.readFour reads. -/
def fourOf : Option (List Nat) → Option (Bool × Nat × Nat)
  | some [a, b, c, d] => some (false, 0, ((a * 256 + b) * 256 + c) * 256 + d)
  | _ => none
/-- What a reader answers. -/
def ReadOut (r : Option (Bool × Nat × Nat)) (e : Ending) : Prop := match r with
  | some (six, H, L) => e = .returned (.tuple #[.agg #[.bool six, .int .u64 (H : Int), .int .u64 (L : Int)], .bool true])
  | none => e = .returned (.tuple #[.agg #[.bool false, .int .u64 0, .int .u64 0], .bool false])

theorem pu_le {B M : Nat} : ∀ {l : List UInt8} {acc n : Nat}, acc ≤ M → pu B M acc l = some n → n ≤ M
  | [], acc, n, h, e => by simp [pu] at e; omega
  | c :: cs, acc, n, h, e => by
    unfold pu at e
    split at e
    · cases e
    · split at e
      · rename_i hle; exact pu_le hle e
      · cases e
theorem puE_le {B M : Nat} {l : List UInt8} {n : Nat} (e : puE B M l = some n) : n ≤ M := by
  unfold puE at e
  split at e
  · cases e
  · exact pu_le (Nat.zero_le _) e
theorem nums_all {f : List UInt8 → Option Nat} {M : Nat} (hf : ∀ p n, f p = some n → n ≤ M) : ∀ {ps : List (List UInt8)} {ns : List Nat}, nums f ps = some ns → ∀ n ∈ ns, n ≤ M
  | [], ns, h, n, hn => by simp [nums] at h; subst h; cases hn
  | p :: ps, ns, h, n, hn => by
    unfold nums at h
    split at h
    · cases h
    · rename_i m hm
      obtain ⟨ms, hms, rfl⟩ := Option.map_eq_some_iff.1 h
      rcases List.mem_cons.1 hn with rfl | hn
      · exact hf _ _ hm
      · exact nums_all hf hms n hn
theorem numsOf_le {B M : Nat} {c : UInt8} {s : List UInt8} {ns : List Nat} (h : numsOf B M c s = some ns) : ∀ n ∈ ns, n ≤ M := nums_all (fun _ _ => puE_le) h

set_option maxHeartbeats 4000000 in
set_option maxRecDepth 100000 in
theorem readFour_calls (t : ByteArray) (s : List UInt8) (hs : t.data.toList = s) (hl : s.length ≤ 600) (w : World) (hr : RTabs w) :
    Calls Tryd.prog 20 #[.string t] w fun e w' => ReadOut (fourOf (numsOf 10 255 46 s)) e ∧ Below w.heap.size w w' := by
  have C := Lib.hid (readNumbers_calls 10 8 255 (.inl ⟨rfl, rfl, rfl⟩) 46 t s hs hl)
  have hle : ∀ ns, numsOf 10 255 46 s = some ns → ∀ n ∈ ns, n ≤ 255 := fun ns => numsOf_le
  obtain ⟨R, hR⟩ : ∃ R, numsOf 10 255 46 s = R := ⟨_, rfl⟩
  rw [hR] at C hle ⊢
  have HR := Lib.hid hr
  have HLE := Lib.hid hle
  clear hR hs hl hr hle
  go_enter Tryd.func20, Tryd.ntmps20
  go_wp2_with fail
  refine (C.out _ (HR.out.alloc _)).mono ?_
  rintro e w1 ⟨he, hb⟩
  have bb := thenBelow ((Below.refl _ w).alloc (Nat.le_refl _) _) hb
  have A0 := AddrAt.keep (by exact AddrAt.new w false 0 0 24) hb
  have F0 : ∀ o, w1.frozen? ⟨w.heap.size, o, none⟩ = false := fun o => (hb.frozen (p := ⟨w.heap.size, o, none⟩) (by simp)).trans (by simp [go_sem])
  have HA : Hid (AddrW w1 w.heap.size false 0 0) := Lib.hid ⟨A0, F0⟩
  clear C HR hb
  obtain ⟨z0, z1, z2, zs⟩ := A0
  have f0 := F0 0; have f1 := F0 1; have f2 := F0 2
  clear F0
  cases R with
  | none =>
    obtain rfl : e = _ := he
    go_wp2
    try simp only [Exit.inBlock, Exit.then]
    refine bodyPost_ret (by simp [results, Tryd.results20, go_sem, z0, z1, z2]; try rfl) rfl ?_
    exact ⟨rfl, ((bb.setCell (by simp) _).setCell (by simp) _).setCell (by simp) _⟩
  | some ns =>
    obtain ⟨v, rfl, hown⟩ := he
    by_cases hn : ns.length = 4
    · obtain ⟨a, b, c, d, hns⟩ : ∃ a b c d, ns = [a, b, c, d] := by
        match ns, hn with
        | [a, b, c, d], _ => exact ⟨a, b, c, d, rfl⟩
      have hle := HLE.out _ rfl
      rw [hns] at hle hown
      have la : a ≤ 255 := hle a (by simp)
      have lb : b ≤ 255 := hle b (by simp)
      have lc : c ≤ 255 := hle c (by simp)
      have ld : d ≤ 255 := hle d (by simp)
      obtain ⟨g, cap, rfl, hg1, hg2⟩ := hown.form (by simp)
      have c0 : w1.cell? ⟨g, 0, none⟩ = some (.int .u64 (a : Int)) := by rw [hown.cellAt 0 (by simp)]; rfl
      have c1 : w1.cell? ⟨g, 1, none⟩ = some (.int .u64 (b : Int)) := by rw [hown.cellAt 1 (by simp)]; rfl
      have c2 : w1.cell? ⟨g, 2, none⟩ = some (.int .u64 (c : Int)) := by rw [hown.cellAt 2 (by simp)]; rfl
      have c3 : w1.cell? ⟨g, 3, none⟩ = some (.int .u64 (d : Int)) := by rw [hown.cellAt 3 (by simp)]; rfl
      have o0 := or8 0 a (by omega) (by omega) (by omega) (by omega)
      rw [show (0 : Int) * 256 = 0 from rfl, Int.zero_add] at o0
      have o1 := or8 a b (by omega) (by omega) (by omega) (by omega)
      obtain ⟨x, hx⟩ : ∃ x, a * 256 + b = x := ⟨_, rfl⟩
      rw [show (a : Int) * 256 + b = (x : Int) by omega] at o1
      have o2 := or8 x c (by omega) (by omega) (by omega) (by omega)
      obtain ⟨y, hy⟩ : ∃ y, x * 256 + c = y := ⟨_, rfl⟩
      rw [show (x : Int) * 256 + c = (y : Int) by omega] at o2
      have o3 := or8 y d (by omega) (by omega) (by omega) (by omega)
      obtain ⟨z, hz⟩ : ∃ z, y * 256 + d = z := ⟨_, rfl⟩
      rw [show (y : Int) * 256 + d = (z : Int) by omega] at o3
      have HF : Hid (fourOf (some ns) = some (false, 0, z)) := Lib.hid (by rw [hns, ← hz, ← hy, ← hx]; rfl)
      have lx : x ≤ 65535 := by omega
      have ly : y ≤ 16777215 := by omega
      have lz : z ≤ 4294967295 := by omega
      have hgn : g < w1.heap.size := hg2
      clear hle HLE hown hx hy hz hns hn
      go_wp2
      go_rounds 5
      try simp only [Exit.inBlock, Exit.then]
      have ⟨q0, q1, q2, _⟩ := (HA.out.store false 0 (z : Int)).1.alloc (.cells #[.bool false, .int .u64 0, .int .u64 (z : Int)] 24)
      refine bodyPost_ret (by simp only [results, Tryd.results20, go_sem]; simp [results, go_sem, q0, q1, q2]; try rfl) rfl ?_
      exact ⟨by rw [HF.out]; rfl, (((bb.setCell (by simp) _).setCell (by simp) _).setCell (by simp) _).alloc (by simp; omega) _⟩
    · have hf : fourOf (some ns) = none := by
        match ns, hn with
        | [], _ => rfl
        | [_], _ => rfl
        | [_, _], _ => rfl
        | [_, _, _], _ => rfl
        | [_, _, _, _], h => exact absurd rfl h
        | _ :: _ :: _ :: _ :: _ :: _, _ => rfl
      have HF := Lib.hid hf
      have hb4 : ((ns.length : Int) != 4) = true := by simp; omega
      rcases hown.2 with ⟨rfl, hz⟩ | ⟨g, cap, cur, rfl, _⟩
      · clear hown hf HLE hb4 hn
        go_wp2
        try simp only [Exit.inBlock, Exit.then]
        refine bodyPost_ret (by simp [results, Tryd.results20, go_sem, z0, z1, z2]; try rfl) rfl ?_
        exact ⟨by rw [HF.out]; rfl, ((bb.setCell (by simp) _).setCell (by simp) _).setCell (by simp) _⟩
      · clear hown hf HLE
        go_wp2
        try simp only [Exit.inBlock, Exit.then]
        refine bodyPost_ret (by simp [results, Tryd.results20, go_sem, z0, z1, z2]; try rfl) rfl ?_
        exact ⟨by rw [HF.out]; rfl, ((bb.setCell (by simp) _).setCell (by simp) _).setCell (by simp) _⟩
end Go.Proofs.YtojdlhiibffnfabDoor
