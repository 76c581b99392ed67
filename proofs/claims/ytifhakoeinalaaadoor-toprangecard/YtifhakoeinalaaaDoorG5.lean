/-
  Laid together: CidrB, SamePres, CidrC, CidrD, Sets, SetsB, SetsC, CidrE, CidrF, CidrG, CidrH, CidrI, CidrJ, CidrK.
-/
import Derived.Test.YtifhakoeinalaaaDoorG4
import Derived.Test.YtifhakoeinalaaaDoorG1
import Derived.Test.YtifhakoeinalaaaDoorAppTwo
import Derived.Test.YtifhakoeinalaaaDoorG3
import Derived.Test.YtifhakoeinalaaaDoorG2
/-
  Blocks of addresses as prefixes in memory; pre.Span and pre.Halves of a block.
-/
namespace Go.Proofs.YtifhakoeinalaaaDoor
open Go.RowKit
set_option linter.unusedVariables false
set_option linter.unusedSimpArgs false

/-- The addresses from x on, 2^k of them, are a block of this family. -/
def AL (six : Bool) (x k : Nat) : Prop := k ≤ wideN six ∧ x + 2 ^ k ≤ 2 ^ wideN six ∧ ∃ c, x = c * 2 ^ k
theorem AL.top (six : Bool) : AL six 0 (wideN six) := ⟨Nat.le_refl _, by omega, 0, by simp⟩
theorem AL.low {six : Bool} {x k : Nat} (h : AL six x (k + 1)) : AL six x k := by
  obtain ⟨a, b, c, d⟩ := h
  have := pow_one k
  rw [pow_up] at b d
  exact ⟨by omega, by omega, c * 2, by rw [d, Nat.mul_add, Nat.mul_assoc, Nat.two_mul, Nat.mul_add]⟩
theorem AL.high {six : Bool} {x k : Nat} (h : AL six x (k + 1)) : AL six (x + 2 ^ k) k := by
  obtain ⟨a, b, c, d⟩ := h
  rw [pow_up] at b d
  refine ⟨by omega, by omega, c * 2 + 1, ?_⟩
  rw [d, Nat.add_mul, Nat.one_mul, Nat.mul_add, Nat.mul_assoc, Nat.two_mul, Nat.mul_add]
theorem AL.lt {six : Bool} {x k : Nat} (h : AL six x k) : x < 2 ^ wideN six := by have := pow_one k; have := h.2.1; omega
theorem AL.lt128 {six : Bool} {x k : Nat} (h : AL six x k) : x < 2 ^ 128 := YtifhakoeinalaaaDoor.lt128 h.lt
theorem low_mul (c k : Nat) : lowN (c * 2 ^ k) k = c * 2 ^ k := by unfold lowN; rw [Nat.mul_div_cancel _ (Nat.two_pow_pos k)]
theorem AL.lowN {six : Bool} {x k : Nat} (h : AL six x k) : lowN x k = x := by obtain ⟨c, d⟩ := h.2.2; rw [d, low_mul]
theorem AL.topN {six : Bool} {x k : Nat} (h : AL six x k) : topN x k = x + (2 ^ k - 1) := by rw [topN_low, h.lowN]
theorem AL.chk {six : Bool} {x k : Nat} (h : AL six x k) : chkE six x ((wideN six - k : Nat) : Int) = 0 :=
  chk_mk six x _ h.lt (Nat.sub_le _ _) (by rw [show wideN six - (wideN six - k) = k by have := h.1; omega]; exact h.lowN)
theorem AL.halfTop {six : Bool} {x k : Nat} (h : AL six x (k + 1)) : Go.Proofs.YtifhakoeinalaaaDoor.lowN (x + (2 ^ (k + 1) - 1)) k = x + 2 ^ k := by
  obtain ⟨c, d⟩ := h.high.2.2
  have h1 := pow_one k
  unfold Go.Proofs.YtifhakoeinalaaaDoor.lowN
  have e : x + (2 ^ (k + 1) - 1) = 2 ^ k * c + (2 ^ k - 1) := by rw [pow_up, Nat.mul_comm, ← d]; omega
  rw [e, Nat.mul_add_div (Nat.two_pow_pos k), Nat.div_eq_of_lt (by omega), Nat.add_zero, d]

theorem span_al {six : Bool} {x k : Nat} (h : AL six x k) (w : World) :
    Calls Tryd.prog 41 #[.agg #[.bool six, .int .u64 (aH x), .int .u64 (aL x), .int .i64 ((wideN six - k : Nat) : Int)]] w fun e w' => e = .returned (.tuple #[.agg #[.bool six, .int .u64 (aH x), .int .u64 (aL x)], .agg #[.bool six, .int .u64 (aH (x + (2 ^ k - 1))), .int .u64 (aL (x + (2 ^ k - 1)))], .int .i64 0]) ∧ Below w.heap.size w w' := by
  have c := span_ok six x (wideN six - k) h.lt128 (Nat.sub_le _ _) h.chk w
  rw [show wideN six - (wideN six - k) = k by have := h.1; omega, h.topN] at c
  exact c
theorem halves_al {six : Bool} {x k : Nat} (h : AL six x (k + 1)) (w : World) :
    Calls Tryd.prog 42 #[.agg #[.bool six, .int .u64 (aH x), .int .u64 (aL x), .int .i64 ((wideN six - (k + 1) : Nat) : Int)]] w fun e w' => e = .returned (.tuple #[.agg #[.bool six, .int .u64 (aH x), .int .u64 (aL x), .int .i64 ((wideN six - k : Nat) : Int)], .agg #[.bool six, .int .u64 (aH (x + 2 ^ k)), .int .u64 (aL (x + 2 ^ k)), .int .i64 ((wideN six - k : Nat) : Int)], .int .i64 0]) ∧ Below w.heap.size w w' := by
  have hk := h.1
  have c := halves_ok six x (wideN six - (k + 1)) (by omega) h.lt128 h.chk w
  rw [show wideN six - (wideN six - (k + 1) + 1) = k by omega, show wideN six - (wideN six - (k + 1)) = k + 1 by omega, h.topN, h.halfTop, h.low.lowN, show ((wideN six - (k + 1) : Nat) : Int) + 1 = ((wideN six - k : Nat) : Int) by omega] at c
  exact c

/-- A prefix as it lies in a slice: family, address, Len. -/
abbrev PT := Bool × Nat × Int
def pcs (p : PT) : List Value := [.bool p.1, .int .u64 (aH p.2.1), .int .u64 (aL p.2.1), .int .i64 p.2.2]
def pRow (l : List PT) : List Value := l.flatMap pcs
theorem pRow_len (l : List PT) : (pRow l).length = l.length * 4 := by
  unfold pRow
  induction l with
  | nil => rfl
  | cons a l ih => rw [List.flatMap_cons, List.length_append, ih, List.length_cons]; simp [pcs]; omega
theorem pRow_app (l m : List PT) : pRow (l ++ m) = pRow l ++ pRow m := by unfold pRow; exact List.flatMap_append
theorem pRow_one (l : List PT) : ∀ u ∈ pRow l, u.oneCell' = true := by
  intro u hu
  unfold pRow at hu
  obtain ⟨p, _, h⟩ := List.mem_flatMap.1 hu
  simp only [pcs, List.mem_cons, List.not_mem_nil, or_false] at h
  rcases h with h | h | h | h <;> subst h <;> rfl
/-- A slice of prefixes that a call has made, its blocks from 'base' on. -/
abbrev Owned (w : World) (base : Nat) (v : Value) (l : List PT) : Prop := w.ownsRow base 33 4 v l.length (pRow l)
theorem owned_nil (w : World) (base : Nat) : Owned w base (.slice none 0 0) [] := World.ownsRow_nil _ _ _ _
theorem owned_one (w : World) (base : Nat) (hb : base ≤ w.heap.size) (s : Bool) (x : Nat) (n : Int) :
    Owned (w.alloc (.cells #[.bool s, .int .u64 (aH x), .int .u64 (aL x), .int .i64 n] 33)) base (.slice (some ⟨w.heap.size, 0, none⟩) 1 1) [(s, x, n)] :=
  ⟨rfl, .inr ⟨w.heap.size, 1, #[.bool s, .int .u64 (aH x), .int .u64 (aL x), .int .i64 n], rfl, hb, heap_alloc_new w _, Nat.le_refl _, by unfold maxLen; omega, rfl, rfl⟩⟩
theorem preCells {w : World} {b : Nat} {s : Bool} {h l n : Int} (a : PreAt w b s h l n) : w.cell? ⟨b, 0, none⟩ = some (.bool s) ∧ w.cell? ⟨b, 1, none⟩ = some (.int .u64 h) ∧ w.cell? ⟨b, 2, none⟩ = some (.int .u64 l) ∧ w.cell? ⟨b, 3, none⟩ = some (.int .i64 n) ∧ b < w.heap.size := a
theorem addrCells {w : World} {b : Nat} {s : Bool} {h l : Int} (a : AddrAt w b s h l) : w.cell? ⟨b, 0, none⟩ = some (.bool s) ∧ w.cell? ⟨b, 1, none⟩ = some (.int .u64 h) ∧ w.cell? ⟨b, 2, none⟩ = some (.int .u64 l) ∧ b < w.heap.size := a
theorem info_pre : (Tryd.prog.info? 33).map (fun i => (i.zero, i.size, i.bytes)) = some (some (.agg #[.bool false, .int .u64 0, .int .u64 0, .int .i64 0]), 4, 32) := by kernel_rfl
/-- What a call that hands back a list of prefixes says. -/
abbrev PresOut (l : List PT) (w : World) (e : Ending) (w' : World) : Prop := ∃ v, e = .returned v ∧ Owned w' w.heap.size v l ∧ Below w.heap.size w w'
/-- What a call that hands back a list of prefixes and an error says. -/
abbrev PresOutE (l : List PT) (E : Int) (w : World) (e : Ending) (w' : World) : Prop := ∃ v, e = .returned (.tuple #[v, .int .i64 E]) ∧ Owned w' w.heap.size v l ∧ Below w.heap.size w w'
def bl (six : Bool) (p : Nat × Nat) : PT := (six, p.1, ((wideN six - p.2 : Nat) : Int))
/-- The smallest list of prefixes of one family for the addresses of S in the block (x, k). -/
noncomputable def cn (six : Bool) (S : Nat → Prop) (k x : Nat) : List PT := (canon S k x).map (bl six)
theorem cn_all {six : Bool} {S : Nat → Prop} {k x : Nat} (h : ∀ a, inB x k a → S a) : cn six S k x = [(six, x, ((wideN six - k : Nat) : Int))] := by unfold cn; rw [canon_all h]; rfl
theorem cn_none {six : Bool} {S : Nat → Prop} {k x : Nat} (h : ∀ a, inB x k a → ¬ S a) : cn six S k x = [] := by unfold cn; rw [canon_none h]; rfl
theorem cn_half {six : Bool} {S : Nat → Prop} {k x : Nat} (h : ¬ ∀ a, inB x (k + 1) a → S a) : cn six S (k + 1) x = cn six S k x ++ cn six S k (x + 2 ^ k) := by unfold cn; rw [canon_half h, List.map_append]
end Go.Proofs.YtifhakoeinalaaaDoor
/-
  The law's samePres of two lists of prefixes that are the same.
-/
namespace Go.Proofs.YtifhakoeinalaaaDoor
open Go.RowKit
set_option linter.unusedVariables false
set_option linter.unusedSimpArgs false

/-- A list of prefixes that can be read: its k-th one lies there. -/
theorem owned_at {w : World} {base g cap n : Nat} {l : List PT} (h : Owned w base (.slice (some ⟨g, 0, none⟩) n cap) l) (hn : n = l.length) (k : Nat) (hk : k < l.length) :
    w.cell? ⟨g, k * 4, none⟩ = some (.bool (l[k]'hk).1) ∧ w.cell? ⟨g, k * 4 + 1, none⟩ = some (.int .u64 (aH (l[k]'hk).2.1)) ∧ w.cell? ⟨g, k * 4 + 2, none⟩ = some (.int .u64 (aL (l[k]'hk).2.1)) ∧ w.cell? ⟨g, k * 4 + 3, none⟩ = some (.int .i64 (l[k]'hk).2.2) := by
  subst hn
  have key : ∀ (m : List PT) (k : Nat) (hk : k < m.length) (j : Nat) (hj : j < 4), (pRow m)[k * 4 + j]? = (pcs (m[k]'hk))[j]? := by
    intro m
    induction m with
    | nil => intro k hk; cases hk
    | cons p m ih =>
      intro k hk j hj
      show (pcs p ++ pRow m)[k * 4 + j]? = _
      cases k with
      | zero => rw [List.getElem?_append_left (by simp [pcs]; omega)]; simp
      | succ k =>
        rw [List.getElem?_append_right (by simp [pcs]; omega), show (k + 1) * 4 + j - (pcs p).length = k * 4 + j by simp [pcs]; omega]
        exact ih k (by simpa using hk) j hj
  have c : ∀ j, j < 4 → w.cell? ⟨g, k * 4 + j, none⟩ = (pcs (l[k]'hk))[j]? := fun j hj => by
    rw [h.cellAt (k * 4 + j) (by omega), key l k hk j hj]
  exact ⟨c 0 (by omega), c 1 (by omega), c 2 (by omega), c 3 (by omega)⟩
end Go.Proofs.YtifhakoeinalaaaDoor
/-
  cidr.rangeWithin.
-/
namespace Go.Proofs.YtifhakoeinalaaaDoor
open Go.RowKit
set_option linter.unusedVariables false
set_option linter.unusedSimpArgs false

theorem less_is (s t : Bool) (x y : Nat) (b : Bool) (h : decide (x < y) = b) (w : World) :
    Calls Tryd.prog 24 #[.agg #[.bool s, .int .u64 (aH x), .int .u64 (aL x)], .agg #[.bool t, .int .u64 (aH y), .int .u64 (aL y)]] w fun e w' => e = .returned (.bool b) ∧ Below w.heap.size w w' := by
  have := less_calls s t x y w
  rw [h] at this
  exact this
set_option maxHeartbeats 1000000 in
theorem rw_none1 (six : Bool) (x k a b : Nat) (hA : AL six x k) (h : x + (2 ^ k - 1) < a) (w : World) :
    Calls Tryd.prog 25 #[.agg #[.bool six, .int .u64 (aH x), .int .u64 (aL x), .int .i64 ((wideN six - k : Nat) : Int)], .agg #[.bool six, .int .u64 (aH a), .int .u64 (aL a)], .agg #[.bool six, .int .u64 (aH b), .int .u64 (aL b)]] w (PresOut [] w) := by
  have L0 := Lib.hid (less_is six six (x + (2 ^ k - 1)) a true (decide_eq_true h))
  go_enter Tryd.func25, Tryd.ntmps25
  go_wp2_with fail
  refine (span_al hA _).mono ?_
  rintro e w1 ⟨rfl, hb1⟩
  have b1 := thenBelow (show Below w.heap.size w _ from (by first | exact Below.refl _ _ | exact (Below.refl _ _).alloc (Nat.le_refl _) _ | exact ((Below.refl _ _).alloc (Nat.le_refl _) _).alloc (by simp) _ | exact (((Below.refl _ _).alloc (Nat.le_refl _) _).alloc (by simp) _).alloc (by simp; omega) _)) hb1
  have Gp := (PreAt.new (w) six (aH x) (aL x) ((wideN six - k : Nat) : Int) 33).via (by first | exact Below.refl _ _ | exact (Below.refl _ _).alloc (Nat.le_refl _) _ | exact ((Below.refl _ _).alloc (Nat.le_refl _) _).alloc (by simp) _ | exact (((Below.refl _ _).alloc (Nat.le_refl _) _).alloc (by simp) _).alloc (by simp; omega) _) hb1
  try simp only [World.size_alloc] at Gp
  have Fp := Lib.hid Gp
  clear Gp
  have Gfi := (AddrAt.new ((w.alloc (.cells #[.bool six, .int .u64 (aH x), .int .u64 (aL x), .int .i64 ((wideN six - k : Nat) : Int)] 33))) six (aH a) (aL a) 31).via (by first | exact Below.refl _ _ | exact (Below.refl _ _).alloc (Nat.le_refl _) _ | exact ((Below.refl _ _).alloc (Nat.le_refl _) _).alloc (by simp) _ | exact (((Below.refl _ _).alloc (Nat.le_refl _) _).alloc (by simp) _).alloc (by simp; omega) _) hb1
  try simp only [World.size_alloc] at Gfi
  have Ffi := Lib.hid Gfi
  clear Gfi
  have Gla := (AddrAt.new (((w.alloc (.cells #[.bool six, .int .u64 (aH x), .int .u64 (aL x), .int .i64 ((wideN six - k : Nat) : Int)] 33)).alloc (.cells #[.bool six, .int .u64 (aH a), .int .u64 (aL a)] 31))) six (aH b) (aL b) 31).via (by first | exact Below.refl _ _ | exact (Below.refl _ _).alloc (Nat.le_refl _) _ | exact ((Below.refl _ _).alloc (Nat.le_refl _) _).alloc (by simp) _ | exact (((Below.refl _ _).alloc (Nat.le_refl _) _).alloc (by simp) _).alloc (by simp; omega) _) hb1
  try simp only [World.size_alloc] at Gla
  have Fla := Lib.hid Gla
  clear Gla
  clear hb1
  obtain ⟨fi_0, fi_1, fi_2, fi_l⟩ := Ffi.out
  have fi_m := Nat.lt_succ_of_lt fi_l
  try simp only [Nat.succ_eq_add_one, Nat.add_lt_add_iff_right] at fi_m
  go_wp2_with fail
  refine (L0.out _).mono ?_
  rintro e w2 ⟨rfl, hb2⟩
  have b2 := thenBelow (thenBelow b1 (by first | exact Below.refl _ _ | exact (Below.refl _ _).alloc (Nat.le_refl _) _ | exact ((Below.refl _ _).alloc (Nat.le_refl _) _).alloc (by simp) _ | exact (((Below.refl _ _).alloc (Nat.le_refl _) _).alloc (by simp) _).alloc (by simp; omega) _)) hb2
  clear fi_0 fi_1 fi_2 fi_l fi_m
  have Fp := Lib.hid (Fp.out.via (by first | exact Below.refl _ _ | exact (Below.refl _ _).alloc (Nat.le_refl _) _ | exact ((Below.refl _ _).alloc (Nat.le_refl _) _).alloc (by simp) _ | exact (((Below.refl _ _).alloc (Nat.le_refl _) _).alloc (by simp) _).alloc (by simp; omega) _) hb2)
  have Ffi := Lib.hid (Ffi.out.via (by first | exact Below.refl _ _ | exact (Below.refl _ _).alloc (Nat.le_refl _) _ | exact ((Below.refl _ _).alloc (Nat.le_refl _) _).alloc (by simp) _ | exact (((Below.refl _ _).alloc (Nat.le_refl _) _).alloc (by simp) _).alloc (by simp; omega) _) hb2)
  have Fla := Lib.hid (Fla.out.via (by first | exact Below.refl _ _ | exact (Below.refl _ _).alloc (Nat.le_refl _) _ | exact ((Below.refl _ _).alloc (Nat.le_refl _) _).alloc (by simp) _ | exact (((Below.refl _ _).alloc (Nat.le_refl _) _).alloc (by simp) _).alloc (by simp; omega) _) hb2)
  have Glo := (AddrAt.new (w1) six (aH x) (aL x) 31).via (by first | exact Below.refl _ _ | exact (Below.refl _ _).alloc (Nat.le_refl _) _ | exact ((Below.refl _ _).alloc (Nat.le_refl _) _).alloc (by simp) _ | exact (((Below.refl _ _).alloc (Nat.le_refl _) _).alloc (by simp) _).alloc (by simp; omega) _) hb2
  try simp only [World.size_alloc] at Glo
  have Flo := Lib.hid Glo
  clear Glo
  have Ghi := (AddrAt.new ((w1.alloc (.cells #[.bool six, .int .u64 (aH x), .int .u64 (aL x)] 31))) six (aH (x + (2 ^ k - 1))) (aL (x + (2 ^ k - 1))) 31).via (by first | exact Below.refl _ _ | exact (Below.refl _ _).alloc (Nat.le_refl _) _ | exact ((Below.refl _ _).alloc (Nat.le_refl _) _).alloc (by simp) _ | exact (((Below.refl _ _).alloc (Nat.le_refl _) _).alloc (by simp) _).alloc (by simp; omega) _) hb2
  try simp only [World.size_alloc] at Ghi
  have Fhi := Lib.hid Ghi
  clear Ghi
  clear hb2 b1
  go_wp2
  go_returns
  exact ⟨_, rfl, owned_nil _ _, (thenBelow b2 (by first | exact Below.refl _ _ | exact (Below.refl _ _).alloc (Nat.le_refl _) _ | exact ((Below.refl _ _).alloc (Nat.le_refl _) _).alloc (by simp) _ | exact (((Below.refl _ _).alloc (Nat.le_refl _) _).alloc (by simp) _).alloc (by simp; omega) _))⟩
set_option maxHeartbeats 1000000 in
theorem rw_none2 (six : Bool) (x k a b : Nat) (hA : AL six x k) (h0 : ¬ x + (2 ^ k - 1) < a) (h : b < x) (w : World) :
    Calls Tryd.prog 25 #[.agg #[.bool six, .int .u64 (aH x), .int .u64 (aL x), .int .i64 ((wideN six - k : Nat) : Int)], .agg #[.bool six, .int .u64 (aH a), .int .u64 (aL a)], .agg #[.bool six, .int .u64 (aH b), .int .u64 (aL b)]] w (PresOut [] w) := by
  have L0 := Lib.hid (less_is six six (x + (2 ^ k - 1)) a false (decide_eq_false h0))
  have L1 := Lib.hid (less_is six six b x true (decide_eq_true h))
  go_enter Tryd.func25, Tryd.ntmps25
  go_wp2_with fail
  refine (span_al hA _).mono ?_
  rintro e w1 ⟨rfl, hb1⟩
  have b1 := thenBelow (show Below w.heap.size w _ from (by first | exact Below.refl _ _ | exact (Below.refl _ _).alloc (Nat.le_refl _) _ | exact ((Below.refl _ _).alloc (Nat.le_refl _) _).alloc (by simp) _ | exact (((Below.refl _ _).alloc (Nat.le_refl _) _).alloc (by simp) _).alloc (by simp; omega) _)) hb1
  have Gp := (PreAt.new (w) six (aH x) (aL x) ((wideN six - k : Nat) : Int) 33).via (by first | exact Below.refl _ _ | exact (Below.refl _ _).alloc (Nat.le_refl _) _ | exact ((Below.refl _ _).alloc (Nat.le_refl _) _).alloc (by simp) _ | exact (((Below.refl _ _).alloc (Nat.le_refl _) _).alloc (by simp) _).alloc (by simp; omega) _) hb1
  try simp only [World.size_alloc] at Gp
  have Fp := Lib.hid Gp
  clear Gp
  have Gfi := (AddrAt.new ((w.alloc (.cells #[.bool six, .int .u64 (aH x), .int .u64 (aL x), .int .i64 ((wideN six - k : Nat) : Int)] 33))) six (aH a) (aL a) 31).via (by first | exact Below.refl _ _ | exact (Below.refl _ _).alloc (Nat.le_refl _) _ | exact ((Below.refl _ _).alloc (Nat.le_refl _) _).alloc (by simp) _ | exact (((Below.refl _ _).alloc (Nat.le_refl _) _).alloc (by simp) _).alloc (by simp; omega) _) hb1
  try simp only [World.size_alloc] at Gfi
  have Ffi := Lib.hid Gfi
  clear Gfi
  have Gla := (AddrAt.new (((w.alloc (.cells #[.bool six, .int .u64 (aH x), .int .u64 (aL x), .int .i64 ((wideN six - k : Nat) : Int)] 33)).alloc (.cells #[.bool six, .int .u64 (aH a), .int .u64 (aL a)] 31))) six (aH b) (aL b) 31).via (by first | exact Below.refl _ _ | exact (Below.refl _ _).alloc (Nat.le_refl _) _ | exact ((Below.refl _ _).alloc (Nat.le_refl _) _).alloc (by simp) _ | exact (((Below.refl _ _).alloc (Nat.le_refl _) _).alloc (by simp) _).alloc (by simp; omega) _) hb1
  try simp only [World.size_alloc] at Gla
  have Fla := Lib.hid Gla
  clear Gla
  clear hb1
  obtain ⟨fi_0, fi_1, fi_2, fi_l⟩ := Ffi.out
  have fi_m := Nat.lt_succ_of_lt fi_l
  try simp only [Nat.succ_eq_add_one, Nat.add_lt_add_iff_right] at fi_m
  go_wp2_with fail
  refine (L0.out _).mono ?_
  rintro e w2 ⟨rfl, hb2⟩
  have b2 := thenBelow (thenBelow b1 (by first | exact Below.refl _ _ | exact (Below.refl _ _).alloc (Nat.le_refl _) _ | exact ((Below.refl _ _).alloc (Nat.le_refl _) _).alloc (by simp) _ | exact (((Below.refl _ _).alloc (Nat.le_refl _) _).alloc (by simp) _).alloc (by simp; omega) _)) hb2
  clear fi_0 fi_1 fi_2 fi_l fi_m
  have Fp := Lib.hid (Fp.out.via (by first | exact Below.refl _ _ | exact (Below.refl _ _).alloc (Nat.le_refl _) _ | exact ((Below.refl _ _).alloc (Nat.le_refl _) _).alloc (by simp) _ | exact (((Below.refl _ _).alloc (Nat.le_refl _) _).alloc (by simp) _).alloc (by simp; omega) _) hb2)
  have Ffi := Lib.hid (Ffi.out.via (by first | exact Below.refl _ _ | exact (Below.refl _ _).alloc (Nat.le_refl _) _ | exact ((Below.refl _ _).alloc (Nat.le_refl _) _).alloc (by simp) _ | exact (((Below.refl _ _).alloc (Nat.le_refl _) _).alloc (by simp) _).alloc (by simp; omega) _) hb2)
  have Fla := Lib.hid (Fla.out.via (by first | exact Below.refl _ _ | exact (Below.refl _ _).alloc (Nat.le_refl _) _ | exact ((Below.refl _ _).alloc (Nat.le_refl _) _).alloc (by simp) _ | exact (((Below.refl _ _).alloc (Nat.le_refl _) _).alloc (by simp) _).alloc (by simp; omega) _) hb2)
  have Glo := (AddrAt.new (w1) six (aH x) (aL x) 31).via (by first | exact Below.refl _ _ | exact (Below.refl _ _).alloc (Nat.le_refl _) _ | exact ((Below.refl _ _).alloc (Nat.le_refl _) _).alloc (by simp) _ | exact (((Below.refl _ _).alloc (Nat.le_refl _) _).alloc (by simp) _).alloc (by simp; omega) _) hb2
  try simp only [World.size_alloc] at Glo
  have Flo := Lib.hid Glo
  clear Glo
  have Ghi := (AddrAt.new ((w1.alloc (.cells #[.bool six, .int .u64 (aH x), .int .u64 (aL x)] 31))) six (aH (x + (2 ^ k - 1))) (aL (x + (2 ^ k - 1))) 31).via (by first | exact Below.refl _ _ | exact (Below.refl _ _).alloc (Nat.le_refl _) _ | exact ((Below.refl _ _).alloc (Nat.le_refl _) _).alloc (by simp) _ | exact (((Below.refl _ _).alloc (Nat.le_refl _) _).alloc (by simp) _).alloc (by simp; omega) _) hb2
  try simp only [World.size_alloc] at Ghi
  have Fhi := Lib.hid Ghi
  clear Ghi
  clear hb2 b1
  obtain ⟨la_0, la_1, la_2, la_l⟩ := Fla.out
  have la_m := Nat.lt_succ_of_lt la_l
  try simp only [Nat.succ_eq_add_one, Nat.add_lt_add_iff_right] at la_m
  obtain ⟨lo_0, lo_1, lo_2, lo_l⟩ := Flo.out
  have lo_m := Nat.lt_succ_of_lt lo_l
  try simp only [Nat.succ_eq_add_one, Nat.add_lt_add_iff_right] at lo_m
  go_wp2_with fail
  refine (L1.out _).mono ?_
  rintro e w3 ⟨rfl, hb3⟩
  have b3 := thenBelow (thenBelow b2 (by first | exact Below.refl _ _ | exact (Below.refl _ _).alloc (Nat.le_refl _) _ | exact ((Below.refl _ _).alloc (Nat.le_refl _) _).alloc (by simp) _ | exact (((Below.refl _ _).alloc (Nat.le_refl _) _).alloc (by simp) _).alloc (by simp; omega) _)) hb3
  clear la_0 la_1 la_2 la_l la_m lo_0 lo_1 lo_2 lo_l lo_m
  have Fp := Lib.hid (Fp.out.via (by first | exact Below.refl _ _ | exact (Below.refl _ _).alloc (Nat.le_refl _) _ | exact ((Below.refl _ _).alloc (Nat.le_refl _) _).alloc (by simp) _ | exact (((Below.refl _ _).alloc (Nat.le_refl _) _).alloc (by simp) _).alloc (by simp; omega) _) hb3)
  have Ffi := Lib.hid (Ffi.out.via (by first | exact Below.refl _ _ | exact (Below.refl _ _).alloc (Nat.le_refl _) _ | exact ((Below.refl _ _).alloc (Nat.le_refl _) _).alloc (by simp) _ | exact (((Below.refl _ _).alloc (Nat.le_refl _) _).alloc (by simp) _).alloc (by simp; omega) _) hb3)
  have Fla := Lib.hid (Fla.out.via (by first | exact Below.refl _ _ | exact (Below.refl _ _).alloc (Nat.le_refl _) _ | exact ((Below.refl _ _).alloc (Nat.le_refl _) _).alloc (by simp) _ | exact (((Below.refl _ _).alloc (Nat.le_refl _) _).alloc (by simp) _).alloc (by simp; omega) _) hb3)
  have Flo := Lib.hid (Flo.out.via (by first | exact Below.refl _ _ | exact (Below.refl _ _).alloc (Nat.le_refl _) _ | exact ((Below.refl _ _).alloc (Nat.le_refl _) _).alloc (by simp) _ | exact (((Below.refl _ _).alloc (Nat.le_refl _) _).alloc (by simp) _).alloc (by simp; omega) _) hb3)
  have Fhi := Lib.hid (Fhi.out.via (by first | exact Below.refl _ _ | exact (Below.refl _ _).alloc (Nat.le_refl _) _ | exact ((Below.refl _ _).alloc (Nat.le_refl _) _).alloc (by simp) _ | exact (((Below.refl _ _).alloc (Nat.le_refl _) _).alloc (by simp) _).alloc (by simp; omega) _) hb3)
  clear hb3 b2
  go_wp2
  go_returns
  exact ⟨_, rfl, owned_nil _ _, (thenBelow b3 (by first | exact Below.refl _ _ | exact (Below.refl _ _).alloc (Nat.le_refl _) _ | exact ((Below.refl _ _).alloc (Nat.le_refl _) _).alloc (by simp) _ | exact (((Below.refl _ _).alloc (Nat.le_refl _) _).alloc (by simp) _).alloc (by simp; omega) _))⟩
set_option maxHeartbeats 1000000 in
theorem rw_all (six : Bool) (x k a b : Nat) (hA : AL six x k) (h0 : ¬ x + (2 ^ k - 1) < a) (h1 : ¬ b < x) (h2 : ¬ x < a) (h3 : ¬ b < x + (2 ^ k - 1)) (w : World) :
    Calls Tryd.prog 25 #[.agg #[.bool six, .int .u64 (aH x), .int .u64 (aL x), .int .i64 ((wideN six - k : Nat) : Int)], .agg #[.bool six, .int .u64 (aH a), .int .u64 (aL a)], .agg #[.bool six, .int .u64 (aH b), .int .u64 (aL b)]] w (PresOut [(six, x, ((wideN six - k : Nat) : Int))] w) := by
  have L0 := Lib.hid (less_is six six (x + (2 ^ k - 1)) a false (decide_eq_false h0))
  have L1 := Lib.hid (less_is six six b x false (decide_eq_false h1))
  have L2 := Lib.hid (less_is six six x a false (decide_eq_false h2))
  have L3 := Lib.hid (less_is six six b (x + (2 ^ k - 1)) false (decide_eq_false h3))
  go_enter Tryd.func25, Tryd.ntmps25
  go_wp2_with fail
  refine (span_al hA _).mono ?_
  rintro e w1 ⟨rfl, hb1⟩
  have b1 := thenBelow (show Below w.heap.size w _ from (by first | exact Below.refl _ _ | exact (Below.refl _ _).alloc (Nat.le_refl _) _ | exact ((Below.refl _ _).alloc (Nat.le_refl _) _).alloc (by simp) _ | exact (((Below.refl _ _).alloc (Nat.le_refl _) _).alloc (by simp) _).alloc (by simp; omega) _)) hb1
  have Gp := (PreAt.new (w) six (aH x) (aL x) ((wideN six - k : Nat) : Int) 33).via (by first | exact Below.refl _ _ | exact (Below.refl _ _).alloc (Nat.le_refl _) _ | exact ((Below.refl _ _).alloc (Nat.le_refl _) _).alloc (by simp) _ | exact (((Below.refl _ _).alloc (Nat.le_refl _) _).alloc (by simp) _).alloc (by simp; omega) _) hb1
  try simp only [World.size_alloc] at Gp
  have Fp := Lib.hid Gp
  clear Gp
  have Gfi := (AddrAt.new ((w.alloc (.cells #[.bool six, .int .u64 (aH x), .int .u64 (aL x), .int .i64 ((wideN six - k : Nat) : Int)] 33))) six (aH a) (aL a) 31).via (by first | exact Below.refl _ _ | exact (Below.refl _ _).alloc (Nat.le_refl _) _ | exact ((Below.refl _ _).alloc (Nat.le_refl _) _).alloc (by simp) _ | exact (((Below.refl _ _).alloc (Nat.le_refl _) _).alloc (by simp) _).alloc (by simp; omega) _) hb1
  try simp only [World.size_alloc] at Gfi
  have Ffi := Lib.hid Gfi
  clear Gfi
  have Gla := (AddrAt.new (((w.alloc (.cells #[.bool six, .int .u64 (aH x), .int .u64 (aL x), .int .i64 ((wideN six - k : Nat) : Int)] 33)).alloc (.cells #[.bool six, .int .u64 (aH a), .int .u64 (aL a)] 31))) six (aH b) (aL b) 31).via (by first | exact Below.refl _ _ | exact (Below.refl _ _).alloc (Nat.le_refl _) _ | exact ((Below.refl _ _).alloc (Nat.le_refl _) _).alloc (by simp) _ | exact (((Below.refl _ _).alloc (Nat.le_refl _) _).alloc (by simp) _).alloc (by simp; omega) _) hb1
  try simp only [World.size_alloc] at Gla
  have Fla := Lib.hid Gla
  clear Gla
  clear hb1
  obtain ⟨fi_0, fi_1, fi_2, fi_l⟩ := Ffi.out
  have fi_m := Nat.lt_succ_of_lt fi_l
  try simp only [Nat.succ_eq_add_one, Nat.add_lt_add_iff_right] at fi_m
  go_wp2_with fail
  refine (L0.out _).mono ?_
  rintro e w2 ⟨rfl, hb2⟩
  have b2 := thenBelow (thenBelow b1 (by first | exact Below.refl _ _ | exact (Below.refl _ _).alloc (Nat.le_refl _) _ | exact ((Below.refl _ _).alloc (Nat.le_refl _) _).alloc (by simp) _ | exact (((Below.refl _ _).alloc (Nat.le_refl _) _).alloc (by simp) _).alloc (by simp; omega) _)) hb2
  clear fi_0 fi_1 fi_2 fi_l fi_m
  have Fp := Lib.hid (Fp.out.via (by first | exact Below.refl _ _ | exact (Below.refl _ _).alloc (Nat.le_refl _) _ | exact ((Below.refl _ _).alloc (Nat.le_refl _) _).alloc (by simp) _ | exact (((Below.refl _ _).alloc (Nat.le_refl _) _).alloc (by simp) _).alloc (by simp; omega) _) hb2)
  have Ffi := Lib.hid (Ffi.out.via (by first | exact Below.refl _ _ | exact (Below.refl _ _).alloc (Nat.le_refl _) _ | exact ((Below.refl _ _).alloc (Nat.le_refl _) _).alloc (by simp) _ | exact (((Below.refl _ _).alloc (Nat.le_refl _) _).alloc (by simp) _).alloc (by simp; omega) _) hb2)
  have Fla := Lib.hid (Fla.out.via (by first | exact Below.refl _ _ | exact (Below.refl _ _).alloc (Nat.le_refl _) _ | exact ((Below.refl _ _).alloc (Nat.le_refl _) _).alloc (by simp) _ | exact (((Below.refl _ _).alloc (Nat.le_refl _) _).alloc (by simp) _).alloc (by simp; omega) _) hb2)
  have Glo := (AddrAt.new (w1) six (aH x) (aL x) 31).via (by first | exact Below.refl _ _ | exact (Below.refl _ _).alloc (Nat.le_refl _) _ | exact ((Below.refl _ _).alloc (Nat.le_refl _) _).alloc (by simp) _ | exact (((Below.refl _ _).alloc (Nat.le_refl _) _).alloc (by simp) _).alloc (by simp; omega) _) hb2
  try simp only [World.size_alloc] at Glo
  have Flo := Lib.hid Glo
  clear Glo
  have Ghi := (AddrAt.new ((w1.alloc (.cells #[.bool six, .int .u64 (aH x), .int .u64 (aL x)] 31))) six (aH (x + (2 ^ k - 1))) (aL (x + (2 ^ k - 1))) 31).via (by first | exact Below.refl _ _ | exact (Below.refl _ _).alloc (Nat.le_refl _) _ | exact ((Below.refl _ _).alloc (Nat.le_refl _) _).alloc (by simp) _ | exact (((Below.refl _ _).alloc (Nat.le_refl _) _).alloc (by simp) _).alloc (by simp; omega) _) hb2
  try simp only [World.size_alloc] at Ghi
  have Fhi := Lib.hid Ghi
  clear Ghi
  clear hb2 b1
  obtain ⟨la_0, la_1, la_2, la_l⟩ := Fla.out
  have la_m := Nat.lt_succ_of_lt la_l
  try simp only [Nat.succ_eq_add_one, Nat.add_lt_add_iff_right] at la_m
  obtain ⟨lo_0, lo_1, lo_2, lo_l⟩ := Flo.out
  have lo_m := Nat.lt_succ_of_lt lo_l
  try simp only [Nat.succ_eq_add_one, Nat.add_lt_add_iff_right] at lo_m
  go_wp2_with fail
  refine (L1.out _).mono ?_
  rintro e w3 ⟨rfl, hb3⟩
  have b3 := thenBelow (thenBelow b2 (by first | exact Below.refl _ _ | exact (Below.refl _ _).alloc (Nat.le_refl _) _ | exact ((Below.refl _ _).alloc (Nat.le_refl _) _).alloc (by simp) _ | exact (((Below.refl _ _).alloc (Nat.le_refl _) _).alloc (by simp) _).alloc (by simp; omega) _)) hb3
  clear la_0 la_1 la_2 la_l la_m lo_0 lo_1 lo_2 lo_l lo_m
  have Fp := Lib.hid (Fp.out.via (by first | exact Below.refl _ _ | exact (Below.refl _ _).alloc (Nat.le_refl _) _ | exact ((Below.refl _ _).alloc (Nat.le_refl _) _).alloc (by simp) _ | exact (((Below.refl _ _).alloc (Nat.le_refl _) _).alloc (by simp) _).alloc (by simp; omega) _) hb3)
  have Ffi := Lib.hid (Ffi.out.via (by first | exact Below.refl _ _ | exact (Below.refl _ _).alloc (Nat.le_refl _) _ | exact ((Below.refl _ _).alloc (Nat.le_refl _) _).alloc (by simp) _ | exact (((Below.refl _ _).alloc (Nat.le_refl _) _).alloc (by simp) _).alloc (by simp; omega) _) hb3)
  have Fla := Lib.hid (Fla.out.via (by first | exact Below.refl _ _ | exact (Below.refl _ _).alloc (Nat.le_refl _) _ | exact ((Below.refl _ _).alloc (Nat.le_refl _) _).alloc (by simp) _ | exact (((Below.refl _ _).alloc (Nat.le_refl _) _).alloc (by simp) _).alloc (by simp; omega) _) hb3)
  have Flo := Lib.hid (Flo.out.via (by first | exact Below.refl _ _ | exact (Below.refl _ _).alloc (Nat.le_refl _) _ | exact ((Below.refl _ _).alloc (Nat.le_refl _) _).alloc (by simp) _ | exact (((Below.refl _ _).alloc (Nat.le_refl _) _).alloc (by simp) _).alloc (by simp; omega) _) hb3)
  have Fhi := Lib.hid (Fhi.out.via (by first | exact Below.refl _ _ | exact (Below.refl _ _).alloc (Nat.le_refl _) _ | exact ((Below.refl _ _).alloc (Nat.le_refl _) _).alloc (by simp) _ | exact (((Below.refl _ _).alloc (Nat.le_refl _) _).alloc (by simp) _).alloc (by simp; omega) _) hb3)
  clear hb3 b2
  obtain ⟨lo_0, lo_1, lo_2, lo_l⟩ := Flo.out
  have lo_m := Nat.lt_succ_of_lt lo_l
  try simp only [Nat.succ_eq_add_one, Nat.add_lt_add_iff_right] at lo_m
  obtain ⟨fi_0, fi_1, fi_2, fi_l⟩ := Ffi.out
  have fi_m := Nat.lt_succ_of_lt fi_l
  try simp only [Nat.succ_eq_add_one, Nat.add_lt_add_iff_right] at fi_m
  go_wp2_with fail
  refine (L2.out _).mono ?_
  rintro e w4 ⟨rfl, hb4⟩
  have b4 := thenBelow (thenBelow b3 (by first | exact Below.refl _ _ | exact (Below.refl _ _).alloc (Nat.le_refl _) _ | exact ((Below.refl _ _).alloc (Nat.le_refl _) _).alloc (by simp) _ | exact (((Below.refl _ _).alloc (Nat.le_refl _) _).alloc (by simp) _).alloc (by simp; omega) _)) hb4
  clear lo_0 lo_1 lo_2 lo_l lo_m fi_0 fi_1 fi_2 fi_l fi_m
  have Fp := Lib.hid (Fp.out.via (by first | exact Below.refl _ _ | exact (Below.refl _ _).alloc (Nat.le_refl _) _ | exact ((Below.refl _ _).alloc (Nat.le_refl _) _).alloc (by simp) _ | exact (((Below.refl _ _).alloc (Nat.le_refl _) _).alloc (by simp) _).alloc (by simp; omega) _) hb4)
  have Ffi := Lib.hid (Ffi.out.via (by first | exact Below.refl _ _ | exact (Below.refl _ _).alloc (Nat.le_refl _) _ | exact ((Below.refl _ _).alloc (Nat.le_refl _) _).alloc (by simp) _ | exact (((Below.refl _ _).alloc (Nat.le_refl _) _).alloc (by simp) _).alloc (by simp; omega) _) hb4)
  have Fla := Lib.hid (Fla.out.via (by first | exact Below.refl _ _ | exact (Below.refl _ _).alloc (Nat.le_refl _) _ | exact ((Below.refl _ _).alloc (Nat.le_refl _) _).alloc (by simp) _ | exact (((Below.refl _ _).alloc (Nat.le_refl _) _).alloc (by simp) _).alloc (by simp; omega) _) hb4)
  have Flo := Lib.hid (Flo.out.via (by first | exact Below.refl _ _ | exact (Below.refl _ _).alloc (Nat.le_refl _) _ | exact ((Below.refl _ _).alloc (Nat.le_refl _) _).alloc (by simp) _ | exact (((Below.refl _ _).alloc (Nat.le_refl _) _).alloc (by simp) _).alloc (by simp; omega) _) hb4)
  have Fhi := Lib.hid (Fhi.out.via (by first | exact Below.refl _ _ | exact (Below.refl _ _).alloc (Nat.le_refl _) _ | exact ((Below.refl _ _).alloc (Nat.le_refl _) _).alloc (by simp) _ | exact (((Below.refl _ _).alloc (Nat.le_refl _) _).alloc (by simp) _).alloc (by simp; omega) _) hb4)
  clear hb4 b3
  obtain ⟨la_0, la_1, la_2, la_l⟩ := Fla.out
  have la_m := Nat.lt_succ_of_lt la_l
  try simp only [Nat.succ_eq_add_one, Nat.add_lt_add_iff_right] at la_m
  obtain ⟨hi_0, hi_1, hi_2, hi_l⟩ := Fhi.out
  have hi_m := Nat.lt_succ_of_lt hi_l
  try simp only [Nat.succ_eq_add_one, Nat.add_lt_add_iff_right] at hi_m
  go_wp2_with fail
  refine (L3.out _).mono ?_
  rintro e w5 ⟨rfl, hb5⟩
  have b5 := thenBelow (thenBelow b4 (by first | exact Below.refl _ _ | exact (Below.refl _ _).alloc (Nat.le_refl _) _ | exact ((Below.refl _ _).alloc (Nat.le_refl _) _).alloc (by simp) _ | exact (((Below.refl _ _).alloc (Nat.le_refl _) _).alloc (by simp) _).alloc (by simp; omega) _)) hb5
  clear la_0 la_1 la_2 la_l la_m hi_0 hi_1 hi_2 hi_l hi_m
  have Fp := Lib.hid (Fp.out.via (by first | exact Below.refl _ _ | exact (Below.refl _ _).alloc (Nat.le_refl _) _ | exact ((Below.refl _ _).alloc (Nat.le_refl _) _).alloc (by simp) _ | exact (((Below.refl _ _).alloc (Nat.le_refl _) _).alloc (by simp) _).alloc (by simp; omega) _) hb5)
  have Ffi := Lib.hid (Ffi.out.via (by first | exact Below.refl _ _ | exact (Below.refl _ _).alloc (Nat.le_refl _) _ | exact ((Below.refl _ _).alloc (Nat.le_refl _) _).alloc (by simp) _ | exact (((Below.refl _ _).alloc (Nat.le_refl _) _).alloc (by simp) _).alloc (by simp; omega) _) hb5)
  have Fla := Lib.hid (Fla.out.via (by first | exact Below.refl _ _ | exact (Below.refl _ _).alloc (Nat.le_refl _) _ | exact ((Below.refl _ _).alloc (Nat.le_refl _) _).alloc (by simp) _ | exact (((Below.refl _ _).alloc (Nat.le_refl _) _).alloc (by simp) _).alloc (by simp; omega) _) hb5)
  have Flo := Lib.hid (Flo.out.via (by first | exact Below.refl _ _ | exact (Below.refl _ _).alloc (Nat.le_refl _) _ | exact ((Below.refl _ _).alloc (Nat.le_refl _) _).alloc (by simp) _ | exact (((Below.refl _ _).alloc (Nat.le_refl _) _).alloc (by simp) _).alloc (by simp; omega) _) hb5)
  have Fhi := Lib.hid (Fhi.out.via (by first | exact Below.refl _ _ | exact (Below.refl _ _).alloc (Nat.le_refl _) _ | exact ((Below.refl _ _).alloc (Nat.le_refl _) _).alloc (by simp) _ | exact (((Below.refl _ _).alloc (Nat.le_refl _) _).alloc (by simp) _).alloc (by simp; omega) _) hb5)
  clear hb5 b4
  obtain ⟨p_0, p_1, p_2, p_3, p_l⟩ := Fp.out
  have p_m := Nat.lt_succ_of_lt p_l
  try simp only [Nat.succ_eq_add_one, Nat.add_lt_add_iff_right] at p_m
  go_wp2
  go_returns
  exact ⟨_, rfl, owned_one _ _ b5.size _ _ _, (thenBelow b5 (by first | exact Below.refl _ _ | exact (Below.refl _ _).alloc (Nat.le_refl _) _ | exact ((Below.refl _ _).alloc (Nat.le_refl _) _).alloc (by simp) _ | exact (((Below.refl _ _).alloc (Nat.le_refl _) _).alloc (by simp) _).alloc (by simp; omega) _))⟩
set_option maxHeartbeats 1000000 in
theorem rw_split1 (six : Bool) (x k a b : Nat) (hA : AL six x (k + 1)) (h0 : ¬ x + (2 ^ (k + 1) - 1) < a) (h1 : ¬ b < x) (h2 : x < a) (l1 l2 : List PT) (hlen : l1.length + l2.length ≤ 1000000000)
    (K1 : Hid (∀ W : World, Calls Tryd.prog 25 #[.agg #[.bool six, .int .u64 (aH x), .int .u64 (aL x), .int .i64 ((wideN six - k : Nat) : Int)], .agg #[.bool six, .int .u64 (aH a), .int .u64 (aL a)], .agg #[.bool six, .int .u64 (aH b), .int .u64 (aL b)]] W (PresOut l1 W)))
    (K2 : Hid (∀ W : World, Calls Tryd.prog 25 #[.agg #[.bool six, .int .u64 (aH (x + 2 ^ k)), .int .u64 (aL (x + 2 ^ k)), .int .i64 ((wideN six - k : Nat) : Int)], .agg #[.bool six, .int .u64 (aH a), .int .u64 (aL a)], .agg #[.bool six, .int .u64 (aH b), .int .u64 (aL b)]] W (PresOut l2 W))) (w : World) :
    Calls Tryd.prog 25 #[.agg #[.bool six, .int .u64 (aH x), .int .u64 (aL x), .int .i64 ((wideN six - (k + 1) : Nat) : Int)], .agg #[.bool six, .int .u64 (aH a), .int .u64 (aL a)], .agg #[.bool six, .int .u64 (aH b), .int .u64 (aL b)]] w (PresOut (l1 ++ l2) w) := by
  have L0 := Lib.hid (less_is six six (x + (2 ^ (k + 1) - 1)) a false (decide_eq_false h0))
  have L1 := Lib.hid (less_is six six b x false (decide_eq_false h1))
  have L2 := Lib.hid (less_is six six x a true (decide_eq_true h2))
  have HH := Lib.hid (halves_al hA)
  obtain ⟨i0, hii, hz0, hz1, hz2⟩ := info_parts info_pre
  go_enter Tryd.func25, Tryd.ntmps25
  go_wp2_with fail
  refine (span_al hA _).mono ?_
  rintro e w1 ⟨rfl, hb1⟩
  have b1 := thenBelow (show Below w.heap.size w _ from (by first | exact Below.refl _ _ | exact (Below.refl _ _).alloc (Nat.le_refl _) _ | exact ((Below.refl _ _).alloc (Nat.le_refl _) _).alloc (by simp) _ | exact (((Below.refl _ _).alloc (Nat.le_refl _) _).alloc (by simp) _).alloc (by simp; omega) _)) hb1
  have Gp := (PreAt.new (w) six (aH x) (aL x) ((wideN six - (k + 1) : Nat) : Int) 33).via (by first | exact Below.refl _ _ | exact (Below.refl _ _).alloc (Nat.le_refl _) _ | exact ((Below.refl _ _).alloc (Nat.le_refl _) _).alloc (by simp) _ | exact (((Below.refl _ _).alloc (Nat.le_refl _) _).alloc (by simp) _).alloc (by simp; omega) _) hb1
  try simp only [World.size_alloc] at Gp
  have Fp := Lib.hid Gp
  clear Gp
  have Gfi := (AddrAt.new ((w.alloc (.cells #[.bool six, .int .u64 (aH x), .int .u64 (aL x), .int .i64 ((wideN six - (k + 1) : Nat) : Int)] 33))) six (aH a) (aL a) 31).via (by first | exact Below.refl _ _ | exact (Below.refl _ _).alloc (Nat.le_refl _) _ | exact ((Below.refl _ _).alloc (Nat.le_refl _) _).alloc (by simp) _ | exact (((Below.refl _ _).alloc (Nat.le_refl _) _).alloc (by simp) _).alloc (by simp; omega) _) hb1
  try simp only [World.size_alloc] at Gfi
  have Ffi := Lib.hid Gfi
  clear Gfi
  have Gla := (AddrAt.new (((w.alloc (.cells #[.bool six, .int .u64 (aH x), .int .u64 (aL x), .int .i64 ((wideN six - (k + 1) : Nat) : Int)] 33)).alloc (.cells #[.bool six, .int .u64 (aH a), .int .u64 (aL a)] 31))) six (aH b) (aL b) 31).via (by first | exact Below.refl _ _ | exact (Below.refl _ _).alloc (Nat.le_refl _) _ | exact ((Below.refl _ _).alloc (Nat.le_refl _) _).alloc (by simp) _ | exact (((Below.refl _ _).alloc (Nat.le_refl _) _).alloc (by simp) _).alloc (by simp; omega) _) hb1
  try simp only [World.size_alloc] at Gla
  have Fla := Lib.hid Gla
  clear Gla
  clear hb1
  obtain ⟨fi_0, fi_1, fi_2, fi_l⟩ := Ffi.out
  have fi_m := Nat.lt_succ_of_lt fi_l
  try simp only [Nat.succ_eq_add_one, Nat.add_lt_add_iff_right] at fi_m
  go_wp2_with fail
  refine (L0.out _).mono ?_
  rintro e w2 ⟨rfl, hb2⟩
  have b2 := thenBelow (thenBelow b1 (by first | exact Below.refl _ _ | exact (Below.refl _ _).alloc (Nat.le_refl _) _ | exact ((Below.refl _ _).alloc (Nat.le_refl _) _).alloc (by simp) _ | exact (((Below.refl _ _).alloc (Nat.le_refl _) _).alloc (by simp) _).alloc (by simp; omega) _)) hb2
  clear fi_0 fi_1 fi_2 fi_l fi_m
  have Fp := Lib.hid (Fp.out.via (by first | exact Below.refl _ _ | exact (Below.refl _ _).alloc (Nat.le_refl _) _ | exact ((Below.refl _ _).alloc (Nat.le_refl _) _).alloc (by simp) _ | exact (((Below.refl _ _).alloc (Nat.le_refl _) _).alloc (by simp) _).alloc (by simp; omega) _) hb2)
  have Ffi := Lib.hid (Ffi.out.via (by first | exact Below.refl _ _ | exact (Below.refl _ _).alloc (Nat.le_refl _) _ | exact ((Below.refl _ _).alloc (Nat.le_refl _) _).alloc (by simp) _ | exact (((Below.refl _ _).alloc (Nat.le_refl _) _).alloc (by simp) _).alloc (by simp; omega) _) hb2)
  have Fla := Lib.hid (Fla.out.via (by first | exact Below.refl _ _ | exact (Below.refl _ _).alloc (Nat.le_refl _) _ | exact ((Below.refl _ _).alloc (Nat.le_refl _) _).alloc (by simp) _ | exact (((Below.refl _ _).alloc (Nat.le_refl _) _).alloc (by simp) _).alloc (by simp; omega) _) hb2)
  have Glo := (AddrAt.new (w1) six (aH x) (aL x) 31).via (by first | exact Below.refl _ _ | exact (Below.refl _ _).alloc (Nat.le_refl _) _ | exact ((Below.refl _ _).alloc (Nat.le_refl _) _).alloc (by simp) _ | exact (((Below.refl _ _).alloc (Nat.le_refl _) _).alloc (by simp) _).alloc (by simp; omega) _) hb2
  try simp only [World.size_alloc] at Glo
  have Flo := Lib.hid Glo
  clear Glo
  have Ghi := (AddrAt.new ((w1.alloc (.cells #[.bool six, .int .u64 (aH x), .int .u64 (aL x)] 31))) six (aH (x + (2 ^ (k + 1) - 1))) (aL (x + (2 ^ (k + 1) - 1))) 31).via (by first | exact Below.refl _ _ | exact (Below.refl _ _).alloc (Nat.le_refl _) _ | exact ((Below.refl _ _).alloc (Nat.le_refl _) _).alloc (by simp) _ | exact (((Below.refl _ _).alloc (Nat.le_refl _) _).alloc (by simp) _).alloc (by simp; omega) _) hb2
  try simp only [World.size_alloc] at Ghi
  have Fhi := Lib.hid Ghi
  clear Ghi
  clear hb2 b1
  obtain ⟨la_0, la_1, la_2, la_l⟩ := Fla.out
  have la_m := Nat.lt_succ_of_lt la_l
  try simp only [Nat.succ_eq_add_one, Nat.add_lt_add_iff_right] at la_m
  obtain ⟨lo_0, lo_1, lo_2, lo_l⟩ := Flo.out
  have lo_m := Nat.lt_succ_of_lt lo_l
  try simp only [Nat.succ_eq_add_one, Nat.add_lt_add_iff_right] at lo_m
  go_wp2_with fail
  refine (L1.out _).mono ?_
  rintro e w3 ⟨rfl, hb3⟩
  have b3 := thenBelow (thenBelow b2 (by first | exact Below.refl _ _ | exact (Below.refl _ _).alloc (Nat.le_refl _) _ | exact ((Below.refl _ _).alloc (Nat.le_refl _) _).alloc (by simp) _ | exact (((Below.refl _ _).alloc (Nat.le_refl _) _).alloc (by simp) _).alloc (by simp; omega) _)) hb3
  clear la_0 la_1 la_2 la_l la_m lo_0 lo_1 lo_2 lo_l lo_m
  have Fp := Lib.hid (Fp.out.via (by first | exact Below.refl _ _ | exact (Below.refl _ _).alloc (Nat.le_refl _) _ | exact ((Below.refl _ _).alloc (Nat.le_refl _) _).alloc (by simp) _ | exact (((Below.refl _ _).alloc (Nat.le_refl _) _).alloc (by simp) _).alloc (by simp; omega) _) hb3)
  have Ffi := Lib.hid (Ffi.out.via (by first | exact Below.refl _ _ | exact (Below.refl _ _).alloc (Nat.le_refl _) _ | exact ((Below.refl _ _).alloc (Nat.le_refl _) _).alloc (by simp) _ | exact (((Below.refl _ _).alloc (Nat.le_refl _) _).alloc (by simp) _).alloc (by simp; omega) _) hb3)
  have Fla := Lib.hid (Fla.out.via (by first | exact Below.refl _ _ | exact (Below.refl _ _).alloc (Nat.le_refl _) _ | exact ((Below.refl _ _).alloc (Nat.le_refl _) _).alloc (by simp) _ | exact (((Below.refl _ _).alloc (Nat.le_refl _) _).alloc (by simp) _).alloc (by simp; omega) _) hb3)
  have Flo := Lib.hid (Flo.out.via (by first | exact Below.refl _ _ | exact (Below.refl _ _).alloc (Nat.le_refl _) _ | exact ((Below.refl _ _).alloc (Nat.le_refl _) _).alloc (by simp) _ | exact (((Below.refl _ _).alloc (Nat.le_refl _) _).alloc (by simp) _).alloc (by simp; omega) _) hb3)
  have Fhi := Lib.hid (Fhi.out.via (by first | exact Below.refl _ _ | exact (Below.refl _ _).alloc (Nat.le_refl _) _ | exact ((Below.refl _ _).alloc (Nat.le_refl _) _).alloc (by simp) _ | exact (((Below.refl _ _).alloc (Nat.le_refl _) _).alloc (by simp) _).alloc (by simp; omega) _) hb3)
  clear hb3 b2
  obtain ⟨lo_0, lo_1, lo_2, lo_l⟩ := Flo.out
  have lo_m := Nat.lt_succ_of_lt lo_l
  try simp only [Nat.succ_eq_add_one, Nat.add_lt_add_iff_right] at lo_m
  obtain ⟨fi_0, fi_1, fi_2, fi_l⟩ := Ffi.out
  have fi_m := Nat.lt_succ_of_lt fi_l
  try simp only [Nat.succ_eq_add_one, Nat.add_lt_add_iff_right] at fi_m
  go_wp2_with fail
  refine (L2.out _).mono ?_
  rintro e w4 ⟨rfl, hb4⟩
  have b4 := thenBelow (thenBelow b3 (by first | exact Below.refl _ _ | exact (Below.refl _ _).alloc (Nat.le_refl _) _ | exact ((Below.refl _ _).alloc (Nat.le_refl _) _).alloc (by simp) _ | exact (((Below.refl _ _).alloc (Nat.le_refl _) _).alloc (by simp) _).alloc (by simp; omega) _)) hb4
  clear lo_0 lo_1 lo_2 lo_l lo_m fi_0 fi_1 fi_2 fi_l fi_m
  have Fp := Lib.hid (Fp.out.via (by first | exact Below.refl _ _ | exact (Below.refl _ _).alloc (Nat.le_refl _) _ | exact ((Below.refl _ _).alloc (Nat.le_refl _) _).alloc (by simp) _ | exact (((Below.refl _ _).alloc (Nat.le_refl _) _).alloc (by simp) _).alloc (by simp; omega) _) hb4)
  have Ffi := Lib.hid (Ffi.out.via (by first | exact Below.refl _ _ | exact (Below.refl _ _).alloc (Nat.le_refl _) _ | exact ((Below.refl _ _).alloc (Nat.le_refl _) _).alloc (by simp) _ | exact (((Below.refl _ _).alloc (Nat.le_refl _) _).alloc (by simp) _).alloc (by simp; omega) _) hb4)
  have Fla := Lib.hid (Fla.out.via (by first | exact Below.refl _ _ | exact (Below.refl _ _).alloc (Nat.le_refl _) _ | exact ((Below.refl _ _).alloc (Nat.le_refl _) _).alloc (by simp) _ | exact (((Below.refl _ _).alloc (Nat.le_refl _) _).alloc (by simp) _).alloc (by simp; omega) _) hb4)
  have Flo := Lib.hid (Flo.out.via (by first | exact Below.refl _ _ | exact (Below.refl _ _).alloc (Nat.le_refl _) _ | exact ((Below.refl _ _).alloc (Nat.le_refl _) _).alloc (by simp) _ | exact (((Below.refl _ _).alloc (Nat.le_refl _) _).alloc (by simp) _).alloc (by simp; omega) _) hb4)
  have Fhi := Lib.hid (Fhi.out.via (by first | exact Below.refl _ _ | exact (Below.refl _ _).alloc (Nat.le_refl _) _ | exact ((Below.refl _ _).alloc (Nat.le_refl _) _).alloc (by simp) _ | exact (((Below.refl _ _).alloc (Nat.le_refl _) _).alloc (by simp) _).alloc (by simp; omega) _) hb4)
  clear hb4 b3
  obtain ⟨p_0, p_1, p_2, p_3, p_l⟩ := Fp.out
  have p_m := Nat.lt_succ_of_lt p_l
  try simp only [Nat.succ_eq_add_one, Nat.add_lt_add_iff_right] at p_m
  go_wp2_with fail
  refine (HH.out _).mono ?_
  rintro e w5 ⟨rfl, hb5⟩
  have b5 := thenBelow (thenBelow b4 (by first | exact Below.refl _ _ | exact (Below.refl _ _).alloc (Nat.le_refl _) _ | exact ((Below.refl _ _).alloc (Nat.le_refl _) _).alloc (by simp) _ | exact (((Below.refl _ _).alloc (Nat.le_refl _) _).alloc (by simp) _).alloc (by simp; omega) _)) hb5
  clear p_0 p_1 p_2 p_3 p_l p_m
  clear Fp
  have Ffi := Lib.hid (Ffi.out.via (by first | exact Below.refl _ _ | exact (Below.refl _ _).alloc (Nat.le_refl _) _ | exact ((Below.refl _ _).alloc (Nat.le_refl _) _).alloc (by simp) _ | exact (((Below.refl _ _).alloc (Nat.le_refl _) _).alloc (by simp) _).alloc (by simp; omega) _) hb5)
  have Fla := Lib.hid (Fla.out.via (by first | exact Below.refl _ _ | exact (Below.refl _ _).alloc (Nat.le_refl _) _ | exact ((Below.refl _ _).alloc (Nat.le_refl _) _).alloc (by simp) _ | exact (((Below.refl _ _).alloc (Nat.le_refl _) _).alloc (by simp) _).alloc (by simp; omega) _) hb5)
  clear Flo
  clear Fhi
  clear hb5 b4
  go_wp2_with fail
  have GL := (PreAt.new w5 six (aH x) (aL x) ((wideN six - k : Nat) : Int) 33).alloc (.cells #[.bool six, .int .u64 (aH (x + 2 ^ k)), .int .u64 (aL (x + 2 ^ k)), .int .i64 ((wideN six - k : Nat) : Int)] 33)
  have GU := PreAt.new (w5.alloc (.cells #[.bool six, .int .u64 (aH x), .int .u64 (aL x), .int .i64 ((wideN six - k : Nat) : Int)] 33)) six (aH (x + 2 ^ k)) (aL (x + 2 ^ k)) ((wideN six - k : Nat) : Int) 33
  have GF := (Ffi.out.alloc (.cells #[.bool six, .int .u64 (aH x), .int .u64 (aL x), .int .i64 ((wideN six - k : Nat) : Int)] 33)).alloc (.cells #[.bool six, .int .u64 (aH (x + 2 ^ k)), .int .u64 (aL (x + 2 ^ k)), .int .i64 ((wideN six - k : Nat) : Int)] 33)
  have GA := (Fla.out.alloc (.cells #[.bool six, .int .u64 (aH x), .int .u64 (aL x), .int .i64 ((wideN six - k : Nat) : Int)] 33)).alloc (.cells #[.bool six, .int .u64 (aH (x + 2 ^ k)), .int .u64 (aL (x + 2 ^ k)), .int .i64 ((wideN six - k : Nat) : Int)] 33)
  have GB := thenBelow b5 (((Below.refl _ w5).alloc (Nat.le_refl _) (.cells #[.bool six, .int .u64 (aH x), .int .u64 (aL x), .int .i64 ((wideN six - k : Nat) : Int)] 33)).alloc (by simp) (.cells #[.bool six, .int .u64 (aH (x + 2 ^ k)), .int .u64 (aL (x + 2 ^ k)), .int .i64 ((wideN six - k : Nat) : Int)] 33))
  rw [World.size_alloc] at GU
  clear Ffi Fla b5
  revert GL GU GF GA GB
  generalize ((w5.alloc (.cells #[.bool six, .int .u64 (aH x), .int .u64 (aL x), .int .i64 ((wideN six - k : Nat) : Int)] 33)).alloc (.cells #[.bool six, .int .u64 (aH (x + 2 ^ k)), .int .u64 (aL (x + 2 ^ k)), .int .i64 ((wideN six - k : Nat) : Int)] 33)) = W
  intro GL GU GF GA GB
  have FL := Lib.hid GL
  have FU := Lib.hid GU
  have FF := Lib.hid GF
  have FA := Lib.hid GA
  have hWs := GB.size
  have hWd : w.heap.size ≤ W.drew.heap.size := hWs
  have hby : (l1.length + l2.length) * 32 ≤ 140737488355328 := by omega
  have h63 : l1.length + l2.length ≤ maxLen := by unfold maxLen; omega
  obtain ⟨l0, l1', l2', l3, _⟩ := GL
  obtain ⟨u0, u1, u2, u3, _⟩ := GU
  obtain ⟨f0, f1, f2, _⟩ := GF
  obtain ⟨a0, a1, a2, _⟩ := GA
  go_region_held3 (fun w' => w'.cell? ⟨w5.heap.size, 0, none⟩ = some (.bool six) ∧ w'.cell? ⟨w5.heap.size, 1, none⟩ = some (.int .u64 (aH x)) ∧ w'.cell? ⟨w5.heap.size, 2, none⟩ = some (.int .u64 (aL x)) ∧ w'.cell? ⟨w5.heap.size, 3, none⟩ = some (.int .i64 ((wideN six - k : Nat) : Int)) ∧ w'.cell? ⟨w5.heap.size + 1, 0, none⟩ = some (.bool six) ∧ w'.cell? ⟨w5.heap.size + 1, 1, none⟩ = some (.int .u64 (aH (x + 2 ^ k))) ∧ w'.cell? ⟨w5.heap.size + 1, 2, none⟩ = some (.int .u64 (aL (x + 2 ^ k))) ∧ w'.cell? ⟨w5.heap.size + 1, 3, none⟩ = some (.int .i64 ((wideN six - k : Nat) : Int)) ∧ w'.cell? ⟨w.heap.size + 1, 0, none⟩ = some (.bool six) ∧ w'.cell? ⟨w.heap.size + 1, 1, none⟩ = some (.int .u64 (aH a)) ∧ w'.cell? ⟨w.heap.size + 1, 2, none⟩ = some (.int .u64 (aL a)) ∧ w'.cell? ⟨w.heap.size + 1 + 1, 0, none⟩ = some (.bool six) ∧ w'.cell? ⟨w.heap.size + 1 + 1, 1, none⟩ = some (.int .u64 (aH b)) ∧ w'.cell? ⟨w.heap.size + 1 + 1, 2, none⟩ = some (.int .u64 (aL b)))
    (first
      | (simp [go_sem, l0, l1', l2', l3, u0, u1, u2, u3, f0, f1, f2, a0, a1, a2]; done)
      | (simp [go_sem, xl0, xl1, xl2, xl3, xu0, xu1, xu2, xu3, xf0, xf1, xf2, xa0, xa1, xa2]; done)
      | (simp [go_sem, yl0, yl1, yl2, yl3, yu0, yu1, yu2, yu3, yf0, yf1, yf2, ya0, ya1, ya2]; done)
      | (simp [go_sem, zl0, zl1, zl2, zl3, zu0, zu1, zu2, zu3, zf0, zf1, zf2, za0, za1, za2]; done)
      | fail)
    (first
      | (go_at_call 25; with_reducible refine (K1.out _).mono ?_; rintro e wa ⟨va, rfl, oa, ba⟩; obtain ⟨xl0, xl1, xl2, xl3, _⟩ := preCells (FL.out.via (Below.refl _ _).drew ba); obtain ⟨xu0, xu1, xu2, xu3, _⟩ := preCells (FU.out.via (Below.refl _ _).drew ba); obtain ⟨xf0, xf1, xf2, _⟩ := addrCells (FF.out.via (Below.refl _ _).drew ba); obtain ⟨xa0, xa1, xa2, _⟩ := addrCells (FA.out.via (Below.refl _ _).drew ba))
      | (go_at_call 25; with_reducible refine (K2.out _).mono ?_; rintro e wb ⟨vb, rfl, ob, bb⟩; obtain ⟨yl0, yl1, yl2, yl3, _⟩ := preCells ((FL.out.via (Below.refl _ _).drew ba).keep bb); obtain ⟨yu0, yu1, yu2, yu3, _⟩ := preCells ((FU.out.via (Below.refl _ _).drew ba).keep bb); obtain ⟨yf0, yf1, yf2, _⟩ := addrCells ((FF.out.via (Below.refl _ _).drew ba).keep bb); obtain ⟨ya0, ya1, ya2, _⟩ := addrCells ((FA.out.via (Below.refl _ _).drew ba).keep bb); have oa2 := ownsKeep oa bb)
      | (refine step_append_two (by rfl) _ _ _ (by rfl) W.drew.heap.size 33 i0 _ 4 32 Tryd.underlying28 hii hz0 hz1 hz2 rfl (by decide) _ _ _ (by rfl) oa2 _ _ _ _ (by rfl) ob (pRow_one _) hby h63 (Nat.le_trans ba.size bb.size) ?_; intro v3 w3 h3 b3; have b4 := (thenBelow ba bb).trans b3; obtain ⟨zl0, zl1, zl2, zl3, _⟩ := preCells (FL.out.via (Below.refl _ _).drew b4); obtain ⟨zu0, zu1, zu2, zu3, _⟩ := preCells (FU.out.via (Below.refl _ _).drew b4); obtain ⟨zf0, zf1, zf2, _⟩ := addrCells (FF.out.via (Below.refl _ _).drew b4); obtain ⟨za0, za1, za2, _⟩ := addrCells (FA.out.via (Below.refl _ _).drew b4))
      | fail)
  go_wp2
  go_returns
  refine ⟨_, rfl, ?_, thenBelow GB.drew b4⟩
  unfold Owned
  rw [List.length_append, pRow_app]
  exact ownsLow h3 hWd
set_option maxHeartbeats 1000000 in
theorem rw_split2 (six : Bool) (x k a b : Nat) (hA : AL six x (k + 1)) (h0 : ¬ x + (2 ^ (k + 1) - 1) < a) (h1 : ¬ b < x) (h2 : ¬ x < a) (h3 : b < x + (2 ^ (k + 1) - 1)) (l1 l2 : List PT) (hlen : l1.length + l2.length ≤ 1000000000)
    (K1 : Hid (∀ W : World, Calls Tryd.prog 25 #[.agg #[.bool six, .int .u64 (aH x), .int .u64 (aL x), .int .i64 ((wideN six - k : Nat) : Int)], .agg #[.bool six, .int .u64 (aH a), .int .u64 (aL a)], .agg #[.bool six, .int .u64 (aH b), .int .u64 (aL b)]] W (PresOut l1 W)))
    (K2 : Hid (∀ W : World, Calls Tryd.prog 25 #[.agg #[.bool six, .int .u64 (aH (x + 2 ^ k)), .int .u64 (aL (x + 2 ^ k)), .int .i64 ((wideN six - k : Nat) : Int)], .agg #[.bool six, .int .u64 (aH a), .int .u64 (aL a)], .agg #[.bool six, .int .u64 (aH b), .int .u64 (aL b)]] W (PresOut l2 W))) (w : World) :
    Calls Tryd.prog 25 #[.agg #[.bool six, .int .u64 (aH x), .int .u64 (aL x), .int .i64 ((wideN six - (k + 1) : Nat) : Int)], .agg #[.bool six, .int .u64 (aH a), .int .u64 (aL a)], .agg #[.bool six, .int .u64 (aH b), .int .u64 (aL b)]] w (PresOut (l1 ++ l2) w) := by
  have L0 := Lib.hid (less_is six six (x + (2 ^ (k + 1) - 1)) a false (decide_eq_false h0))
  have L1 := Lib.hid (less_is six six b x false (decide_eq_false h1))
  have L2 := Lib.hid (less_is six six x a false (decide_eq_false h2))
  have L3 := Lib.hid (less_is six six b (x + (2 ^ (k + 1) - 1)) true (decide_eq_true h3))
  have HH := Lib.hid (halves_al hA)
  obtain ⟨i0, hii, hz0, hz1, hz2⟩ := info_parts info_pre
  go_enter Tryd.func25, Tryd.ntmps25
  go_wp2_with fail
  refine (span_al hA _).mono ?_
  rintro e w1 ⟨rfl, hb1⟩
  have b1 := thenBelow (show Below w.heap.size w _ from (by first | exact Below.refl _ _ | exact (Below.refl _ _).alloc (Nat.le_refl _) _ | exact ((Below.refl _ _).alloc (Nat.le_refl _) _).alloc (by simp) _ | exact (((Below.refl _ _).alloc (Nat.le_refl _) _).alloc (by simp) _).alloc (by simp; omega) _)) hb1
  have Gp := (PreAt.new (w) six (aH x) (aL x) ((wideN six - (k + 1) : Nat) : Int) 33).via (by first | exact Below.refl _ _ | exact (Below.refl _ _).alloc (Nat.le_refl _) _ | exact ((Below.refl _ _).alloc (Nat.le_refl _) _).alloc (by simp) _ | exact (((Below.refl _ _).alloc (Nat.le_refl _) _).alloc (by simp) _).alloc (by simp; omega) _) hb1
  try simp only [World.size_alloc] at Gp
  have Fp := Lib.hid Gp
  clear Gp
  have Gfi := (AddrAt.new ((w.alloc (.cells #[.bool six, .int .u64 (aH x), .int .u64 (aL x), .int .i64 ((wideN six - (k + 1) : Nat) : Int)] 33))) six (aH a) (aL a) 31).via (by first | exact Below.refl _ _ | exact (Below.refl _ _).alloc (Nat.le_refl _) _ | exact ((Below.refl _ _).alloc (Nat.le_refl _) _).alloc (by simp) _ | exact (((Below.refl _ _).alloc (Nat.le_refl _) _).alloc (by simp) _).alloc (by simp; omega) _) hb1
  try simp only [World.size_alloc] at Gfi
  have Ffi := Lib.hid Gfi
  clear Gfi
  have Gla := (AddrAt.new (((w.alloc (.cells #[.bool six, .int .u64 (aH x), .int .u64 (aL x), .int .i64 ((wideN six - (k + 1) : Nat) : Int)] 33)).alloc (.cells #[.bool six, .int .u64 (aH a), .int .u64 (aL a)] 31))) six (aH b) (aL b) 31).via (by first | exact Below.refl _ _ | exact (Below.refl _ _).alloc (Nat.le_refl _) _ | exact ((Below.refl _ _).alloc (Nat.le_refl _) _).alloc (by simp) _ | exact (((Below.refl _ _).alloc (Nat.le_refl _) _).alloc (by simp) _).alloc (by simp; omega) _) hb1
  try simp only [World.size_alloc] at Gla
  have Fla := Lib.hid Gla
  clear Gla
  clear hb1
  obtain ⟨fi_0, fi_1, fi_2, fi_l⟩ := Ffi.out
  have fi_m := Nat.lt_succ_of_lt fi_l
  try simp only [Nat.succ_eq_add_one, Nat.add_lt_add_iff_right] at fi_m
  go_wp2_with fail
  refine (L0.out _).mono ?_
  rintro e w2 ⟨rfl, hb2⟩
  have b2 := thenBelow (thenBelow b1 (by first | exact Below.refl _ _ | exact (Below.refl _ _).alloc (Nat.le_refl _) _ | exact ((Below.refl _ _).alloc (Nat.le_refl _) _).alloc (by simp) _ | exact (((Below.refl _ _).alloc (Nat.le_refl _) _).alloc (by simp) _).alloc (by simp; omega) _)) hb2
  clear fi_0 fi_1 fi_2 fi_l fi_m
  have Fp := Lib.hid (Fp.out.via (by first | exact Below.refl _ _ | exact (Below.refl _ _).alloc (Nat.le_refl _) _ | exact ((Below.refl _ _).alloc (Nat.le_refl _) _).alloc (by simp) _ | exact (((Below.refl _ _).alloc (Nat.le_refl _) _).alloc (by simp) _).alloc (by simp; omega) _) hb2)
  have Ffi := Lib.hid (Ffi.out.via (by first | exact Below.refl _ _ | exact (Below.refl _ _).alloc (Nat.le_refl _) _ | exact ((Below.refl _ _).alloc (Nat.le_refl _) _).alloc (by simp) _ | exact (((Below.refl _ _).alloc (Nat.le_refl _) _).alloc (by simp) _).alloc (by simp; omega) _) hb2)
  have Fla := Lib.hid (Fla.out.via (by first | exact Below.refl _ _ | exact (Below.refl _ _).alloc (Nat.le_refl _) _ | exact ((Below.refl _ _).alloc (Nat.le_refl _) _).alloc (by simp) _ | exact (((Below.refl _ _).alloc (Nat.le_refl _) _).alloc (by simp) _).alloc (by simp; omega) _) hb2)
  have Glo := (AddrAt.new (w1) six (aH x) (aL x) 31).via (by first | exact Below.refl _ _ | exact (Below.refl _ _).alloc (Nat.le_refl _) _ | exact ((Below.refl _ _).alloc (Nat.le_refl _) _).alloc (by simp) _ | exact (((Below.refl _ _).alloc (Nat.le_refl _) _).alloc (by simp) _).alloc (by simp; omega) _) hb2
  try simp only [World.size_alloc] at Glo
  have Flo := Lib.hid Glo
  clear Glo
  have Ghi := (AddrAt.new ((w1.alloc (.cells #[.bool six, .int .u64 (aH x), .int .u64 (aL x)] 31))) six (aH (x + (2 ^ (k + 1) - 1))) (aL (x + (2 ^ (k + 1) - 1))) 31).via (by first | exact Below.refl _ _ | exact (Below.refl _ _).alloc (Nat.le_refl _) _ | exact ((Below.refl _ _).alloc (Nat.le_refl _) _).alloc (by simp) _ | exact (((Below.refl _ _).alloc (Nat.le_refl _) _).alloc (by simp) _).alloc (by simp; omega) _) hb2
  try simp only [World.size_alloc] at Ghi
  have Fhi := Lib.hid Ghi
  clear Ghi
  clear hb2 b1
  obtain ⟨la_0, la_1, la_2, la_l⟩ := Fla.out
  have la_m := Nat.lt_succ_of_lt la_l
  try simp only [Nat.succ_eq_add_one, Nat.add_lt_add_iff_right] at la_m
  obtain ⟨lo_0, lo_1, lo_2, lo_l⟩ := Flo.out
  have lo_m := Nat.lt_succ_of_lt lo_l
  try simp only [Nat.succ_eq_add_one, Nat.add_lt_add_iff_right] at lo_m
  go_wp2_with fail
  refine (L1.out _).mono ?_
  rintro e w3 ⟨rfl, hb3⟩
  have b3 := thenBelow (thenBelow b2 (by first | exact Below.refl _ _ | exact (Below.refl _ _).alloc (Nat.le_refl _) _ | exact ((Below.refl _ _).alloc (Nat.le_refl _) _).alloc (by simp) _ | exact (((Below.refl _ _).alloc (Nat.le_refl _) _).alloc (by simp) _).alloc (by simp; omega) _)) hb3
  clear la_0 la_1 la_2 la_l la_m lo_0 lo_1 lo_2 lo_l lo_m
  have Fp := Lib.hid (Fp.out.via (by first | exact Below.refl _ _ | exact (Below.refl _ _).alloc (Nat.le_refl _) _ | exact ((Below.refl _ _).alloc (Nat.le_refl _) _).alloc (by simp) _ | exact (((Below.refl _ _).alloc (Nat.le_refl _) _).alloc (by simp) _).alloc (by simp; omega) _) hb3)
  have Ffi := Lib.hid (Ffi.out.via (by first | exact Below.refl _ _ | exact (Below.refl _ _).alloc (Nat.le_refl _) _ | exact ((Below.refl _ _).alloc (Nat.le_refl _) _).alloc (by simp) _ | exact (((Below.refl _ _).alloc (Nat.le_refl _) _).alloc (by simp) _).alloc (by simp; omega) _) hb3)
  have Fla := Lib.hid (Fla.out.via (by first | exact Below.refl _ _ | exact (Below.refl _ _).alloc (Nat.le_refl _) _ | exact ((Below.refl _ _).alloc (Nat.le_refl _) _).alloc (by simp) _ | exact (((Below.refl _ _).alloc (Nat.le_refl _) _).alloc (by simp) _).alloc (by simp; omega) _) hb3)
  have Flo := Lib.hid (Flo.out.via (by first | exact Below.refl _ _ | exact (Below.refl _ _).alloc (Nat.le_refl _) _ | exact ((Below.refl _ _).alloc (Nat.le_refl _) _).alloc (by simp) _ | exact (((Below.refl _ _).alloc (Nat.le_refl _) _).alloc (by simp) _).alloc (by simp; omega) _) hb3)
  have Fhi := Lib.hid (Fhi.out.via (by first | exact Below.refl _ _ | exact (Below.refl _ _).alloc (Nat.le_refl _) _ | exact ((Below.refl _ _).alloc (Nat.le_refl _) _).alloc (by simp) _ | exact (((Below.refl _ _).alloc (Nat.le_refl _) _).alloc (by simp) _).alloc (by simp; omega) _) hb3)
  clear hb3 b2
  obtain ⟨lo_0, lo_1, lo_2, lo_l⟩ := Flo.out
  have lo_m := Nat.lt_succ_of_lt lo_l
  try simp only [Nat.succ_eq_add_one, Nat.add_lt_add_iff_right] at lo_m
  obtain ⟨fi_0, fi_1, fi_2, fi_l⟩ := Ffi.out
  have fi_m := Nat.lt_succ_of_lt fi_l
  try simp only [Nat.succ_eq_add_one, Nat.add_lt_add_iff_right] at fi_m
  go_wp2_with fail
  refine (L2.out _).mono ?_
  rintro e w4 ⟨rfl, hb4⟩
  have b4 := thenBelow (thenBelow b3 (by first | exact Below.refl _ _ | exact (Below.refl _ _).alloc (Nat.le_refl _) _ | exact ((Below.refl _ _).alloc (Nat.le_refl _) _).alloc (by simp) _ | exact (((Below.refl _ _).alloc (Nat.le_refl _) _).alloc (by simp) _).alloc (by simp; omega) _)) hb4
  clear lo_0 lo_1 lo_2 lo_l lo_m fi_0 fi_1 fi_2 fi_l fi_m
  have Fp := Lib.hid (Fp.out.via (by first | exact Below.refl _ _ | exact (Below.refl _ _).alloc (Nat.le_refl _) _ | exact ((Below.refl _ _).alloc (Nat.le_refl _) _).alloc (by simp) _ | exact (((Below.refl _ _).alloc (Nat.le_refl _) _).alloc (by simp) _).alloc (by simp; omega) _) hb4)
  have Ffi := Lib.hid (Ffi.out.via (by first | exact Below.refl _ _ | exact (Below.refl _ _).alloc (Nat.le_refl _) _ | exact ((Below.refl _ _).alloc (Nat.le_refl _) _).alloc (by simp) _ | exact (((Below.refl _ _).alloc (Nat.le_refl _) _).alloc (by simp) _).alloc (by simp; omega) _) hb4)
  have Fla := Lib.hid (Fla.out.via (by first | exact Below.refl _ _ | exact (Below.refl _ _).alloc (Nat.le_refl _) _ | exact ((Below.refl _ _).alloc (Nat.le_refl _) _).alloc (by simp) _ | exact (((Below.refl _ _).alloc (Nat.le_refl _) _).alloc (by simp) _).alloc (by simp; omega) _) hb4)
  have Flo := Lib.hid (Flo.out.via (by first | exact Below.refl _ _ | exact (Below.refl _ _).alloc (Nat.le_refl _) _ | exact ((Below.refl _ _).alloc (Nat.le_refl _) _).alloc (by simp) _ | exact (((Below.refl _ _).alloc (Nat.le_refl _) _).alloc (by simp) _).alloc (by simp; omega) _) hb4)
  have Fhi := Lib.hid (Fhi.out.via (by first | exact Below.refl _ _ | exact (Below.refl _ _).alloc (Nat.le_refl _) _ | exact ((Below.refl _ _).alloc (Nat.le_refl _) _).alloc (by simp) _ | exact (((Below.refl _ _).alloc (Nat.le_refl _) _).alloc (by simp) _).alloc (by simp; omega) _) hb4)
  clear hb4 b3
  obtain ⟨la_0, la_1, la_2, la_l⟩ := Fla.out
  have la_m := Nat.lt_succ_of_lt la_l
  try simp only [Nat.succ_eq_add_one, Nat.add_lt_add_iff_right] at la_m
  obtain ⟨hi_0, hi_1, hi_2, hi_l⟩ := Fhi.out
  have hi_m := Nat.lt_succ_of_lt hi_l
  try simp only [Nat.succ_eq_add_one, Nat.add_lt_add_iff_right] at hi_m
  go_wp2_with fail
  refine (L3.out _).mono ?_
  rintro e w5 ⟨rfl, hb5⟩
  have b5 := thenBelow (thenBelow b4 (by first | exact Below.refl _ _ | exact (Below.refl _ _).alloc (Nat.le_refl _) _ | exact ((Below.refl _ _).alloc (Nat.le_refl _) _).alloc (by simp) _ | exact (((Below.refl _ _).alloc (Nat.le_refl _) _).alloc (by simp) _).alloc (by simp; omega) _)) hb5
  clear la_0 la_1 la_2 la_l la_m hi_0 hi_1 hi_2 hi_l hi_m
  have Fp := Lib.hid (Fp.out.via (by first | exact Below.refl _ _ | exact (Below.refl _ _).alloc (Nat.le_refl _) _ | exact ((Below.refl _ _).alloc (Nat.le_refl _) _).alloc (by simp) _ | exact (((Below.refl _ _).alloc (Nat.le_refl _) _).alloc (by simp) _).alloc (by simp; omega) _) hb5)
  have Ffi := Lib.hid (Ffi.out.via (by first | exact Below.refl _ _ | exact (Below.refl _ _).alloc (Nat.le_refl _) _ | exact ((Below.refl _ _).alloc (Nat.le_refl _) _).alloc (by simp) _ | exact (((Below.refl _ _).alloc (Nat.le_refl _) _).alloc (by simp) _).alloc (by simp; omega) _) hb5)
  have Fla := Lib.hid (Fla.out.via (by first | exact Below.refl _ _ | exact (Below.refl _ _).alloc (Nat.le_refl _) _ | exact ((Below.refl _ _).alloc (Nat.le_refl _) _).alloc (by simp) _ | exact (((Below.refl _ _).alloc (Nat.le_refl _) _).alloc (by simp) _).alloc (by simp; omega) _) hb5)
  have Flo := Lib.hid (Flo.out.via (by first | exact Below.refl _ _ | exact (Below.refl _ _).alloc (Nat.le_refl _) _ | exact ((Below.refl _ _).alloc (Nat.le_refl _) _).alloc (by simp) _ | exact (((Below.refl _ _).alloc (Nat.le_refl _) _).alloc (by simp) _).alloc (by simp; omega) _) hb5)
  have Fhi := Lib.hid (Fhi.out.via (by first | exact Below.refl _ _ | exact (Below.refl _ _).alloc (Nat.le_refl _) _ | exact ((Below.refl _ _).alloc (Nat.le_refl _) _).alloc (by simp) _ | exact (((Below.refl _ _).alloc (Nat.le_refl _) _).alloc (by simp) _).alloc (by simp; omega) _) hb5)
  clear hb5 b4
  obtain ⟨p_0, p_1, p_2, p_3, p_l⟩ := Fp.out
  have p_m := Nat.lt_succ_of_lt p_l
  try simp only [Nat.succ_eq_add_one, Nat.add_lt_add_iff_right] at p_m
  go_wp2_with fail
  refine (HH.out _).mono ?_
  rintro e w6 ⟨rfl, hb6⟩
  have b6 := thenBelow (thenBelow b5 (by first | exact Below.refl _ _ | exact (Below.refl _ _).alloc (Nat.le_refl _) _ | exact ((Below.refl _ _).alloc (Nat.le_refl _) _).alloc (by simp) _ | exact (((Below.refl _ _).alloc (Nat.le_refl _) _).alloc (by simp) _).alloc (by simp; omega) _)) hb6
  clear p_0 p_1 p_2 p_3 p_l p_m
  clear Fp
  have Ffi := Lib.hid (Ffi.out.via (by first | exact Below.refl _ _ | exact (Below.refl _ _).alloc (Nat.le_refl _) _ | exact ((Below.refl _ _).alloc (Nat.le_refl _) _).alloc (by simp) _ | exact (((Below.refl _ _).alloc (Nat.le_refl _) _).alloc (by simp) _).alloc (by simp; omega) _) hb6)
  have Fla := Lib.hid (Fla.out.via (by first | exact Below.refl _ _ | exact (Below.refl _ _).alloc (Nat.le_refl _) _ | exact ((Below.refl _ _).alloc (Nat.le_refl _) _).alloc (by simp) _ | exact (((Below.refl _ _).alloc (Nat.le_refl _) _).alloc (by simp) _).alloc (by simp; omega) _) hb6)
  clear Flo
  clear Fhi
  clear hb6 b5
  go_wp2_with fail
  have GL := (PreAt.new w6 six (aH x) (aL x) ((wideN six - k : Nat) : Int) 33).alloc (.cells #[.bool six, .int .u64 (aH (x + 2 ^ k)), .int .u64 (aL (x + 2 ^ k)), .int .i64 ((wideN six - k : Nat) : Int)] 33)
  have GU := PreAt.new (w6.alloc (.cells #[.bool six, .int .u64 (aH x), .int .u64 (aL x), .int .i64 ((wideN six - k : Nat) : Int)] 33)) six (aH (x + 2 ^ k)) (aL (x + 2 ^ k)) ((wideN six - k : Nat) : Int) 33
  have GF := (Ffi.out.alloc (.cells #[.bool six, .int .u64 (aH x), .int .u64 (aL x), .int .i64 ((wideN six - k : Nat) : Int)] 33)).alloc (.cells #[.bool six, .int .u64 (aH (x + 2 ^ k)), .int .u64 (aL (x + 2 ^ k)), .int .i64 ((wideN six - k : Nat) : Int)] 33)
  have GA := (Fla.out.alloc (.cells #[.bool six, .int .u64 (aH x), .int .u64 (aL x), .int .i64 ((wideN six - k : Nat) : Int)] 33)).alloc (.cells #[.bool six, .int .u64 (aH (x + 2 ^ k)), .int .u64 (aL (x + 2 ^ k)), .int .i64 ((wideN six - k : Nat) : Int)] 33)
  have GB := thenBelow b6 (((Below.refl _ w6).alloc (Nat.le_refl _) (.cells #[.bool six, .int .u64 (aH x), .int .u64 (aL x), .int .i64 ((wideN six - k : Nat) : Int)] 33)).alloc (by simp) (.cells #[.bool six, .int .u64 (aH (x + 2 ^ k)), .int .u64 (aL (x + 2 ^ k)), .int .i64 ((wideN six - k : Nat) : Int)] 33))
  rw [World.size_alloc] at GU
  clear Ffi Fla b6
  revert GL GU GF GA GB
  generalize ((w6.alloc (.cells #[.bool six, .int .u64 (aH x), .int .u64 (aL x), .int .i64 ((wideN six - k : Nat) : Int)] 33)).alloc (.cells #[.bool six, .int .u64 (aH (x + 2 ^ k)), .int .u64 (aL (x + 2 ^ k)), .int .i64 ((wideN six - k : Nat) : Int)] 33)) = W
  intro GL GU GF GA GB
  have FL := Lib.hid GL
  have FU := Lib.hid GU
  have FF := Lib.hid GF
  have FA := Lib.hid GA
  have hWs := GB.size
  have hWd : w.heap.size ≤ W.drew.heap.size := hWs
  have hby : (l1.length + l2.length) * 32 ≤ 140737488355328 := by omega
  have h63 : l1.length + l2.length ≤ maxLen := by unfold maxLen; omega
  obtain ⟨l0, l1', l2', l3, _⟩ := GL
  obtain ⟨u0, u1, u2, u3, _⟩ := GU
  obtain ⟨f0, f1, f2, _⟩ := GF
  obtain ⟨a0, a1, a2, _⟩ := GA
  go_region_held3 (fun w' => w'.cell? ⟨w6.heap.size, 0, none⟩ = some (.bool six) ∧ w'.cell? ⟨w6.heap.size, 1, none⟩ = some (.int .u64 (aH x)) ∧ w'.cell? ⟨w6.heap.size, 2, none⟩ = some (.int .u64 (aL x)) ∧ w'.cell? ⟨w6.heap.size, 3, none⟩ = some (.int .i64 ((wideN six - k : Nat) : Int)) ∧ w'.cell? ⟨w6.heap.size + 1, 0, none⟩ = some (.bool six) ∧ w'.cell? ⟨w6.heap.size + 1, 1, none⟩ = some (.int .u64 (aH (x + 2 ^ k))) ∧ w'.cell? ⟨w6.heap.size + 1, 2, none⟩ = some (.int .u64 (aL (x + 2 ^ k))) ∧ w'.cell? ⟨w6.heap.size + 1, 3, none⟩ = some (.int .i64 ((wideN six - k : Nat) : Int)) ∧ w'.cell? ⟨w.heap.size + 1, 0, none⟩ = some (.bool six) ∧ w'.cell? ⟨w.heap.size + 1, 1, none⟩ = some (.int .u64 (aH a)) ∧ w'.cell? ⟨w.heap.size + 1, 2, none⟩ = some (.int .u64 (aL a)) ∧ w'.cell? ⟨w.heap.size + 1 + 1, 0, none⟩ = some (.bool six) ∧ w'.cell? ⟨w.heap.size + 1 + 1, 1, none⟩ = some (.int .u64 (aH b)) ∧ w'.cell? ⟨w.heap.size + 1 + 1, 2, none⟩ = some (.int .u64 (aL b)))
    (first
      | (simp [go_sem, l0, l1', l2', l3, u0, u1, u2, u3, f0, f1, f2, a0, a1, a2]; done)
      | (simp [go_sem, xl0, xl1, xl2, xl3, xu0, xu1, xu2, xu3, xf0, xf1, xf2, xa0, xa1, xa2]; done)
      | (simp [go_sem, yl0, yl1, yl2, yl3, yu0, yu1, yu2, yu3, yf0, yf1, yf2, ya0, ya1, ya2]; done)
      | (simp [go_sem, zl0, zl1, zl2, zl3, zu0, zu1, zu2, zu3, zf0, zf1, zf2, za0, za1, za2]; done)
      | fail)
    (first
      | (go_at_call 25; with_reducible refine (K1.out _).mono ?_; rintro e wa ⟨va, rfl, oa, ba⟩; obtain ⟨xl0, xl1, xl2, xl3, _⟩ := preCells (FL.out.via (Below.refl _ _).drew ba); obtain ⟨xu0, xu1, xu2, xu3, _⟩ := preCells (FU.out.via (Below.refl _ _).drew ba); obtain ⟨xf0, xf1, xf2, _⟩ := addrCells (FF.out.via (Below.refl _ _).drew ba); obtain ⟨xa0, xa1, xa2, _⟩ := addrCells (FA.out.via (Below.refl _ _).drew ba))
      | (go_at_call 25; with_reducible refine (K2.out _).mono ?_; rintro e wb ⟨vb, rfl, ob, bb⟩; obtain ⟨yl0, yl1, yl2, yl3, _⟩ := preCells ((FL.out.via (Below.refl _ _).drew ba).keep bb); obtain ⟨yu0, yu1, yu2, yu3, _⟩ := preCells ((FU.out.via (Below.refl _ _).drew ba).keep bb); obtain ⟨yf0, yf1, yf2, _⟩ := addrCells ((FF.out.via (Below.refl _ _).drew ba).keep bb); obtain ⟨ya0, ya1, ya2, _⟩ := addrCells ((FA.out.via (Below.refl _ _).drew ba).keep bb); have oa2 := ownsKeep oa bb)
      | (refine step_append_two (by rfl) _ _ _ (by rfl) W.drew.heap.size 33 i0 _ 4 32 Tryd.underlying28 hii hz0 hz1 hz2 rfl (by decide) _ _ _ (by rfl) oa2 _ _ _ _ (by rfl) ob (pRow_one _) hby h63 (Nat.le_trans ba.size bb.size) ?_; intro v3 w3 h3 b3; have b4 := (thenBelow ba bb).trans b3; obtain ⟨zl0, zl1, zl2, zl3, _⟩ := preCells (FL.out.via (Below.refl _ _).drew b4); obtain ⟨zu0, zu1, zu2, zu3, _⟩ := preCells (FU.out.via (Below.refl _ _).drew b4); obtain ⟨zf0, zf1, zf2, _⟩ := addrCells (FF.out.via (Below.refl _ _).drew b4); obtain ⟨za0, za1, za2, _⟩ := addrCells (FA.out.via (Below.refl _ _).drew b4))
      | fail)
  go_wp2
  go_returns
  refine ⟨_, rfl, ?_, thenBelow GB.drew b4⟩
  unfold Owned
  rw [List.length_append, pRow_app]
  exact ownsLow h3 hWd
end Go.Proofs.YtifhakoeinalaaaDoor
/-
  cidr.rangeWithin, whole; cidr.family.
-/
namespace Go.Proofs.YtifhakoeinalaaaDoor
open Go.RowKit
set_option linter.unusedVariables false
set_option linter.unusedSimpArgs false

/-- The addresses from a to b. -/
def fromTo (a b c : Nat) : Prop := a ≤ c ∧ c ≤ b
theorem inB_end (x k : Nat) : inB x k (x + (2 ^ k - 1)) := ⟨by omega, by have := pow_one k; omega⟩
theorem cn_le_low {six : Bool} {S : Nat → Prop} {k x N : Nat} (hN : 1 ≤ N) (h : (cn six S (k + 1) x).length ≤ N) : (cn six S k x).length ≤ N ∧ (cn six S k (x + 2 ^ k)).length ≤ N := by
  by_cases c : ∀ a, inB x (k + 1) a → S a
  · rw [cn_all (fun a ha => c a (inB_low ha)), cn_all (fun a ha => c a (inB_high ha))]; exact ⟨hN, hN⟩
  · rw [cn_half c, List.length_append] at h; omega
theorem rangeW_calls (six : Bool) (a b : Nat) : ∀ (k x : Nat), AL six x k → (cn six (fromTo a b) k x).length ≤ 1000000000 → ∀ w : World,
    Calls Tryd.prog 25 #[.agg #[.bool six, .int .u64 (aH x), .int .u64 (aL x), .int .i64 ((wideN six - k : Nat) : Int)], .agg #[.bool six, .int .u64 (aH a), .int .u64 (aL a)], .agg #[.bool six, .int .u64 (aH b), .int .u64 (aL b)]] w (PresOut (cn six (fromTo a b) k x) w)
  | k, x, hA, hN, w => by
    by_cases h0 : x + (2 ^ k - 1) < a
    · rw [cn_none (fun c hc hs => by have := hc.2; have := hs.1; have := pow_one k; omega)]
      exact rw_none1 six x k a b hA h0 w
    · by_cases h1 : b < x
      · rw [cn_none (fun c hc hs => by have := hc.1; have := hs.2; omega)]
        exact rw_none2 six x k a b hA h0 h1 w
      · by_cases h2 : x < a
        · match k, hA, hN, h0 with
          | 0, _, _, h0 => simp at h0; omega
          | k + 1, hA, hN, h0 =>
            have hn : ¬ ∀ c, inB x (k + 1) c → fromTo a b c := fun h => by have := (h x (inB_self _ _)).1; omega
            obtain ⟨n1, n2⟩ := cn_le_low (by omega) hN
            have hN' := hN
            rw [cn_half hn] at hN' ⊢
            rw [List.length_append] at hN'
            exact rw_split1 six x k a b hA h0 h1 h2 _ _ hN' (Lib.hid (rangeW_calls six a b k x hA.low n1)) (Lib.hid (rangeW_calls six a b k (x + 2 ^ k) hA.high n2)) w
        · by_cases h3 : b < x + (2 ^ k - 1)
          · match k, hA, hN, h0, h3 with
            | 0, _, _, h0, h3 => simp at h3; omega
            | k + 1, hA, hN, h0, h3 =>
              have hn : ¬ ∀ c, inB x (k + 1) c → fromTo a b c := fun h => by have := (h _ (inB_end x (k + 1))).2; omega
              obtain ⟨n1, n2⟩ := cn_le_low (by omega) hN
              have hN' := hN
              rw [cn_half hn] at hN' ⊢
              rw [List.length_append] at hN'
              exact rw_split2 six x k a b hA h0 h1 h2 h3 _ _ hN' (Lib.hid (rangeW_calls six a b k x hA.low n1)) (Lib.hid (rangeW_calls six a b k (x + 2 ^ k) hA.high n2)) w
          · rw [cn_all (fun c hc => ⟨by have := hc.1; omega, by have := hc.2; have := pow_one k; omega⟩)]
            exact rw_all six x k a b hA h0 h1 h2 h3 w

def onS (a c : Nat) : Prop := a ≤ c
def upS (b c : Nat) : Prop := c ≤ b
/-- How many blocks a range has: one side, both sides. -/
theorem canon_from (a : Nat) : ∀ k x, (canon (onS a) k x).length ≤ k + 1
  | 0, x => by unfold canon; split <;> simp
  | k + 1, x => by
    by_cases h : ∀ c, inB x (k + 1) c → onS a c
    · rw [canon_all h]; simp
    · rw [canon_half h, List.length_append]
      by_cases h2 : a ≤ x + 2 ^ k
      · rw [canon_all (k := k) (x := x + 2 ^ k) (fun c hc => by unfold onS; have := hc.1; omega)]
        have := canon_from a k x; simp only [List.length_cons, List.length_nil]; omega
      · rw [canon_none (k := k) (x := x) (fun c hc => by unfold onS; have := hc.2; omega)]
        have := canon_from a k (x + 2 ^ k); simp only [List.length_cons, List.length_nil]; omega
theorem canon_upto (b : Nat) : ∀ k x, (canon (upS b) k x).length ≤ k + 1
  | 0, x => by unfold canon; split <;> simp
  | k + 1, x => by
    by_cases h : ∀ c, inB x (k + 1) c → upS b c
    · rw [canon_all h]; simp
    · rw [canon_half h, List.length_append]
      by_cases h2 : x + 2 ^ k ≤ b
      · rw [canon_all (k := k) (x := x) (fun c hc => by unfold upS; have := hc.2; omega)]
        have := canon_upto b k (x + 2 ^ k); simp only [List.length_cons, List.length_nil]; omega
      · rw [canon_none (k := k) (x := x + 2 ^ k) (fun c hc => by unfold upS; have := hc.1; omega)]
        have := canon_upto b k x; simp only [List.length_cons, List.length_nil]; omega
theorem canon_range (a b : Nat) : ∀ k x, (canon (fromTo a b) k x).length ≤ 2 * k + 1
  | 0, x => by unfold canon; split <;> simp
  | k + 1, x => by
    by_cases h : ∀ c, inB x (k + 1) c → fromTo a b c
    · rw [canon_all h]; simp
    · rw [canon_half h, List.length_append]
      by_cases h2 : a ≤ x + 2 ^ k
      · by_cases h3 : x + 2 ^ k ≤ b
        · rw [canon_ext (k := k) (x := x) (T := onS a) (fun c hc => ⟨fun h => h.1, fun h => ⟨h, by have := hc.2; omega⟩⟩), canon_ext (k := k) (x := x + 2 ^ k) (T := upS b) (fun c hc => ⟨fun h => h.2, fun h => ⟨by have := hc.1; omega, h⟩⟩)]
          have := canon_from a k x; have := canon_upto b k (x + 2 ^ k); omega
        · rw [canon_none (k := k) (x := x + 2 ^ k) (fun c hc hs => by have := hc.1; have := hs.2; omega)]
          have := canon_range a b k x; simp only [List.length_cons, List.length_nil]; omega
      · rw [canon_none (k := k) (x := x) (fun c hc hs => by have := hc.2; have := hs.1; omega)]
        have := canon_range a b k (x + 2 ^ k); simp only [List.length_cons, List.length_nil]; omega
theorem cn_range (six : Bool) (a b k x : Nat) (hk : k ≤ wideN six) : (cn six (fromTo a b) k x).length ≤ 257 := by
  unfold cn; rw [List.length_map]; have := canon_range a b k x; have := wideN_le six; omega

theorem family_calls (six : Bool) (h l : Int) (w : World) :
    Calls Tryd.prog 26 #[.agg #[.bool six, .int .u64 h, .int .u64 l]] w fun e w' => e = .returned (.int .i64 (if six then 1 else 0)) ∧ w.alloc (.cells #[.bool six, .int .u64 h, .int .u64 l] 31) = w' := by
  cases six
  all_goals
    go_enter Tryd.func26, Tryd.ntmps26
    go_wp2
    go_returns
    exact ⟨rfl, rfl⟩
end Go.Proofs.YtifhakoeinalaaaDoor
/-
  Lists of blocks as sets of addresses: what 'within' leaves of a list, and what the recursion over halves answers. Of the program's text nothing is said here.
-/
namespace Go.Proofs.YtifhakoeinalaaaDoor
set_option linter.unusedVariables false
set_option linter.unusedSimpArgs false

/-- The block (x, k) has all of the block (y, j). -/
def cov (x k y j : Nat) : Bool := decide (x ≤ y ∧ y + 2 ^ j ≤ x + 2 ^ k)
theorem cov_iff {x k y j : Nat} : cov x k y j = true ↔ x ≤ y ∧ y + 2 ^ j ≤ x + 2 ^ k := by unfold cov; exact decide_eq_true_iff
theorem cov_self (x k : Nat) : cov x k x k = true := cov_iff.2 ⟨Nat.le_refl _, Nat.le_refl _⟩
theorem cov_in {x k y j a : Nat} (h : cov x k y j = true) (ha : inB y j a) : inB x k a := by
  have := cov_iff.1 h; unfold inB at *; omega
/-- Blocks of one family: the one has the other one, or they have nothing of each other. -/
theorem al_three {six : Bool} {x k y j a : Nat} (hx : AL six x k) (hy : AL six y j) (h1 : inB x k a) (h2 : inB y j a) : cov x k y j = true ∨ cov y j x k = true := by
  obtain ⟨_, _, c, rfl⟩ := hx
  obtain ⟨_, _, d, rfl⟩ := hy
  unfold inB at h1 h2
  rcases Nat.le_total j k with hjk | hjk
  · refine .inl (cov_iff.2 ?_)
    obtain ⟨e, he⟩ : ∃ e, 2 ^ k = e * 2 ^ j := ⟨2 ^ (k - j), by rw [← Nat.pow_add]; congr 1; omega⟩
    have hp := pow_one j
    have e1 : c * 2 ^ k = c * e * 2 ^ j := by rw [he, Nat.mul_assoc]
    have e2 : c * 2 ^ k + 2 ^ k = (c * e + e) * 2 ^ j := by rw [Nat.add_mul, ← e1, ← he]
    have l1 : c * e < d + 1 := by
      have : c * e * 2 ^ j < (d + 1) * 2 ^ j := by rw [← e1, Nat.add_mul]; omega
      exact Nat.lt_of_mul_lt_mul_right this
    have l2 : d < c * e + e := by
      have : d * 2 ^ j < (c * e + e) * 2 ^ j := by rw [← e2]; omega
      exact Nat.lt_of_mul_lt_mul_right this
    constructor
    · rw [e1]; exact Nat.mul_le_mul_right _ (by omega)
    · rw [e2, show d * 2 ^ j + 2 ^ j = (d + 1) * 2 ^ j by rw [Nat.add_mul]; omega]; exact Nat.mul_le_mul_right _ (by omega)
  · refine .inr (cov_iff.2 ?_)
    obtain ⟨e, he⟩ : ∃ e, 2 ^ j = e * 2 ^ k := ⟨2 ^ (j - k), by rw [← Nat.pow_add]; congr 1; omega⟩
    have hp := pow_one k
    have e1 : d * 2 ^ j = d * e * 2 ^ k := by rw [he, Nat.mul_assoc]
    have e2 : d * 2 ^ j + 2 ^ j = (d * e + e) * 2 ^ k := by rw [Nat.add_mul, ← e1, ← he]
    have l1 : d * e < c + 1 := by
      have : d * e * 2 ^ k < (c + 1) * 2 ^ k := by rw [← e1, Nat.add_mul]; omega
      exact Nat.lt_of_mul_lt_mul_right this
    have l2 : c < d * e + e := by
      have : c * 2 ^ k < (d * e + e) * 2 ^ k := by rw [← e2]; omega
      exact Nat.lt_of_mul_lt_mul_right this
    constructor
    · rw [e1]; exact Nat.mul_le_mul_right _ (by omega)
    · rw [e2, show c * 2 ^ k + 2 ^ k = (c + 1) * 2 ^ k by rw [Nat.add_mul]; omega]; exact Nat.mul_le_mul_right _ (by omega)

abbrev BL := List (Nat × Nat)
/-- All are blocks of this family. -/
def AllAL (six : Bool) (l : BL) : Prop := ∀ q ∈ l, AL six q.1 q.2
/-- An address of one of them. -/
def inS (l : BL) (a : Nat) : Prop := ∃ q ∈ l, inB q.1 q.2 a
/-- Is one of them above the block? -/
def abv (x k : Nat) (l : BL) : Bool := l.any fun q => cov q.1 q.2 x k
/-- Those that lie in the block. -/
def blw (x k : Nat) (l : BL) : BL := l.filter fun q => cov x k q.1 q.2
/-- What the code's 'within' leaves. -/
def wth (x k : Nat) (l : BL) : BL := if abv x k l then [(x, k)] else blw x k l
theorem wth_al {six : Bool} {x k : Nat} {l : BL} (hx : AL six x k) (hl : AllAL six l) : AllAL six (wth x k l) := by
  intro q hq
  unfold wth at hq
  split at hq
  · rw [List.mem_singleton] at hq; subst hq; exact hx
  · exact hl q (List.mem_filter.1 hq).1
theorem wth_len (x k : Nat) (l : BL) : (wth x k l).length ≤ l.length := by
  unfold wth
  split
  · rename_i h
    obtain ⟨q, hq, _⟩ := List.any_eq_true.1 h
    have := List.length_pos_of_mem hq
    simp; omega
  · exact List.length_filter_le _ _
theorem abv_all {x k : Nat} {l : BL} (h : abv x k l = true) : ∀ a, inB x k a → inS l a := by
  intro a ha
  obtain ⟨q, hq, hc⟩ := List.any_eq_true.1 h
  exact ⟨q, hq, cov_in hc ha⟩
theorem blw_in {six : Bool} {x k : Nat} {l : BL} (hx : AL six x k) (hl : AllAL six l) (h : abv x k l = false) {a : Nat} (ha : inB x k a) : inS (blw x k l) a ↔ inS l a := by
  constructor
  · rintro ⟨q, hq, hi⟩; exact ⟨q, (List.mem_filter.1 hq).1, hi⟩
  · rintro ⟨q, hq, hi⟩
    rcases al_three hx (hl q hq) ha hi with c | c
    · exact ⟨q, List.mem_filter.2 ⟨hq, c⟩, hi⟩
    · have := List.any_eq_false.1 h q hq
      exact absurd c this
theorem wth_in {six : Bool} {x k : Nat} {l : BL} (hx : AL six x k) (hl : AllAL six l) {a : Nat} (ha : inB x k a) : inS (wth x k l) a ↔ inS l a := by
  unfold wth
  split
  · rename_i h
    exact ⟨fun _ => abv_all h a ha, fun _ => ⟨(x, k), .head _, ha⟩⟩
  · rename_i h
    exact blw_in hx hl (by simpa using h) ha
/-- The code's 'uniform', on what 'within' left. -/
def unif (x k : Nat) (l : BL) : Bool := match l with
  | [] => true
  | q :: _ => decide (q = (x, k))
theorem unif_wth {six : Bool} {x k : Nat} {l : BL} (hx : AL six x k) (hl : AllAL six l) (h : unif x k (wth x k l) = true) : (wth x k l = [(x, k)] ∧ ∀ a, inB x k a → inS l a) ∨ (wth x k l = [] ∧ ∀ a, inB x k a → ¬ inS l a) := by
  by_cases ha : abv x k l = true
  · exact .inl ⟨by unfold wth; rw [if_pos ha], abv_all ha⟩
  · have ha' : abv x k l = false := by simpa using ha
    have e : wth x k l = blw x k l := by unfold wth; rw [if_neg ha]
    rw [e] at h ⊢
    cases hb : blw x k l with
    | nil =>
      refine .inr ⟨rfl, fun a hi hs => ?_⟩
      obtain ⟨q, hq, _⟩ := (blw_in hx hl ha' hi).2 hs
      rw [hb] at hq; cases hq
    | cons q t =>
      rw [hb] at h
      have hq : q = (x, k) := of_decide_eq_true h
      have hm : q ∈ blw x k l := by rw [hb]; exact .head _
      have := List.any_eq_false.1 ha' q (List.mem_filter.1 hm).1
      rw [hq] at this
      exact absurd (cov_self x k) this
theorem nonunif_pos {x k : Nat} {l : BL} (h : unif x k (wth x k l) = false) : ∃ j, k = j + 1 := by
  cases k with
  | succ j => exact ⟨j, rfl⟩
  | zero =>
    exfalso
    unfold wth at h
    split at h
    · simp [unif] at h
    · cases hb : blw x 0 l with
      | nil => rw [hb] at h; simp [unif] at h
      | cons q t =>
        rw [hb] at h
        have hm : q ∈ blw x 0 l := by rw [hb]; exact .head _
        have c := cov_iff.1 (List.mem_filter.1 hm).2
        have hq : q.2 = 0 := by
          rcases Nat.eq_zero_or_pos q.2 with e | e
          · exact e
          · have : 2 ^ 1 ≤ 2 ^ q.2 := Nat.pow_le_pow_right (by omega) e
            simp at c this; omega
        have hq1 : q.1 = x := by have := c.2; rw [hq] at this; simp at this c; omega
        have : q = (x, 0) := by cases q; simp at hq hq1; rw [hq, hq1]
        simp [unif, this] at h
open Classical in
/-- The addresses that are chosen. -/
noncomputable def chS (c : Bool → Bool → Bool) (l m : BL) (a : Nat) : Prop := c (decide (inS l a)) (decide (inS m a)) = true
theorem chS_ext {c : Bool → Bool → Bool} {l m l' m' : BL} {a : Nat} (h1 : inS l a ↔ inS l' a) (h2 : inS m a ↔ inS m' a) : chS c l m a ↔ chS c l' m' a := by
  unfold chS
  rw [show (inS l a) = (inS l' a) from propext h1, show (inS m a) = (inS m' a) from propext h2]
theorem cn_ext {six : Bool} {S T : Nat → Prop} {k x : Nat} (h : ∀ a, inB x k a → (S a ↔ T a)) : cn six S k x = cn six T k x := by unfold cn; rw [canon_ext h]
/-- Inside the block the lists may be cut by 'within'. -/
theorem cn_wth {six : Bool} {c : Bool → Bool → Bool} {x k y j : Nat} {l m : BL} (hx : AL six x k) (hl : AllAL six l) (hm : AllAL six m) (hy : ∀ a, inB y j a → inB x k a) : cn six (chS c (wth x k l) (wth x k m)) j y = cn six (chS c l m) j y :=
  cn_ext fun a ha => chS_ext (wth_in hx hl (hy a ha)) (wth_in hx hm (hy a ha))
/-- Both lists are uniform: all or nothing. -/
theorem cn_unif {six : Bool} {c : Bool → Bool → Bool} {x k : Nat} {l m : BL} (hx : AL six x k) (hl : AllAL six l) (hm : AllAL six m) (h1 : unif x k (wth x k l) = true) (h2 : unif x k (wth x k m) = true) :
    cn six (chS c l m) k x = if c (decide (0 < (wth x k l).length)) (decide (0 < (wth x k m).length)) then [(six, x, ((wideN six - k : Nat) : Int))] else [] := by
  have key : ∀ (n : BL), AllAL six n → unif x k (wth x k n) = true → ∀ a, inB x k a → (inS n a ↔ 0 < (wth x k n).length) := by
    intro n hn hu a ha
    rcases unif_wth hx hn hu with ⟨e, h⟩ | ⟨e, h⟩
    · rw [e]; exact ⟨fun _ => by simp, fun _ => h a ha⟩
    · rw [e]; exact ⟨fun hs => absurd hs (h a ha), fun h => by simp at h⟩
  have k1 := key l hl h1
  have k2 := key m hm h2
  have e : ∀ a, inB x k a → (chS c l m a ↔ c (decide (0 < (wth x k l).length)) (decide (0 < (wth x k m).length)) = true) := by
    intro a ha
    unfold chS
    rw [decide_eq_decide.2 (k1 a ha), decide_eq_decide.2 (k2 a ha)]
  split
  · rename_i h
    exact cn_all fun a ha => (e a ha).2 h
  · rename_i h
    exact cn_none fun a ha hs => h ((e a ha).1 hs)
theorem bl_inj {six : Bool} {p q : Nat × Nat} (hp : p.2 ≤ wideN six) (hq : q.2 ≤ wideN six) (h : bl six p = bl six q) : p = q := by
  unfold bl at h
  simp only [Prod.mk.injEq, true_and] at h
  cases p; cases q
  simp only [Prod.mk.injEq] at *
  omega
/-- Halves: their lists behind one another, or the whole where both halves are whole. -/
theorem cn_join {six : Bool} {S : Nat → Prop} {x k : Nat} (hx : AL six x (k + 1)) :
    cn six S (k + 1) x = if cn six S k x ++ cn six S k (x + 2 ^ k) = [(six, x, ((wideN six - k : Nat) : Int)), (six, x + 2 ^ k, ((wideN six - k : Nat) : Int))] then [(six, x, ((wideN six - (k + 1) : Nat) : Int))] else cn six S k x ++ cn six S k (x + 2 ^ k) := by
  by_cases h : ∀ a, inB x (k + 1) a → S a
  · rw [if_pos, cn_all h]
    rw [cn_all (fun a ha => h a (inB_low ha)), cn_all (fun a ha => h a (inB_high ha))]; rfl
  · rw [if_neg, cn_half h]
    intro e
    refine h (canon_join (k := k) (x := x) ?_)
    have e2 : (canon S k x ++ canon S k (x + 2 ^ k)).map (bl six) = [(x, k), (x + 2 ^ k, k)].map (bl six) := by rw [List.map_append]; exact e
    have hk := hx.1
    have b1 : ∀ p ∈ canon S k x ++ canon S k (x + 2 ^ k), p.2 ≤ wideN six := by
      intro p hp
      rcases List.mem_append.1 hp with q | q <;> have := (canon_sub q).2.2.1 <;> omega
    generalize canon S k x ++ canon S k (x + 2 ^ k) = L at e2 b1
    match L, e2, b1 with
    | [p, q], e2, b1 =>
      simp only [List.map_cons, List.map_nil, List.cons.injEq, and_true] at e2
      rw [bl_inj (b1 p (by simp)) (by simp; omega) e2.1, bl_inj (b1 q (by simp)) (by simp; omega) e2.2]
    | [], e2, _ => simp at e2
    | [_], e2, _ => simp at e2
    | _ :: _ :: _ :: _, e2, _ => simp at e2
/-- How many of them lie in the block and are not the block. -/
def nb (x k : Nat) (l : BL) : Nat := l.countP fun q => cov x k q.1 q.2 && !decide (q = (x, k))
theorem nb_le (x k : Nat) (l : BL) : nb x k l ≤ l.length := List.countP_le_length
theorem count_two {α : Type} (P Q R : α → Bool) : ∀ l : List α, (∀ q ∈ l, P q = true → R q = true) → (∀ q ∈ l, Q q = true → R q = true) → (∀ q ∈ l, P q = true → Q q = true → False) → l.countP P + l.countP Q ≤ l.countP R
  | [], _, _, _ => by simp
  | q :: l, h1, h2, h3 => by
    have ih := count_two P Q R l (fun q hq => h1 q (.tail _ hq)) (fun q hq => h2 q (.tail _ hq)) (fun q hq => h3 q (.tail _ hq))
    have a := h1 q (.head _); have b := h2 q (.head _); have c := h3 q (.head _)
    rw [List.countP_cons, List.countP_cons, List.countP_cons]
    cases hp : P q <;> cases hq : Q q <;> cases hr : R q <;> simp_all <;> omega
theorem nb_half (x k : Nat) (l : BL) : nb x k l + nb (x + 2 ^ k) k l ≤ nb x (k + 1) l := by
  have hp := pow_one k
  refine count_two _ _ _ l (fun q _ h => ?_) (fun q _ h => ?_) (fun q _ h1 h2 => ?_)
  · simp only [Bool.and_eq_true, Bool.not_eq_true', decide_eq_false_iff_not] at h ⊢
    have c := cov_iff.1 h.1
    refine ⟨cov_iff.2 (by rw [pow_up]; omega), fun e => ?_⟩
    rw [e] at c; simp only [pow_up] at c; omega
  · simp only [Bool.and_eq_true, Bool.not_eq_true', decide_eq_false_iff_not] at h ⊢
    have c := cov_iff.1 h.1
    refine ⟨cov_iff.2 (by rw [pow_up]; omega), fun e => ?_⟩
    rw [e] at c; simp only [pow_up] at c; omega
  · simp only [Bool.and_eq_true] at h1 h2
    have c := cov_iff.1 h1.1
    have d := cov_iff.1 h2.1
    have := pow_one q.2
    omega
theorem nb_pos {x k : Nat} {l : BL} (h : unif x k (wth x k l) = false) : 1 ≤ nb x k l := by
  unfold wth at h
  split at h
  · simp [unif] at h
  · cases hb : blw x k l with
    | nil => rw [hb] at h; simp [unif] at h
    | cons q t =>
      rw [hb] at h
      have hm : q ∈ blw x k l := by rw [hb]; exact .head _
      obtain ⟨m1, m2⟩ := List.mem_filter.1 hm
      refine List.countP_pos_iff.2 ⟨q, m1, ?_⟩
      rw [m2]
      simpa [unif] using h
theorem cn_le_sum {six : Bool} {S : Nat → Prop} {k x : Nat} : (cn six S (k + 1) x).length ≤ 1 ∨ (cn six S (k + 1) x).length = (cn six S k x).length + (cn six S k (x + 2 ^ k)).length := by
  by_cases h : ∀ a, inB x (k + 1) a → S a
  · rw [cn_all h]; exact .inl (by simp)
  · rw [cn_half h, List.length_append]; exact .inr rfl
/-- How long such a list can be, at the most. -/
theorem cn_len {six : Bool} {c : Bool → Bool → Bool} {l m : BL} (hl : AllAL six l) (hm : AllAL six m) : ∀ {k x : Nat}, AL six x k → (cn six (chS c l m) k x).length ≤ 1 + k * (nb x k l + nb x k m)
  | k, x, hx => by
    by_cases h : unif x k (wth x k l) = true ∧ unif x k (wth x k m) = true
    · rw [cn_unif hx hl hm h.1 h.2]; split <;> simp
    · have hk : (∃ j, k = j + 1) ∧ 1 ≤ nb x k l + nb x k m := by
        by_cases h1 : unif x k (wth x k l) = true
        · have h2 : unif x k (wth x k m) = false := by
            cases e : unif x k (wth x k m) with
            | false => rfl
            | true => exact absurd ⟨h1, e⟩ h
          exact ⟨nonunif_pos h2, by have := nb_pos h2; omega⟩
        · have h2 : unif x k (wth x k l) = false := by simpa using h1
          exact ⟨nonunif_pos h2, by have := nb_pos h2; omega⟩
      obtain ⟨⟨j, rfl⟩, h1⟩ := hk
      rcases cn_le_sum (six := six) (S := chS c l m) (k := j) (x := x) with h | h
      · omega
      · rw [h]
        have a := cn_len hl hm (c := c) (k := j) (x := x) hx.low
        have b := cn_len hl hm (c := c) (k := j) (x := x + 2 ^ j) hx.high
        have e1 := nb_half x j l
        have e2 := nb_half x j m
        have e3 : (nb x j l + nb x j m) + (nb (x + 2 ^ j) j l + nb (x + 2 ^ j) j m) ≤ nb x (j + 1) l + nb x (j + 1) m := by omega
        generalize nb x (j + 1) l + nb x (j + 1) m = N at h1 e3 ⊢
        generalize nb x j l + nb x j m = A at a e3
        generalize nb (x + 2 ^ j) j l + nb (x + 2 ^ j) j m = B at b e3
        have e4 : j * A + j * B ≤ j * N := by rw [← Nat.mul_add]; exact Nat.mul_le_mul_left _ e3
        have e5 : (j + 1) * N = j * N + N := by rw [Nat.add_mul]; omega
        omega
theorem cn_len' {six : Bool} {c : Bool → Bool → Bool} {l m : BL} (hl : AllAL six l) (hm : AllAL six m) {k x : Nat} (hx : AL six x k) : (cn six (chS c l m) k x).length ≤ 1 + 128 * (l.length + m.length) := by
  have h1 := cn_len hl hm (c := c) hx
  have h2 := nb_le x k l
  have h3 := nb_le x k m
  have hk : k ≤ 128 := Nat.le_trans hx.1 (wideN_le six)
  have : k * (nb x k l + nb x k m) ≤ 128 * (l.length + m.length) := Nat.mul_le_mul hk (by omega)
  omega
end Go.Proofs.YtifhakoeinalaaaDoor
/-
  More on the smallest lists of blocks: how many blocks they have. Of the program's text nothing is said here.
-/
namespace Go.Proofs.YtifhakoeinalaaaDoor
set_option linter.unusedVariables false
set_option linter.unusedSimpArgs false

/-- How many of them lie in the block. -/
def cnt (x k : Nat) (l : BL) : Nat := l.countP fun q => cov x k q.1 q.2
theorem cnt_le (x k : Nat) (l : BL) : cnt x k l ≤ l.length := List.countP_le_length
theorem cnt_half (x k : Nat) (l : BL) : cnt x k l + cnt (x + 2 ^ k) k l ≤ cnt x (k + 1) l := by
  have hp := pow_one k
  refine count_two _ _ _ l (fun q _ h => ?_) (fun q _ h => ?_) (fun q _ h1 h2 => ?_)
  · have c := cov_iff.1 h; exact cov_iff.2 (by rw [pow_up]; omega)
  · have c := cov_iff.1 h; exact cov_iff.2 (by rw [pow_up]; omega)
  · have c := cov_iff.1 h1
    have d := cov_iff.1 h2
    have := pow_one q.2
    omega
/-- One that has all of a half, and not the whole, is that half. -/
theorem above_low {six : Bool} {x k : Nat} {q : Nat × Nat} (hA : AL six x (k + 1)) (hq : AL six q.1 q.2) (h1 : cov q.1 q.2 x k = true) (h2 : cov q.1 q.2 x (k + 1) = false) : cov x k q.1 q.2 = true := by
  rcases al_three hA hq (a := x) (inB_self _ _) (cov_in h1 (inB_self _ _)) with c | c
  · have a := cov_iff.1 c
    have b := cov_iff.1 h1
    have hn : ¬ (q.1 ≤ x ∧ x + 2 ^ (k + 1) ≤ q.1 + 2 ^ q.2) := fun h => by rw [cov_iff.2 h] at h2; cases h2
    rw [pow_up] at a hn
    have hlt : q.2 < k + 1 := by
      rcases Nat.lt_or_ge q.2 (k + 1) with h | h
      · exact h
      · have := Nat.pow_le_pow_right (show 0 < 2 by omega) h
        rw [pow_up] at this; omega
    have := Nat.pow_le_pow_right (show 0 < 2 by omega) (show q.2 ≤ k by omega)
    exact cov_iff.2 (by omega)
  · rw [c] at h2; cases h2
theorem above_high {six : Bool} {x k : Nat} {q : Nat × Nat} (hA : AL six x (k + 1)) (hq : AL six q.1 q.2) (h1 : cov q.1 q.2 (x + 2 ^ k) k = true) (h2 : cov q.1 q.2 x (k + 1) = false) : cov (x + 2 ^ k) k q.1 q.2 = true := by
  rcases al_three hA hq (a := x + 2 ^ k) (inB_high (inB_self _ _)) (cov_in h1 (inB_self _ _)) with c | c
  · have a := cov_iff.1 c
    have b := cov_iff.1 h1
    have hn : ¬ (q.1 ≤ x ∧ x + 2 ^ (k + 1) ≤ q.1 + 2 ^ q.2) := fun h => by rw [cov_iff.2 h] at h2; cases h2
    rw [pow_up] at a hn
    have hlt : q.2 < k + 1 := by
      rcases Nat.lt_or_ge q.2 (k + 1) with h | h
      · exact h
      · have := Nat.pow_le_pow_right (show 0 < 2 by omega) h
        rw [pow_up] at this; omega
    have := Nat.pow_le_pow_right (show 0 < 2 by omega) (show q.2 ≤ k by omega)
    exact cov_iff.2 (by omega)
  · rw [c] at h2; cases h2
theorem cnt_low {six : Bool} {x k : Nat} {l : BL} (hA : AL six x (k + 1)) (hl : AllAL six l) (h : abv x (k + 1) l = false) (ha : abv x k l = true) : 1 ≤ cnt x k l := by
  obtain ⟨q, hq, hc⟩ := List.any_eq_true.1 ha
  refine List.countP_pos_iff.2 ⟨q, hq, above_low hA (hl q hq) hc ?_⟩
  have := List.any_eq_false.1 h q hq
  simpa using this
theorem cnt_high {six : Bool} {x k : Nat} {l : BL} (hA : AL six x (k + 1)) (hl : AllAL six l) (h : abv x (k + 1) l = false) (ha : abv (x + 2 ^ k) k l = true) : 1 ≤ cnt (x + 2 ^ k) k l := by
  obtain ⟨q, hq, hc⟩ := List.any_eq_true.1 ha
  refine List.countP_pos_iff.2 ⟨q, hq, above_high hA (hl q hq) hc ?_⟩
  have := List.any_eq_false.1 h q hq
  simpa using this
theorem cnt_some {six : Bool} {x k a : Nat} {l : BL} (hA : AL six x k) (hl : AllAL six l) (h : abv x k l = false) (ha : inB x k a) (hs : inS l a) : 1 ≤ cnt x k l := by
  obtain ⟨q, hq, hi⟩ := (blw_in hA hl h ha).2 hs
  obtain ⟨m1, m2⟩ := List.mem_filter.1 hq
  exact List.countP_pos_iff.2 ⟨q, m1, m2⟩
/-- A union of blocks has no more blocks than came in. -/
theorem canon_merge {six : Bool} {l : BL} (hl : AllAL six l) : ∀ {k x : Nat}, AL six x k → abv x k l = false → (canon (inS l) k x).length ≤ cnt x k l
  | 0, x, hA, h => by
    rw [canon_none]
    · simp
    · intro a ha hs
      have hx : a = x := inB_zero.1 ha
      subst hx
      obtain ⟨q, hq, hi⟩ := hs
      rcases al_three hA (hl q hq) ha hi with c | c
      · have c' := cov_iff.1 c
        have := pow_one q.2
        have e : cov q.1 q.2 a 0 = true := cov_iff.2 (by unfold inB at hi; simp at *; omega)
        have := List.any_eq_false.1 h q hq
        exact absurd e this
      · have := List.any_eq_false.1 h q hq
        exact absurd c this
  | k + 1, x, hA, h => by
    by_cases hall : ∀ a, inB x (k + 1) a → inS l a
    · rw [canon_all hall]
      exact cnt_some hA hl h (inB_self _ _) (hall x (inB_self _ _))
    · rw [canon_half hall, List.length_append]
      have hh := cnt_half x k l
      have e1 : (canon (inS l) k x).length ≤ cnt x k l := by
        cases ha : abv x k l with
        | true => rw [canon_all (abv_all ha)]; exact cnt_low hA hl h ha
        | false => exact canon_merge hl hA.low ha
      have e2 : (canon (inS l) k (x + 2 ^ k)).length ≤ cnt (x + 2 ^ k) k l := by
        cases ha : abv (x + 2 ^ k) k l with
        | true => rw [canon_all (abv_all ha)]; exact cnt_high hA hl h ha
        | false => exact canon_merge hl hA.high ha
      omega
theorem canon_merge_len {six : Bool} {l : BL} (hl : AllAL six l) {k x : Nat} (hA : AL six x k) : (canon (inS l) k x).length ≤ l.length := by
  cases h : abv x k l with
  | true =>
    rw [canon_all (abv_all h)]
    obtain ⟨q, hq, _⟩ := List.any_eq_true.1 h
    exact List.length_pos_of_mem hq
  | false => exact Nat.le_trans (canon_merge hl hA h) (cnt_le _ _ _)
/-- What two unions have in common has no more blocks than both. -/
theorem canon_both {six : Bool} {l m : BL} (hl : AllAL six l) (hm : AllAL six m) : ∀ {k x : Nat}, AL six x k → abv x k l = false → abv x k m = false → (canon (fun a => inS l a ∧ inS m a) k x).length ≤ cnt x k l + cnt x k m
  | 0, x, hA, h, _ => by
    have := canon_merge hl (k := 0) (x := x) hA h
    have e : canon (fun a => inS l a ∧ inS m a) 0 x = [] ∨ canon (inS l) 0 x = canon (fun a => inS l a ∧ inS m a) 0 x := by
      by_cases hs : inS m x
      · exact .inr (canon_ext fun a ha => ⟨fun h => ⟨h, (inB_zero.1 ha) ▸ hs⟩, fun h => h.1⟩)
      · exact .inl (canon_none fun a ha h => hs ((inB_zero.1 ha) ▸ h.2))
    rcases e with e | e
    · rw [e]; simp
    · rw [← e]; omega
  | k + 1, x, hA, h1, h2 => by
    by_cases hall : ∀ a, inB x (k + 1) a → inS l a ∧ inS m a
    · rw [canon_all hall]
      have := cnt_some hA hl h1 (inB_self _ _) (hall x (inB_self _ _)).1
      simp; omega
    · rw [canon_half hall, List.length_append]
      have hh := cnt_half x k l
      have hi := cnt_half x k m
      have key : ∀ y, AL six y k → (abv y k l = true → 1 ≤ cnt y k l) → (abv y k m = true → 1 ≤ cnt y k m) → (abv y k l = false → abv y k m = false → (canon (fun a => inS l a ∧ inS m a) k y).length ≤ cnt y k l + cnt y k m) → (canon (fun a => inS l a ∧ inS m a) k y).length ≤ cnt y k l + cnt y k m := by
        intro y hy c1 c2 c3
        cases a1 : abv y k l with
        | true =>
          have e : canon (fun a => inS l a ∧ inS m a) k y = canon (inS m) k y := canon_ext fun a ha => ⟨fun h => h.2, fun h => ⟨abv_all a1 a ha, h⟩⟩
          rw [e]
          have := c1 a1
          cases a2 : abv y k m with
          | true => rw [canon_all (abv_all a2)]; simp; omega
          | false => have := canon_merge hm hy a2; omega
        | false =>
          cases a2 : abv y k m with
          | true =>
            have e : canon (fun a => inS l a ∧ inS m a) k y = canon (inS l) k y := canon_ext fun a ha => ⟨fun h => h.1, fun h => ⟨h, abv_all a2 a ha⟩⟩
            rw [e]
            have := canon_merge hl hy a1
            omega
          | false => exact c3 a1 a2
      have e1 := key x hA.low (cnt_low hA hl h1) (cnt_low hA hm h2) (fun a b => canon_both hl hm hA.low a b)
      have e2 := key (x + 2 ^ k) hA.high (cnt_high hA hl h1) (cnt_high hA hm h2) (fun a b => canon_both hl hm hA.high a b)
      omega
theorem canon_both_len {six : Bool} {l m : BL} (hl : AllAL six l) (hm : AllAL six m) {k x : Nat} (hA : AL six x k) : (canon (fun a => inS l a ∧ inS m a) k x).length ≤ l.length + m.length := by
  cases a1 : abv x k l with
  | true =>
    have e : canon (fun a => inS l a ∧ inS m a) k x = canon (inS m) k x := canon_ext fun a ha => ⟨fun h => h.2, fun h => ⟨abv_all a1 a ha, h⟩⟩
    rw [e]
    have := canon_merge_len hm hA
    omega
  | false =>
    cases a2 : abv x k m with
    | true =>
      have e : canon (fun a => inS l a ∧ inS m a) k x = canon (inS l) k x := canon_ext fun a ha => ⟨fun h => h.1, fun h => ⟨h, abv_all a2 a ha⟩⟩
      rw [e]
      have := canon_merge_len hl hA
      omega
    | false =>
      have := canon_both hl hm hA a1 a2
      have := cnt_le x k l
      have := cnt_le x k m
      omega
end Go.Proofs.YtifhakoeinalaaaDoor
/-
  Ranges as smallest lists of blocks: one block; how many blocks a short range has; two ranges side by side. Of the program's text nothing is said here.
-/
namespace Go.Proofs.YtifhakoeinalaaaDoor
set_option linter.unusedVariables false
set_option linter.unusedSimpArgs false

/-- A block's own list. -/
theorem canon_one {six : Bool} {y j : Nat} (hy : AL six y j) : ∀ {k x : Nat}, AL six x k → cov x k y j = true → canon (inB y j) k x = [(y, j)]
  | 0, x, hx, h => by
    have c := cov_iff.1 h
    have hj : j = 0 := by
      rcases Nat.eq_zero_or_pos j with e | e
      · exact e
      · have : 2 ^ 1 ≤ 2 ^ j := Nat.pow_le_pow_right (by omega) e
        simp at c this; omega
    subst hj
    have : y = x := by simp at c; omega
    subst this
    exact canon_all fun a ha => ha
  | k + 1, x, hx, h => by
    have c := cov_iff.1 h
    have hp := pow_one k
    by_cases hall : ∀ a, inB x (k + 1) a → inB y j a
    · rw [canon_all hall]
      have h1 := hall x (inB_self _ _)
      have h2 := hall (x + (2 ^ (k + 1) - 1)) (inB_end _ _)
      unfold inB at h1 h2
      have e1 : y = x := by omega
      have e2 : 2 ^ j = 2 ^ (k + 1) := by have := pow_one (k + 1); omega
      have e3 : j = k + 1 := by
        rcases Nat.lt_trichotomy j (k + 1) with hlt | e | hlt
        · have := Nat.pow_lt_pow_right (a := 2) (by omega) hlt; omega
        · exact e
        · have := Nat.pow_lt_pow_right (a := 2) (by omega) hlt; omega
      rw [e1, e3]
    · rw [canon_half hall]
      have hno : cov y j x (k + 1) = false := by
        cases e : cov y j x (k + 1) with
        | false => rfl
        | true => exact absurd (fun a ha => cov_in e ha) hall
      by_cases hlow : y < x + 2 ^ k
      · have hc : cov x k y j = true := by
          rcases al_three hx.low hy (a := y) ⟨by omega, by omega⟩ (inB_self _ _) with d | d
          · exact d
          · exact above_low (q := (y, j)) hx hy d hno
        have d := cov_iff.1 hc
        rw [canon_one hy hx.low hc, canon_none]
        · rfl
        · intro a ha hs; unfold inB at ha hs; omega
      · rw [pow_up] at c
        have hc : cov (x + 2 ^ k) k y j = true := cov_iff.2 (by omega)
        rw [canon_one hy hx.high hc, canon_none]
        · rfl
        · intro a ha hs; unfold inB at ha hs; omega
/-- From a on to the block's end, 2^j addresses at the most. -/
theorem canon_from_len (a j : Nat) : ∀ k x, x + 2 ^ k ≤ a + 2 ^ j → (canon (onS a) k x).length ≤ j + 1
  | 0, x, _ => by have := canon_from a 0 x; omega
  | k + 1, x, h => by
    by_cases hk : k + 1 ≤ j
    · have := canon_from a (k + 1) x; omega
    · have hjk : 2 ^ j ≤ 2 ^ k := Nat.pow_le_pow_right (by omega) (by omega)
      have hp := pow_one k
      rw [pow_up] at h
      by_cases hall : ∀ c, inB x (k + 1) c → onS a c
      · rw [canon_all hall]; simp
      · rw [canon_half hall, List.length_append, canon_none (k := k) (x := x)]
        · have := canon_from_len a j k (x + 2 ^ k) (by omega); simpa using this
        · intro c hc hs; unfold onS at hs; have := hc.2; omega
theorem canon_upto_len (b j : Nat) : ∀ k x, b < x + 2 ^ j → (canon (upS b) k x).length ≤ j + 1
  | 0, x, _ => by have := canon_upto b 0 x; omega
  | k + 1, x, h => by
    by_cases hk : k + 1 ≤ j
    · have := canon_upto b (k + 1) x; omega
    · have hjk : 2 ^ j ≤ 2 ^ k := Nat.pow_le_pow_right (by omega) (by omega)
      by_cases hall : ∀ c, inB x (k + 1) c → upS b c
      · rw [canon_all hall]; simp
      · rw [canon_half hall, List.length_append, canon_none (k := k) (x := x + 2 ^ k)]
        · have := canon_upto_len b j k x h; simpa using this
        · intro c hc hs; unfold upS at hs; have := hc.1; omega
/-- A range of 2^j addresses at the most. -/
theorem canon_range_len (a b j : Nat) (h : b < a + 2 ^ j) : ∀ k x, (canon (fromTo a b) k x).length ≤ 2 * j + 2
  | 0, x => by have := canon_range a b 0 x; omega
  | k + 1, x => by
    by_cases hall : ∀ c, inB x (k + 1) c → fromTo a b c
    · rw [canon_all hall]; simp
    · rw [canon_half hall, List.length_append]
      by_cases h2 : a ≤ x + 2 ^ k
      · by_cases h3 : x + 2 ^ k ≤ b
        · rw [canon_ext (k := k) (x := x) (T := onS a) (fun c hc => ⟨fun h => h.1, fun h => ⟨h, by have := hc.2; omega⟩⟩), canon_ext (k := k) (x := x + 2 ^ k) (T := upS b) (fun c hc => ⟨fun h => h.2, fun h => ⟨by have := hc.1; omega, h⟩⟩)]
          have := canon_from_len a j k x (by omega)
          have := canon_upto_len b j k (x + 2 ^ k) (by omega)
          omega
        · rw [canon_none (k := k) (x := x + 2 ^ k) (fun c hc hs => by have := hc.1; have := hs.2; omega)]
          have := canon_range_len a b j h k x; simpa using this
      · rw [canon_none (k := k) (x := x) (fun c hc hs => by have := hc.2; have := hs.1; omega)]
        have := canon_range_len a b j h k (x + 2 ^ k); simpa using this
end Go.Proofs.YtifhakoeinalaaaDoor
/-
  Package cidr: pre.Covers of two blocks; slices of prefixes that can be read; within.
-/
namespace Go.Proofs.YtifhakoeinalaaaDoor
open Go.RowKit
set_option linter.unusedVariables false
set_option linter.unusedSimpArgs false

theorem covD_cov {six : Bool} {x k y j : Nat} (hx : AL six x k) (hy : AL six y j) : covD six x (wideN six - k) y (wideN six - j) = cov x k y j := by
  have hk := hx.1
  have hj := hy.1
  unfold covD cov
  rw [← Bool.decide_and, decide_eq_decide, show wideN six - (wideN six - k) = k by omega]
  obtain ⟨c, hc⟩ := hx.2.2
  have pj := pow_one j
  constructor
  · rintro ⟨h1, h2⟩
    have hle := lowN_le y k
    have hjk : 2 ^ j ≤ 2 ^ k := Nat.pow_le_pow_right (by omega) (by omega)
    have hlt : y < x + 2 ^ k := by
      rw [← h2]; unfold lowN
      have e1 := Nat.div_add_mod' y (2 ^ k)
      have e2 := Nat.mod_lt y (Nat.two_pow_pos k)
      generalize y / 2 ^ k * 2 ^ k = A at e1 ⊢
      generalize y % 2 ^ k = B at e1 e2
      generalize 2 ^ k = C at e2 ⊢
      omega
    rcases al_three hx hy (a := y) ⟨by omega, hlt⟩ (inB_self _ _) with h | h
    · exact cov_iff.1 h
    · have := cov_iff.1 h; omega
  · rintro ⟨h1, h2⟩
    have hjk : j ≤ k := by
      rcases Nat.lt_or_ge k j with h | h
      · have : 2 ^ (k + 1) ≤ 2 ^ j := Nat.pow_le_pow_right (by omega) h
        rw [pow_up] at this; have := pow_one k; omega
      · exact h
    refine ⟨by omega, ?_⟩
    unfold lowN
    rw [hc] at h1 h2 ⊢
    rw [Nat.div_eq_of_lt_le (k := c) h1 (by rw [Nat.add_mul]; omega)]
theorem both_al {six : Bool} {x k y j : Nat} (hx : AL six x k) (hy : AL six y j) : bothE six x ((wideN six - k : Nat) : Int) six y ((wideN six - j : Nat) : Int) = 0 := by
  unfold bothE
  rw [if_pos hx.chk, if_pos hy.chk]
  simp
theorem covers_al {six : Bool} {x k y j : Nat} (hx : AL six x k) (hy : AL six y j) (b : Bool) (hb : cov x k y j = b) (w : World) :
    Calls Tryd.prog 59 #[.agg #[.bool six, .int .u64 (aH x), .int .u64 (aL x), .int .i64 ((wideN six - k : Nat) : Int)], .agg #[.bool six, .int .u64 (aH y), .int .u64 (aL y), .int .i64 ((wideN six - j : Nat) : Int)]] w fun e w' => e = .returned (.tuple #[.bool b, .int .i64 0]) ∧ Below w.heap.size w w' := by
  have c := covers_ok' six x y (wideN six - k) (wideN six - j) hx.lt128 hy.lt128 (both_al hx hy) (Nat.sub_le _ _) w
  rw [covD_cov hx hy, hb] at c
  exact c

/-- The prefix p lies from cell o of block g on. -/
def PCell (w : World) (g o : Nat) (p : PT) : Prop := w.cell? ⟨g, o, none⟩ = some (.bool p.1) ∧ w.cell? ⟨g, o + 1, none⟩ = some (.int .u64 (aH p.2.1)) ∧ w.cell? ⟨g, o + 2, none⟩ = some (.int .u64 (aL p.2.1)) ∧ w.cell? ⟨g, o + 3, none⟩ = some (.int .i64 p.2.2)
/-- A slice of prefixes that can be read. -/
def RowP (w : World) (v : Value) (l : List PT) : Prop := (l = [] ∧ ∃ p c, v = .slice p 0 c) ∨ ∃ g o c, v = .slice (some ⟨g, o, none⟩) l.length c ∧ g < w.heap.size ∧ ∀ k (hk : k < l.length), PCell w g (o + k * 4) l[k]
theorem PCell.keep {w w' : World} {g o : Nat} {p : PT} (h : PCell w g o p) (hg : g < w.heap.size) (hb : Below w.heap.size w w') : PCell w' g o p :=
  ⟨(hb.cell (p := ⟨g, o, none⟩) hg).trans h.1, (hb.cell (p := ⟨g, o + 1, none⟩) hg).trans h.2.1, (hb.cell (p := ⟨g, o + 2, none⟩) hg).trans h.2.2.1, (hb.cell (p := ⟨g, o + 3, none⟩) hg).trans h.2.2.2⟩
theorem RowP.keep {w w' : World} {v : Value} {l : List PT} (h : RowP w v l) (hb : Below w.heap.size w w') : RowP w' v l := by
  rcases h with h | ⟨g, o, c, e, hg, hc⟩
  · exact .inl h
  · exact .inr ⟨g, o, c, e, Nat.lt_of_lt_of_le hg hb.size, fun k hk => (hc k hk).keep hg hb⟩
theorem RowP.owned {w : World} {base : Nat} {v : Value} {l : List PT} (h : Owned w base v l) : RowP w v l := by
  rcases h.2 with ⟨e, h0⟩ | ⟨g, c, cur, e, hb, hg, _⟩
  · exact .inl ⟨List.eq_nil_of_length_eq_zero h0, none, 0, e⟩
  · subst e
    refine .inr ⟨g, 0, c, rfl, ?_, fun k hk => ?_⟩
    · rcases Nat.lt_or_ge g w.heap.size with hlt | hge
      · exact hlt
      · rw [Array.getElem?_eq_none hge] at hg; cases hg
    · rw [Nat.zero_add]; exact owned_at h rfl k hk
theorem RowP.form {w : World} {v : Value} {l : List PT} (h : RowP w v l) : ∃ p c, v = .slice p l.length c := by
  rcases h with ⟨rfl, p, c, e⟩ | ⟨g, o, c, e, _⟩
  · exact ⟨p, c, e⟩
  · exact ⟨_, c, e⟩
theorem blw_take_yes {x k : Nat} {l : BL} {i : Nat} (hi : i < l.length) (h : cov x k l[i].1 l[i].2 = true) : blw x k (l.take (i + 1)) = blw x k (l.take i) ++ [l[i]] := by
  unfold blw
  rw [List.take_succ_eq_append_getElem hi, List.filter_append]
  simp [h]
theorem blw_take_no {x k : Nat} {l : BL} {i : Nat} (hi : i < l.length) (h : cov x k l[i].1 l[i].2 = false) : blw x k (l.take (i + 1)) = blw x k (l.take i) := by
  unfold blw
  rw [List.take_succ_eq_append_getElem hi, List.filter_append]
  simp [h]
theorem abv_take {x k : Nat} {l : BL} {i : Nat} (hi : i < l.length) (h : cov l[i].1 l[i].2 x k = false) (h0 : abv x k (l.take i) = false) : abv x k (l.take (i + 1)) = false := by
  unfold abv at *
  rw [List.take_succ_eq_append_getElem hi, List.any_append, h0]
  simp [h]
theorem abv_at {x k : Nat} {l : BL} {i : Nat} (hi : i < l.length) (h : cov l[i].1 l[i].2 x k = true) : abv x k l = true := List.any_eq_true.2 ⟨l[i], List.getElem_mem hi, h⟩
theorem blw_len (x k : Nat) (l : BL) : (blw x k l).length ≤ l.length := List.length_filter_le _ _
theorem within_nil (six : Bool) (x k : Nat) (p : Option Addr) (c : Nat) (w : World) :
    Calls Tryd.prog 44 #[.agg #[.bool six, .int .u64 (aH x), .int .u64 (aL x), .int .i64 ((wideN six - k : Nat) : Int)], .slice p 0 c] w (PresOut ((wth x k []).map (bl six)) w) := by
  go_enter Tryd.func44, Tryd.ntmps44
  go_wp2
  go_rounds 1
  go_returns
  exact ⟨_, rfl, owned_nil _ _, by go_grown⟩
end Go.Proofs.YtifhakoeinalaaaDoor
/-
  cidr.within.
-/
namespace Go.Proofs.YtifhakoeinalaaaDoor
open Go.RowKit
set_option linter.unusedVariables false
set_option linter.unusedSimpArgs false

set_option maxHeartbeats 4000000 in
set_option maxRecDepth 100000 in
theorem within_row (six : Bool) (x k : Nat) (hA : AL six x k) (ls : BL) (hl : AllAL six ls) (n : Nat) (hn : ls.length = n) (hlen : n ≤ 1000000) (g o cap : Nat) (w : World) (hg : g < w.heap.size) (hc : ∀ i (hi : i < ls.length), PCell w g (o + i * 4) (bl six ls[i])) :
    Calls Tryd.prog 44 #[.agg #[.bool six, .int .u64 (aH x), .int .u64 (aL x), .int .i64 ((wideN six - k : Nat) : Int)], .slice (some ⟨g, o, none⟩) n cap] w (PresOut ((wth x k ls).map (bl six)) w) := by
  obtain ⟨i0, hii, hz0, hz1, hz2⟩ := info_parts info_pre
  have HA := Lib.hid hA
  have HL := Lib.hid hl
  have HN := Lib.hid hn
  have B1 : Below w.heap.size w (w.alloc (.cells #[.bool six, .int .u64 (aH x), .int .u64 (aL x), .int .i64 ((wideN six - k : Nat) : Int)] 33)) := (Below.refl _ w).alloc (Nat.le_refl _) _
  have GP := Lib.hid (PreAt.new w six (aH x) (aL x) ((wideN six - k : Nat) : Int) 33)
  have HC := Lib.hid (fun i hi => (hc i hi).keep hg B1)
  have hg1 : g < (w.alloc (.cells #[.bool six, .int .u64 (aH x), .int .u64 (aL x), .int .i64 ((wideN six - k : Nat) : Int)] 33)).heap.size := by simp; omega
  clear hA hl hn hc hg
  go_enter Tryd.func44, Tryd.ntmps44
  go_wp2
  revert GP B1 HC hg1
  generalize w.alloc (.cells #[.bool six, .int .u64 (aH x), .int .u64 (aL x), .int .i64 ((wideN six - k : Nat) : Int)] 33) = w1
  intro B1 GP HC hg1
  go_loopw [5, 14] (fun v i wr => ∃ j : Nat, j ≤ n ∧ i = .int .i64 j ∧ Owned wr w1.heap.size v ((blw x k (ls.take j)).map (bl six)) ∧ Below w1.heap.size w1 wr ∧ Hid (abv x k (ls.take j) = false)) (fun _ i _ => n - (intOf i).toNat)
  case atStart => exact ⟨0, Nat.zero_le _, rfl, owned_nil _ _, Below.refl _ _, Lib.hid rfl⟩
  case round =>
    obtain ⟨j, hj, rfl, hown, hnx, habv⟩ := hrel
    have hsz := hnx.size
    by_cases hlt : j < n
    · have hjl : j < ls.length := by rw [HN.out]; exact hlt
      obtain ⟨c0, c1, c2, c3⟩ := (HC.out j hjl).keep hg1 hnx
      have hq := HL.out _ (List.getElem_mem hjl)
      have T1 := Lib.hid (fun h => blw_take_yes (x := x) (k := k) hjl h)
      have T2 := Lib.hid (fun h => blw_take_no (x := x) (k := k) hjl h)
      have T3 := Lib.hid (fun h => abv_take (x := x) (k := k) hjl h habv.out)
      have T4 := Lib.hid (fun h => abv_at (x := x) (k := k) hjl h)
      generalize ls[j] = q at c0 c1 c2 c3 hq T1 T2 T3 T4
      obtain ⟨y, m⟩ := q
      simp only [bl] at c0 c1 c2 c3 hq T1 T2 T3 T4
      have GQ := GP.out.keep hnx
      obtain ⟨p0, p1, p2, p3, pl⟩ := GQ
      have HQ : Hid (PreAt wr w.heap.size six (aH x) (aL x) ((wideN six - k : Nat) : Int)) := Lib.hid ⟨p0, p1, p2, p3, pl⟩
      have pm := Nat.lt_succ_of_lt pl
      simp only [Nat.succ_eq_add_one] at pm
      clear HL habv
      cases hcv : cov y m x k with
      | true =>
        have C1 := Lib.hid (covers_al hq HA.out true hcv)
        have E : (wth x k ls).map (bl six) = [(six, x, ((wideN six - k : Nat) : Int))] := by unfold wth; rw [if_pos (T4.out hcv)]; rfl
        clear hcv hq T1 T2 T3 T4
        go_wp2_with fail
        refine (C1.out _).mono ?_
        rintro e w2 ⟨rfl, hb2⟩
        obtain ⟨r0, r1, r2, r3, rl⟩ := (HQ.out.via ((Below.refl _ _).alloc (Nat.le_refl _) _) hb2)
        have b2 := thenBelow (thenBelow hnx ((Below.refl _ wr).alloc (Nat.le_refl _) _)) hb2
        clear c0 c1 c2 c3 p0 p1 p2 p3 pl pm C1 hb2 HQ
        go_wp2
        go_returns
        have b3 := thenBelow B1 b2
        refine ⟨_, rfl, ?_, ?_⟩
        · rw [E]; exact owned_one _ _ b3.size _ _ _
        · exact b3.alloc b3.size _
      | false =>
        have C1 := Lib.hid (covers_al hq HA.out false hcv)
        have T3' := T3.out hcv
        clear hcv T3 T4
        go_wp2_with fail
        refine (C1.out _).mono ?_
        rintro e w2 ⟨rfl, hb2⟩
        obtain ⟨r0, r1, r2, r3, rl⟩ := (HQ.out.via ((Below.refl _ _).alloc (Nat.le_refl _) _) hb2)
        obtain ⟨s0, s1, s2, s3, sl⟩ := (PreAt.new wr six (aH y) (aL y) ((wideN six - m : Nat) : Int) 33).keep hb2
        have HS : Hid (PreAt w2 wr.heap.size six (aH y) (aL y) ((wideN six - m : Nat) : Int)) := Lib.hid ⟨s0, s1, s2, s3, sl⟩
        have b2 := thenBelow (thenBelow hnx ((Below.refl _ wr).alloc (Nat.le_refl _) _)) hb2
        have hown2 := ownsKeep (hown.alloc _) hb2
        clear c0 c1 c2 c3 p0 p1 p2 p3 pl pm C1 hb2 HQ hown hnx
        cases hcw : cov x k y m with
        | false =>
          have C2 := Lib.hid (covers_al HA.out hq false hcw)
          have T2' := T2.out hcw
          clear hcw T1 T2
          go_wp2_with fail
          refine (C2.out _).mono ?_
          rintro e w3 ⟨rfl, hb3⟩
          have b3 := thenBelow b2 hb3
          have hown3 := ownsKeep hown2 hb3
          clear r0 r1 r2 r3 rl s0 s1 s2 s3 sl HS hown2 hb3 b2 C2
          go_wp2
          go_roundw
          case rel => exact ⟨j + 1, by omega, by go_num, by rw [T2']; exact hown3, b3, Lib.hid T3'⟩
          case measure => simp [intOf]; omega
        | true =>
          have C2 := Lib.hid (covers_al HA.out hq true hcw)
          have T1' := T1.out hcw
          have hbl := blw_len x k (ls.take j)
          have htl : (ls.take j).length ≤ j := by rw [List.length_take]; omega
          clear hcw T1 T2
          go_wp2_with fail
          refine (C2.out _).mono ?_
          rintro e w3 ⟨rfl, hb3⟩
          have b3 := thenBelow b2 hb3
          have hown3 := ownsKeep hown2 hb3
          have b3s := b3.size
          clear r0 r1 r2 r3 rl s0 s1 s2 s3 sl hown2 b2 C2
          obtain ⟨s0, s1, s2, s3, sl⟩ := HS.out.keep hb3
          have hbm : ((blw x k (ls.take j)).map (bl six)).length ≤ 1000000 := by rw [List.length_map]; omega
          clear hb3
          go_wp2_with (first
            | (at_builtin; refine wpList_append_own _ rfl _ _ 28 rfl w1.heap.size 33 i0 _ 4 32 Tryd.underlying28 hii hz0 hz1 hz2 rfl (by decide) _ _ _ rfl (hown3.alloc _) ⟨w3.heap.size, 0, none⟩ 1 1 (pRow [(six, y, ((wideN six - m : Nat) : Int))]) rfl rfl ?c1 (pRow_one _) ?c3 ?c4 ?c5 ?_))
          case c1 => exact World.news_of_block (heap_alloc_new w3 _)
          case c3 => unfold maxLen; omega
          case c4 => omega
          case c5 => simp; omega
          intro v' w4 hown' hgrow _
          have hb4 := below_app b3 (Nat.le_refl _) (Nat.le_refl _) hown3 hgrow
          have hown4 : Owned w4 w1.heap.size v' ((blw x k (ls.take (j + 1))).map (bl six)) := by
            rw [T1', List.map_append]
            unfold Owned
            rw [pRow_app, List.length_append, List.length_map]
            exact hown'
          clear hown' hgrow hown3 b3
          go_wp2
          go_roundw
          case rel => exact ⟨j + 1, by omega, by go_num, hown4, hb4, Lib.hid T3'⟩
          case measure => simp [intOf]; omega
    · obtain rfl : j = n := by omega
      have E : (wth x k ls).map (bl six) = (blw x k (ls.take j)).map (bl six) := by
        have ha := habv.out
        rw [List.take_of_length_le (by rw [HN.out]; omega)] at ha ⊢
        unfold wth; rw [ha]; rfl
      go_wp2
      go_returns
      refine ⟨_, rfl, ?_, thenBelow B1 hnx⟩
      rw [E]
      exact ownsLow hown (by have := B1.size; omega)
theorem within_calls (six : Bool) (x k : Nat) (hA : AL six x k) (ls : BL) (hl : AllAL six ls) (hlen : ls.length ≤ 1000000) (v : Value) (w : World) (hr : RowP w v (ls.map (bl six))) :
    Calls Tryd.prog 44 #[.agg #[.bool six, .int .u64 (aH x), .int .u64 (aL x), .int .i64 ((wideN six - k : Nat) : Int)], v] w (PresOut ((wth x k ls).map (bl six)) w) := by
  rcases hr with ⟨e, p, c, rfl⟩ | ⟨g, o, c, rfl, hg, hc⟩
  · obtain rfl : ls = [] := by simpa using e
    exact within_nil six x k p c w
  · rw [List.length_map]
    refine within_row six x k hA ls hl _ rfl hlen g o c w hg fun i hi => ?_
    have := hc i (by rw [List.length_map]; exact hi)
    rw [List.getElem_map] at this
    exact this
end Go.Proofs.YtifhakoeinalaaaDoor
/-
  cidr.uniform; slices.Equal at prefixes.
-/
namespace Go.Proofs.YtifhakoeinalaaaDoor
open Go.RowKit
set_option linter.unusedVariables false
set_option linter.unusedSimpArgs false

/-- Two prefixes are one, or differ at a first cell. -/
theorem pt_ne (p q : PT) : p = q ∨ (p.1 == q.1) = false ∨ (p.1 = q.1 ∧ (aH p.2.1 == aH q.2.1) = false) ∨ (p.1 = q.1 ∧ aH p.2.1 = aH q.2.1 ∧ (aL p.2.1 == aL q.2.1) = false) ∨ (p.1 = q.1 ∧ p.2.1 = q.2.1 ∧ (p.2.2 == q.2.2) = false) := by
  obtain ⟨s, x, n⟩ := p
  obtain ⟨t, y, m⟩ := q
  by_cases h1 : s = t
  · rcases eq3 x y with h | h | ⟨h, h'⟩
    · by_cases h2 : n = m
      · exact .inl (by rw [h1, h, h2])
      · exact .inr (.inr (.inr (.inr ⟨h1, h, by simpa using h2⟩)))
    · exact .inr (.inr (.inl ⟨h1, h⟩))
    · exact .inr (.inr (.inr (.inl ⟨h1, h, h'⟩)))
  · exact .inr (.inl (by simpa using h1))
theorem unif_bl {six : Bool} {x k : Nat} {q : Nat × Nat} {t : BL} (hk : k ≤ wideN six) (hq : q.2 ≤ wideN six) : unif x k (q :: t) = decide (bl six q = (six, x, ((wideN six - k : Nat) : Int))) := by
  show decide (q = (x, k)) = _
  rw [decide_eq_decide]
  exact ⟨fun h => by rw [h]; rfl, fun h => bl_inj hq hk h⟩
set_option maxHeartbeats 2000000 in
theorem uniform_row (six : Bool) (x : Nat) (n : Int) (q : PT) (b : Bool) (hb : decide (q = (six, x, n)) = b) (g o c m : Nat) (hm : m ≤ 1000000) (w : World) (hg : g < w.heap.size) (hc : PCell w g o q) :
    Calls Tryd.prog 45 #[.agg #[.bool six, .int .u64 (aH x), .int .u64 (aL x), .int .i64 n], .slice (some ⟨g, o, none⟩) (m + 1) c] w fun e w' => e = .returned (.bool b) ∧ Below w.heap.size w w' := by
  have B1 : Below w.heap.size w (w.alloc (.cells #[.bool six, .int .u64 (aH x), .int .u64 (aL x), .int .i64 n] 33)) := (Below.refl _ w).alloc (Nat.le_refl _) _
  obtain ⟨p0, p1, p2, p3, pl⟩ := PreAt.new w six (aH x) (aL x) n 33
  obtain ⟨c0, c1, c2, c3⟩ := hc.keep hg B1
  have hm0 : (((m + 1 : Nat) : Int) == 0) = false := by simp; omega
  have hm1 : ((m : Int) + 1 == 0) = false := by simp; omega
  have hm2 : (0 : Int) < (m : Int) + 1 := by omega
  rcases pt_ne q (six, x, n) with h | h | ⟨h, h'⟩ | ⟨h, h', h''⟩ | ⟨h, h', h''⟩
  · subst h
    obtain rfl : b = true := by rw [← hb]; simp
    clear hb
    simp only at c0 c1 c2 c3
    go_enter Tryd.func45, Tryd.ntmps45
    go_wp2_with fail
    revert B1 p0 p1 p2 p3 pl c0 c1 c2 c3
    generalize w.alloc (.cells #[.bool six, .int .u64 (aH x), .int .u64 (aL x), .int .i64 n] 33) = w1
    intro B1 p0 p1 p2 p3 pl c0 c1 c2 c3
    go_quiet ((fail))
    go_wp2
    go_ret
    exact ⟨by simp, below_drewN B1 _⟩
  all_goals
    obtain rfl : b = false := by
      rw [← hb, decide_eq_false_iff_not]
      rintro rfl
      simp at *
    obtain ⟨s, y, l⟩ := q
    simp only at *
    clear hb
    try subst h
    try subst h'
    go_enter Tryd.func45, Tryd.ntmps45
    go_wp2_with fail
    revert B1 p0 p1 p2 p3 pl c0 c1 c2 c3
    generalize w.alloc (.cells #[.bool _, .int .u64 (aH _), .int .u64 (aL _), .int .i64 _] 33) = w1
    intro B1 p0 p1 p2 p3 pl c0 c1 c2 c3
    go_quiet ((fail))
    go_wp2
    go_ret
    exact ⟨by simp [*], below_drewN B1 _⟩
theorem uniform_calls (six : Bool) (x k : Nat) (hk : k ≤ wideN six) (ls : BL) (hl : AllAL six ls) (hlen : ls.length ≤ 1000000) (b : Bool) (hb : unif x k ls = b) (v : Value) (w : World) (hr : RowP w v (ls.map (bl six))) :
    Calls Tryd.prog 45 #[.agg #[.bool six, .int .u64 (aH x), .int .u64 (aL x), .int .i64 ((wideN six - k : Nat) : Int)], v] w fun e w' => e = .returned (.bool b) ∧ Below w.heap.size w w' := by
  cases ls with
  | nil =>
    obtain ⟨p, c, rfl⟩ := hr.form
    obtain rfl : b = true := hb.symm
    go_enter Tryd.func45, Tryd.ntmps45
    go_wp2_with fail
    go_quiet ((fail))
    go_wp2
    go_ret
    exact ⟨by simp, below_drewN ((Below.refl _ w).alloc (Nat.le_refl _) _) _⟩
  | cons q t =>
    rw [unif_bl (six := six) hk (hl q (.head _)).1] at hb
    rcases hr with ⟨e, _⟩ | ⟨g, o, c, rfl, hg, hc⟩
    · simp at e
    · have h0 := hc 0 (by simp)
      simp only [Nat.zero_mul, Nat.add_zero, List.map_cons, List.getElem_cons_zero] at h0
      simp only [List.length_cons] at hlen
      rw [List.map_cons, List.length_cons, List.length_map]
      exact uniform_row six x _ (bl six q) b hb g o c t.length (by omega) w hg h0
set_option maxHeartbeats 2000000 in
theorem equal_row (l1 l2 : List PT) (n : Nat) (h1 : l1.length = n) (h2 : l2.length = n) (hn : n ≤ 1000000000) (b : Bool) (hb : decide (l1 = l2) = b) (g1 o1 c1 g2 o2 c2 : Nat) (w : World) (hc1 : ∀ k (hk : k < l1.length), PCell w g1 (o1 + k * 4) l1[k]) (hc2 : ∀ k (hk : k < l2.length), PCell w g2 (o2 + k * 4) l2[k]) :
    Calls Tryd.prog 46 #[.slice (some ⟨g1, o1, none⟩) n c1, .slice (some ⟨g2, o2, none⟩) n c2] w fun e w' => e = .returned (.bool b) ∧ Below w.heap.size w w' := by
  have H1 := Lib.hid hc1
  have H2 := Lib.hid hc2
  have N1 := Lib.hid h1
  have N2 := Lib.hid h2
  have HB := Lib.hid hb
  clear hc1 hc2 h1 h2 hb
  go_enter Tryd.func46, Tryd.ntmps46
  go_wp2
  go_loopw [13] (fun i wr => ∃ k q : Nat, k ≤ n ∧ i = .int .i64 k ∧ Hid (l1.take k = l2.take k) ∧ wr = w.drewN q) (fun i _ => n - (intOf i).toNat)
  case atStart => exact ⟨0, 0, Nat.zero_le _, rfl, Lib.hid rfl, rfl⟩
  case round =>
    obtain ⟨k, q, hk, rfl, hsame, rfl⟩ := hrel
    by_cases hlt : k < n
    · have k1 : k < l1.length := by rw [N1.out]; exact hlt
      have k2 : k < l2.length := by rw [N2.out]; exact hlt
      obtain ⟨x0, x1, x2, x3⟩ := H1.out k k1
      obtain ⟨y0, y1, y2, y3⟩ := H2.out k k2
      have T := Lib.hid (fun (e : l1[k] = l2[k]) => show l1.take (k + 1) = l2.take (k + 1) by rw [List.take_succ_eq_append_getElem k1, List.take_succ_eq_append_getElem k2, hsame.out, e])
      have D := Lib.hid (fun (e : l1[k] ≠ l2[k]) (f : l1 = l2) => e (by subst f; rfl))
      clear H1 H2 hsame
      generalize l1[k] = p at x0 x1 x2 x3 T D
      generalize l2[k] = r at y0 y1 y2 y3 T D
      rcases pt_ne p r with h | h | ⟨h, h'⟩ | ⟨h, h', h''⟩ | ⟨h, h', h''⟩
      · have T' := Lib.hid (T.out h)
        subst h
        obtain ⟨s, x, m⟩ := p
        simp only at x0 x1 x2 x3 y0 y1 y2 y3
        clear T D
        go_wp2_with fail
        go_quiet ((fail))
        go_wp2
        go_roundw
        case rel => exact ⟨k + 1, _, by omega, by go_num, T', rfl⟩
        case measure => simp [intOf]; omega
      all_goals
        obtain rfl : b = false := by
          rw [← HB.out, decide_eq_false_iff_not]
          refine D.out ?_
          rintro rfl
          simp at *
        obtain ⟨s, x, m⟩ := p
        obtain ⟨t, y, l⟩ := r
        simp only at x0 x1 x2 x3 y0 y1 y2 y3 h
        try simp only at h'
        try simp only at h''
        clear T D HB N1 N2
        try subst h
        try subst h'
        go_wp2_with fail
        go_quiet ((fail))
        go_wp2
        go_ret
        exact ⟨rfl, below_drewN (below_drewN (Below.refl _ _) _) _⟩
    · obtain rfl : k = n := by omega
      obtain rfl : b = true := by
        have := hsame.out
        rw [List.take_of_length_le (by rw [N1.out]; omega), List.take_of_length_le (by rw [N2.out]; omega)] at this
        rw [← HB.out, this]; simp
      go_wp2
      go_ret
      exact ⟨rfl, below_drewN (Below.refl _ _) _⟩
theorem equal_calls (l1 l2 : List PT) (h1 : l1.length ≤ 1000000000) (h2 : l2.length ≤ 1000000000) (b : Bool) (hb : decide (l1 = l2) = b) (v1 v2 : Value) (w : World) (r1 : RowP w v1 l1) (r2 : RowP w v2 l2) :
    Calls Tryd.prog 46 #[v1, v2] w fun e w' => e = .returned (.bool b) ∧ Below w.heap.size w w' := by
  by_cases hn : l1.length = l2.length
  · rcases r1 with ⟨rfl, p, c, rfl⟩ | ⟨g1, o1, c1, rfl, _, hc1⟩
    · obtain rfl : l2 = [] := List.eq_nil_of_length_eq_zero (by simpa using hn.symm)
      obtain ⟨p2, c2, rfl⟩ := r2.form
      obtain rfl : b = true := by rw [← hb]; rfl
      go_enter Tryd.func46, Tryd.ntmps46
      go_wp2
      go_rounds 1
      go_ret
      exact ⟨rfl, Below.refl _ _⟩
    · rcases r2 with ⟨rfl, p, c, rfl⟩ | ⟨g2, o2, c2, rfl, _, hc2⟩
      · obtain rfl : l1 = [] := List.eq_nil_of_length_eq_zero (by simpa using hn)
        obtain rfl : b = true := by rw [← hb]; rfl
        go_enter Tryd.func46, Tryd.ntmps46
        go_wp2
        go_rounds 1
        go_ret
        exact ⟨rfl, Below.refl _ _⟩
      · rw [hn]
        exact equal_row l1 l2 l2.length hn rfl h2 b hb g1 o1 c1 g2 o2 c2 w hc1 hc2
  · obtain ⟨p1, c1, rfl⟩ := r1.form
    obtain ⟨p2, c2, rfl⟩ := r2.form
    obtain rfl : b = false := by rw [← hb, decide_eq_false_iff_not]; rintro rfl; exact hn rfl
    have n1 : ((l1.length : Int) == (l2.length : Int)) = false := by simp; omega
    have n2 : ((l1.length : Int) != (l2.length : Int)) = true := by simp; omega
    have n3 : ¬ (l1.length : Int) = (l2.length : Int) := by omega
    clear hn r1 r2 hb
    go_enter Tryd.func46, Tryd.ntmps46
    go_wp2
    go_ret
    exact ⟨rfl, Below.refl _ _⟩
end Go.Proofs.YtifhakoeinalaaaDoor
/-
  cidr.combineWithin, way by way.
-/
namespace Go.Proofs.YtifhakoeinalaaaDoor
open Go.RowKit
set_option linter.unusedVariables false
set_option linter.unusedSimpArgs false

theorem row_two (w : World) (s : Bool) (x : Nat) (n : Int) (t : Bool) (y : Nat) (m : Int) : RowP (w.alloc (.cells #[.bool s, .int .u64 (aH x), .int .u64 (aL x), .int .i64 n, .bool t, .int .u64 (aH y), .int .u64 (aL y), .int .i64 m] 33)) (.slice (some ⟨w.heap.size, 0, none⟩) 2 2) [(s, x, n), (t, y, m)] := by
  refine .inr ⟨w.heap.size, 0, 2, rfl, by simp, fun k hk => ?_⟩
  match k, hk with
  | 0, _ => exact ⟨by simp, by simp, by simp, by simp⟩
  | 1, _ => exact ⟨by simp, by simp, by simp, by simp⟩
set_option maxHeartbeats 4000000 in
set_option maxRecDepth 100000 in
theorem cw_unif (six : Bool) (x k F : Nat) (vl vm : Value) (l m l1 l2 : List PT) (n1 : l1.length ≤ 1000000) (n2 : l2.length ≤ 1000000) (U1 : Hid (∀ (W : World) (v : Value), RowP W v l1 → Calls Tryd.prog 45 #[.agg #[.bool six, .int .u64 (aH x), .int .u64 (aL x), .int .i64 ((wideN six - k : Nat) : Int)], v] W fun e w' => e = .returned (.bool true) ∧ Below W.heap.size W w')) (U2 : Hid (∀ (W : World) (v : Value), RowP W v l2 → Calls Tryd.prog 45 #[.agg #[.bool six, .int .u64 (aH x), .int .u64 (aL x), .int .i64 ((wideN six - k : Nat) : Int)], v] W fun e w' => e = .returned (.bool true) ∧ Below W.heap.size W w')) (CF : Hid (∀ (args : Array Value) (W : World), Sem.run Tryd.prog (callFunc F args) W = .ok (.enter F args) W)) (r : Bool) (KF : Hid (∀ W : World, Calls Tryd.prog F #[.bool (decide (0 < l1.length)), .bool (decide (0 < l2.length))] W fun e w' => e = .returned (.bool r) ∧ Below W.heap.size W w')) (R : List PT) (hR : Hid (R = if r then [(six, x, ((wideN six - k : Nat) : Int))] else [])) (w : World) (hrl : RowP w vl l) (hrm : RowP w vm m)
    (W1 : Hid (∀ W : World, RowP W vl l → Calls Tryd.prog 44 #[.agg #[.bool six, .int .u64 (aH x), .int .u64 (aL x), .int .i64 ((wideN six - k : Nat) : Int)], vl] W (PresOut l1 W)))
    (W2 : Hid (∀ W : World, RowP W vm m → Calls Tryd.prog 44 #[.agg #[.bool six, .int .u64 (aH x), .int .u64 (aL x), .int .i64 ((wideN six - k : Nat) : Int)], vm] W (PresOut l2 W))) :
    Calls Tryd.prog 30 #[.agg #[.bool six, .int .u64 (aH x), .int .u64 (aL x), .int .i64 ((wideN six - k : Nat) : Int)], vl, vm, .func (.func F) #[] #[]] w (PresOut R w) := by
  have b0 : Below w.heap.size w (w.alloc (.cells #[.bool six, .int .u64 (aH x), .int .u64 (aL x), .int .i64 ((wideN six - k : Nat) : Int)] 33)) := (Below.refl _ w).alloc (Nat.le_refl _) _
  have GP := PreAt.new w six (aH x) (aL x) ((wideN six - k : Nat) : Int) 33
  have RL := Lib.hid (hrl.keep b0)
  have RM := Lib.hid (hrm.keep b0)
  clear hrl hrm
  go_enter Tryd.func30, Tryd.ntmps30
  go_wp2_with fail
  revert b0 GP RL RM
  generalize w.alloc (.cells #[.bool six, .int .u64 (aH x), .int .u64 (aL x), .int .i64 ((wideN six - k : Nat) : Int)] 33) = W
  intro b0 GP RL RM
  have FP := Lib.hid GP
  have hWs := b0.size
  obtain ⟨p0, p1, p2, p3, _⟩ := GP
  go_region_held3 (fun w' => w'.cell? ⟨w.heap.size, 0, none⟩ = some (.bool six) ∧ w'.cell? ⟨w.heap.size, 1, none⟩ = some (.int .u64 (aH x)) ∧ w'.cell? ⟨w.heap.size, 2, none⟩ = some (.int .u64 (aL x)) ∧ w'.cell? ⟨w.heap.size, 3, none⟩ = some (.int .i64 ((wideN six - k : Nat) : Int)))
    (first
      | (simp [go_sem, p0, p1, p2, p3]; done)
      | (simp [go_sem, xp0, xp1, xp2, xp3]; done)
      | (simp [go_sem, yp0, yp1, yp2, yp3]; done)
      | fail)
    (first
      | (go_at_call 44; with_reducible refine (W1.out _ (RL.out.keep (Below.refl _ _).drew)).mono ?_; rintro e wa ⟨va, rfl, oa, ba⟩; obtain ⟨xp0, xp1, xp2, xp3, _⟩ := preCells (FP.out.via (Below.refl _ _).drew ba))
      | (go_at_call 44; with_reducible refine (W2.out _ ((RM.out.keep (Below.refl _ _).drew).keep ba)).mono ?_; rintro e wb ⟨vb, rfl, ob, bb⟩; obtain ⟨yp0, yp1, yp2, yp3, ypl⟩ := preCells ((FP.out.via (Below.refl _ _).drew ba).keep bb); have oa2 := ownsKeep oa bb)
      | fail)
  have FB := Lib.hid ((FP.out.via (Below.refl _ _).drew ba).keep bb)
  have b1 := thenBelow (thenBelow b0.drew ba) bb
  have RA := Lib.hid (RowP.owned oa2)
  have RB := Lib.hid (RowP.owned ob)
  clear FP RL RM b0 ba bb oa oa2 ob W1 W2 p0 p1 p2 p3 xp0 xp1 xp2 xp3
  go_wp2_with fail
  refine (U1.out _ _ RA.out).mono ?_
  rintro e w3 ⟨rfl, hb3⟩
  have b3 := thenBelow b1 hb3
  have RA := Lib.hid (RA.out.keep hb3)
  have RB := Lib.hid (RB.out.keep hb3)
  have FB := Lib.hid (FB.out.keep hb3)
  clear yp0 yp1 yp2 yp3 ypl hb3 b1
  obtain ⟨yp0, yp1, yp2, yp3, ypl⟩ := preCells FB.out
  go_wp2_with fail
  refine (U2.out _ _ RB.out).mono ?_
  rintro e w4 ⟨rfl, hb4⟩
  have b4 := thenBelow b3 hb4
  have RA := Lib.hid (RA.out.keep hb4)
  have RB := Lib.hid (RB.out.keep hb4)
  have FB := Lib.hid (FB.out.keep hb4)
  clear yp0 yp1 yp2 yp3 ypl hb4 b3
  obtain ⟨yp0, yp1, yp2, yp3, ypl⟩ := preCells FB.out
  have FA := RA.out.form
  have FBB := RB.out.form
  obtain ⟨pa, ca, rfl⟩ := FA
  obtain ⟨pb, cb, rfl⟩ := FBB
  go_wp2_with fail
  rw [CF.out, Oper.upon_enter]
  refine (KF.out _).mono ?_
  rintro e w5 ⟨rfl, hb5⟩
  have b5 := thenBelow b4 hb5
  have FB := Lib.hid (FB.out.keep hb5)
  clear yp0 yp1 yp2 yp3 ypl hb5 b4
  obtain ⟨yp0, yp1, yp2, yp3, ypl⟩ := preCells FB.out
  cases r
  · go_wp2
    go_returns
    exact ⟨_, rfl, by rw [hR.out]; exact owned_nil _ _, b5⟩
  · go_wp2
    go_returns
    exact ⟨_, rfl, by rw [hR.out]; exact owned_one _ _ b5.size _ _ _, b5.alloc b5.size _⟩
end Go.Proofs.YtifhakoeinalaaaDoor
/-
  cidr.combineWithin, the ways over the halves.
-/
namespace Go.Proofs.YtifhakoeinalaaaDoor
open Go.RowKit
set_option linter.unusedVariables false
set_option linter.unusedSimpArgs false

set_option maxHeartbeats 4000000 in
set_option maxRecDepth 100000 in
theorem cw_split1 (six : Bool) (x k F : Nat) (vl vm : Value) (l m l1 l2 : List PT) (hA : AL six x (k + 1)) (c1 c2 : List PT) (hlen : c1.length + c2.length ≤ 1000000000)
    (K1 : Hid (∀ (W : World) (va vb : Value), RowP W va l1 → RowP W vb l2 → Calls Tryd.prog 30 #[.agg #[.bool six, .int .u64 (aH x), .int .u64 (aL x), .int .i64 ((wideN six - k : Nat) : Int)], va, vb, .func (.func F) #[] #[]] W (PresOut c1 W)))
    (K2 : Hid (∀ (W : World) (va vb : Value), RowP W va l1 → RowP W vb l2 → Calls Tryd.prog 30 #[.agg #[.bool six, .int .u64 (aH (x + 2 ^ k)), .int .u64 (aL (x + 2 ^ k)), .int .i64 ((wideN six - k : Nat) : Int)], va, vb, .func (.func F) #[] #[]] W (PresOut c2 W)))
    (e : Bool) (hE : Hid (decide (c1 ++ c2 = [(six, x, ((wideN six - k : Nat) : Int)), (six, x + 2 ^ k, ((wideN six - k : Nat) : Int))]) = e)) (R : List PT) (hR : Hid (R = if e then [(six, x, ((wideN six - (k + 1) : Nat) : Int))] else c1 ++ c2)) (U1 : Hid (∀ (W : World) (v : Value), RowP W v l1 → Calls Tryd.prog 45 #[.agg #[.bool six, .int .u64 (aH x), .int .u64 (aL x), .int .i64 ((wideN six - (k + 1) : Nat) : Int)], v] W fun e w' => e = .returned (.bool false) ∧ Below W.heap.size W w')) (w : World) (hrl : RowP w vl l) (hrm : RowP w vm m)
    (W1 : Hid (∀ W : World, RowP W vl l → Calls Tryd.prog 44 #[.agg #[.bool six, .int .u64 (aH x), .int .u64 (aL x), .int .i64 ((wideN six - (k + 1) : Nat) : Int)], vl] W (PresOut l1 W)))
    (W2 : Hid (∀ W : World, RowP W vm m → Calls Tryd.prog 44 #[.agg #[.bool six, .int .u64 (aH x), .int .u64 (aL x), .int .i64 ((wideN six - (k + 1) : Nat) : Int)], vm] W (PresOut l2 W))) :
    Calls Tryd.prog 30 #[.agg #[.bool six, .int .u64 (aH x), .int .u64 (aL x), .int .i64 ((wideN six - (k + 1) : Nat) : Int)], vl, vm, .func (.func F) #[] #[]] w (PresOut R w) := by
  have HH := Lib.hid (halves_al hA)
  obtain ⟨i0, hii, hz0, hz1, hz2⟩ := info_parts info_pre
  have b0 : Below w.heap.size w (w.alloc (.cells #[.bool six, .int .u64 (aH x), .int .u64 (aL x), .int .i64 ((wideN six - (k + 1) : Nat) : Int)] 33)) := (Below.refl _ w).alloc (Nat.le_refl _) _
  have GP := PreAt.new w six (aH x) (aL x) ((wideN six - (k + 1) : Nat) : Int) 33
  have RL := Lib.hid (hrl.keep b0)
  have RM := Lib.hid (hrm.keep b0)
  clear hrl hrm
  go_enter Tryd.func30, Tryd.ntmps30
  go_wp2_with fail
  revert b0 GP RL RM
  generalize w.alloc (.cells #[.bool six, .int .u64 (aH x), .int .u64 (aL x), .int .i64 ((wideN six - (k + 1) : Nat) : Int)] 33) = W
  intro b0 GP RL RM
  have FP := Lib.hid GP
  have hWs := b0.size
  obtain ⟨p0, p1, p2, p3, _⟩ := GP
  go_region_held3 (fun w' => w'.cell? ⟨w.heap.size, 0, none⟩ = some (.bool six) ∧ w'.cell? ⟨w.heap.size, 1, none⟩ = some (.int .u64 (aH x)) ∧ w'.cell? ⟨w.heap.size, 2, none⟩ = some (.int .u64 (aL x)) ∧ w'.cell? ⟨w.heap.size, 3, none⟩ = some (.int .i64 ((wideN six - (k + 1) : Nat) : Int)))
    (first
      | (simp [go_sem, p0, p1, p2, p3]; done)
      | (simp [go_sem, xp0, xp1, xp2, xp3]; done)
      | (simp [go_sem, yp0, yp1, yp2, yp3]; done)
      | fail)
    (first
      | (go_at_call 44; with_reducible refine (W1.out _ (RL.out.keep (Below.refl _ _).drew)).mono ?_; rintro e wa ⟨va, rfl, oa, ba⟩; obtain ⟨xp0, xp1, xp2, xp3, _⟩ := preCells (FP.out.via (Below.refl _ _).drew ba))
      | (go_at_call 44; with_reducible refine (W2.out _ ((RM.out.keep (Below.refl _ _).drew).keep ba)).mono ?_; rintro e wb ⟨vb, rfl, ob, bb⟩; obtain ⟨yp0, yp1, yp2, yp3, ypl⟩ := preCells ((FP.out.via (Below.refl _ _).drew ba).keep bb); have oa2 := ownsKeep oa bb)
      | fail)
  have FB := Lib.hid ((FP.out.via (Below.refl _ _).drew ba).keep bb)
  have b1 := thenBelow (thenBelow b0.drew ba) bb
  have RA := Lib.hid (RowP.owned oa2)
  have RB := Lib.hid (RowP.owned ob)
  clear FP RL RM b0 ba bb oa oa2 ob W1 W2 p0 p1 p2 p3 xp0 xp1 xp2 xp3
  go_wp2_with fail
  refine (U1.out _ _ RA.out).mono ?_
  rintro e w3 ⟨rfl, hb3⟩
  have b3 := thenBelow b1 hb3
  have RA := Lib.hid (RA.out.keep hb3)
  have RB := Lib.hid (RB.out.keep hb3)
  have FB := Lib.hid (FB.out.keep hb3)
  clear yp0 yp1 yp2 yp3 ypl hb3 b1
  obtain ⟨yp0, yp1, yp2, yp3, ypl⟩ := preCells FB.out
  go_wp2_with fail
  refine (HH.out _).mono ?_
  rintro e1 w5 ⟨rfl, hb5⟩
  have b5 := thenBelow b3 hb5
  have RA := Lib.hid (RA.out.keep hb5)
  have RB := Lib.hid (RB.out.keep hb5)
  have FB := Lib.hid (FB.out.keep hb5)
  clear yp0 yp1 yp2 yp3 ypl hb5 b3 HH
  go_wp2_with fail
  have bLU : Below w5.heap.size w5 ((w5.alloc (.cells #[.bool six, .int .u64 (aH x), .int .u64 (aL x), .int .i64 ((wideN six - k : Nat) : Int)] 33)).alloc (.cells #[.bool six, .int .u64 (aH (x + 2 ^ k)), .int .u64 (aL (x + 2 ^ k)), .int .i64 ((wideN six - k : Nat) : Int)] 33)) := ((Below.refl _ w5).alloc (Nat.le_refl _) _).alloc (by simp) _
  have GL := (PreAt.new w5 six (aH x) (aL x) ((wideN six - k : Nat) : Int) 33).alloc (.cells #[.bool six, .int .u64 (aH (x + 2 ^ k)), .int .u64 (aL (x + 2 ^ k)), .int .i64 ((wideN six - k : Nat) : Int)] 33)
  have GU := PreAt.new (w5.alloc (.cells #[.bool six, .int .u64 (aH x), .int .u64 (aL x), .int .i64 ((wideN six - k : Nat) : Int)] 33)) six (aH (x + 2 ^ k)) (aL (x + 2 ^ k)) ((wideN six - k : Nat) : Int) 33
  have GP := FB.out.keep bLU
  have RA := Lib.hid (RA.out.keep bLU)
  have RB := Lib.hid (RB.out.keep bLU)
  have GB := thenBelow b5 bLU
  rw [World.size_alloc] at GU
  clear FB b5 bLU
  revert GL GU GP RA RB GB
  generalize ((w5.alloc (.cells #[.bool six, .int .u64 (aH x), .int .u64 (aL x), .int .i64 ((wideN six - k : Nat) : Int)] 33)).alloc (.cells #[.bool six, .int .u64 (aH (x + 2 ^ k)), .int .u64 (aL (x + 2 ^ k)), .int .i64 ((wideN six - k : Nat) : Int)] 33)) = W9
  intro GL GU GP RA RB GB
  have FL := Lib.hid GL
  have FU := Lib.hid GU
  have FB := Lib.hid GP
  have hWs9 := GB.size
  have hWd : w.heap.size ≤ W9.drew.heap.size := hWs9
  have hby : (c1.length + c2.length) * 32 ≤ 140737488355328 := by omega
  have h63 : c1.length + c2.length ≤ maxLen := by unfold maxLen; omega
  obtain ⟨l0, l1', l2', l3, _⟩ := GL
  obtain ⟨u0, u1, u2, u3, _⟩ := GU
  clear GP
  go_region_held3 (fun w' => w'.cell? ⟨w5.heap.size, 0, none⟩ = some (.bool six) ∧ w'.cell? ⟨w5.heap.size, 1, none⟩ = some (.int .u64 (aH x)) ∧ w'.cell? ⟨w5.heap.size, 2, none⟩ = some (.int .u64 (aL x)) ∧ w'.cell? ⟨w5.heap.size, 3, none⟩ = some (.int .i64 ((wideN six - k : Nat) : Int)) ∧ w'.cell? ⟨w5.heap.size + 1, 0, none⟩ = some (.bool six) ∧ w'.cell? ⟨w5.heap.size + 1, 1, none⟩ = some (.int .u64 (aH (x + 2 ^ k))) ∧ w'.cell? ⟨w5.heap.size + 1, 2, none⟩ = some (.int .u64 (aL (x + 2 ^ k))) ∧ w'.cell? ⟨w5.heap.size + 1, 3, none⟩ = some (.int .i64 ((wideN six - k : Nat) : Int)))
    (first
      | (simp [go_sem, l0, l1', l2', l3, u0, u1, u2, u3]; done)
      | (simp [go_sem, xl0, xl1, xl2, xl3, xu0, xu1, xu2, xu3]; done)
      | (simp [go_sem, yl0, yl1, yl2, yl3, yu0, yu1, yu2, yu3]; done)
      | (simp [go_sem, zl0, zl1, zl2, zl3, zu0, zu1, zu2, zu3]; done)
      | fail)
    (first
      | (go_at_call 30; with_reducible refine (K1.out _ _ _ (RA.out.keep (Below.refl _ _).drew) (RB.out.keep (Below.refl _ _).drew)).mono ?_; rintro e2 wc ⟨vc, rfl, oc, bc⟩; obtain ⟨xl0, xl1, xl2, xl3, _⟩ := preCells (FL.out.via (Below.refl _ _).drew bc); obtain ⟨xu0, xu1, xu2, xu3, _⟩ := preCells (FU.out.via (Below.refl _ _).drew bc))
      | (go_at_call 30; with_reducible refine (K2.out _ _ _ ((RA.out.keep (Below.refl _ _).drew).keep bc) ((RB.out.keep (Below.refl _ _).drew).keep bc)).mono ?_; rintro e2 wd ⟨vd, rfl, od, bd⟩; obtain ⟨yl0, yl1, yl2, yl3, _⟩ := preCells ((FL.out.via (Below.refl _ _).drew bc).keep bd); obtain ⟨yu0, yu1, yu2, yu3, _⟩ := preCells ((FU.out.via (Below.refl _ _).drew bc).keep bd); have oc2 := ownsKeep oc bd)
      | (refine step_append_two (by rfl) _ _ _ (by rfl) W9.drew.heap.size 33 i0 _ 4 32 Tryd.underlying28 hii hz0 hz1 hz2 rfl (by decide) _ _ _ (by rfl) oc2 _ _ _ _ (by rfl) od (pRow_one _) hby h63 (Nat.le_trans bc.size bd.size) ?_; intro ve we he0 be; have b6 := (thenBelow bc bd).trans be; obtain ⟨zl0, zl1, zl2, zl3, zll⟩ := preCells (FL.out.via (Below.refl _ _).drew b6); obtain ⟨zu0, zu1, zu2, zu3, zul⟩ := preCells (FU.out.via (Below.refl _ _).drew b6))
      | fail)
  have FE := Lib.hid (FB.out.via (Below.refl _ _).drew b6)
  have B6 := thenBelow GB.drew b6
  have OE : Hid (Owned we w.heap.size ve (c1 ++ c2)) := Lib.hid (by
    unfold Owned
    rw [List.length_append, pRow_app]
    exact ownsLow he0 hWd)
  clear FL FU FB RA RB GB oc oc2 od bc bd be b6 he0 l0 l1' l2' l3 u0 u1 u2 u3 xl0 xl1 xl2 xl3 xu0 xu1 xu2 xu3 yl0 yl1 yl2 yl3 yu0 yu1 yu2 yu3 K1 K2
  go_wp2_with fail
  have EQ := equal_calls (c1 ++ c2) [(six, x, ((wideN six - k : Nat) : Int)), (six, x + 2 ^ k, ((wideN six - k : Nat) : Int))] (by rw [List.length_append]; exact hlen) (by simp) e hE.out ve (.slice (some ⟨we.heap.size, 0, none⟩) 2 2) _ ((RowP.owned OE.out).keep ((Below.refl _ _).alloc (Nat.le_refl _) _)) (row_two we six x ((wideN six - k : Nat) : Int) six (x + 2 ^ k) ((wideN six - k : Nat) : Int))
  refine EQ.mono ?_
  rintro e3 w7 ⟨rfl, hb7⟩
  have bT := thenBelow ((Below.refl _ we).alloc (Nat.le_refl _) _) hb7
  have B7 := thenBelow B6 bT
  obtain ⟨p0, p1, p2, p3, _⟩ := preCells (FE.out.keep bT)
  have OE := Lib.hid (ownsKeep OE.out bT)
  clear zl0 zl1 zl2 zl3 zll zu0 zu1 zu2 zu3 zul hb7 EQ bT B6 FE
  cases e
  · go_wp2
    go_returns
    exact ⟨_, rfl, by rw [hR.out]; exact OE.out, B7⟩
  · go_wp2
    go_returns
    exact ⟨_, rfl, by rw [hR.out]; exact owned_one _ _ B7.size _ _ _, B7.alloc B7.size _⟩
set_option maxHeartbeats 4000000 in
set_option maxRecDepth 100000 in
theorem cw_split2 (six : Bool) (x k F : Nat) (vl vm : Value) (l m l1 l2 : List PT) (hA : AL six x (k + 1)) (c1 c2 : List PT) (hlen : c1.length + c2.length ≤ 1000000000)
    (K1 : Hid (∀ (W : World) (va vb : Value), RowP W va l1 → RowP W vb l2 → Calls Tryd.prog 30 #[.agg #[.bool six, .int .u64 (aH x), .int .u64 (aL x), .int .i64 ((wideN six - k : Nat) : Int)], va, vb, .func (.func F) #[] #[]] W (PresOut c1 W)))
    (K2 : Hid (∀ (W : World) (va vb : Value), RowP W va l1 → RowP W vb l2 → Calls Tryd.prog 30 #[.agg #[.bool six, .int .u64 (aH (x + 2 ^ k)), .int .u64 (aL (x + 2 ^ k)), .int .i64 ((wideN six - k : Nat) : Int)], va, vb, .func (.func F) #[] #[]] W (PresOut c2 W)))
    (e : Bool) (hE : Hid (decide (c1 ++ c2 = [(six, x, ((wideN six - k : Nat) : Int)), (six, x + 2 ^ k, ((wideN six - k : Nat) : Int))]) = e)) (R : List PT) (hR : Hid (R = if e then [(six, x, ((wideN six - (k + 1) : Nat) : Int))] else c1 ++ c2)) (U1 : Hid (∀ (W : World) (v : Value), RowP W v l1 → Calls Tryd.prog 45 #[.agg #[.bool six, .int .u64 (aH x), .int .u64 (aL x), .int .i64 ((wideN six - (k + 1) : Nat) : Int)], v] W fun e w' => e = .returned (.bool true) ∧ Below W.heap.size W w')) (U2 : Hid (∀ (W : World) (v : Value), RowP W v l2 → Calls Tryd.prog 45 #[.agg #[.bool six, .int .u64 (aH x), .int .u64 (aL x), .int .i64 ((wideN six - (k + 1) : Nat) : Int)], v] W fun e w' => e = .returned (.bool false) ∧ Below W.heap.size W w')) (w : World) (hrl : RowP w vl l) (hrm : RowP w vm m)
    (W1 : Hid (∀ W : World, RowP W vl l → Calls Tryd.prog 44 #[.agg #[.bool six, .int .u64 (aH x), .int .u64 (aL x), .int .i64 ((wideN six - (k + 1) : Nat) : Int)], vl] W (PresOut l1 W)))
    (W2 : Hid (∀ W : World, RowP W vm m → Calls Tryd.prog 44 #[.agg #[.bool six, .int .u64 (aH x), .int .u64 (aL x), .int .i64 ((wideN six - (k + 1) : Nat) : Int)], vm] W (PresOut l2 W))) :
    Calls Tryd.prog 30 #[.agg #[.bool six, .int .u64 (aH x), .int .u64 (aL x), .int .i64 ((wideN six - (k + 1) : Nat) : Int)], vl, vm, .func (.func F) #[] #[]] w (PresOut R w) := by
  have HH := Lib.hid (halves_al hA)
  obtain ⟨i0, hii, hz0, hz1, hz2⟩ := info_parts info_pre
  have b0 : Below w.heap.size w (w.alloc (.cells #[.bool six, .int .u64 (aH x), .int .u64 (aL x), .int .i64 ((wideN six - (k + 1) : Nat) : Int)] 33)) := (Below.refl _ w).alloc (Nat.le_refl _) _
  have GP := PreAt.new w six (aH x) (aL x) ((wideN six - (k + 1) : Nat) : Int) 33
  have RL := Lib.hid (hrl.keep b0)
  have RM := Lib.hid (hrm.keep b0)
  clear hrl hrm
  go_enter Tryd.func30, Tryd.ntmps30
  go_wp2_with fail
  revert b0 GP RL RM
  generalize w.alloc (.cells #[.bool six, .int .u64 (aH x), .int .u64 (aL x), .int .i64 ((wideN six - (k + 1) : Nat) : Int)] 33) = W
  intro b0 GP RL RM
  have FP := Lib.hid GP
  have hWs := b0.size
  obtain ⟨p0, p1, p2, p3, _⟩ := GP
  go_region_held3 (fun w' => w'.cell? ⟨w.heap.size, 0, none⟩ = some (.bool six) ∧ w'.cell? ⟨w.heap.size, 1, none⟩ = some (.int .u64 (aH x)) ∧ w'.cell? ⟨w.heap.size, 2, none⟩ = some (.int .u64 (aL x)) ∧ w'.cell? ⟨w.heap.size, 3, none⟩ = some (.int .i64 ((wideN six - (k + 1) : Nat) : Int)))
    (first
      | (simp [go_sem, p0, p1, p2, p3]; done)
      | (simp [go_sem, xp0, xp1, xp2, xp3]; done)
      | (simp [go_sem, yp0, yp1, yp2, yp3]; done)
      | fail)
    (first
      | (go_at_call 44; with_reducible refine (W1.out _ (RL.out.keep (Below.refl _ _).drew)).mono ?_; rintro e wa ⟨va, rfl, oa, ba⟩; obtain ⟨xp0, xp1, xp2, xp3, _⟩ := preCells (FP.out.via (Below.refl _ _).drew ba))
      | (go_at_call 44; with_reducible refine (W2.out _ ((RM.out.keep (Below.refl _ _).drew).keep ba)).mono ?_; rintro e wb ⟨vb, rfl, ob, bb⟩; obtain ⟨yp0, yp1, yp2, yp3, ypl⟩ := preCells ((FP.out.via (Below.refl _ _).drew ba).keep bb); have oa2 := ownsKeep oa bb)
      | fail)
  have FB := Lib.hid ((FP.out.via (Below.refl _ _).drew ba).keep bb)
  have b1 := thenBelow (thenBelow b0.drew ba) bb
  have RA := Lib.hid (RowP.owned oa2)
  have RB := Lib.hid (RowP.owned ob)
  clear FP RL RM b0 ba bb oa oa2 ob W1 W2 p0 p1 p2 p3 xp0 xp1 xp2 xp3
  go_wp2_with fail
  refine (U1.out _ _ RA.out).mono ?_
  rintro e w3 ⟨rfl, hb3⟩
  have b3 := thenBelow b1 hb3
  have RA := Lib.hid (RA.out.keep hb3)
  have RB := Lib.hid (RB.out.keep hb3)
  have FB := Lib.hid (FB.out.keep hb3)
  clear yp0 yp1 yp2 yp3 ypl hb3 b1
  obtain ⟨yp0, yp1, yp2, yp3, ypl⟩ := preCells FB.out
  go_wp2_with fail
  refine (U2.out _ _ RB.out).mono ?_
  rintro e w4 ⟨rfl, hb4⟩
  have b4 := thenBelow b3 hb4
  have RA := Lib.hid (RA.out.keep hb4)
  have RB := Lib.hid (RB.out.keep hb4)
  have FB := Lib.hid (FB.out.keep hb4)
  clear yp0 yp1 yp2 yp3 ypl hb4 b3
  obtain ⟨yp0, yp1, yp2, yp3, ypl⟩ := preCells FB.out
  go_wp2_with fail
  refine (HH.out _).mono ?_
  rintro e1 w5 ⟨rfl, hb5⟩
  have b5 := thenBelow b4 hb5
  have RA := Lib.hid (RA.out.keep hb5)
  have RB := Lib.hid (RB.out.keep hb5)
  have FB := Lib.hid (FB.out.keep hb5)
  clear yp0 yp1 yp2 yp3 ypl hb5 b4 HH
  go_wp2_with fail
  have bLU : Below w5.heap.size w5 ((w5.alloc (.cells #[.bool six, .int .u64 (aH x), .int .u64 (aL x), .int .i64 ((wideN six - k : Nat) : Int)] 33)).alloc (.cells #[.bool six, .int .u64 (aH (x + 2 ^ k)), .int .u64 (aL (x + 2 ^ k)), .int .i64 ((wideN six - k : Nat) : Int)] 33)) := ((Below.refl _ w5).alloc (Nat.le_refl _) _).alloc (by simp) _
  have GL := (PreAt.new w5 six (aH x) (aL x) ((wideN six - k : Nat) : Int) 33).alloc (.cells #[.bool six, .int .u64 (aH (x + 2 ^ k)), .int .u64 (aL (x + 2 ^ k)), .int .i64 ((wideN six - k : Nat) : Int)] 33)
  have GU := PreAt.new (w5.alloc (.cells #[.bool six, .int .u64 (aH x), .int .u64 (aL x), .int .i64 ((wideN six - k : Nat) : Int)] 33)) six (aH (x + 2 ^ k)) (aL (x + 2 ^ k)) ((wideN six - k : Nat) : Int) 33
  have GP := FB.out.keep bLU
  have RA := Lib.hid (RA.out.keep bLU)
  have RB := Lib.hid (RB.out.keep bLU)
  have GB := thenBelow b5 bLU
  rw [World.size_alloc] at GU
  clear FB b5 bLU
  revert GL GU GP RA RB GB
  generalize ((w5.alloc (.cells #[.bool six, .int .u64 (aH x), .int .u64 (aL x), .int .i64 ((wideN six - k : Nat) : Int)] 33)).alloc (.cells #[.bool six, .int .u64 (aH (x + 2 ^ k)), .int .u64 (aL (x + 2 ^ k)), .int .i64 ((wideN six - k : Nat) : Int)] 33)) = W9
  intro GL GU GP RA RB GB
  have FL := Lib.hid GL
  have FU := Lib.hid GU
  have FB := Lib.hid GP
  have hWs9 := GB.size
  have hWd : w.heap.size ≤ W9.drew.heap.size := hWs9
  have hby : (c1.length + c2.length) * 32 ≤ 140737488355328 := by omega
  have h63 : c1.length + c2.length ≤ maxLen := by unfold maxLen; omega
  obtain ⟨l0, l1', l2', l3, _⟩ := GL
  obtain ⟨u0, u1, u2, u3, _⟩ := GU
  clear GP
  go_region_held3 (fun w' => w'.cell? ⟨w5.heap.size, 0, none⟩ = some (.bool six) ∧ w'.cell? ⟨w5.heap.size, 1, none⟩ = some (.int .u64 (aH x)) ∧ w'.cell? ⟨w5.heap.size, 2, none⟩ = some (.int .u64 (aL x)) ∧ w'.cell? ⟨w5.heap.size, 3, none⟩ = some (.int .i64 ((wideN six - k : Nat) : Int)) ∧ w'.cell? ⟨w5.heap.size + 1, 0, none⟩ = some (.bool six) ∧ w'.cell? ⟨w5.heap.size + 1, 1, none⟩ = some (.int .u64 (aH (x + 2 ^ k))) ∧ w'.cell? ⟨w5.heap.size + 1, 2, none⟩ = some (.int .u64 (aL (x + 2 ^ k))) ∧ w'.cell? ⟨w5.heap.size + 1, 3, none⟩ = some (.int .i64 ((wideN six - k : Nat) : Int)))
    (first
      | (simp [go_sem, l0, l1', l2', l3, u0, u1, u2, u3]; done)
      | (simp [go_sem, xl0, xl1, xl2, xl3, xu0, xu1, xu2, xu3]; done)
      | (simp [go_sem, yl0, yl1, yl2, yl3, yu0, yu1, yu2, yu3]; done)
      | (simp [go_sem, zl0, zl1, zl2, zl3, zu0, zu1, zu2, zu3]; done)
      | fail)
    (first
      | (go_at_call 30; with_reducible refine (K1.out _ _ _ (RA.out.keep (Below.refl _ _).drew) (RB.out.keep (Below.refl _ _).drew)).mono ?_; rintro e2 wc ⟨vc, rfl, oc, bc⟩; obtain ⟨xl0, xl1, xl2, xl3, _⟩ := preCells (FL.out.via (Below.refl _ _).drew bc); obtain ⟨xu0, xu1, xu2, xu3, _⟩ := preCells (FU.out.via (Below.refl _ _).drew bc))
      | (go_at_call 30; with_reducible refine (K2.out _ _ _ ((RA.out.keep (Below.refl _ _).drew).keep bc) ((RB.out.keep (Below.refl _ _).drew).keep bc)).mono ?_; rintro e2 wd ⟨vd, rfl, od, bd⟩; obtain ⟨yl0, yl1, yl2, yl3, _⟩ := preCells ((FL.out.via (Below.refl _ _).drew bc).keep bd); obtain ⟨yu0, yu1, yu2, yu3, _⟩ := preCells ((FU.out.via (Below.refl _ _).drew bc).keep bd); have oc2 := ownsKeep oc bd)
      | (refine step_append_two (by rfl) _ _ _ (by rfl) W9.drew.heap.size 33 i0 _ 4 32 Tryd.underlying28 hii hz0 hz1 hz2 rfl (by decide) _ _ _ (by rfl) oc2 _ _ _ _ (by rfl) od (pRow_one _) hby h63 (Nat.le_trans bc.size bd.size) ?_; intro ve we he0 be; have b6 := (thenBelow bc bd).trans be; obtain ⟨zl0, zl1, zl2, zl3, zll⟩ := preCells (FL.out.via (Below.refl _ _).drew b6); obtain ⟨zu0, zu1, zu2, zu3, zul⟩ := preCells (FU.out.via (Below.refl _ _).drew b6))
      | fail)
  have FE := Lib.hid (FB.out.via (Below.refl _ _).drew b6)
  have B6 := thenBelow GB.drew b6
  have OE : Hid (Owned we w.heap.size ve (c1 ++ c2)) := Lib.hid (by
    unfold Owned
    rw [List.length_append, pRow_app]
    exact ownsLow he0 hWd)
  clear FL FU FB RA RB GB oc oc2 od bc bd be b6 he0 l0 l1' l2' l3 u0 u1 u2 u3 xl0 xl1 xl2 xl3 xu0 xu1 xu2 xu3 yl0 yl1 yl2 yl3 yu0 yu1 yu2 yu3 K1 K2
  go_wp2_with fail
  have EQ := equal_calls (c1 ++ c2) [(six, x, ((wideN six - k : Nat) : Int)), (six, x + 2 ^ k, ((wideN six - k : Nat) : Int))] (by rw [List.length_append]; exact hlen) (by simp) e hE.out ve (.slice (some ⟨we.heap.size, 0, none⟩) 2 2) _ ((RowP.owned OE.out).keep ((Below.refl _ _).alloc (Nat.le_refl _) _)) (row_two we six x ((wideN six - k : Nat) : Int) six (x + 2 ^ k) ((wideN six - k : Nat) : Int))
  refine EQ.mono ?_
  rintro e3 w7 ⟨rfl, hb7⟩
  have bT := thenBelow ((Below.refl _ we).alloc (Nat.le_refl _) _) hb7
  have B7 := thenBelow B6 bT
  obtain ⟨p0, p1, p2, p3, _⟩ := preCells (FE.out.keep bT)
  have OE := Lib.hid (ownsKeep OE.out bT)
  clear zl0 zl1 zl2 zl3 zll zu0 zu1 zu2 zu3 zul hb7 EQ bT B6 FE
  cases e
  · go_wp2
    go_returns
    exact ⟨_, rfl, by rw [hR.out]; exact OE.out, B7⟩
  · go_wp2
    go_returns
    exact ⟨_, rfl, by rw [hR.out]; exact owned_one _ _ B7.size _ _ _, B7.alloc B7.size _⟩
end Go.Proofs.YtifhakoeinalaaaDoor
/-
  cidr.combineWithin, whole.
-/
namespace Go.Proofs.YtifhakoeinalaaaDoor
open Go.RowKit
set_option linter.unusedVariables false
set_option linter.unusedSimpArgs false

/-- What is asked of a function value 'chosen'. -/
def Chooses (F : Nat) (c : Bool → Bool → Bool) : Prop :=
  (∀ (args : Array Value) (W : World), Sem.run Tryd.prog (callFunc F args) W = .ok (.enter F args) W) ∧
  ∀ (a b : Bool) (W : World), Calls Tryd.prog F #[.bool a, .bool b] W fun e w' => e = .returned (.bool (c a b)) ∧ Below W.heap.size W w'
section
variable {six : Bool} {F : Nat} {c : Bool → Bool → Bool} (hc : Chooses F c)
include hc
theorem cw_u {k x : Nat} {ls ms : BL} (hA : AL six x k) (hl : AllAL six ls) (hm : AllAL six ms) (n1 : ls.length ≤ 80) (n2 : ms.length ≤ 80) (u1 : unif x k (wth x k ls) = true) (u2 : unif x k (wth x k ms) = true) (w : World) (vl vm : Value) (hrl : RowP w vl (ls.map (bl six))) (hrm : RowP w vm (ms.map (bl six))) :
    Calls Tryd.prog 30 #[.agg #[.bool six, .int .u64 (aH x), .int .u64 (aL x), .int .i64 ((wideN six - k : Nat) : Int)], vl, vm, .func (.func F) #[] #[]] w (PresOut (cn six (chS c ls ms) k x) w) := by
  have m1 := wth_len x k ls
  have m2 := wth_len x k ms
  refine cw_unif six x k F vl vm _ _ ((wth x k ls).map (bl six)) ((wth x k ms).map (bl six)) (by rw [List.length_map]; omega) (by rw [List.length_map]; omega)
    (Lib.hid fun W v h => uniform_calls six x k hA.1 _ (wth_al hA hl) (by omega) true u1 v W h) (Lib.hid fun W v h => uniform_calls six x k hA.1 _ (wth_al hA hm) (by omega) true u2 v W h)
    (Lib.hid hc.1) _ (Lib.hid fun W => hc.2 _ _ W) _ (Lib.hid ?_) w hrl hrm (Lib.hid fun W h => within_calls six x k hA ls hl (by omega) vl W h) (Lib.hid fun W h => within_calls six x k hA ms hm (by omega) vm W h)
  rw [cn_unif hA hl hm u1 u2, List.length_map, List.length_map]
theorem cw_calls : ∀ (k x : Nat) (ls ms : BL), AL six x k → AllAL six ls → AllAL six ms → ls.length ≤ 80 → ms.length ≤ 80 → ∀ (w : World) (vl vm : Value), RowP w vl (ls.map (bl six)) → RowP w vm (ms.map (bl six)) →
    Calls Tryd.prog 30 #[.agg #[.bool six, .int .u64 (aH x), .int .u64 (aL x), .int .i64 ((wideN six - k : Nat) : Int)], vl, vm, .func (.func F) #[] #[]] w (PresOut (cn six (chS c ls ms) k x) w)
  | 0, x, ls, ms, hA, hl, hm, n1, n2, w, vl, vm, hrl, hrm => by
    have u : ∀ l : BL, unif x 0 (wth x 0 l) = true := fun l => by
      cases h : unif x 0 (wth x 0 l) with
      | true => rfl
      | false => obtain ⟨j, hj⟩ := nonunif_pos h; omega
    exact cw_u hc hA hl hm n1 n2 (u ls) (u ms) w vl vm hrl hrm
  | k + 1, x, ls, ms, hA, hl, hm, n1, n2, w, vl, vm, hrl, hrm => by
    have m1 := wth_len x (k + 1) ls
    have m2 := wth_len x (k + 1) ms
    have hlen : (cn six (chS c ls ms) k x).length + (cn six (chS c ls ms) k (x + 2 ^ k)).length ≤ 1000000000 := by
      have := cn_len' hl hm (c := c) hA.low
      have := cn_len' hl hm (c := c) hA.high
      omega
    have e1 : cn six (chS c (wth x (k + 1) ls) (wth x (k + 1) ms)) k x = cn six (chS c ls ms) k x := cn_wth hA hl hm (fun a h => inB_low h)
    have e2 : cn six (chS c (wth x (k + 1) ls) (wth x (k + 1) ms)) k (x + 2 ^ k) = cn six (chS c ls ms) k (x + 2 ^ k) := cn_wth hA hl hm (fun a h => inB_high h)
    have K1 : Hid (∀ (W : World) (va vb : Value), RowP W va ((wth x (k + 1) ls).map (bl six)) → RowP W vb ((wth x (k + 1) ms).map (bl six)) → Calls Tryd.prog 30 #[.agg #[.bool six, .int .u64 (aH x), .int .u64 (aL x), .int .i64 ((wideN six - k : Nat) : Int)], va, vb, .func (.func F) #[] #[]] W (PresOut (cn six (chS c ls ms) k x) W)) :=
      Lib.hid fun W va vb h1 h2 => by rw [← e1]; exact cw_calls k x _ _ hA.low (wth_al hA hl) (wth_al hA hm) (by omega) (by omega) W va vb h1 h2
    have K2 : Hid (∀ (W : World) (va vb : Value), RowP W va ((wth x (k + 1) ls).map (bl six)) → RowP W vb ((wth x (k + 1) ms).map (bl six)) → Calls Tryd.prog 30 #[.agg #[.bool six, .int .u64 (aH (x + 2 ^ k)), .int .u64 (aL (x + 2 ^ k)), .int .i64 ((wideN six - k : Nat) : Int)], va, vb, .func (.func F) #[] #[]] W (PresOut (cn six (chS c ls ms) k (x + 2 ^ k)) W)) :=
      Lib.hid fun W va vb h1 h2 => by rw [← e2]; exact cw_calls k (x + 2 ^ k) _ _ hA.high (wth_al hA hl) (wth_al hA hm) (by omega) (by omega) W va vb h1 h2
    have W1 : Hid (∀ W : World, RowP W vl (ls.map (bl six)) → Calls Tryd.prog 44 #[.agg #[.bool six, .int .u64 (aH x), .int .u64 (aL x), .int .i64 ((wideN six - (k + 1) : Nat) : Int)], vl] W (PresOut ((wth x (k + 1) ls).map (bl six)) W)) := Lib.hid fun W h => within_calls six x (k + 1) hA ls hl (by omega) vl W h
    have W2 : Hid (∀ W : World, RowP W vm (ms.map (bl six)) → Calls Tryd.prog 44 #[.agg #[.bool six, .int .u64 (aH x), .int .u64 (aL x), .int .i64 ((wideN six - (k + 1) : Nat) : Int)], vm] W (PresOut ((wth x (k + 1) ms).map (bl six)) W)) := Lib.hid fun W h => within_calls six x (k + 1) hA ms hm (by omega) vm W h
    have hj : cn six (chS c ls ms) (k + 1) x = if decide (cn six (chS c ls ms) k x ++ cn six (chS c ls ms) k (x + 2 ^ k) = [(six, x, ((wideN six - k : Nat) : Int)), (six, x + 2 ^ k, ((wideN six - k : Nat) : Int))]) then [(six, x, ((wideN six - (k + 1) : Nat) : Int))] else cn six (chS c ls ms) k x ++ cn six (chS c ls ms) k (x + 2 ^ k) := by
      rw [cn_join hA]; simp only [decide_eq_true_eq]
    cases u1 : unif x (k + 1) (wth x (k + 1) ls) with
    | false => exact cw_split1 six x k F vl vm _ _ _ _ hA _ _ hlen K1 K2 _ (Lib.hid rfl) _ (Lib.hid hj) (Lib.hid fun W v h => uniform_calls six x (k + 1) hA.1 _ (wth_al hA hl) (by omega) false u1 v W h) w hrl hrm W1 W2
    | true =>
      cases u2 : unif x (k + 1) (wth x (k + 1) ms) with
      | true => exact cw_u hc hA hl hm n1 n2 u1 u2 w vl vm hrl hrm
      | false => exact cw_split2 six x k F vl vm _ _ _ _ hA _ _ hlen K1 K2 _ (Lib.hid rfl) _ (Lib.hid hj) (Lib.hid fun W v h => uniform_calls six x (k + 1) hA.1 _ (wth_al hA hl) (by omega) true u1 v W h) (Lib.hid fun W v h => uniform_calls six x (k + 1) hA.1 _ (wth_al hA hm) (by omega) false u2 v W h) w hrl hrm W1 W2
end
end Go.Proofs.YtifhakoeinalaaaDoor
/-
  cidr.check.
-/
namespace Go.Proofs.YtifhakoeinalaaaDoor
open Go.RowKit
set_option linter.unusedVariables false
set_option linter.unusedSimpArgs false

def chkP (p : PT) : Int := chkE p.1 p.2.1 p.2.2
/-- The first error of a list of prefixes. -/
def ferr : List PT → Int
  | [] => 0
  | p :: t => if chkP p = 0 then ferr t else chkP p
/-- The error of two lists. -/
def listsE (l m : List PT) : Int := if 80 < l.length ∨ 80 < m.length then 1 else if ferr l = 0 then ferr m else ferr l
def Words (l : List PT) : Prop := ∀ p ∈ l, p.2.1 < 2 ^ 128
theorem ferr_drop_ok {l : List PT} {i : Nat} (hi : i < l.length) (h : chkP l[i] = 0) : ferr (l.drop i) = ferr (l.drop (i + 1)) := by
  rw [List.drop_eq_getElem_cons hi]; simp [ferr, h]
theorem ferr_drop_bad {l : List PT} {i : Nat} (hi : i < l.length) (h : ¬ chkP l[i] = 0) : ferr (l.drop i) = chkP l[i] := by
  rw [List.drop_eq_getElem_cons hi]; simp [ferr, h]
theorem RowP.at {w : World} {v : Value} {l : List PT} (h : RowP w v l) : ∃ p c, v = .slice p l.length c ∧ ∀ k (hk : k < l.length), ∃ g o, p = some ⟨g, o, none⟩ ∧ g < w.heap.size ∧ PCell w g (o + k * 4) l[k] := by
  rcases h with ⟨rfl, p, c, e⟩ | ⟨g, o, c, e, hg, hc⟩
  · exact ⟨p, c, e, fun k hk => by simp at hk⟩
  · exact ⟨_, c, e, fun k hk => ⟨g, o, rfl, hg, hc k hk⟩⟩
theorem cidrCheck_big (l m : List PT) (vl vm : Value) (hn : l.length ≤ 9223372036854775807) (hm : m.length ≤ 9223372036854775807) (h : 80 < l.length ∨ 80 < m.length) (b : Nat) (w : World) (rl : RowP w vl l) (rm : RowP w vm m) (h0 : w.cell? ⟨b, 0, none⟩ = some vl) (h1 : w.cell? ⟨b, 1, none⟩ = some vm) :
    Calls Tryd.prog 28 #[.slice (some ⟨b, 0, none⟩) 2 2] w fun e w' => e = .returned (.int .i64 1) ∧ Below w.heap.size w w' := by
  obtain ⟨p1, c1, rfl, _⟩ := rl.at
  obtain ⟨p2, c2, rfl, _⟩ := rm.at
  by_cases hl : 80 < l.length
  · have hl' : (80 : Int) < (l.length : Int) := by omega
    go_enter Tryd.func28, Tryd.ntmps28
    go_wp2
    go_rounds 1
    go_ret
    exact ⟨rfl, Below.refl _ _⟩
  · have hl' : ¬ (80 : Int) < (l.length : Int) := by omega
    have hm' : (80 : Int) < (m.length : Int) := by omega
    go_enter Tryd.func28, Tryd.ntmps28
    go_wp2
    go_rounds 2
    go_ret
    exact ⟨rfl, Below.refl _ _⟩
set_option maxHeartbeats 4000000 in
set_option maxRecDepth 100000 in
theorem cidrCheck_small (l m : List PT) (vl vm : Value) (hn : l.length ≤ 80) (hm : m.length ≤ 80) (wl : Words l) (wm : Words m) (E : Int) (hE : (if ferr l = 0 then ferr m else ferr l) = E) (b : Nat) (w : World) (hb : b < w.heap.size) (rl : RowP w vl l) (rm : RowP w vm m) (h0 : w.cell? ⟨b, 0, none⟩ = some vl) (h1 : w.cell? ⟨b, 1, none⟩ = some vm) :
    Calls Tryd.prog 28 #[.slice (some ⟨b, 0, none⟩) 2 2] w fun e w' => e = .returned (.int .i64 E) ∧ Below w.heap.size w w' := by
  obtain ⟨p1, c1, rfl, q1⟩ := rl.at
  obtain ⟨p2, c2, rfl, q2⟩ := rm.at
  have hl' : ¬ (80 : Int) < (l.length : Int) := by omega
  have hm' : ¬ (80 : Int) < (m.length : Int) := by omega
  have LE := Lib.hid hE
  have WL := Lib.hid wl
  have WM := Lib.hid wm
  have Q1 := Lib.hid q1
  have Q2 := Lib.hid q2
  clear hE wl wm q1 q2 rl rm
  go_enter Tryd.func28, Tryd.ntmps28
  go_wp2
  go_rounds 3
  go_wp2
  go_loopw [22] (fun i wr => ∃ j : Nat, j ≤ 2 ∧ i = .int .i64 j ∧ Below w.heap.size w wr ∧ Hid (1 ≤ j → ferr l = 0) ∧ Hid (2 ≤ j → ferr m = 0)) (fun i _ => 2 - (intOf i).toNat)
  case atStart => exact ⟨0, by omega, rfl, Below.refl _ _, Lib.hid (fun h => by omega), Lib.hid (fun h => by omega)⟩
  case round =>
    obtain ⟨j, hj, rfl, hnx, i1, i2⟩ := hrel
    by_cases hlt : j < 2
    · have pick : ∃ (L : List PT) (p : Option Addr) (c : Nat), wr.cell? ⟨b, j, none⟩ = some (.slice p L.length c) ∧ L.length ≤ 80 ∧ Words L ∧ (∀ k (hk : k < L.length), ∃ g o, p = some ⟨g, o, none⟩ ∧ g < w.heap.size ∧ PCell w g (o + k * 4) L[k]) ∧ (ferr L ≠ 0 → E = ferr L) ∧ (ferr L = 0 → (1 ≤ j + 1 → ferr l = 0) ∧ (2 ≤ j + 1 → ferr m = 0)) := by
        have e := LE.out
        match j, hlt with
        | 0, _ => exact ⟨l, p1, c1, (hnx.cell (p := ⟨b, 0, none⟩) hb).trans h0, hn, WL.out, Q1.out, fun h => by rw [if_neg h] at e; exact e.symm, fun h => ⟨fun _ => h, fun h => by omega⟩⟩
        | 1, _ =>
          have z := i1.out (by omega)
          exact ⟨m, p2, c2, (hnx.cell (p := ⟨b, 1, none⟩) hb).trans h1, hm, WM.out, Q2.out, fun h => by rw [if_pos z] at e; exact e.symm, fun h => ⟨fun _ => z, fun _ => h⟩⟩
      obtain ⟨L, p, c, hcell, hL, hW, hC, hbad, hok⟩ := pick
      have HW := Lib.hid hW
      have HC := Lib.hid hC
      have HBAD := Lib.hid hbad
      have HOK := Lib.hid hok
      clear hW hC hbad hok i1 i2
      have hj2 : (j : Int) < 2 := by omega
      have hj3 : decide ((j : Int) < 2) = true := decide_eq_true hj2
      go_wp2
      go_loopw [28] (fun i wq => ∃ k : Nat, k ≤ L.length ∧ i = .int .i64 k ∧ Below w.heap.size w wq ∧ Hid (ferr L = ferr (L.drop k))) (fun i _ => L.length - (intOf i).toNat)
      case atStart => exact ⟨0, by omega, rfl, hnx, Lib.hid rfl⟩
      case round =>
        obtain ⟨k, hk, rfl, hny, hf⟩ := hrel
        by_cases hkl : k < L.length
        · obtain ⟨g, o, rfl, hg, hP⟩ := HC.out k hkl
          obtain ⟨x0, x1, x2, x3⟩ := hP.keep hg hny
          have hw := HW.out _ (List.getElem_mem hkl)
          have T1 := Lib.hid (fun h => ferr_drop_ok hkl h)
          have T2 := Lib.hid (fun h => ferr_drop_bad hkl h)
          generalize L[k] = q at x0 x1 x2 x3 hw T1 T2
          obtain ⟨s, x, n⟩ := q
          simp only at x0 x1 x2 x3 hw
          have CK := Lib.hid (fun W : World => check_calls s x n hw W)
          have hgs := Nat.lt_of_lt_of_le hg hny.size
          go_wp2_with fail
          refine (CK.out _).mono ?_
          rintro e w2 ⟨rfl, hb2⟩
          have b2 := thenBelow (thenBelow hny ((Below.refl _ _).alloc (Nat.le_refl _) _)) hb2
          clear x0 x1 x2 x3 hb2
          by_cases hz : chkP (s, x, n) = 0
          · have T1' := T1.out hz
            have hz' : chkE s x n = 0 := hz
            clear T1 T2 hz
            rw [hz']
            go_wp2
            go_roundw
            case rel => exact ⟨k + 1, by omega, by go_num, b2, Lib.hid (hf.out.trans T1')⟩
            case measure => simp [intOf]; omega
          · have T2' := T2.out hz
            have hz' : ¬ chkE s x n = 0 := hz
            have hz1 : (chkE s x n == 0) = false := by simpa using hz'
            have hz2 : (chkE s x n != 0) = true := by simp [bne, hz1]
            obtain rfl : E = chkE s x n := by
              have := hf.out.trans T2'
              rw [HBAD.out (by rw [this]; exact hz), this]
              rfl
            clear T1 T2 hz
            go_wp2
            go_ret
            exact ⟨rfl, b2⟩
        · obtain rfl : k = L.length := by omega
          have z : ferr L = 0 := by rw [hf.out, List.drop_length]; rfl
          obtain ⟨z1, z2⟩ := HOK.out z
          go_wp2
          go_roundw
          case rel => exact ⟨j + 1, by omega, by go_num, hny, Lib.hid z1, Lib.hid z2⟩
          case measure => simp [intOf]; omega
    · obtain rfl : j = 2 := by omega
      obtain rfl : E = 0 := by
        have e := LE.out
        rw [if_pos (i1.out (by omega)), i2.out (by omega)] at e
        exact e.symm
      go_wp2
      go_ret
      exact ⟨rfl, hnx⟩
theorem cidrCheck (l m : List PT) (vl vm : Value) (hn : l.length ≤ 9223372036854775807) (hm : m.length ≤ 9223372036854775807) (wl : Words l) (wm : Words m) (b : Nat) (w : World) (hb : b < w.heap.size) (rl : RowP w vl l) (rm : RowP w vm m) (h0 : w.cell? ⟨b, 0, none⟩ = some vl) (h1 : w.cell? ⟨b, 1, none⟩ = some vm) :
    Calls Tryd.prog 28 #[.slice (some ⟨b, 0, none⟩) 2 2] w fun e w' => e = .returned (.int .i64 (listsE l m)) ∧ Below w.heap.size w w' := by
  unfold listsE
  by_cases h : 80 < l.length ∨ 80 < m.length
  · rw [if_pos h]; exact cidrCheck_big l m vl vm hn hm h b w rl rm h0 h1
  · rw [if_neg h]; exact cidrCheck_small l m vl vm (by omega) (by omega) wl wm _ rfl b w hb rl rm h0 h1
end Go.Proofs.YtifhakoeinalaaaDoor
