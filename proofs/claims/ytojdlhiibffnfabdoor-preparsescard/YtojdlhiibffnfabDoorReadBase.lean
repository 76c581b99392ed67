/-
  strconv.ParseUint to base 10 at 8 bits and to base 16 at 16 bits; what lies in memory for it.
-/
import Derived.Test.YtojdlhiibffnfabDoorPu10
import Derived.Test.YtojdlhiibffnfabDoorPu16
import Derived.Test.YtojdlhiibffnfabDoorShelfB
import Derived.Test.YtojdlhiibffnfabDoorTextBase
namespace Go.Proofs.YtojdlhiibffnfabDoor
open Go.RowKit Go.Sort
set_option linter.unusedVariables false
set_option linter.unusedSimpArgs false

/-- A cell that holds an error. -/
def ErrAt (w : World) (g : Nat) : Prop := ∃ ev, w.cell? ⟨g, 0, none⟩ = some ev ∧ (ev = .nilIface ∨ ∃ te pe, ev = .iface te pe)
theorem cell_lt {w : World} {p : Addr} {v : Value} (h : w.cell? p = some v) : p.block < w.heap.size := by
  by_cases hl : p.block < w.heap.size
  · exact hl
  · unfold World.cell? at h
    simp [Array.getElem?_eq_none (Nat.le_of_not_lt hl)] at h
theorem ErrAt.keep {w w' : World} {g : Nat} (h : ErrAt w g) (hb : Below w.heap.size w w') : ErrAt w' g := by
  obtain ⟨ev, h1, h2⟩ := h
  exact ⟨ev, (hb.cell (p := ⟨g, 0, none⟩) (cell_lt h1)).trans h1, h2⟩
/-- What the readers read of memory. -/
def RTabs (w : World) : Prop := Tabs w ∧ (∃ m : Int, w.cell? ⟨0, 0, none⟩ = some (.int .i64 m)) ∧ ErrAt w 1 ∧ ErrAt w 2
theorem RTabs.keep {w w' : World} (h : RTabs w) (hb : Below w.heap.size w w') : RTabs w' := by
  obtain ⟨h1, ⟨m, hm⟩, h3, h4⟩ := h
  exact ⟨h1.keep hb, ⟨m, (hb.cell (p := ⟨0, 0, none⟩) (cell_lt hm)).trans hm⟩, h3.keep hb, h4.keep hb⟩
theorem RTabs.alloc {w : World} (h : RTabs w) (o : Obj) : RTabs (w.alloc o) := h.keep ((Below.refl _ _).alloc (Nat.le_refl _) o)

def puE (B M : Nat) (bs : List UInt8) : Option Nat := if bs = [] then none else pu B M 0 bs
/-- The two ways in which numbers are read. -/
def Way (B Z M : Nat) : Prop := (B = 10 ∧ Z = 8 ∧ M = 255) ∨ (B = 16 ∧ Z = 16 ∧ M = 65535)

set_option maxHeartbeats 400000 in
set_option maxRecDepth 100000 in
theorem puEmpty_calls (B Z : Int) (t : ByteArray) (ht : t = ⟨#[]⟩) (w : World) :
    Calls Tryd.prog 67 #[.string t, .int .i64 B, .int .i64 Z] w fun e w' => e = .returned (.tuple #[.int .u64 0, .iface 86 (.int .i64 2)]) ∧ w' = w := by
  subst ht
  go_enter Tryd.func67, Tryd.ntmps67
  go_wp2
  go_ret2
  exact ⟨rfl, rfl⟩

theorem puIn_calls (B Z M : Nat) (h : Way B Z M) (t : ByteArray) (bs : List UInt8) (hbs : t.data.toList = bs) (hmax : bs.length ≤ 1000) (w : World) :
    Calls Tryd.prog 67 #[.string t, .int .i64 B, .int .i64 Z] w fun e w' => PuIs (puE B M bs) e ∧ Below w.heap.size w w' := by
  by_cases hne : bs = []
  · have ht : t = ⟨#[]⟩ := by
      apply ByteArray.ext
      have : t.data.toList = [] := by rw [hbs, hne]
      simpa using this
    refine (puEmpty_calls B Z t ht w).mono ?_
    rintro e w' ⟨rfl, rfl⟩
    rw [puE, if_pos hne]
    exact ⟨⟨_, _, rfl, .inr rfl⟩, Below.refl _ _⟩
  · rw [puE, if_neg hne]
    rcases h with ⟨rfl, rfl, rfl⟩ | ⟨rfl, rfl, rfl⟩
    · refine (pu10_calls t bs hbs hne (by omega) w).mono ?_
      rintro e w' ⟨he, rfl⟩
      exact ⟨he, Lib.bytesWorld_below _ _ _⟩
    · refine (pu16_calls t bs hbs hne (by omega) w).mono ?_
      rintro e w' ⟨he, rfl⟩
      exact ⟨he, Lib.bytesWorld_below _ _ _⟩

/-- What strconv.ParseUint answers. -/
def PuOut (r : Option Nat) (e : Ending) : Prop := match r with
  | some u => e = .returned (.tuple #[.int .u64 (u : Int), .nilIface])
  | none => ∃ (m : Int) (t : TypeId) (v : Value), e = .returned (.tuple #[.int .u64 m, .iface t v])

set_option maxHeartbeats 400000 in
theorem parseUint_calls (B Z M : Nat) (h : Way B Z M) (t : ByteArray) (bs : List UInt8) (hbs : t.data.toList = bs) (hmax : bs.length ≤ 1000) (w : World) (hr : RTabs w) :
    Calls Tryd.prog 50 #[.string t, .int .i64 B, .int .i64 Z] w fun e w' => PuOut (puE B M bs) e ∧ Below w.heap.size w w' := by
  have hts : t.size ≤ 281474976710656 := by rw [Lib.size_eq, hbs]; omega
  have C := Lib.hid (puIn_calls B Z M h t bs hbs hmax)
  obtain ⟨R, hR⟩ : ∃ R, puE B M bs = R := ⟨_, rfl⟩
  rw [hR] at C ⊢
  have HR := Lib.hid hr
  have HTS := Lib.hid hts
  clear hR hr hbs hmax h hts
  go_enter Tryd.func50, Tryd.ntmps50
  go_wp2_with fail
  refine (C.out _).mono ?_
  rintro e w1 ⟨he, hb⟩
  have R1 := HR.out.keep hb
  clear C HR
  cases R with
  | some u =>
    obtain rfl : e = _ := he
    go_wp2
    go_ret2
    exact ⟨rfl, hb⟩
  | none =>
    obtain ⟨m, k, rfl, hk⟩ := he
    obtain ⟨_, _, ⟨ev, e1, e2⟩, ⟨ew, e3, e4⟩⟩ := R1
    rcases hk with rfl | rfl
    · have C2 := Lib.hid (fun W h => Tryd.strconv_toError_range ⟨#[80, 97, 114, 115, 101, 85, 105, 110, 116]⟩ t B Z ew W HTS.out h e4)
      clear e1 e2
      go_wp2_with (go_at_call 44; refine (C2.out _ e3).mono ?_; rintro e w2 ⟨N, rfl, _, _, hb2⟩)
      go_ret2
      exact ⟨⟨_, _, _, rfl⟩, thenBelow hb hb2⟩
    · have C2 := Lib.hid (fun W h => Tryd.strconv_toError_syntax ⟨#[80, 97, 114, 115, 101, 85, 105, 110, 116]⟩ t B Z ev W HTS.out h e2)
      clear e3 e4
      go_wp2_with (go_at_call 44; refine (C2.out _ e1).mono ?_; rintro e w2 ⟨N, rfl, _, _, hb2⟩)
      go_ret2
      exact ⟨⟨_, _, _, rfl⟩, thenBelow hb hb2⟩
end Go.Proofs.YtojdlhiibffnfabDoor
