/-
  The document's AddrParse: the function value 'try' at four numbers of 8 bits and at eight of 16.
-/
import Derived.Test.YtojdlhiibffnfabDoorRefTry
namespace Go.Proofs.YtojdlhiibffnfabDoor
open Go.RowKit Go.Sort
set_option linter.unusedVariables false
set_option linter.unusedSimpArgs false

theorem fl_01 (wide : Nat) (l : List Int) : ∀ b ∈ fl wide l, b = 0 ∨ b = 1 := by
  intro b hb
  unfold fl at hb
  obtain ⟨n, _, h⟩ := List.mem_flatMap.1 hb
  exact bitsTo_01 _ _ _ b h
def tryW (six : Bool) : Nat := if six then 16 else 8
def tryN (six : Bool) : Nat := if six then 8 else 4
def tryH (six : Bool) (l : List Int) : Nat := if six then (spell ((fl 16 l).take 64)).toNat else 0
def tryL (six : Bool) (l : List Int) : Nat := if six then (spell ((fl 16 l).drop 64)).toNat else (spell (fl 8 l)).toNat
theorem try_bd (six : Bool) (l : List Int) (hl : l.length = tryN six) : tryH six l < 18446744073709551616 ∧ tryL six l < 18446744073709551616 ∧ (six = false → tryH six l = 0 ∧ tryL six l < 4294967296) := by
  cases six
  · have hl' : l.length = 4 := hl
    have h := spell_bd (fl 8 l) (fl_01 8 l)
    rw [fl_length, hl'] at h
    obtain ⟨a, b⟩ := h
    have b' : spell (fl 8 l) + 1 ≤ 4294967296 := b
    simp only [tryH, tryL, Bool.false_eq_true, if_false]
    refine ⟨by omega, by omega, fun _ => ⟨trivial, by omega⟩⟩
  · have hl' : l.length = 8 := hl
    have hf : (fl 16 l).length = 128 := by rw [fl_length, hl']
    have h := spell_bd ((fl 16 l).take 64) (fun b hb => fl_01 16 l b (List.mem_of_mem_take hb))
    have k := spell_bd ((fl 16 l).drop 64) (fun b hb => fl_01 16 l b (List.mem_of_mem_drop hb))
    rw [List.length_take, hf] at h
    rw [List.length_drop, hf] at k
    obtain ⟨a, b⟩ := h
    obtain ⟨c, d⟩ := k
    have b' : spell ((fl 16 l).take 64) + 1 ≤ 18446744073709551616 := b
    have d' : spell ((fl 16 l).drop 64) + 1 ≤ 18446744073709551616 := d
    simp only [tryH, tryL, if_true]
    refine ⟨by omega, by omega, fun h => by cases h⟩
theorem try_of (six : Bool) (l : List Int) (hl : l.length = tryN six) (g cap : Nat) (W : World) (hg : g < W.heap.size) (hc : ∀ j u, (fl (tryW six) l)[j]? = some u → W.cell? ⟨g, j, none⟩ = some (.int .i64 u)) :
    Calls Tryd.prog 12 #[.slice (some ⟨g, 0, none⟩) (l.length * tryW six) cap] W fun e w' => e = .returned (.agg #[.bool six, .int .u64 (tryH six l : Int), .int .u64 (tryL six l : Int)]) ∧ Below W.heap.size W w' := by
  cases six
  · have hl' : l.length = 4 := hl
    have hf : (fl 8 l).length = 32 := by rw [fl_length, hl']
    have h := (spell_bd (fl 8 l) (fl_01 8 l)).1
    have c := addrOf_four (fl 8 l) hf (fl_01 8 l) g cap W hg hc
    have e2 : ((tryL false l : Nat) : Int) = spell (fl 8 l) := by
      show (((spell (fl 8 l)).toNat : Nat) : Int) = _
      omega
    rw [e2, hl']
    exact c
  · have hl' : l.length = 8 := hl
    have hf : (fl 16 l).length = 128 := by rw [fl_length, hl']
    have h := (spell_bd ((fl 16 l).take 64) (fun b hb => fl_01 16 l b (List.mem_of_mem_take hb))).1
    have k := (spell_bd ((fl 16 l).drop 64) (fun b hb => fl_01 16 l b (List.mem_of_mem_drop hb))).1
    have c := addrOf_six (fl 16 l) hf (fl_01 16 l) g cap W hg hc
    have e1 : ((tryH true l : Nat) : Int) = spell ((fl 16 l).take 64) := by
      show (((spell ((fl 16 l).take 64)).toNat : Nat) : Int) = _
      omega
    have e2 : ((tryL true l : Nat) : Int) = spell ((fl 16 l).drop 64) := by
      show (((spell ((fl 16 l).drop 64)).toNat : Nat) : Int) = _
      omega
    rw [e1, e2, hl']
    exact c
/-- What 'try' answers. -/
def tryAns (six : Bool) (l : List Int) (s : List UInt8) : Value :=
  if textL six (tryH six l) (tryL six l) == s then .tuple #[.agg #[.bool six, .int .u64 (tryH six l : Int), .int .u64 (tryL six l : Int)], .int .i64 0]
  else .tuple #[.agg #[.bool false, .int .u64 0, .int .u64 0], .int .i64 4]
theorem try_calls (six : Bool) (l : List Int) (hl : l.length = tryN six) (hv : ∀ v ∈ l, 0 ≤ v ∧ v ≤ 65535) (s : List UInt8) (g cap b : Nat)
    (w : World) (hg : g < w.heap.size) (hb : b < w.heap.size) (hcs : ∀ j u, l[j]? = some u → w.cell? ⟨g, j, none⟩ = some (.int .i64 u)) (hs : w.cell? ⟨b, 0, none⟩ = some (.string ⟨s.toArray⟩)) :
    Calls Tryd.prog 11 #[.slice (some ⟨g, 0, none⟩) l.length cap, .int .i64 (tryW six : Int), .pointer (some ⟨b, 0, none⟩)] w fun e w' => e = .returned (tryAns six l s) ∧ Below w.heap.size w w' := by
  obtain ⟨b1, b2, _⟩ := try_bd six l hl
  have hw : 1 ≤ tryW six ∧ tryW six ≤ 16 := by cases six <;> decide
  have hn : 1 ≤ l.length ∧ l.length ≤ 8 := by rw [hl]; cases six <;> decide
  unfold tryAns
  by_cases h : textL six (tryH six l) (tryL six l) == s
  · rw [if_pos h]
    have e := eq_of_beq h
    subst e
    exact try_yes l (tryW six) g cap b six (tryH six l) (tryL six l) _ (textL six (tryH six l) (tryL six l)) (textE six (tryH six l) (tryL six l)) hw hn.2 hn.1 hv (Lib.hid (try_of six l hl)) (Lib.hid (refText_calls six _ _ b1 b2)) w hg hb hcs hs
  · rw [if_neg h]
    exact try_no l (tryW six) g cap b six (tryH six l) (tryL six l) s _ (textE six (tryH six l) (tryL six l)) (by simpa using h) hw hn.2 hn.1 hv (Lib.hid (try_of six l hl)) (Lib.hid (refText_calls six _ _ b1 b2)) w hg hb hcs hs

end Go.Proofs.YtojdlhiibffnfabDoor
