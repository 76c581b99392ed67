/-
  What the texts of addresses rest on: the two tables of the library, kept; a row of strings that a call has made.
-/
import Derived.Test.YtojdlhiibffnfabDoorDec
import Derived.WalkSmall
namespace Go.Proofs.YtojdlhiibffnfabDoor
open Go.RowKit Go.Sort
set_option linter.unusedVariables false
set_option linter.unusedSimpArgs false

/-- The two tables that FormatUint reads. -/
def tab64 : List Int := [0, 1, 56, 2, 57, 49, 28, 3, 61, 58, 42, 50, 38, 29, 17, 4, 62, 47, 59, 36, 45, 43, 51, 22, 53, 39, 33, 30, 24, 18, 12, 5, 63, 55, 48, 27, 60, 41, 37, 16, 46, 35, 44, 21, 52, 32, 23, 11, 54, 26, 40, 15, 34, 20, 31, 10, 25, 14, 19, 9, 13, 8, 7, 6]
def Tabs (w : World) : Prop := Lib.TabIs Tryd.prog w "math/bits.deBruijn64tab" .u8 tab64 ∧ Lib.TabIs Tryd.prog w "internal/strconv.uint64pow10" .u64 Lib.pow10Tab ∧ 5 < w.heap.size ∧ 3 < w.heap.size
theorem pow10_at : Tryd.prog.globalNamed "internal/strconv.uint64pow10" = some 3 := by kernel_rfl
theorem Tabs.keep {w w' : World} (h : Tabs w) (hb : Below w.heap.size w w') : Tabs w' :=
  ⟨var?_below hb deBruijn_at h.2.2.1 h.1, var?_below hb pow10_at h.2.2.2 h.2.1, Nat.lt_of_lt_of_le h.2.2.1 hb.size, Nat.lt_of_lt_of_le h.2.2.2 hb.size⟩
theorem Tabs.alloc {w : World} (h : Tabs w) (o : Obj) : Tabs (w.alloc o) := h.keep ((Below.refl _ _).alloc (Nat.le_refl _) o)
theorem Tabs.at15 {w : World} (h : Tabs w) : w.cell? ⟨5, 15, none⟩ = some (.int .u8 4) := by
  rw [h.1.cell deBruijn_at 15 (by decide)]; rfl
theorem Tabs.setCell {w : World} (h : Tabs w) {p : Addr} (hp : 5 ≠ p.block) (hq : 3 ≠ p.block) (u : Value) : Tabs (w.setCell p u) := by
  have e : ∀ g, g ≠ p.block → (w.setCell p u).heap[g]? = w.heap[g]? := fun g hg => Below.heap_setCell w p u g hg
  have v : ∀ n g cs, Tryd.prog.globalNamed n = some g → g ≠ p.block → w.var? Tryd.prog n = some cs → (w.setCell p u).var? Tryd.prog n = some cs := fun n g cs hg hne hv => by
    unfold World.var? at hv ⊢
    simp only [hg, Option.bind_some] at hv ⊢
    rw [e g hne]; exact hv
  exact ⟨v _ _ _ deBruijn_at hp h.1, v _ _ _ pow10_at hq h.2.1, by simpa using h.2.2.1, by simpa using h.2.2.2⟩

/-- Block g holds these strings. -/
def StrRow (w : World) (g : Nat) (xs : List ByteArray) : Prop := (∀ (j : Nat) x, xs[j]? = some x → w.cell? ⟨g, 0 + j, none⟩ = some (.string x)) ∧ (∀ o, w.frozen? ⟨g, o, none⟩ = false) ∧ g < w.heap.size
theorem StrRow.keep {w w' : World} {g : Nat} {xs : List ByteArray} (h : StrRow w g xs) (hb : Below w.heap.size w w') : StrRow w' g xs :=
  ⟨fun j x hx => (hb.cell (p := ⟨g, 0 + j, none⟩) h.2.2).trans (h.1 j x hx), fun o => (hb.frozen (p := ⟨g, o, none⟩) h.2.2).trans (h.2.1 o), Nat.lt_of_lt_of_le h.2.2 hb.size⟩
theorem StrRow.set {w : World} {g k : Nat} {xs : List ByteArray} (h : StrRow w g xs) (hk : k < xs.length) (y : ByteArray) : StrRow (w.setCell ⟨g, k, none⟩ (.string y)) g (xs.set k y) := by
  refine ⟨fun j x hx => ?_, fun o => by simpa using h.2.1 o, by simpa using h.2.2⟩
  by_cases e : j = k
  · subst e
    rw [List.getElem?_set_self hk] at hx
    obtain rfl := Option.some.inj hx
    have h0 := h.1 j _ (List.getElem?_eq_getElem hk)
    rw [Nat.zero_add] at h0 ⊢
    exact World.cell?_setCell_same _ _ _ h0
  · rw [List.getElem?_set_ne (by omega)] at hx
    exact (World.cell?_setCell_other _ _ _ _ (by simp <;> omega)).trans (h.1 j x hx)
theorem StrRow.ex {w : World} {g k : Nat} {xs : List ByteArray} (h : StrRow w g xs) (hk : k < xs.length) : ∃ y, w.cell? ⟨g, k, none⟩ = some (.string y) :=
  ⟨xs[k], by have := h.1 k _ (List.getElem?_eq_getElem hk); rwa [Nat.zero_add] at this⟩
/-- The first k texts, then empty strings. -/
def mixTo (ts : List (List UInt8)) (k : Nat) : List ByteArray := (ts.take k).map (fun t => ⟨t.toArray⟩) ++ List.replicate (ts.length - k) ByteArray.empty
theorem mixTo_length (ts : List (List UInt8)) (k : Nat) (hk : k ≤ ts.length) : (mixTo ts k).length = ts.length := by simp [mixTo]; omega
theorem mixTo_succ (ts : List (List UInt8)) (k : Nat) (hk : k < ts.length) : (mixTo ts k).set k ⟨ts[k].toArray⟩ = mixTo ts (k + 1) := by
  unfold mixTo
  rw [List.set_append_right _ _ (by simp; omega), List.take_succ_eq_append_getElem hk]
  simp only [List.length_map, List.length_take, Nat.min_eq_left (Nat.le_of_lt hk), Nat.sub_self, List.map_append, List.map_cons, List.map_nil, List.append_assoc]
  rw [show ts.length - k = (ts.length - (k + 1)) + 1 from by omega, List.replicate_succ]
  rfl
theorem mixTo_full (ts : List (List UInt8)) : (mixTo ts ts.length).map (·.data.toList) = ts := by
  simp [mixTo, List.map_map, Function.comp_def]
theorem mixTo_zero (n : Nat) (ts : List (List UInt8)) (h : ts.length = n) : mixTo ts 0 = List.replicate n ByteArray.empty := by simp [mixTo, h]
end Go.Proofs.YtojdlhiibffnfabDoor
