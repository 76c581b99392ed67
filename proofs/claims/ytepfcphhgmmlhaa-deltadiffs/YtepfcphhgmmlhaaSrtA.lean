/-
  Sorting by a function that lays memory: what is asked of 'less' and 'swap', the worlds that a sort passes through; sort.insertionSort_func.
-/
import Derived.Test.YtepfcphhgmmlhaaG3
import Derived.Sort.WalkA
import Derived.Sort.LotA
namespace Go.Proofs.Ytepfcphhgmmlhaa
open Go.RowKit
open Go.Sort (swp insInner insOuter swp_size)
set_option linter.unusedVariables false
set_option linter.unusedSimpArgs false
abbrev ARow := Array RT
/-- The worlds of a sort: Q d W says that the row holds d; blocks of S are the row's, all else lies from N0 on or is not touched. -/
structure Sorter (g sf : Nat) (lb sb : Array Value) (lt : RT → RT → Bool) (n : Nat) (S : Nat → Prop) (N0 : Nat) (Q : ARow → World → Prop) : Prop where
  eg : ∀ args w, (callFunc g args).run Try.prog w = .ok (.enter g args) w
  less : ∀ d W (i j : Nat), Q d W → i < n → j < n → Calls Try.prog g (#[.int .i64 i, .int .i64 j] ++ lb) W fun e w' => e = .returned (.bool (lt d[i]! d[j]!)) ∧ Below W.heap.size W w'
  swap : ∀ d W (i j : Nat), Q d W → i < n → j < n → ∃ W', (callFunc sf (#[.int .i64 i, .int .i64 j] ++ sb)).run Try.prog W = .ok (.value (.tuple #[])) W' ∧ Q (swp d i j) W' ∧ But S W W'
  keep : ∀ d W W', Q d W → But (fun k => N0 ≤ k) W W' → Q d W'
  size : ∀ d W, Q d W → d.size = n ∧ N0 ≤ W.heap.size
  mine : ∀ k, S k → k < N0
/-- The argument of the sort's functions. -/
abbrev lsV (g sf : Nat) (lb sb : Array Value) : Value := .agg #[.func (.func g) #[] lb, .func (.func sf) #[] sb]
/-- In a function that began at w: the row holds d, the two functions lie in block b. -/
structure StW (g sf : Nat) (lb sb : Array Value) (S : Nat → Prop) (Q : ARow → World → Prop) (w : World) (b : Nat) (d : ARow) (W : World) : Prop where
  q : Q d W
  but : But S w W
  lt : b < W.heap.size
  c0 : W.cell? ⟨b, 0, none⟩ = some (.func (.func g) #[] lb)
  c1 : W.cell? ⟨b, 1, none⟩ = some (.func (.func sf) #[] sb)
section
variable {g sf : Nat} {lb sb : Array Value} {lt : RT → RT → Bool} {n : Nat} {S : Nat → Prop} {N0 : Nat} {Q : ARow → World → Prop}
theorem But.cellAt {w w' : World} (h : But S w w') {b : Nat} (hb : b < w.heap.size) (hn : ¬ S b) (o : Nat) {v : Value} (e : w.cell? ⟨b, o, none⟩ = some v) : w'.cell? ⟨b, o, none⟩ = some v :=
  (World.cell?_of_block (a := ⟨b, o, none⟩) (h.block b hb hn)).trans e
theorem But.below_new {w w' : World} (h : Below w.heap.size w w') (hN : N0 ≤ w.heap.size) : But (fun k => N0 ≤ k) w w' := But.of_below h
theorem Sorter.start (K : Sorter g sf lb sb lt n S N0 Q) {d : ARow} {w : World} (h : Q d w) (t : TypeId) : StW g sf lb sb S Q w w.heap.size d (w.alloc (.cells #[.func (.func g) #[] lb, .func (.func sf) #[] sb] t)) := by
  have b := (Below.refl w.heap.size w).alloc (Nat.le_refl _) (.cells #[.func (.func g) #[] lb, .func (.func sf) #[] sb] t)
  exact ⟨K.keep _ _ _ h (But.of_below b), But.of_below b, by simp, by simp, by simp⟩
theorem Sorter.below (K : Sorter g sf lb sb lt n S N0 Q) {w W W' : World} {b : Nat} {d : ARow} (h : StW g sf lb sb S Q w b d W) (hb : Below W.heap.size W W') : StW g sf lb sb S Q w b d W' :=
  ⟨K.keep _ _ _ h.q (But.of_below hb), h.but.trans (But.of_below (S := S) hb) (fun _ _ h => h), Nat.lt_of_lt_of_le h.lt hb.size, (hb.cell (p := ⟨b, 0, none⟩) h.lt).trans h.c0, (hb.cell (p := ⟨b, 1, none⟩) h.lt).trans h.c1⟩
/-- A callee's own world. -/
theorem Sorter.after (K : Sorter g sf lb sb lt n S N0 Q) {w W W' : World} {b : Nat} {d d' : ARow} (h : StW g sf lb sb S Q w b d W) (hN : N0 ≤ b) (hq : Q d' W') (hb : But S W W') : StW g sf lb sb S Q w b d' W' := by
  have hn : ¬ S b := fun e => by have := K.mine b e; omega
  exact ⟨hq, h.but.trans hb (fun _ _ h => h), Nat.lt_of_lt_of_le h.lt hb.size, hb.cellAt h.lt hn 0 h.c0, hb.cellAt h.lt hn 1 h.c1⟩
theorem StW.drewN (K : Sorter g sf lb sb lt n S N0 Q) {w W : World} {b : Nat} {d : ARow} (h : StW g sf lb sb S Q w b d W) (q : Nat) : StW g sf lb sb S Q w b d (W.drewN q) := K.below h (below_drewN (Below.refl _ _) q)
theorem Sorter.lessAt (K : Sorter g sf lb sb lt n S N0 Q) {w W : World} {b : Nat} {d : ARow} (h : StW g sf lb sb S Q w b d W) {i j : Nat} (hi : i < n) (hj : j < n) :
    Calls Try.prog g (#[.int .i64 i, .int .i64 j] ++ lb) W fun e w' => e = .returned (.bool (lt d[i]! d[j]!)) ∧ StW g sf lb sb S Q w b d w' :=
  (K.less _ _ _ _ h.q hi hj).mono fun e w' ⟨he, hb⟩ => ⟨he, K.below h hb⟩
theorem Sorter.swapAt (K : Sorter g sf lb sb lt n S N0 Q) {w W : World} {b : Nat} {d : ARow} (h : StW g sf lb sb S Q w b d W) (hN : N0 ≤ b) {i j : Nat} (hi : i < n) (hj : j < n) :
    ∃ W', (callFunc sf (#[.int .i64 i, .int .i64 j] ++ sb)).run Try.prog W = .ok (.value (.tuple #[])) W' ∧ StW g sf lb sb S Q w b (swp d i j) W' := by
  obtain ⟨W', e, q, bt⟩ := K.swap _ _ _ _ h.q hi hj
  exact ⟨W', e, K.after h hN q bt⟩
end
set_option maxHeartbeats 2000000 in
set_option maxRecDepth 100000 in
theorem insSort_calls {g sf : Nat} {lb sb : Array Value} {lt : RT → RT → Bool} {n : Nat} {S : Nat → Prop} {N0 : Nat} {Q : ARow → World → Prop} (K : Sorter g sf lb sb lt n S N0 Q) (a b : Nat) (d : ARow) (w : World)
    (hq : Q d w) (hab : a ≤ b) (hb : b ≤ n) (hsz : n ≤ 1000) :
    Calls Try.prog 101 #[lsV g sf lb sb, .int .i64 a, .int .i64 b] w fun e w' => e = .returned (.tuple #[]) ∧ Q (Sort.insertionSort lt d a b) w' ∧ But S w w' := by
  have hN := (K.size _ _ hq).2
  have T0 := Lib.hid (K.start hq 128)
  have HK := Lib.hid K
  have eg := K.eg
  clear K hq
  go_enter Try.func101, Try.ntmps101
  go_wp2
  go_loopw [6] (fun vi wr => ∃ (i : Nat) (dk : ARow), vi = .int .i64 i ∧ a < i ∧ i ≤ b + 1 ∧ Hid (StW g sf lb sb S Q w w.heap.size dk wr) ∧ Hid (insOuter lt a b i dk = insOuter lt a b (a + 1) d)) (fun vi _ => b + 1 - (intOf vi).toNat)
  case atStart => exact ⟨a + 1, d, by go_num, by omega, by omega, T0, Lib.hid rfl⟩
  case round =>
    obtain ⟨i, dk, rfl, hai, hib, TK, HO⟩ := hrel
    by_cases hlt : i < b
    · have hlt' : (i : Int) < (b : Int) := by omega
      go_wp2
      go_loopw [7] (fun vj wr2 => ∃ (j : Nat) (dj : ARow), vj = .int .i64 j ∧ a ≤ j ∧ j ≤ i ∧ Hid (StW g sf lb sb S Q w w.heap.size dj wr2) ∧ Hid (insInner lt a j dj = insInner lt a i dk)) (fun vj _ => (intOf vj).toNat)
      case atStart => exact ⟨i, dk, rfl, by omega, Nat.le_refl _, TK, Lib.hid rfl⟩
      case round =>
        obtain ⟨j, dj, rfl, haj, hji, TJ, HI⟩ := hrel
        have out : (j ≤ a ∨ lt dj[j]! dj[j - 1]! = false) → ∀ W, StW g sf lb sb S Q w w.heap.size dj W → ∃ i' dk', Value.int .i64 ((i : Int) + 1) = .int .i64 (i' : Nat) ∧ a < i' ∧ i' ≤ b + 1 ∧ Hid (StW g sf lb sb S Q w w.heap.size dk' W) ∧ Hid (insOuter lt a b i' dk' = insOuter lt a b (a + 1) d) := fun hs W TW =>
          ⟨i + 1, dj, by go_num, by omega, by omega, Lib.hid TW, Lib.hid (by rw [← HO.out, insOuter_go _ _ _ _ _ hlt, ← HI.out, insInner_stop _ _ _ _ hs])⟩
        have OUT := Lib.hid out
        have c0 := TJ.out.c0
        clear out
        by_cases hja : a < j
        · have hja' : (a : Int) < (j : Int) := by omega
          have hl := HK.out.lessAt TJ.out (i := j) (j := j - 1) (by omega) (by omega)
          rw [show (((j - 1 : Nat) : Int)) = (j : Int) - 1 by omega] at hl
          cases hlv : lt dj[j]! dj[j - 1]! with
          | true =>
            rw [hlv] at hl
            go_wp2_with (go_at_fn g; refine hl.mono ?_; rintro e w' ⟨rfl, T1⟩; have c1 := T1.c1)
            obtain ⟨W', hs, T2⟩ := HK.out.swapAt T1 hN (i := j) (j := j - 1) (by omega) (by omega)
            rw [show (((j - 1 : Nat) : Int)) = (j : Int) - 1 by omega] at hs
            rw [hs, Oper.upon_value]
            go_wp2
            go_roundw
            case rel => exact ⟨j - 1, swp dj j (j - 1), by congr 1 <;> omega, by omega, by omega, Lib.hid T2, Lib.hid (by rw [← HI.out, insInner_go lt a j dj hja hlv])⟩
            case measure => simp [intOf]; omega
          | false =>
            rw [hlv] at hl
            go_wp2_with (go_at_fn g; refine hl.mono ?_; rintro e w' ⟨rfl, T1⟩)
            go_roundw
            case rel => exact OUT.out (Or.inr hlv) _ T1
            case measure => simp [intOf]; omega
        · have hja' : ¬ (a : Int) < (j : Int) := by omega
          go_wp2
          go_roundw
          case rel => exact OUT.out (Or.inl (by omega)) _ TJ.out
          case measure => simp [intOf]; omega
    · have hlt' : ¬ (i : Int) < (b : Int) := by omega
      go_wp2
      go_end0
      exact ⟨rfl, by unfold Sort.insertionSort; rw [← HO.out, insOuter_stop _ _ _ _ _ hlt]; exact TK.out.q, TK.out.but⟩
end Go.Proofs.Ytepfcphhgmmlhaa
