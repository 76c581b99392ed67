/-
  sort.siftDown_func, sort.heapSort_func.
-/
import Derived.Test.YtnpaijmibkbhfaaG9
import Derived.Sort.LotB
import Derived.Deep.LoopGhost
namespace Go.Proofs.Ytnpaijmibkbhfaa
open Go.RowKit
open Go.Sort (swp siftDown heapBuild heapPop heapSort swp_size)
set_option linter.unusedVariables false
set_option linter.unusedSimpArgs false
section
variable (lt : RT → RT → Bool)
theorem sift_end {hi F root : Nat} (d : ARow) (h : hi ≤ 2 * root + 1) : siftDown lt hi F root d = d := by rw [siftDown, dif_pos h]
theorem sift_right {hi F root : Nat} (d : ARow) (h1 : 2 * root + 2 < hi) (h2 : lt d[F + (2 * root + 1)]! d[F + (2 * root + 2)]! = true) :
    siftDown lt hi F root d = if lt d[F + root]! d[F + (2 * root + 2)]! then siftDown lt hi F (2 * root + 2) (swp d (F + root) (F + (2 * root + 2))) else d := by
  have h2' : lt d[F + (2 * root + 1)]! d[F + (2 * root + 1) + 1]! = true := h2
  rw [siftDown, dif_neg (by omega), h2', dif_pos h1]
  rw [if_pos (by simp; omega)]
  cases lt d[F + root]! d[F + (2 * root + 2)]! <;> simp
theorem sift_left {hi F root : Nat} (d : ARow) (h0 : 2 * root + 1 < hi) (h1 : 2 * root + 2 < hi → lt d[F + (2 * root + 1)]! d[F + (2 * root + 2)]! = false) :
    siftDown lt hi F root d = if lt d[F + root]! d[F + (2 * root + 1)]! then siftDown lt hi F (2 * root + 1) (swp d (F + root) (F + (2 * root + 1))) else d := by
  rw [siftDown, dif_neg (by omega)]
  have hz : (decide (2 * root + 1 + 1 < hi) && lt d[F + (2 * root + 1)]! d[F + (2 * root + 1) + 1]!) = false := by
    by_cases h : 2 * root + 2 < hi
    · have := h1 h
      rw [show F + (2 * root + 1) + 1 = F + (2 * root + 2) by omega, this, Bool.and_false]
    · rw [decide_eq_false (by omega), Bool.false_and]
  rw [if_neg (by rw [hz]; decide)]
  cases lt d[F + root]! d[F + (2 * root + 1)]! <;> simp
theorem sift_size (hi F : Nat) : ∀ (n root : Nat) (d : ARow), hi - root ≤ n → (siftDown lt hi F root d).size = d.size := by
  intro n
  induction n with
  | zero => intro root d h; rw [sift_end lt d (by omega)]
  | succ n ih =>
    intro root d h
    by_cases h0 : hi ≤ 2 * root + 1
    · rw [sift_end lt d h0]
    · by_cases h1 : 2 * root + 2 < hi ∧ lt d[F + (2 * root + 1)]! d[F + (2 * root + 2)]! = true
      · rw [sift_right lt d h1.1 h1.2]
        split
        · rw [ih _ _ (by omega), swp_size]
        · rfl
      · rw [sift_left lt d (by omega) (fun h => by simpa [h] using h1)]
        split
        · rw [ih _ _ (by omega), swp_size]
        · rfl
end
set_option maxHeartbeats 4000000 in
set_option maxRecDepth 100000 in
theorem sift_calls {g sf : Nat} {lb sb : Array Value} {lt : RT → RT → Bool} {n : Nat} {S : Nat → Prop} {N0 : Nat} {Q : ARow → World → Prop} (K : Sorter g sf lb sb lt n S N0 Q) (lo hi F : Nat) (d : ARow) (w : World)
    (hq : Q d w) (hlo : lo ≤ hi) (hb : F + hi ≤ n) (hsz : n ≤ 1000) :
    Calls Try.prog 147 #[lsV g sf lb sb, .int .i64 lo, .int .i64 hi, .int .i64 F] w fun e w' => e = .returned (.tuple #[]) ∧ Q (siftDown lt hi F lo d) w' ∧ But S w w' := by
  have hN := (K.size _ _ hq).2
  have T0 := Lib.hid (K.start hq 147)
  have HK := Lib.hid K
  have eg := K.eg
  clear K hq
  go_enter Try.func147, Try.ntmps147
  go_wp2
  go_loopg [8] (hi - lo) (fun kx s8 wr => ∃ (root : Nat) (dk : ARow), s8 = .int .i64 root ∧ root ≤ hi ∧ hi - root ≤ kx ∧ Hid (StW g sf lb sb S Q w w.heap.size dk wr) ∧ Hid (siftDown lt hi F root dk = siftDown lt hi F lo d))
  case atStart => exact ⟨lo, d, rfl, hlo, Nat.le_refl _, T0, Lib.hid rfl⟩
  case round =>
    obtain ⟨root, dk, rfl, hr, hkx, TK, HE⟩ := hrel
    have c0 := TK.out.c0
    by_cases h0 : hi ≤ 2 * root + 1
    · have h0z : (hi : Int) ≤ 2 * (root : Int) + 1 := by omega
      go_wp2
      go_end0
      exact ⟨rfl, by rw [← HE.out, sift_end lt dk h0]; exact TK.out.q, TK.out.but⟩
    · have h0z : ¬ ((hi : Int) ≤ 2 * (root : Int) + 1) := by omega
      by_cases h1 : 2 * root + 2 < hi
      · have h1z : 2 * (root : Int) + 1 + 1 < (hi : Int) := by omega
        have tok1 : True := trivial
        have hl1 := HK.out.lessAt TK.out (i := F + (2 * root + 1)) (j := F + (2 * root + 2)) (by omega) (by omega)
        rw [show ((F + (2 * root + 1) : Nat) : Int) = (F : Int) + (2 * (root : Int) + 1) by omega, show ((F + (2 * root + 2) : Nat) : Int) = (F : Int) + (2 * (root : Int) + 1) + 1 by omega] at hl1
        cases hL : lt dk[F + (2 * root + 1)]! dk[F + (2 * root + 2)]! with
        | true =>
          rw [hL] at hl1
          have hR := Lib.hid (sift_right lt dk h1 hL (F := F))
          have LC : ∀ W, StW g sf lb sb S Q w w.heap.size dk W → Calls Try.prog g (#[.int .i64 ((F : Int) + (root : Int)), .int .i64 ((F : Int) + (2 * (root : Int) + 1 + 1))] ++ lb) W fun e w' => e = .returned (.bool (lt dk[F + root]! dk[F + (2 * root + 2)]!)) ∧ StW g sf lb sb S Q w w.heap.size dk w' := fun W TW => by
            have := HK.out.lessAt TW (i := F + root) (j := F + (2 * root + 2)) (by omega) (by omega)
            rw [show ((F + root : Nat) : Int) = (F : Int) + (root : Int) by omega, show ((F + (2 * root + 2) : Nat) : Int) = (F : Int) + (2 * (root : Int) + 1 + 1) by omega] at this
            exact this
          have SC : ∀ W, StW g sf lb sb S Q w w.heap.size dk W → ∃ W', (callFunc sf (#[.int .i64 ((F : Int) + (root : Int)), .int .i64 ((F : Int) + (2 * (root : Int) + 1 + 1))] ++ sb)).run Try.prog W = .ok (.value (.tuple #[])) W' ∧ StW g sf lb sb S Q w w.heap.size (swp dk (F + root) (F + (2 * root + 2))) W' := fun W TW => by
            have := HK.out.swapAt TW hN (i := F + root) (j := F + (2 * root + 2)) (by omega) (by omega)
            rw [show ((F + root : Nat) : Int) = (F : Int) + (root : Int) by omega, show ((F + (2 * root + 2) : Nat) : Int) = (F : Int) + (2 * (root : Int) + 1 + 1) by omega] at this
            exact this
          have hlc := Lib.hid LC
          have hsc := Lib.hid SC
          clear LC SC
          cases hG : lt dk[F + root]! dk[F + (2 * root + 2)]! with
          | true =>
            go_wp2_with (first | (have _t := tok1; go_at_fn g; refine hl1.mono ?_; rintro e w1 ⟨rfl, T1⟩; have c0 := T1.c0; clear tok1) | (go_at_fn g; refine (hlc.out _ T1).mono ?_; rw [hG]; rintro e w2 ⟨rfl, T2⟩; have c1 := T2.c1))
            obtain ⟨W', hs, T3⟩ := hsc.out _ T2
            rw [hs, Oper.upon_value]
            go_wp2
            go_roundg (hi - (2 * root + 2))
            case measure => omega
            case rel => exact ⟨2 * root + 2, swp dk (F + root) (F + (2 * root + 2)), by go_num, by omega, Nat.le_refl _, Lib.hid T3, Lib.hid (by rw [← HE.out, hR.out, if_pos hG])⟩
          | false =>
            go_wp2_with (first | (have _t := tok1; go_at_fn g; refine hl1.mono ?_; rintro e w1 ⟨rfl, T1⟩; have c0 := T1.c0; clear tok1) | (go_at_fn g; refine (hlc.out _ T1).mono ?_; rw [hG]; rintro e w2 ⟨rfl, T2⟩; have c1 := T2.c1))
            (try simp only [Exit.inBlock, Exit.then]); refine bodyPost_ret (results_none rfl _ _ _) rfl ?_
            exact ⟨rfl, by rw [← HE.out, hR.out, if_neg (by rw [hG]; decide)]; exact T2.q, T2.but⟩
        | false =>
          rw [hL] at hl1
          have hR := Lib.hid (sift_left lt dk (hi := hi) (F := F) (by omega) (fun _ => hL))
          have LC : ∀ W, StW g sf lb sb S Q w w.heap.size dk W → Calls Try.prog g (#[.int .i64 ((F : Int) + (root : Int)), .int .i64 ((F : Int) + (2 * (root : Int) + 1))] ++ lb) W fun e w' => e = .returned (.bool (lt dk[F + root]! dk[F + (2 * root + 1)]!)) ∧ StW g sf lb sb S Q w w.heap.size dk w' := fun W TW => by
            have := HK.out.lessAt TW (i := F + root) (j := F + (2 * root + 1)) (by omega) (by omega)
            rw [show ((F + root : Nat) : Int) = (F : Int) + (root : Int) by omega, show ((F + (2 * root + 1) : Nat) : Int) = (F : Int) + (2 * (root : Int) + 1) by omega] at this
            exact this
          have SC : ∀ W, StW g sf lb sb S Q w w.heap.size dk W → ∃ W', (callFunc sf (#[.int .i64 ((F : Int) + (root : Int)), .int .i64 ((F : Int) + (2 * (root : Int) + 1))] ++ sb)).run Try.prog W = .ok (.value (.tuple #[])) W' ∧ StW g sf lb sb S Q w w.heap.size (swp dk (F + root) (F + (2 * root + 1))) W' := fun W TW => by
            have := HK.out.swapAt TW hN (i := F + root) (j := F + (2 * root + 1)) (by omega) (by omega)
            rw [show ((F + root : Nat) : Int) = (F : Int) + (root : Int) by omega, show ((F + (2 * root + 1) : Nat) : Int) = (F : Int) + (2 * (root : Int) + 1) by omega] at this
            exact this
          have hlc := Lib.hid LC
          have hsc := Lib.hid SC
          clear LC SC
          cases hG : lt dk[F + root]! dk[F + (2 * root + 1)]! with
          | true =>
            go_wp2_with (first | (have _t := tok1; go_at_fn g; refine hl1.mono ?_; rintro e w1 ⟨rfl, T1⟩; have c0 := T1.c0; clear tok1) | (go_at_fn g; refine (hlc.out _ T1).mono ?_; rw [hG]; rintro e w2 ⟨rfl, T2⟩; have c1 := T2.c1))
            obtain ⟨W', hs, T3⟩ := hsc.out _ T2
            rw [hs, Oper.upon_value]
            go_wp2
            go_roundg (hi - (2 * root + 1))
            case measure => omega
            case rel => exact ⟨2 * root + 1, swp dk (F + root) (F + (2 * root + 1)), by go_num, by omega, Nat.le_refl _, Lib.hid T3, Lib.hid (by rw [← HE.out, hR.out, if_pos hG])⟩
          | false =>
            go_wp2_with (first | (have _t := tok1; go_at_fn g; refine hl1.mono ?_; rintro e w1 ⟨rfl, T1⟩; have c0 := T1.c0; clear tok1) | (go_at_fn g; refine (hlc.out _ T1).mono ?_; rw [hG]; rintro e w2 ⟨rfl, T2⟩; have c1 := T2.c1))
            (try simp only [Exit.inBlock, Exit.then]); refine bodyPost_ret (results_none rfl _ _ _) rfl ?_
            exact ⟨rfl, by rw [← HE.out, hR.out, if_neg (by rw [hG]; decide)]; exact T2.q, T2.but⟩
      · have h1z : ¬ (2 * (root : Int) + 1 + 1 < (hi : Int)) := by omega
        have hR := Lib.hid (sift_left lt dk (hi := hi) (F := F) (by omega) (fun h => absurd h h1))
        have LC : ∀ W, StW g sf lb sb S Q w w.heap.size dk W → Calls Try.prog g (#[.int .i64 ((F : Int) + (root : Int)), .int .i64 ((F : Int) + (2 * (root : Int) + 1))] ++ lb) W fun e w' => e = .returned (.bool (lt dk[F + root]! dk[F + (2 * root + 1)]!)) ∧ StW g sf lb sb S Q w w.heap.size dk w' := fun W TW => by
          have := HK.out.lessAt TW (i := F + root) (j := F + (2 * root + 1)) (by omega) (by omega)
          rw [show ((F + root : Nat) : Int) = (F : Int) + (root : Int) by omega, show ((F + (2 * root + 1) : Nat) : Int) = (F : Int) + (2 * (root : Int) + 1) by omega] at this
          exact this
        have SC : ∀ W, StW g sf lb sb S Q w w.heap.size dk W → ∃ W', (callFunc sf (#[.int .i64 ((F : Int) + (root : Int)), .int .i64 ((F : Int) + (2 * (root : Int) + 1))] ++ sb)).run Try.prog W = .ok (.value (.tuple #[])) W' ∧ StW g sf lb sb S Q w w.heap.size (swp dk (F + root) (F + (2 * root + 1))) W' := fun W TW => by
          have := HK.out.swapAt TW hN (i := F + root) (j := F + (2 * root + 1)) (by omega) (by omega)
          rw [show ((F + root : Nat) : Int) = (F : Int) + (root : Int) by omega, show ((F + (2 * root + 1) : Nat) : Int) = (F : Int) + (2 * (root : Int) + 1) by omega] at this
          exact this
        have hlc := Lib.hid LC
        have hsc := Lib.hid SC
        clear LC SC
        cases hG : lt dk[F + root]! dk[F + (2 * root + 1)]! with
        | true =>
          go_wp2_with (go_at_fn g; refine (hlc.out _ TK.out).mono ?_; rw [hG]; rintro e w2 ⟨rfl, T2⟩; have c1 := T2.c1)
          obtain ⟨W', hs, T3⟩ := hsc.out _ T2
          rw [hs, Oper.upon_value]
          go_wp2
          go_roundg (hi - (2 * root + 1))
          case measure => omega
          case rel => exact ⟨2 * root + 1, swp dk (F + root) (F + (2 * root + 1)), by go_num, by omega, Nat.le_refl _, Lib.hid T3, Lib.hid (by rw [← HE.out, hR.out, if_pos hG])⟩
        | false =>
          go_wp2_with (go_at_fn g; refine (hlc.out _ TK.out).mono ?_; rw [hG]; rintro e w2 ⟨rfl, T2⟩; have c1 := T2.c1)
          (try simp only [Exit.inBlock, Exit.then]); refine bodyPost_ret (results_none rfl _ _ _) rfl ?_
          exact ⟨rfl, by rw [← HE.out, hR.out, if_neg (by rw [hG]; decide)]; exact T2.q, T2.but⟩
theorem half_at {a b : Nat} (hab : a ≤ b) : ((b : Int) - (a : Int) - 1).tdiv 2 = (((b - a - 1) / 2 + 1 : Nat) : Int) - 1 := by
  rcases Nat.lt_or_ge a b with h | h
  · obtain ⟨k, rfl⟩ : ∃ k, b = a + 1 + k := ⟨b - a - 1, by omega⟩
    rw [show ((a + 1 + k : Nat) : Int) - (a : Int) - 1 = (k : Int) by omega, show a + 1 + k - a - 1 = k by omega, Int.tdiv_eq_ediv_of_nonneg (by omega)]
    omega
  · obtain rfl : a = b := by omega
    rw [show (a : Int) - (a : Int) - 1 = -1 by omega, Nat.sub_self]
    decide
set_option maxHeartbeats 4000000 in
set_option maxRecDepth 100000 in
theorem heap_calls {g sf : Nat} {lb sb : Array Value} {lt : RT → RT → Bool} {n : Nat} {S : Nat → Prop} {N0 : Nat} {Q : ARow → World → Prop} (K : Sorter g sf lb sb lt n S N0 Q) (a b : Nat) (d : ARow) (w : World)
    (hq : Q d w) (hab : a ≤ b) (hb : b ≤ n) (hsz : n ≤ 1000) :
    Calls Try.prog 127 #[lsV g sf lb sb, .int .i64 a, .int .i64 b] w fun e w' => e = .returned (.tuple #[]) ∧ Q (heapSort lt d a b) w' ∧ But S w w' := by
  have hN := (K.size _ _ hq).2
  have hsd := (K.size _ _ hq).1
  have T0 := Lib.hid (K.start hq 147)
  have HK := Lib.hid K
  have eg := K.eg
  have SF := Lib.hid (fun lo hi (d : ARow) (W : World) (h : Q d W) (h1 : lo ≤ hi) (h2 : a + hi ≤ n) => sift_calls K lo hi a d W h h1 h2 hsz)
  have ecast : ((b - a : Nat) : Int) = (b : Int) - (a : Int) := by omega
  clear K hq
  go_enter Try.func127, Try.ntmps127
  go_wp2
  go_loopg [9] ((b - a - 1) / 2 + 1) (fun kx s9 wr => s9 = .int .i64 ((kx : Int) - 1) ∧ kx ≤ (b - a - 1) / 2 + 1 ∧ ∃ (dk : ARow), Hid (StW g sf lb sb S Q w w.heap.size dk wr) ∧ Hid (heapBuild lt (b - a) a kx dk = heapBuild lt (b - a) a ((b - a - 1) / 2 + 1) d))
  case atStart => exact ⟨by rw [half_at hab], Nat.le_refl _, d, T0, Lib.hid rfl⟩
  case round =>
    obtain ⟨rfl, hkk, dk, TK, HE⟩ := hrel
    have c0 := TK.out.c0
    have c1 := TK.out.c1
    cases gk with
    | zero =>
      have hB := Lib.hid (show dk = heapBuild lt (b - a) a ((b - a - 1) / 2 + 1) d from HE.out)
      clear HE hkk
      go_wp2
      go_loopg [10] (b - a) (fun kx s10 wr2 => s10 = .int .i64 ((kx : Int) - 1) ∧ kx ≤ b - a ∧ ∃ (dj : ARow), Hid (StW g sf lb sb S Q w w.heap.size dj wr2) ∧ Hid (heapPop lt a kx dj = heapPop lt a (b - a) dk))
      case atStart => exact ⟨by rw [ecast], Nat.le_refl _, dk, TK, Lib.hid rfl⟩
      case round =>
        clear TK c0 c1
        obtain ⟨rfl, hkk, dj, TJ, HE2⟩ := hrel
        have c0 := TJ.out.c0
        have c1 := TJ.out.c1
        cases gk with
        | zero =>
          go_wp2
          go_end0
          have e : heapSort lt d a b = dj := by rw [heapSort, ← hB.out, ← HE2.out]; rfl
          rw [e]
          exact ⟨rfl, TJ.out.q, TJ.out.but⟩
        | succ kx =>
          obtain ⟨W', hs, T2⟩ := HK.out.swapAt TJ.out hN (i := a) (j := a + kx) (by omega) (by omega)
          rw [show ((a + kx : Nat) : Int) = (a : Int) + (kx : Int) by omega] at hs
          have hcall := SF.out 0 kx _ W' T2.q (by omega) (by omega)
          have T2' := Lib.hid T2
          have c0' := T2.c0
          have c1' := T2.c1
          clear T2 TJ
          go_wp2_with fail
          refine hcall.mono ?_
          rintro e w1 ⟨rfl, q1, b1⟩
          have T3 := Lib.hid (HK.out.after T2'.out hN q1 b1)
          go_wp2
          go_roundg kx
          case measure => omega
          case rel => exact ⟨by simp, by omega, _, T3, HE2⟩
    | succ kx =>
      have hcall := SF.out kx (b - a) _ wr TK.out.q (by omega) (by omega)
      rw [ecast] at hcall
      go_wp2_with fail
      refine hcall.mono ?_
      rintro e w1 ⟨rfl, q1, b1⟩
      have T3 := Lib.hid (HK.out.after TK.out hN q1 b1)
      go_wp2
      go_roundg kx
      case measure => omega
      case rel => exact ⟨by simp, by omega, _, T3, HE⟩
end Go.Proofs.Ytnpaijmibkbhfaa
