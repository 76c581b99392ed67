/-
  cidr.combine.
-/
import Derived.Test.YtifhakoeinalaaaDoorG5
import Derived.Test.YtifhakoeinalaaaDoorCidrL
import Derived.Test.YtifhakoeinalaaaDoorLaidF
namespace Go.Proofs.YtifhakoeinalaaaDoor
open Go.RowKit
set_option linter.unusedVariables false
set_option linter.unusedSimpArgs false

set_option maxHeartbeats 4000000 in
theorem combine_err (l m : List PT) (vl vm : Value) (F : Nat) (E : Int) (hE : (E == 0) = false)
    (CK : Hid (∀ (W : World) (b : Nat), b < W.heap.size → RowP W vl l → RowP W vm m → W.cell? ⟨b, 0, none⟩ = some vl → W.cell? ⟨b, 1, none⟩ = some vm → Calls Tryd.prog 28 #[.slice (some ⟨b, 0, none⟩) 2 2] W fun e w' => e = .returned (.int .i64 E) ∧ Below W.heap.size W w'))
    (w : World) (rl : RowP w vl l) (rm : RowP w vm m) :
    Calls Tryd.prog 16 #[vl, vm, .func (.func F) #[] #[]] w (PresOutE [] E w) := by
  have hE2 : (E != 0) = true := by simp [bne, hE]
  have hE3 : ¬ E = 0 := by simpa using hE
  obtain ⟨p1, c1, rfl⟩ := rl.form
  obtain ⟨p2, c2, rfl⟩ := rm.form
  have RL := Lib.hid rl
  have RM := Lib.hid rm
  clear rl rm
  go_enter Tryd.func16, Tryd.ntmps16
  go_wp2_with fail
  refine (CK.out _ w.heap.size (by simp) (RL.out.keep ((Below.refl _ _).alloc (Nat.le_refl _) _)) (RM.out.keep ((Below.refl _ _).alloc (Nat.le_refl _) _)) (by simp) (by simp)).mono ?_
  rintro e w1 ⟨rfl, hb1⟩
  have b1 := thenBelow ((Below.refl _ w).alloc (Nat.le_refl _) _) hb1
  clear hb1
  go_wp2
  go_returns
  exact ⟨_, rfl, owned_nil _ _, b1⟩
/-- append(x, y...) of two rows: blocks that are not the first row's are as they were. -/
theorem step_append_far {P : Program} {w : World} {ops : Array Oper} {o : Oper} {a : Act} {K : Act → World → Prop} {Q : Exit → Act → World → Prop} {E : Prop} (hgd : o.guard = none) (s x : Operand) (t : TypeId)
    (ho : o.op = .call { callee := .builtin .append, args := #[s, x], argTypes := #[t, t] })
    (base : Nat) (e : TypeId) (i : TypeInfo) (z : Value) (size bytes : Nat) (ht : P.underlying t = some (.slice e)) (hi : P.info? e = some i) (hz : i.zero = some z)
    (hsize : i.size = size) (hby : i.bytes = bytes) (hzs : z.cells.size = size) (hsz : 0 < size)
    (v : Value) (n : Nat) (xs : List Value) (hs : a.eval s = v) (hown : w.ownsRow base e size v n xs)
    (v2 : Value) (base2 m : Nat) (ys : List Value) (hx : a.eval x = v2) (hown2 : w.ownsRow base2 e size v2 m ys) (h1 : ∀ u ∈ ys, u.oneCell' = true)
    (hbytes : (n + m) * bytes ≤ 140737488355328) (h63 : n + m ≤ maxLen) (hbase : base ≤ w.heap.size)
    (h : ∀ v' w', w'.ownsRow base e size v' (n + m) (xs ++ ys) → Below base w w' → (∀ k, k < w.heap.size → v.ownBlock ≠ some k → w'.heap[k]? = w.heap[k]?) → K (a.put o.dst v') w') :
    if Region.wanted o (yielded ops a.tmps) = true then Oper.wp P o a w K Q else E := by
  have hw : Region.wanted o (yielded ops a.tmps) = true := by simp [Region.wanted, hgd]
  rw [if_pos hw]
  rcases owns_cells hown2 with ⟨hv, h0, he⟩ | ⟨g, cap, hv, _, _, _, hc⟩
  · subst hv; subst h0; subst he
    have hrun := run_append_owned_none (P := P) (w := w) base t o.type e i size ht hi v n xs hown
    unfold Oper.wp
    simp [execOp, ho, resolve, invoke, builtin, hs, hx, hrun, Result.andThen]
    exact h v w (by simpa using hown) (Below.refl _ _) (fun _ _ _ => rfl)
  · subst hv
    exact wp_append_own w s x t ho base e i z size bytes ht hi hz hsize hby hzs hsz v n xs hs hown ⟨g, 0, none⟩ m cap ys hx hown2.1 hc h1 h63 hbytes hbase fun v' w' h2 h3 _ => h v' w' h2 (below_grown hown h3 hbase) (fun k hk hn => h3.block k hk (fun e => hn e.symm))
theorem idx_fam0 (W : World) : (Instr.index 74 (.agg #[.bool false, .int .u64 0, .int .u64 0, .int .i64 0, .bool true, .int .u64 0, .int .u64 0, .int .i64 0]) (.int .i64 0)).run Tryd.prog W = .ok (.agg #[.bool false, .int .u64 0, .int .u64 0, .int .i64 0]) W := by kernel_rfl
theorem idx_fam1 (W : World) : (Instr.index 74 (.agg #[.bool false, .int .u64 0, .int .u64 0, .int .i64 0, .bool true, .int .u64 0, .int .u64 0, .int .i64 0]) (.int .i64 1)).run Tryd.prog W = .ok (.agg #[.bool true, .int .u64 0, .int .u64 0, .int .i64 0]) W := by kernel_rfl
/-- The list behind i families. -/
def upTo (A B : List PT) (i : Nat) : List PT := (if 1 ≤ i then A else []) ++ (if 2 ≤ i then B else [])
set_option maxHeartbeats 4000000 in
set_option maxRecDepth 100000 in
theorem combine_walk (l m l0 l1 m0 m1 : List PT) (vl vm : Value) (F : Nat) (A B : List PT) (hA : A.length ≤ 100000) (hB : B.length ≤ 100000)
    (CK : Hid (∀ (W : World) (b : Nat), b < W.heap.size → RowP W vl l → RowP W vm m → W.cell? ⟨b, 0, none⟩ = some vl → W.cell? ⟨b, 1, none⟩ = some vm → Calls Tryd.prog 28 #[.slice (some ⟨b, 0, none⟩) 2 2] W fun e w' => e = .returned (.int .i64 0) ∧ Below W.heap.size W w'))
    (BY1 : Hid (∀ W : World, RowP W vl l → Calls Tryd.prog 29 #[vl] W fun e w' => (∃ v0 v1, e = .returned (.agg #[v0, v1]) ∧ Owned w' W.heap.size v0 l0 ∧ Owned w' W.heap.size v1 l1) ∧ Below W.heap.size W w'))
    (BY2 : Hid (∀ W : World, RowP W vm m → Calls Tryd.prog 29 #[vm] W fun e w' => (∃ v0 v1, e = .returned (.agg #[v0, v1]) ∧ Owned w' W.heap.size v0 m0 ∧ Owned w' W.heap.size v1 m1) ∧ Below W.heap.size W w'))
    (K1 : Hid (∀ (W : World) (va vb : Value), RowP W va l0 → RowP W vb m0 → Calls Tryd.prog 30 #[.agg #[.bool false, .int .u64 0, .int .u64 0, .int .i64 0], va, vb, .func (.func F) #[] #[]] W (PresOut A W)))
    (K2 : Hid (∀ (W : World) (va vb : Value), RowP W va l1 → RowP W vb m1 → Calls Tryd.prog 30 #[.agg #[.bool true, .int .u64 0, .int .u64 0, .int .i64 0], va, vb, .func (.func F) #[] #[]] W (PresOut B W)))
    (w : World) (rl : RowP w vl l) (rm : RowP w vm m) (hF : FamAt w) :
    Calls Tryd.prog 16 #[vl, vm, .func (.func F) #[] #[]] w (PresOutE (A ++ B) 0 w) := by
  obtain ⟨i0, hii, hz0, hz1, hz2⟩ := info_parts info_pre
  obtain ⟨p1, c1, rfl⟩ := rl.form
  obtain ⟨p2, c2, rfl⟩ := rm.form
  have RL := Lib.hid rl
  have RM := Lib.hid rm
  have FM := Lib.hid hF
  clear rl rm hF
  go_enter Tryd.func16, Tryd.ntmps16
  go_wp2_with fail
  refine (CK.out _ w.heap.size (by simp) (RL.out.keep ((Below.refl _ _).alloc (Nat.le_refl _) _)) (RM.out.keep ((Below.refl _ _).alloc (Nat.le_refl _) _)) (by simp) (by simp)).mono ?_
  rintro e w1 ⟨rfl, hb1⟩
  have b1 := thenBelow ((Below.refl _ w).alloc (Nat.le_refl _) _) hb1
  have RL := Lib.hid (RL.out.keep b1)
  have RM := Lib.hid (RM.out.keep b1)
  have FM := Lib.hid (FM.out.keep b1)
  clear hb1 CK
  go_wp2_with fail
  refine (BY1.out _ RL.out).mono ?_
  rintro e w2 ⟨⟨v0, v1, rfl, o0, o1⟩, hb2⟩
  have b2 := thenBelow b1 hb2
  have RM := Lib.hid (RM.out.keep hb2)
  have FM := Lib.hid (FM.out.keep hb2)
  clear BY1 b1 hb2
  go_wp2_with fail
  refine (BY2.out _ RM.out).mono ?_
  rintro e w3 ⟨⟨u0, u1, rfl, q0, q1⟩, hb3⟩
  have b3 := thenBelow b2 hb3
  have FM := Lib.hid (FM.out.keep hb3)
  have R0 := RowP.owned (ownsKeep o0 hb3)
  have R1 := RowP.owned (ownsKeep o1 hb3)
  have S0 := RowP.owned q0
  have S1 := RowP.owned q1
  obtain ⟨pa, ca, rfl⟩ := R0.form
  obtain ⟨pb, cb, rfl⟩ := R1.form
  obtain ⟨pc, cc, rfl⟩ := S0.form
  obtain ⟨pd, cd, rfl⟩ := S1.form
  obtain ⟨⟨f0, f1, f2, f3⟩, ⟨f4, f5, f6, f7⟩, fl⟩ := FM.out
  have fm := Nat.lt_succ_of_lt fl
  simp only [Nat.succ_eq_add_one] at fm
  have bX : Below w3.heap.size w3 ((w3.alloc (.cells #[.slice pa l0.length ca, .slice pb l1.length cb] 81)).alloc (.cells #[.slice pc m0.length cc, .slice pd m1.length cd] 81)) := ((Below.refl _ w3).alloc (Nat.le_refl _) _).alloc (by simp) _
  have HR0 := Lib.hid (R0.keep bX)
  have HR1 := Lib.hid (R1.keep bX)
  have HS0 := Lib.hid (S0.keep bX)
  have HS1 := Lib.hid (S1.keep bX)
  have b4 := thenBelow b3 bX
  have ga0 : ((w3.alloc (.cells #[.slice pa l0.length ca, .slice pb l1.length cb] 81)).alloc (.cells #[.slice pc m0.length cc, .slice pd m1.length cd] 81)).cell? ⟨w3.heap.size, 0, none⟩ = some (.slice pa l0.length ca) := by simp
  have ga1 : ((w3.alloc (.cells #[.slice pa l0.length ca, .slice pb l1.length cb] 81)).alloc (.cells #[.slice pc m0.length cc, .slice pd m1.length cd] 81)).cell? ⟨w3.heap.size, 1, none⟩ = some (.slice pb l1.length cb) := by simp
  have gb0 : ((w3.alloc (.cells #[.slice pa l0.length ca, .slice pb l1.length cb] 81)).alloc (.cells #[.slice pc m0.length cc, .slice pd m1.length cd] 81)).cell? ⟨w3.heap.size + 1, 0, none⟩ = some (.slice pc m0.length cc) := by simp
  have gb1 : ((w3.alloc (.cells #[.slice pa l0.length ca, .slice pb l1.length cb] 81)).alloc (.cells #[.slice pc m0.length cc, .slice pd m1.length cd] 81)).cell? ⟨w3.heap.size + 1, 1, none⟩ = some (.slice pd m1.length cd) := by simp
  have gl : w3.heap.size + 1 < ((w3.alloc (.cells #[.slice pa l0.length ca, .slice pb l1.length cb] 81)).alloc (.cells #[.slice pc m0.length cc, .slice pd m1.length cd] 81)).heap.size := by simp
  clear BY2 b2 hb3 o0 o1 q0 q1 R0 R1 S0 S1 RL RM bX b3
  go_wp2
  clear f0 f1 f2 f3 f4 f5 f6 f7 fl fm FM
  revert HR0 HR1 HS0 HS1 b4 ga0 ga1 gb0 gb1 gl
  generalize ((w3.alloc (.cells #[.slice pa l0.length ca, .slice pb l1.length cb] 81)).alloc (.cells #[.slice pc m0.length cc, .slice pd m1.length cd] 81)) = W
  intro HR0 HR1 HS0 HS1 b4 ga0 ga1 gb0 gb1 gl
  go_loopw [11, 26] (fun v i wr => ∃ j : Nat, j ≤ 2 ∧ i = .int .i64 j ∧ Owned wr W.heap.size v (upTo A B j) ∧ Below W.heap.size W wr) (fun _ i _ => 2 - (intOf i).toNat)
  case atStart => exact ⟨0, by omega, rfl, owned_nil _ _, Below.refl _ _⟩
  case round =>
    obtain ⟨j, hj, rfl, hown, hnx⟩ := hrel
    have hsz := hnx.size
    match j, hj with
    | 0, _ =>
      have ga : wr.cell? ⟨w3.heap.size, 0, none⟩ = some (.slice pa l0.length ca) := (hnx.cell (p := ⟨w3.heap.size, 0, none⟩) (by show w3.heap.size < W.heap.size; omega)).trans ga0
      have gb : wr.cell? ⟨w3.heap.size + 1, 0, none⟩ = some (.slice pc m0.length cc) := (hnx.cell (p := ⟨w3.heap.size + 1, 0, none⟩) gl).trans gb0
      have bq : Below wr.heap.size wr (wr.alloc (.cells #[.bool false, .int .u64 0, .int .u64 0, .int .i64 0] 33)) := (Below.refl _ wr).alloc (Nat.le_refl _) _
      have GP := PreAt.new wr false 0 0 0 33
      have RA := Lib.hid ((HR0.out.keep hnx).keep bq)
      have RB := Lib.hid ((HS0.out.keep hnx).keep bq)
      have hown2 := ownsKeep hown bq
      have b5 := thenBelow hnx bq
      have ga2 := (bq.cell (p := ⟨w3.heap.size, 0, none⟩) (by show w3.heap.size < wr.heap.size; omega)).trans ga
      have gb2 := (bq.cell (p := ⟨w3.heap.size + 1, 0, none⟩) (by show w3.heap.size + 1 < wr.heap.size; omega)).trans gb
      have hlA : (upTo A B 0).length ≤ 200000 := by simp [upTo]; try omega
      have hix := idx_fam0
      have hfar : ∀ q, u11.ownBlock = some q → q < wr.heap.size := fun q hq => (hown.lt q hq).2
      clear ga gb ga0 ga1 gb0 gb1 HR0 HR1 HS0 HS1 hown
      go_wp2_with fail
      revert GP RA RB hown2 b5 ga2 gb2
      clear bq
      generalize wr.alloc (.cells #[.bool false, .int .u64 0, .int .u64 0, .int .i64 0] 33) = Y
      intro GP RA RB hown2 b5 ga2 gb2
      have FP := Lib.hid GP
      obtain ⟨q0, q1, q2, q3, ql⟩ := GP
      have gl2 : w3.heap.size + 1 < Y.heap.size := by have := b5.size; omega
      have hby : ((upTo A B 0).length + A.length) * 32 ≤ 140737488355328 := by omega
      have h63 : (upTo A B 0).length + A.length ≤ maxLen := by unfold maxLen; omega
      have hYs : W.heap.size ≤ Y.heap.size := b5.size
      have XA : Hid (∀ wa : World, Below Y.drew.heap.size Y.drew wa → wa.cell? ⟨w3.heap.size, 0, none⟩ = some (.slice pa l0.length ca)) := Lib.hid fun wa ba => (ba.cell (p := ⟨w3.heap.size, 0, none⟩) (by show w3.heap.size < Y.heap.size; omega)).trans ga2
      have XB : Hid (∀ wa : World, Below Y.drew.heap.size Y.drew wa → wa.cell? ⟨w3.heap.size + 1, 0, none⟩ = some (.slice pc m0.length cc)) := Lib.hid fun wa ba => (ba.cell (p := ⟨w3.heap.size + 1, 0, none⟩) gl2).trans gb2
      have XO : Hid (∀ wa : World, Below Y.drew.heap.size Y.drew wa → Owned wa W.heap.size u11 (upTo A B 0)) := Lib.hid fun wa ba => ownsKeep (ownsKeep hown2 (Below.refl _ _).drew) ba
      have XP : Hid (∀ wa : World, Below Y.drew.heap.size Y.drew wa → PreAt wa wr.heap.size false 0 0 0) := Lib.hid fun wa ba => FP.out.via (Below.refl _ _).drew ba
      have hlW : w3.heap.size < W.heap.size := by omega
      have XN : ∀ wa : World, Below Y.drew.heap.size Y.drew wa → wr.heap.size < wa.heap.size := fun wa ba => Nat.lt_of_lt_of_le ql ba.size
      have XM : u11.ownBlock ≠ some wr.heap.size := fun e => by have := hfar _ e; omega
      have hbYW : ∀ wa : World, Below Y.drew.heap.size Y.drew wa → Below W.heap.size W wa := fun wa ba => b5.drew.trans (ba.mono hYs)
      clear hown2
      go_region_held3 (fun w' => w'.cell? ⟨wr.heap.size, 0, none⟩ = some (.bool false) ∧ w'.cell? ⟨wr.heap.size, 1, none⟩ = some (.int .u64 0) ∧ w'.cell? ⟨wr.heap.size, 2, none⟩ = some (.int .u64 0) ∧ w'.cell? ⟨wr.heap.size, 3, none⟩ = some (.int .i64 0) ∧ w'.cell? ⟨w3.heap.size, 0, none⟩ = some (.slice pa l0.length ca) ∧ w'.cell? ⟨w3.heap.size + 1, 0, none⟩ = some (.slice pc m0.length cc))
        (first
          | (simp [go_sem, q0, q1, q2, q3, ga2, gb2]; done)
          | (simp [go_sem, x0, x1, x2, x3, xa, xb]; done)
          | (simp [go_sem, z0, z1, z2, z3, za, zb]; done)
          | fail)
        (first
          | (go_at_call 30; with_reducible refine (K1.out _ _ _ (RA.out.keep (Below.refl _ _).drew) (RB.out.keep (Below.refl _ _).drew)).mono ?_; rintro e wa ⟨va, rfl, oa, ba⟩; obtain ⟨x0, x1, x2, x3, _⟩ := preCells (XP.out wa ba); have xa := XA.out wa ba; have xb := XB.out wa ba; have hown3 := XO.out wa ba)
          | (refine step_append_far (by rfl) _ _ _ (by rfl) W.heap.size 33 i0 _ 4 32 Tryd.underlying28 hii hz0 hz1 hz2 rfl (by decide) _ _ _ (by rfl) hown3 _ _ _ _ (by rfl) oa (pRow_one _) hby h63 (Nat.le_trans hYs ba.size) ?_; intro ve we he0 be bk; have b6 := (hbYW _ ba).trans be; have za := (be.cell (p := ⟨w3.heap.size, 0, none⟩) hlW).trans xa; have zb := (be.cell (p := ⟨w3.heap.size + 1, 0, none⟩) gl).trans xb; have bk2 := bk wr.heap.size (XN _ ba) XM; have z0 := (World.cell?_of_block (a := ⟨wr.heap.size, 0, none⟩) bk2).trans x0; have z1 := (World.cell?_of_block (a := ⟨wr.heap.size, 1, none⟩) bk2).trans x1; have z2 := (World.cell?_of_block (a := ⟨wr.heap.size, 2, none⟩) bk2).trans x2; have z3 := (World.cell?_of_block (a := ⟨wr.heap.size, 3, none⟩) bk2).trans x3)
          | fail)
      go_wp2
      go_roundw
      case rel => exact ⟨0 + 1, by omega, by go_num, by unfold Owned; rw [show upTo A B (0 + 1) = upTo A B 0 ++ A by simp [upTo], List.length_append, pRow_app]; exact he0, b6⟩
      case measure => simp [intOf]
    | 1, _ =>
      have ga : wr.cell? ⟨w3.heap.size, 1, none⟩ = some (.slice pb l1.length cb) := (hnx.cell (p := ⟨w3.heap.size, 1, none⟩) (by show w3.heap.size < W.heap.size; omega)).trans ga1
      have gb : wr.cell? ⟨w3.heap.size + 1, 1, none⟩ = some (.slice pd m1.length cd) := (hnx.cell (p := ⟨w3.heap.size + 1, 1, none⟩) gl).trans gb1
      have bq : Below wr.heap.size wr (wr.alloc (.cells #[.bool true, .int .u64 0, .int .u64 0, .int .i64 0] 33)) := (Below.refl _ wr).alloc (Nat.le_refl _) _
      have GP := PreAt.new wr true 0 0 0 33
      have RA := Lib.hid ((HR1.out.keep hnx).keep bq)
      have RB := Lib.hid ((HS1.out.keep hnx).keep bq)
      have hown2 := ownsKeep hown bq
      have b5 := thenBelow hnx bq
      have ga2 := (bq.cell (p := ⟨w3.heap.size, 1, none⟩) (by show w3.heap.size < wr.heap.size; omega)).trans ga
      have gb2 := (bq.cell (p := ⟨w3.heap.size + 1, 1, none⟩) (by show w3.heap.size + 1 < wr.heap.size; omega)).trans gb
      have hlA : (upTo A B 1).length ≤ 200000 := by simp [upTo]; try omega
      have hix := idx_fam1
      have hfar : ∀ q, u11.ownBlock = some q → q < wr.heap.size := fun q hq => (hown.lt q hq).2
      clear ga gb ga0 ga1 gb0 gb1 HR0 HR1 HS0 HS1 hown
      go_wp2_with fail
      revert GP RA RB hown2 b5 ga2 gb2
      clear bq
      generalize wr.alloc (.cells #[.bool true, .int .u64 0, .int .u64 0, .int .i64 0] 33) = Y
      intro GP RA RB hown2 b5 ga2 gb2
      have FP := Lib.hid GP
      obtain ⟨q0, q1, q2, q3, ql⟩ := GP
      have gl2 : w3.heap.size + 1 < Y.heap.size := by have := b5.size; omega
      have hby : ((upTo A B 1).length + B.length) * 32 ≤ 140737488355328 := by omega
      have h63 : (upTo A B 1).length + B.length ≤ maxLen := by unfold maxLen; omega
      have hYs : W.heap.size ≤ Y.heap.size := b5.size
      have XA : Hid (∀ wa : World, Below Y.drew.heap.size Y.drew wa → wa.cell? ⟨w3.heap.size, 1, none⟩ = some (.slice pb l1.length cb)) := Lib.hid fun wa ba => (ba.cell (p := ⟨w3.heap.size, 1, none⟩) (by show w3.heap.size < Y.heap.size; omega)).trans ga2
      have XB : Hid (∀ wa : World, Below Y.drew.heap.size Y.drew wa → wa.cell? ⟨w3.heap.size + 1, 1, none⟩ = some (.slice pd m1.length cd)) := Lib.hid fun wa ba => (ba.cell (p := ⟨w3.heap.size + 1, 1, none⟩) gl2).trans gb2
      have XO : Hid (∀ wa : World, Below Y.drew.heap.size Y.drew wa → Owned wa W.heap.size u11 (upTo A B 1)) := Lib.hid fun wa ba => ownsKeep (ownsKeep hown2 (Below.refl _ _).drew) ba
      have XP : Hid (∀ wa : World, Below Y.drew.heap.size Y.drew wa → PreAt wa wr.heap.size true 0 0 0) := Lib.hid fun wa ba => FP.out.via (Below.refl _ _).drew ba
      have hlW : w3.heap.size < W.heap.size := by omega
      have XN : ∀ wa : World, Below Y.drew.heap.size Y.drew wa → wr.heap.size < wa.heap.size := fun wa ba => Nat.lt_of_lt_of_le ql ba.size
      have XM : u11.ownBlock ≠ some wr.heap.size := fun e => by have := hfar _ e; omega
      have hbYW : ∀ wa : World, Below Y.drew.heap.size Y.drew wa → Below W.heap.size W wa := fun wa ba => b5.drew.trans (ba.mono hYs)
      clear hown2
      go_region_held3 (fun w' => w'.cell? ⟨wr.heap.size, 0, none⟩ = some (.bool true) ∧ w'.cell? ⟨wr.heap.size, 1, none⟩ = some (.int .u64 0) ∧ w'.cell? ⟨wr.heap.size, 2, none⟩ = some (.int .u64 0) ∧ w'.cell? ⟨wr.heap.size, 3, none⟩ = some (.int .i64 0) ∧ w'.cell? ⟨w3.heap.size, 1, none⟩ = some (.slice pb l1.length cb) ∧ w'.cell? ⟨w3.heap.size + 1, 1, none⟩ = some (.slice pd m1.length cd))
        (first
          | (simp [go_sem, q0, q1, q2, q3, ga2, gb2]; done)
          | (simp [go_sem, x0, x1, x2, x3, xa, xb]; done)
          | (simp [go_sem, z0, z1, z2, z3, za, zb]; done)
          | fail)
        (first
          | (go_at_call 30; with_reducible refine (K2.out _ _ _ (RA.out.keep (Below.refl _ _).drew) (RB.out.keep (Below.refl _ _).drew)).mono ?_; rintro e wa ⟨va, rfl, oa, ba⟩; obtain ⟨x0, x1, x2, x3, _⟩ := preCells (XP.out wa ba); have xa := XA.out wa ba; have xb := XB.out wa ba; have hown3 := XO.out wa ba)
          | (refine step_append_far (by rfl) _ _ _ (by rfl) W.heap.size 33 i0 _ 4 32 Tryd.underlying28 hii hz0 hz1 hz2 rfl (by decide) _ _ _ (by rfl) hown3 _ _ _ _ (by rfl) oa (pRow_one _) hby h63 (Nat.le_trans hYs ba.size) ?_; intro ve we he0 be bk; have b6 := (hbYW _ ba).trans be; have za := (be.cell (p := ⟨w3.heap.size, 1, none⟩) hlW).trans xa; have zb := (be.cell (p := ⟨w3.heap.size + 1, 1, none⟩) gl).trans xb; have bk2 := bk wr.heap.size (XN _ ba) XM; have z0 := (World.cell?_of_block (a := ⟨wr.heap.size, 0, none⟩) bk2).trans x0; have z1 := (World.cell?_of_block (a := ⟨wr.heap.size, 1, none⟩) bk2).trans x1; have z2 := (World.cell?_of_block (a := ⟨wr.heap.size, 2, none⟩) bk2).trans x2; have z3 := (World.cell?_of_block (a := ⟨wr.heap.size, 3, none⟩) bk2).trans x3)
          | fail)
      go_wp2
      go_roundw
      case rel => exact ⟨1 + 1, by omega, by go_num, by unfold Owned; rw [show upTo A B (1 + 1) = upTo A B 1 ++ B by simp [upTo], List.length_append, pRow_app]; exact he0, b6⟩
      case measure => simp [intOf]
    | 2, _ =>
      go_wp2
      go_returns
      exact ⟨_, rfl, ownsLow hown (by have := b4.size; omega), thenBelow b4 hnx⟩
theorem upTo1 (A B : List PT) : upTo A B 1 = A := by simp [upTo]
end Go.Proofs.YtifhakoeinalaaaDoor
