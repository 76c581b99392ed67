/-
  Texts that the proof rests on, laid together: CidrM, CidrN, RefAddrOf, RefPre, RefFault, RefIn, RefSpan, RefHalves, RefWith, RefWalk, RefCheck, RefSets, RowsIn.
-/
import Derived.WalkSmall
import Derived.Deep.Slices
import Derived.Carry
import Derived.Test.YtojdlhiibffnfaaDoorM1

/-
  cidr.combine.
-/
namespace Go.Proofs.YtojdlhiibffnfaaDoor
open Go.RowKit
set_option linter.unusedVariables false
set_option linter.unusedSimpArgs false

set_option maxHeartbeats 4000000 in
theorem combine_err (l m : List PT) (vl vm : Value) (F : Nat) (E : Int) (hE : (E == 0) = false)
    (CK : Hid (∀ (W : World) (b : Nat), b < W.heap.size → RowP W vl l → RowP W vm m → W.cell? ⟨b, 0, none⟩ = some vl → W.cell? ⟨b, 1, none⟩ = some vm → Calls Tryd.prog 64 #[.slice (some ⟨b, 0, none⟩) 2 2] W fun e w' => e = .returned (.int .i64 E) ∧ Below W.heap.size W w'))
    (w : World) (rl : RowP w vl l) (rm : RowP w vm m) :
    Calls Tryd.prog 43 #[vl, vm, .func (.func F) #[] #[]] w (PresOutE [] E w) := by
  have hE2 : (E != 0) = true := by simp [bne, hE]
  have hE3 : ¬ E = 0 := by simpa using hE
  obtain ⟨p1, c1, rfl⟩ := rl.form
  obtain ⟨p2, c2, rfl⟩ := rm.form
  have RL := Lib.hid rl
  have RM := Lib.hid rm
  clear rl rm
  go_enter Tryd.func43, Tryd.ntmps43
  go_wp2_with fail
  refine (CK.out _ w.heap.size (by simp) (RL.out.keep ((Below.refl _ _).alloc (Nat.le_refl _) _)) (RM.out.keep ((Below.refl _ _).alloc (Nat.le_refl _) _)) (by simp) (by simp)).mono ?_
  rintro e w1 ⟨rfl, hb1⟩
  have b1 := thenBelow ((Below.refl _ w).alloc (Nat.le_refl _) _) hb1
  clear hb1
  go_wp2
  go_returns
  exact ⟨_, rfl, owned_nil _ _, b1⟩
/-- append(x, y...) of two rows: blocks that are not the first row's are as they were. -/
theorem step_append_far {P : Program} {w : World} {ops : Array Oper} {o : Oper} {a : Act} {K : Act → World → Prop} {Q : Exit → Act → World → Prop} {E : Prop} (hgd : o.guard = none) (s x : Operand) (t : TypeId)
    (ho : o.op = .call { callee := .builtin .append, args := #[s, x], argTypes := #[t, t] })
    (base : Nat) (e : TypeId) (i : TypeInfo) (z : Value) (size bytes : Nat) (ht : P.underlying t = some (.slice e)) (hi : P.info? e = some i) (hz : i.zero = some z)
    (hsize : i.size = size) (hby : i.bytes = bytes) (hzs : z.cells.size = size) (hsz : 0 < size)
    (v : Value) (n : Nat) (xs : List Value) (hs : a.eval s = v) (hown : w.ownsRow base e size v n xs)
    (v2 : Value) (base2 m : Nat) (ys : List Value) (hx : a.eval x = v2) (hown2 : w.ownsRow base2 e size v2 m ys) (h1 : ∀ u ∈ ys, u.oneCell' = true)
    (hbytes : (n + m) * bytes ≤ 140737488355328) (h63 : n + m ≤ maxLen) (hbase : base ≤ w.heap.size)
    (h : ∀ v' w', w'.ownsRow base e size v' (n + m) (xs ++ ys) → Below base w w' → (∀ k, k < w.heap.size → v.ownBlock ≠ some k → w'.heap[k]? = w.heap[k]?) → K (a.put o.dst v') w') :
    if Region.wanted o (yielded ops a.tmps) = true then Oper.wp P o a w K Q else E := by
  have hw : Region.wanted o (yielded ops a.tmps) = true := by simp [Region.wanted, hgd]
  rw [if_pos hw]
  rcases owns_cells hown2 with ⟨hv, h0, he⟩ | ⟨g, cap, hv, _, _, _, hc⟩
  · subst hv; subst h0; subst he
    have hrun := run_append_owned_none (P := P) (w := w) base t o.type e i size ht hi v n xs hown
    unfold Oper.wp
    simp [execOp, ho, resolve, invoke, builtin, hs, hx, hrun, Result.andThen]
    exact h v w (by simpa using hown) (Below.refl _ _) (fun _ _ _ => rfl)
  · subst hv
    exact wp_append_own w s x t ho base e i z size bytes ht hi hz hsize hby hzs hsz v n xs hs hown ⟨g, 0, none⟩ m cap ys hx hown2.1 hc h1 h63 hbytes hbase fun v' w' h2 h3 _ => h v' w' h2 (below_grown hown h3 hbase) (fun k hk hn => h3.block k hk (fun e => hn e.symm))
theorem idx_fam0 (W : World) : (Instr.index 57 (.agg #[.bool false, .int .u64 0, .int .u64 0, .int .i64 0, .bool true, .int .u64 0, .int .u64 0, .int .i64 0]) (.int .i64 0)).run Tryd.prog W = .ok (.agg #[.bool false, .int .u64 0, .int .u64 0, .int .i64 0]) W := by kernel_rfl
theorem idx_fam1 (W : World) : (Instr.index 57 (.agg #[.bool false, .int .u64 0, .int .u64 0, .int .i64 0, .bool true, .int .u64 0, .int .u64 0, .int .i64 0]) (.int .i64 1)).run Tryd.prog W = .ok (.agg #[.bool true, .int .u64 0, .int .u64 0, .int .i64 0]) W := by kernel_rfl
/-- The list behind i families. -/
def upTo (A B : List PT) (i : Nat) : List PT := (if 1 ≤ i then A else []) ++ (if 2 ≤ i then B else [])
set_option maxHeartbeats 4000000 in
set_option maxRecDepth 100000 in
theorem combine_walk (l m l0 l1 m0 m1 : List PT) (vl vm : Value) (F : Nat) (A B : List PT) (hA : A.length ≤ 100000) (hB : B.length ≤ 100000)
    (CK : Hid (∀ (W : World) (b : Nat), b < W.heap.size → RowP W vl l → RowP W vm m → W.cell? ⟨b, 0, none⟩ = some vl → W.cell? ⟨b, 1, none⟩ = some vm → Calls Tryd.prog 64 #[.slice (some ⟨b, 0, none⟩) 2 2] W fun e w' => e = .returned (.int .i64 0) ∧ Below W.heap.size W w'))
    (BY1 : Hid (∀ W : World, RowP W vl l → Calls Tryd.prog 65 #[vl] W fun e w' => (∃ v0 v1, e = .returned (.agg #[v0, v1]) ∧ Owned w' W.heap.size v0 l0 ∧ Owned w' W.heap.size v1 l1) ∧ Below W.heap.size W w'))
    (BY2 : Hid (∀ W : World, RowP W vm m → Calls Tryd.prog 65 #[vm] W fun e w' => (∃ v0 v1, e = .returned (.agg #[v0, v1]) ∧ Owned w' W.heap.size v0 m0 ∧ Owned w' W.heap.size v1 m1) ∧ Below W.heap.size W w'))
    (K1 : Hid (∀ (W : World) (va vb : Value), RowP W va l0 → RowP W vb m0 → Calls Tryd.prog 66 #[.agg #[.bool false, .int .u64 0, .int .u64 0, .int .i64 0], va, vb, .func (.func F) #[] #[]] W (PresOut A W)))
    (K2 : Hid (∀ (W : World) (va vb : Value), RowP W va l1 → RowP W vb m1 → Calls Tryd.prog 66 #[.agg #[.bool true, .int .u64 0, .int .u64 0, .int .i64 0], va, vb, .func (.func F) #[] #[]] W (PresOut B W)))
    (w : World) (rl : RowP w vl l) (rm : RowP w vm m) (hF : FamAt w) :
    Calls Tryd.prog 43 #[vl, vm, .func (.func F) #[] #[]] w (PresOutE (A ++ B) 0 w) := by
  obtain ⟨i0, hii, hz0, hz1, hz2⟩ := info_parts info_pre
  obtain ⟨p1, c1, rfl⟩ := rl.form
  obtain ⟨p2, c2, rfl⟩ := rm.form
  have RL := Lib.hid rl
  have RM := Lib.hid rm
  have FM := Lib.hid hF
  clear rl rm hF
  go_enter Tryd.func43, Tryd.ntmps43
  go_wp2_with fail
  refine (CK.out _ w.heap.size (by simp) (RL.out.keep ((Below.refl _ _).alloc (Nat.le_refl _) _)) (RM.out.keep ((Below.refl _ _).alloc (Nat.le_refl _) _)) (by simp) (by simp)).mono ?_
  rintro e w1 ⟨rfl, hb1⟩
  have b1 := thenBelow ((Below.refl _ w).alloc (Nat.le_refl _) _) hb1
  have RL := Lib.hid (RL.out.keep b1)
  have RM := Lib.hid (RM.out.keep b1)
  have FM := Lib.hid (FM.out.keep b1)
  clear hb1 CK
  go_wp2_with fail
  refine (BY1.out _ RL.out).mono ?_
  rintro e w2 ⟨⟨v0, v1, rfl, o0, o1⟩, hb2⟩
  have b2 := thenBelow b1 hb2
  have RM := Lib.hid (RM.out.keep hb2)
  have FM := Lib.hid (FM.out.keep hb2)
  clear BY1 b1 hb2
  go_wp2_with fail
  refine (BY2.out _ RM.out).mono ?_
  rintro e w3 ⟨⟨u0, u1, rfl, q0, q1⟩, hb3⟩
  have b3 := thenBelow b2 hb3
  have FM := Lib.hid (FM.out.keep hb3)
  have R0 := RowP.owned (ownsKeep o0 hb3)
  have R1 := RowP.owned (ownsKeep o1 hb3)
  have S0 := RowP.owned q0
  have S1 := RowP.owned q1
  obtain ⟨pa, ca, rfl⟩ := R0.form
  obtain ⟨pb, cb, rfl⟩ := R1.form
  obtain ⟨pc, cc, rfl⟩ := S0.form
  obtain ⟨pd, cd, rfl⟩ := S1.form
  obtain ⟨⟨f0, f1, f2, f3⟩, ⟨f4, f5, f6, f7⟩, fl⟩ := FM.out
  have fm := Nat.lt_succ_of_lt fl
  simp only [Nat.succ_eq_add_one] at fm
  have bX : Below w3.heap.size w3 ((w3.alloc (.cells #[.slice pa l0.length ca, .slice pb l1.length cb] 80)).alloc (.cells #[.slice pc m0.length cc, .slice pd m1.length cd] 80)) := ((Below.refl _ w3).alloc (Nat.le_refl _) _).alloc (by simp) _
  have HR0 := Lib.hid (R0.keep bX)
  have HR1 := Lib.hid (R1.keep bX)
  have HS0 := Lib.hid (S0.keep bX)
  have HS1 := Lib.hid (S1.keep bX)
  have b4 := thenBelow b3 bX
  have ga0 : ((w3.alloc (.cells #[.slice pa l0.length ca, .slice pb l1.length cb] 80)).alloc (.cells #[.slice pc m0.length cc, .slice pd m1.length cd] 80)).cell? ⟨w3.heap.size, 0, none⟩ = some (.slice pa l0.length ca) := by simp
  have ga1 : ((w3.alloc (.cells #[.slice pa l0.length ca, .slice pb l1.length cb] 80)).alloc (.cells #[.slice pc m0.length cc, .slice pd m1.length cd] 80)).cell? ⟨w3.heap.size, 1, none⟩ = some (.slice pb l1.length cb) := by simp
  have gb0 : ((w3.alloc (.cells #[.slice pa l0.length ca, .slice pb l1.length cb] 80)).alloc (.cells #[.slice pc m0.length cc, .slice pd m1.length cd] 80)).cell? ⟨w3.heap.size + 1, 0, none⟩ = some (.slice pc m0.length cc) := by simp
  have gb1 : ((w3.alloc (.cells #[.slice pa l0.length ca, .slice pb l1.length cb] 80)).alloc (.cells #[.slice pc m0.length cc, .slice pd m1.length cd] 80)).cell? ⟨w3.heap.size + 1, 1, none⟩ = some (.slice pd m1.length cd) := by simp
  have gl : w3.heap.size + 1 < ((w3.alloc (.cells #[.slice pa l0.length ca, .slice pb l1.length cb] 80)).alloc (.cells #[.slice pc m0.length cc, .slice pd m1.length cd] 80)).heap.size := by simp
  clear BY2 b2 hb3 o0 o1 q0 q1 R0 R1 S0 S1 RL RM bX b3
  go_wp2
  clear f0 f1 f2 f3 f4 f5 f6 f7 fl fm FM
  revert HR0 HR1 HS0 HS1 b4 ga0 ga1 gb0 gb1 gl
  generalize ((w3.alloc (.cells #[.slice pa l0.length ca, .slice pb l1.length cb] 80)).alloc (.cells #[.slice pc m0.length cc, .slice pd m1.length cd] 80)) = W
  intro HR0 HR1 HS0 HS1 b4 ga0 ga1 gb0 gb1 gl
  go_loopw [11, 26] (fun v i wr => ∃ j : Nat, j ≤ 2 ∧ i = .int .i64 j ∧ Owned wr W.heap.size v (upTo A B j) ∧ Below W.heap.size W wr) (fun _ i _ => 2 - (intOf i).toNat)
  case atStart => exact ⟨0, by omega, rfl, owned_nil _ _, Below.refl _ _⟩
  case round =>
    obtain ⟨j, hj, rfl, hown, hnx⟩ := hrel
    have hsz := hnx.size
    match j, hj with
    | 0, _ =>
      have ga : wr.cell? ⟨w3.heap.size, 0, none⟩ = some (.slice pa l0.length ca) := (hnx.cell (p := ⟨w3.heap.size, 0, none⟩) (by show w3.heap.size < W.heap.size; omega)).trans ga0
      have gb : wr.cell? ⟨w3.heap.size + 1, 0, none⟩ = some (.slice pc m0.length cc) := (hnx.cell (p := ⟨w3.heap.size + 1, 0, none⟩) gl).trans gb0
      have bq : Below wr.heap.size wr (wr.alloc (.cells #[.bool false, .int .u64 0, .int .u64 0, .int .i64 0] 44)) := (Below.refl _ wr).alloc (Nat.le_refl _) _
      have GP := PreAt.new wr false 0 0 0 44
      have RA := Lib.hid ((HR0.out.keep hnx).keep bq)
      have RB := Lib.hid ((HS0.out.keep hnx).keep bq)
      have hown2 := ownsKeep hown bq
      have b5 := thenBelow hnx bq
      have ga2 := (bq.cell (p := ⟨w3.heap.size, 0, none⟩) (by show w3.heap.size < wr.heap.size; omega)).trans ga
      have gb2 := (bq.cell (p := ⟨w3.heap.size + 1, 0, none⟩) (by show w3.heap.size + 1 < wr.heap.size; omega)).trans gb
      have hlA : (upTo A B 0).length ≤ 200000 := by simp [upTo]; try omega
      have hix := idx_fam0
      have hfar : ∀ q, u11.ownBlock = some q → q < wr.heap.size := fun q hq => (hown.lt q hq).2
      clear ga gb ga0 ga1 gb0 gb1 HR0 HR1 HS0 HS1 hown
      go_wp2_with fail
      revert GP RA RB hown2 b5 ga2 gb2
      clear bq
      generalize wr.alloc (.cells #[.bool false, .int .u64 0, .int .u64 0, .int .i64 0] 44) = Y
      intro GP RA RB hown2 b5 ga2 gb2
      have FP := Lib.hid GP
      obtain ⟨q0, q1, q2, q3, ql⟩ := GP
      have gl2 : w3.heap.size + 1 < Y.heap.size := by have := b5.size; omega
      have hby : ((upTo A B 0).length + A.length) * 32 ≤ 140737488355328 := by omega
      have h63 : (upTo A B 0).length + A.length ≤ maxLen := by unfold maxLen; omega
      have hYs : W.heap.size ≤ Y.heap.size := b5.size
      have XA : Hid (∀ wa : World, Below Y.drew.heap.size Y.drew wa → wa.cell? ⟨w3.heap.size, 0, none⟩ = some (.slice pa l0.length ca)) := Lib.hid fun wa ba => (ba.cell (p := ⟨w3.heap.size, 0, none⟩) (by show w3.heap.size < Y.heap.size; omega)).trans ga2
      have XB : Hid (∀ wa : World, Below Y.drew.heap.size Y.drew wa → wa.cell? ⟨w3.heap.size + 1, 0, none⟩ = some (.slice pc m0.length cc)) := Lib.hid fun wa ba => (ba.cell (p := ⟨w3.heap.size + 1, 0, none⟩) gl2).trans gb2
      have XO : Hid (∀ wa : World, Below Y.drew.heap.size Y.drew wa → Owned wa W.heap.size u11 (upTo A B 0)) := Lib.hid fun wa ba => ownsKeep (ownsKeep hown2 (Below.refl _ _).drew) ba
      have XP : Hid (∀ wa : World, Below Y.drew.heap.size Y.drew wa → PreAt wa wr.heap.size false 0 0 0) := Lib.hid fun wa ba => FP.out.via (Below.refl _ _).drew ba
      have hlW : w3.heap.size < W.heap.size := by omega
      have XN : ∀ wa : World, Below Y.drew.heap.size Y.drew wa → wr.heap.size < wa.heap.size := fun wa ba => Nat.lt_of_lt_of_le ql ba.size
      have XM : u11.ownBlock ≠ some wr.heap.size := fun e => by have := hfar _ e; omega
      have hbYW : ∀ wa : World, Below Y.drew.heap.size Y.drew wa → Below W.heap.size W wa := fun wa ba => b5.drew.trans (ba.mono hYs)
      clear hown2
      go_region_held3 (fun w' => w'.cell? ⟨wr.heap.size, 0, none⟩ = some (.bool false) ∧ w'.cell? ⟨wr.heap.size, 1, none⟩ = some (.int .u64 0) ∧ w'.cell? ⟨wr.heap.size, 2, none⟩ = some (.int .u64 0) ∧ w'.cell? ⟨wr.heap.size, 3, none⟩ = some (.int .i64 0) ∧ w'.cell? ⟨w3.heap.size, 0, none⟩ = some (.slice pa l0.length ca) ∧ w'.cell? ⟨w3.heap.size + 1, 0, none⟩ = some (.slice pc m0.length cc))
        (first
          | (simp [go_sem, q0, q1, q2, q3, ga2, gb2]; done)
          | (simp [go_sem, x0, x1, x2, x3, xa, xb]; done)
          | (simp [go_sem, z0, z1, z2, z3, za, zb]; done)
          | fail)
        (first
          | (go_at_call 66; with_reducible refine (K1.out _ _ _ (RA.out.keep (Below.refl _ _).drew) (RB.out.keep (Below.refl _ _).drew)).mono ?_; rintro e wa ⟨va, rfl, oa, ba⟩; obtain ⟨x0, x1, x2, x3, _⟩ := preCells (XP.out wa ba); have xa := XA.out wa ba; have xb := XB.out wa ba; have hown3 := XO.out wa ba)
          | (refine step_append_far (by rfl) _ _ _ (by rfl) W.heap.size 44 i0 _ 4 32 Tryd.underlying25 hii hz0 hz1 hz2 rfl (by decide) _ _ _ (by rfl) hown3 _ _ _ _ (by rfl) oa (pRow_one _) hby h63 (Nat.le_trans hYs ba.size) ?_; intro ve we he0 be bk; have b6 := (hbYW _ ba).trans be; have za := (be.cell (p := ⟨w3.heap.size, 0, none⟩) hlW).trans xa; have zb := (be.cell (p := ⟨w3.heap.size + 1, 0, none⟩) gl).trans xb; have bk2 := bk wr.heap.size (XN _ ba) XM; have z0 := (World.cell?_of_block (a := ⟨wr.heap.size, 0, none⟩) bk2).trans x0; have z1 := (World.cell?_of_block (a := ⟨wr.heap.size, 1, none⟩) bk2).trans x1; have z2 := (World.cell?_of_block (a := ⟨wr.heap.size, 2, none⟩) bk2).trans x2; have z3 := (World.cell?_of_block (a := ⟨wr.heap.size, 3, none⟩) bk2).trans x3)
          | fail)
      go_wp2
      go_roundw
      case rel => exact ⟨0 + 1, by omega, by go_num, by unfold Owned; rw [show upTo A B (0 + 1) = upTo A B 0 ++ A by simp [upTo], List.length_append, pRow_app]; exact he0, b6⟩
      case measure => simp [intOf]
    | 1, _ =>
      have ga : wr.cell? ⟨w3.heap.size, 1, none⟩ = some (.slice pb l1.length cb) := (hnx.cell (p := ⟨w3.heap.size, 1, none⟩) (by show w3.heap.size < W.heap.size; omega)).trans ga1
      have gb : wr.cell? ⟨w3.heap.size + 1, 1, none⟩ = some (.slice pd m1.length cd) := (hnx.cell (p := ⟨w3.heap.size + 1, 1, none⟩) gl).trans gb1
      have bq : Below wr.heap.size wr (wr.alloc (.cells #[.bool true, .int .u64 0, .int .u64 0, .int .i64 0] 44)) := (Below.refl _ wr).alloc (Nat.le_refl _) _
      have GP := PreAt.new wr true 0 0 0 44
      have RA := Lib.hid ((HR1.out.keep hnx).keep bq)
      have RB := Lib.hid ((HS1.out.keep hnx).keep bq)
      have hown2 := ownsKeep hown bq
      have b5 := thenBelow hnx bq
      have ga2 := (bq.cell (p := ⟨w3.heap.size, 1, none⟩) (by show w3.heap.size < wr.heap.size; omega)).trans ga
      have gb2 := (bq.cell (p := ⟨w3.heap.size + 1, 1, none⟩) (by show w3.heap.size + 1 < wr.heap.size; omega)).trans gb
      have hlA : (upTo A B 1).length ≤ 200000 := by simp [upTo]; try omega
      have hix := idx_fam1
      have hfar : ∀ q, u11.ownBlock = some q → q < wr.heap.size := fun q hq => (hown.lt q hq).2
      clear ga gb ga0 ga1 gb0 gb1 HR0 HR1 HS0 HS1 hown
      go_wp2_with fail
      revert GP RA RB hown2 b5 ga2 gb2
      clear bq
      generalize wr.alloc (.cells #[.bool true, .int .u64 0, .int .u64 0, .int .i64 0] 44) = Y
      intro GP RA RB hown2 b5 ga2 gb2
      have FP := Lib.hid GP
      obtain ⟨q0, q1, q2, q3, ql⟩ := GP
      have gl2 : w3.heap.size + 1 < Y.heap.size := by have := b5.size; omega
      have hby : ((upTo A B 1).length + B.length) * 32 ≤ 140737488355328 := by omega
      have h63 : (upTo A B 1).length + B.length ≤ maxLen := by unfold maxLen; omega
      have hYs : W.heap.size ≤ Y.heap.size := b5.size
      have XA : Hid (∀ wa : World, Below Y.drew.heap.size Y.drew wa → wa.cell? ⟨w3.heap.size, 1, none⟩ = some (.slice pb l1.length cb)) := Lib.hid fun wa ba => (ba.cell (p := ⟨w3.heap.size, 1, none⟩) (by show w3.heap.size < Y.heap.size; omega)).trans ga2
      have XB : Hid (∀ wa : World, Below Y.drew.heap.size Y.drew wa → wa.cell? ⟨w3.heap.size + 1, 1, none⟩ = some (.slice pd m1.length cd)) := Lib.hid fun wa ba => (ba.cell (p := ⟨w3.heap.size + 1, 1, none⟩) gl2).trans gb2
      have XO : Hid (∀ wa : World, Below Y.drew.heap.size Y.drew wa → Owned wa W.heap.size u11 (upTo A B 1)) := Lib.hid fun wa ba => ownsKeep (ownsKeep hown2 (Below.refl _ _).drew) ba
      have XP : Hid (∀ wa : World, Below Y.drew.heap.size Y.drew wa → PreAt wa wr.heap.size true 0 0 0) := Lib.hid fun wa ba => FP.out.via (Below.refl _ _).drew ba
      have hlW : w3.heap.size < W.heap.size := by omega
      have XN : ∀ wa : World, Below Y.drew.heap.size Y.drew wa → wr.heap.size < wa.heap.size := fun wa ba => Nat.lt_of_lt_of_le ql ba.size
      have XM : u11.ownBlock ≠ some wr.heap.size := fun e => by have := hfar _ e; omega
      have hbYW : ∀ wa : World, Below Y.drew.heap.size Y.drew wa → Below W.heap.size W wa := fun wa ba => b5.drew.trans (ba.mono hYs)
      clear hown2
      go_region_held3 (fun w' => w'.cell? ⟨wr.heap.size, 0, none⟩ = some (.bool true) ∧ w'.cell? ⟨wr.heap.size, 1, none⟩ = some (.int .u64 0) ∧ w'.cell? ⟨wr.heap.size, 2, none⟩ = some (.int .u64 0) ∧ w'.cell? ⟨wr.heap.size, 3, none⟩ = some (.int .i64 0) ∧ w'.cell? ⟨w3.heap.size, 1, none⟩ = some (.slice pb l1.length cb) ∧ w'.cell? ⟨w3.heap.size + 1, 1, none⟩ = some (.slice pd m1.length cd))
        (first
          | (simp [go_sem, q0, q1, q2, q3, ga2, gb2]; done)
          | (simp [go_sem, x0, x1, x2, x3, xa, xb]; done)
          | (simp [go_sem, z0, z1, z2, z3, za, zb]; done)
          | fail)
        (first
          | (go_at_call 66; with_reducible refine (K2.out _ _ _ (RA.out.keep (Below.refl _ _).drew) (RB.out.keep (Below.refl _ _).drew)).mono ?_; rintro e wa ⟨va, rfl, oa, ba⟩; obtain ⟨x0, x1, x2, x3, _⟩ := preCells (XP.out wa ba); have xa := XA.out wa ba; have xb := XB.out wa ba; have hown3 := XO.out wa ba)
          | (refine step_append_far (by rfl) _ _ _ (by rfl) W.heap.size 44 i0 _ 4 32 Tryd.underlying25 hii hz0 hz1 hz2 rfl (by decide) _ _ _ (by rfl) hown3 _ _ _ _ (by rfl) oa (pRow_one _) hby h63 (Nat.le_trans hYs ba.size) ?_; intro ve we he0 be bk; have b6 := (hbYW _ ba).trans be; have za := (be.cell (p := ⟨w3.heap.size, 1, none⟩) hlW).trans xa; have zb := (be.cell (p := ⟨w3.heap.size + 1, 1, none⟩) gl).trans xb; have bk2 := bk wr.heap.size (XN _ ba) XM; have z0 := (World.cell?_of_block (a := ⟨wr.heap.size, 0, none⟩) bk2).trans x0; have z1 := (World.cell?_of_block (a := ⟨wr.heap.size, 1, none⟩) bk2).trans x1; have z2 := (World.cell?_of_block (a := ⟨wr.heap.size, 2, none⟩) bk2).trans x2; have z3 := (World.cell?_of_block (a := ⟨wr.heap.size, 3, none⟩) bk2).trans x3)
          | fail)
      go_wp2
      go_roundw
      case rel => exact ⟨1 + 1, by omega, by go_num, by unfold Owned; rw [show upTo A B (1 + 1) = upTo A B 1 ++ B by simp [upTo], List.length_append, pRow_app]; exact he0, b6⟩
      case measure => simp [intOf]
    | 2, _ =>
      go_wp2
      go_returns
      exact ⟨_, rfl, ownsLow hown (by have := b4.size; omega), thenBelow b4 hnx⟩
theorem upTo1 (A B : List PT) : upTo A B 1 = A := by simp [upTo]
end Go.Proofs.YtojdlhiibffnfaaDoor

/-
  cidr.Merge, cidr.Minus, cidr.Both: what they answer.
-/
namespace Go.Proofs.YtojdlhiibffnfaaDoor
open Go.RowKit
set_option linter.unusedVariables false
set_option linter.unusedSimpArgs false

theorem ferr0 : ∀ {l : List PT}, ferr l = 0 → ∀ p ∈ l, chkP p = 0
  | [], _, p, hp => by cases hp
  | q :: t, h, p, hp => by
    unfold ferr at h
    split at h
    · rename_i hq
      cases hp with
      | head => exact hq
      | tail _ ht => exact ferr0 h p ht
    · rename_i hq; exact absurd h hq
theorem chk_al {p : PT} (h : chkP p = 0) : ∃ k, AL p.1 p.2.1 k ∧ p.2.2 = ((wideN p.1 - k : Nat) : Int) ∧ k = wideN p.1 - p.2.2.toNat := by
  obtain ⟨hx, n, hn, hnW, hlow⟩ := chk0 h
  refine ⟨wideN p.1 - n, ⟨by omega, ?_, p.2.1 / 2 ^ (wideN p.1 - n), hlow.symm⟩, by rw [hn]; omega, by rw [hn]; simp⟩
  generalize hk : wideN p.1 - n = k at hlow ⊢
  unfold lowN at hlow
  obtain ⟨c, hc⟩ : ∃ c, p.2.1 / 2 ^ k = c := ⟨_, rfl⟩
  rw [hc] at hlow
  have e : 2 ^ wideN p.1 = 2 ^ (wideN p.1 - k) * 2 ^ k := by rw [← Nat.pow_add]; congr 1; omega
  rw [e] at hx ⊢
  rw [← hlow] at hx ⊢
  have hlt : c < 2 ^ (wideN p.1 - k) := Nat.lt_of_mul_lt_mul_right hx
  have := Nat.mul_le_mul_right (2 ^ k) hlt
  rw [Nat.succ_eq_add_one, Nat.add_mul] at this
  omega
/-- The prefixes of one family, as blocks. -/
def fb (six : Bool) (l : List PT) : BL := (l.filter (·.1 == six)).map fun p => (p.2.1, wideN six - p.2.2.toNat)
def AllOK (l : List PT) : Prop := ∀ p ∈ l, chkP p = 0
theorem fb_map (six : Bool) {l : List PT} (h : AllOK l) : (fb six l).map (bl six) = l.filter (·.1 == six) := by
  unfold fb
  rw [List.map_map]
  conv => rhs; rw [← List.map_id (l.filter (·.1 == six))]
  refine List.map_congr_left fun p hp => ?_
  obtain ⟨hm, hs⟩ := List.mem_filter.1 hp
  have hs : p.1 = six := by simpa using hs
  obtain ⟨k, hA, hn, hk⟩ := chk_al (h p hm)
  obtain ⟨s, x, n⟩ := p
  simp only at hs hA hn hk
  subst hs
  simp only [Function.comp, bl, id, Prod.mk.injEq, true_and]
  have := hA.1
  omega
theorem fb_al (six : Bool) {l : List PT} (h : AllOK l) : AllAL six (fb six l) := by
  intro q hq
  obtain ⟨p, hp, rfl⟩ := List.mem_map.1 hq
  obtain ⟨hm, hs⟩ := List.mem_filter.1 hp
  have hs : p.1 = six := by simpa using hs
  obtain ⟨k, hA, hn, hk⟩ := chk_al (h p hm)
  obtain ⟨s, x, n⟩ := p
  simp only at hs hA hn hk ⊢
  subst hs
  rw [← hk]; exact hA
theorem fb_len (six : Bool) (l : List PT) : (fb six l).length ≤ l.length := by
  unfold fb; rw [List.length_map]; exact List.length_filter_le _ _
/-- The addresses that are chosen, of both families. -/
noncomputable def famE (six : Bool) (c : Bool → Bool → Bool) (l m : List PT) : List PT := cn six (chS c (fb six l) (fb six m)) (wideN six) 0
noncomputable def setE (c : Bool → Bool → Bool) (l m : List PT) : List PT := famE false c l m ++ famE true c l m
noncomputable def ansL (c : Bool → Bool → Bool) (l m : List PT) : List PT := if listsE l m = 0 then setE c l m else []
theorem lists0 {l m : List PT} (h : listsE l m = 0) : l.length ≤ 80 ∧ m.length ≤ 80 ∧ AllOK l ∧ AllOK m := by
  unfold listsE at h
  split at h
  · omega
  · rename_i hs
    split at h
    · rename_i hl; exact ⟨by omega, by omega, ferr0 hl, ferr0 h⟩
    · rename_i hl; exact absurd h hl
theorem famE_len (six : Bool) (c : Bool → Bool → Bool) {l m : List PT} (hl : AllOK l) (hm : AllOK m) (n1 : l.length ≤ 80) (n2 : m.length ≤ 80) : (famE six c l m).length ≤ 100000 := by
  have := cn_len' (fb_al six hl) (fb_al six hm) (c := c) (AL.top six)
  have := fb_len six l
  have := fb_len six m
  unfold famE; omega
theorem cw_fam {F : Nat} {c : Bool → Bool → Bool} (hc : Chooses F c) (six : Bool) {l m : List PT} (hl : AllOK l) (hm : AllOK m) (n1 : l.length ≤ 80) (n2 : m.length ≤ 80) (W : World) (va vb : Value) (h1 : RowP W va (l.filter (·.1 == six))) (h2 : RowP W vb (m.filter (·.1 == six))) :
    Calls Tryd.prog 66 #[.agg #[.bool six, .int .u64 0, .int .u64 0, .int .i64 0], va, vb, .func (.func F) #[] #[]] W (PresOut (famE six c l m) W) := by
  rw [← fb_map six hl] at h1
  rw [← fb_map six hm] at h2
  have l1 := fb_len six l
  have l2 := fb_len six m
  have := cw_calls hc (six := six) (wideN six) 0 (fb six l) (fb six m) (AL.top six) (fb_al six hl) (fb_al six hm) (by omega) (by omega) W va vb h1 h2
  rw [Nat.sub_self] at this
  exact this
theorem combine_calls {F : Nat} {c : Bool → Bool → Bool} (hc : Chooses F c) (l m : List PT) (vl vm : Value) (hn : l.length ≤ 9223372036854775807) (hm : m.length ≤ 9223372036854775807) (wl : Words l) (wm : Words m) (w : World) (rl : RowP w vl l) (rm : RowP w vm m) (hF : FamAt w) :
    Calls Tryd.prog 43 #[vl, vm, .func (.func F) #[] #[]] w (PresOutE (ansL c l m) (listsE l m) w) := by
  have CK : ∀ (W : World) (b : Nat), b < W.heap.size → RowP W vl l → RowP W vm m → W.cell? ⟨b, 0, none⟩ = some vl → W.cell? ⟨b, 1, none⟩ = some vm → Calls Tryd.prog 64 #[.slice (some ⟨b, 0, none⟩) 2 2] W fun e w' => e = .returned (.int .i64 (listsE l m)) ∧ Below W.heap.size W w' :=
    fun W b hb h1 h2 h3 h4 => cidrCheck l m vl vm hn hm wl wm b W hb h1 h2 h3 h4
  unfold ansL
  by_cases h : listsE l m = 0
  · rw [if_pos h, h]
    rw [h] at CK
    obtain ⟨n1, n2, ol, om⟩ := lists0 h
    exact combine_walk l m _ _ _ _ vl vm F (famE false c l m) (famE true c l m) (famE_len false c ol om n1 n2) (famE_len true c ol om n1 n2) (Lib.hid CK) (Lib.hid fun W h => byFam_calls l vl (by omega) W h) (Lib.hid fun W h => byFam_calls m vm (by omega) W h) (Lib.hid fun W va vb h1 h2 => cw_fam hc false ol om n1 n2 W va vb h1 h2) (Lib.hid fun W va vb h1 h2 => cw_fam hc true ol om n1 n2 W va vb h1 h2) w rl rm hF
  · rw [if_neg h]
    exact combine_err l m vl vm F _ (by simpa using h) (Lib.hid CK) w rl rm
theorem enters (F : Nat) (fn : Func) (hf : Tryd.prog.funcs[F]? = some fn) (hn : (fn.name == "runtime.NumGoroutine") = false) (hb : fn.body.isNone = false) (args : Array Value) (W : World) : Sem.run Tryd.prog (callFunc F args) W = .ok (.enter F args) W := by
  have hn' : ¬ fn.name = "runtime.NumGoroutine" := by simpa using hn
  have hb' : ¬ fn.body = none := by intro h; rw [h] at hb; cases hb
  unfold callFunc
  simp [go_sem, hf, hn', hb']
theorem ch_merge : Chooses 44 (fun a _ => a) :=
  ⟨enters _ _ Tryd.func44 (by kernel_rfl) (by kernel_rfl), fun a b W => by
    go_enter Tryd.func44, Tryd.ntmps44
    go_wp2
    go_returns
    exact ⟨rfl, Below.refl _ _⟩⟩
theorem ch_minus : Chooses 47 (fun a b => a && !b) :=
  ⟨enters _ _ Tryd.func47 (by kernel_rfl) (by kernel_rfl), fun a b W => by
    cases a <;> cases b
    all_goals
      go_enter Tryd.func47, Tryd.ntmps47
      go_wp2
      go_returns
      exact ⟨rfl, Below.refl _ _⟩⟩
theorem ch_both : Chooses 49 (fun a b => a && b) :=
  ⟨enters _ _ Tryd.func49 (by kernel_rfl) (by kernel_rfl), fun a b W => by
    cases a <;> cases b
    all_goals
      go_enter Tryd.func49, Tryd.ntmps49
      go_wp2
      go_returns
      exact ⟨rfl, Below.refl _ _⟩⟩
theorem row_nil (w : World) : RowP w (.slice none 0 0) [] := .inl ⟨rfl, none, 0, rfl⟩
theorem words_nil : Words [] := fun p hp => by cases hp
theorem merge_calls (l : List PT) (vl : Value) (hn : l.length ≤ 9223372036854775807) (wl : Words l) (w : World) (rl : RowP w vl l) (hF : FamAt w) :
    Calls Tryd.prog 15 #[vl] w (PresOutE (ansL (fun a _ => a) l []) (listsE l []) w) := by
  have K := Lib.hid (combine_calls ch_merge l [] vl (.slice none 0 0) hn (by simp) wl words_nil w rl (row_nil _) hF)
  generalize ansL (fun a _ => a) l [] = R at K ⊢
  generalize listsE l [] = E at K ⊢
  clear rl hF wl
  go_enter Tryd.func15, Tryd.ntmps15
  go_wp2_with fail
  refine K.out.mono ?_
  rintro e w1 ⟨v, rfl, ho, hb⟩
  go_wp2
  go_returns
  exact ⟨_, rfl, ho, hb⟩
theorem minus_calls (l m : List PT) (vl vm : Value) (hn : l.length ≤ 9223372036854775807) (hm : m.length ≤ 9223372036854775807) (wl : Words l) (wm : Words m) (w : World) (rl : RowP w vl l) (rm : RowP w vm m) (hF : FamAt w) :
    Calls Tryd.prog 17 #[vl, vm] w (PresOutE (ansL (fun a b => a && !b) l m) (listsE l m) w) := by
  have K := Lib.hid (combine_calls ch_minus l m vl vm hn hm wl wm w rl rm hF)
  generalize ansL (fun a b => a && !b) l m = R at K ⊢
  generalize listsE l m = E at K ⊢
  clear rl rm hF wl wm
  go_enter Tryd.func17, Tryd.ntmps17
  go_wp2_with fail
  refine K.out.mono ?_
  rintro e w1 ⟨v, rfl, ho, hb⟩
  go_wp2
  go_returns
  exact ⟨_, rfl, ho, hb⟩
theorem bothL_calls (l m : List PT) (vl vm : Value) (hn : l.length ≤ 9223372036854775807) (hm : m.length ≤ 9223372036854775807) (wl : Words l) (wm : Words m) (w : World) (rl : RowP w vl l) (rm : RowP w vm m) (hF : FamAt w) :
    Calls Tryd.prog 19 #[vl, vm] w (PresOutE (ansL (fun a b => a && b) l m) (listsE l m) w) := by
  have K := Lib.hid (combine_calls ch_both l m vl vm hn hm wl wm w rl rm hF)
  generalize ansL (fun a b => a && b) l m = R at K ⊢
  generalize listsE l m = E at K ⊢
  clear rl rm hF wl wm
  go_enter Tryd.func19, Tryd.ntmps19
  go_wp2_with fail
  refine K.out.mono ?_
  rintro e w1 ⟨v, rfl, ho, hb⟩
  go_wp2
  go_returns
  exact ⟨_, rfl, ho, hb⟩
end Go.Proofs.YtojdlhiibffnfaaDoor

/-
  The contract of the document's addrOf.
-/
namespace Go.Proofs.YtojdlhiibffnfaaDoor
open Go.RowKit
set_option linter.unusedVariables false
set_option linter.unusedSimpArgs false

theorem two_alloc {w : World} {g k : Nat} {u : Value} (hg : g < w.heap.size) (h : w.cell? ⟨g, k, none⟩ = some u) (o1 o2 : Obj) : ((w.alloc o1).alloc o2).cell? ⟨g, k, none⟩ = some u := by
  rw [World.cell?_alloc_lt _ _ _ (by simp; omega), World.cell?_alloc_lt _ _ _ hg]; exact h

set_option maxHeartbeats 1000000 in
set_option maxRecDepth 100000 in
theorem addrOf_six (l : List Int) (hl : l.length = 128) (h01 : ∀ b ∈ l, b = 0 ∨ b = 1) (g cap : Nat) (w : World) (hg : g < w.heap.size) (hc : ∀ j u, l[j]? = some u → w.cell? ⟨g, j, none⟩ = some (.int .i64 u)) :
    Calls Tryd.prog 63 #[.slice (some ⟨g, 0, none⟩) 128 cap] w fun e w' => e = .returned (.agg #[.bool true, .int .u64 (spell (l.take 64)), .int .u64 (spell (l.drop 64))]) ∧ Below w.heap.size w w' := by
  have HL := Lib.hid hl; have H01 := Lib.hid h01; have HC := Lib.hid hc
  clear hl h01 hc
  go_enter Tryd.func63, Tryd.ntmps63
  go_wp2
  go_loopw [12] (fun i wr => ∃ k : Nat, k ≤ 128 ∧ i = .int .i64 k ∧ wr = (w.alloc (.cells #[.bool false, .int .u64 0, .int .u64 0] 24)).alloc (.cells #[.bool true, .int .u64 (hiTo l k), .int .u64 (loTo l k)] 24))
    (fun i _ => 128 - (intOf i).toNat)
  case atStart => exact ⟨0, by omega, rfl, by simp [hiTo, loTo, spell_nil]⟩
  case round =>
    obtain ⟨k, hk, rfl, rfl⟩ := hrel
    by_cases hlt : k < 128
    · have hkl : k < l.length := by rw [HL.out]; exact hlt
      obtain ⟨b, hb⟩ : ∃ b, b = l[k] := ⟨_, rfl⟩
      have HB := Lib.hid hb
      have hcell := two_alloc hg (HC.out k b (by rw [hb]; exact List.getElem?_eq_getElem hkl))
      have hb01 : b = 0 ∨ b = 1 := H01.out b (by rw [hb]; exact List.getElem_mem hkl)
      have hb0 : 0 ≤ b := by omega
      have hb1 : b ≤ 1 := by omega
      clear hb01 hb
      by_cases h64 : k < 64
      · have bd := hiTo_bd l k h64 H01.out
        have S1 := Lib.hid (hiTo_lt l k h64 hkl)
        have S2 := Lib.hid (loTo_lt l k h64)
        obtain ⟨bd0, bd1⟩ := bd
        go_wp2
        go_roundw
        case rel => exact ⟨k + 1, by omega, by go_num, by rw [S1.out, S2.out, HB.out]⟩
        case measure => simp [intOf]; omega
      · have bd := loTo_bd l k hlt H01.out
        have S1 := Lib.hid (hiTo_ge l k (by omega))
        have S2 := Lib.hid (loTo_ge l k (by omega) hkl)
        obtain ⟨bd0, bd1⟩ := bd
        go_wp2
        go_roundw
        case rel => exact ⟨k + 1, by omega, by go_num, by rw [S1.out, S2.out, HB.out]⟩
        case measure => simp [intOf]; omega
    · obtain rfl : k = 128 := by omega
      have e1 : hiTo l 128 = spell (l.take 64) := by simp [hiTo]
      have e2 : loTo l 128 = spell (l.drop 64) := by unfold loTo; rw [List.take_of_length_le (by rw [HL.out]; omega)]
      rw [e1, e2]
      clear e1 e2
      go_wp2
      go_returns
      exact ⟨rfl, by go_grown⟩

set_option maxHeartbeats 1000000 in
set_option maxRecDepth 100000 in
theorem addrOf_four (l : List Int) (hl : l.length = 32) (h01 : ∀ b ∈ l, b = 0 ∨ b = 1) (g cap : Nat) (w : World) (hg : g < w.heap.size) (hc : ∀ j u, l[j]? = some u → w.cell? ⟨g, j, none⟩ = some (.int .i64 u)) :
    Calls Tryd.prog 63 #[.slice (some ⟨g, 0, none⟩) 32 cap] w fun e w' => e = .returned (.agg #[.bool false, .int .u64 0, .int .u64 (spell l)]) ∧ Below w.heap.size w w' := by
  have HL := Lib.hid hl; have H01 := Lib.hid h01; have HC := Lib.hid hc
  clear hl h01 hc
  go_enter Tryd.func63, Tryd.ntmps63
  go_wp2
  go_loopw [12] (fun i wr => ∃ k : Nat, k ≤ 32 ∧ i = .int .i64 k ∧ wr = (w.alloc (.cells #[.bool false, .int .u64 0, .int .u64 0] 24)).alloc (.cells #[.bool false, .int .u64 0, .int .u64 (fourTo l k)] 24))
    (fun i _ => 32 - (intOf i).toNat)
  case atStart => exact ⟨0, by omega, rfl, by simp [fourTo, spell_nil]⟩
  case round =>
    obtain ⟨k, hk, rfl, rfl⟩ := hrel
    by_cases hlt : k < 32
    · have hkl : k < l.length := by rw [HL.out]; exact hlt
      obtain ⟨b, hb⟩ : ∃ b, b = l[k] := ⟨_, rfl⟩
      have HB := Lib.hid hb
      have hcell := two_alloc hg (HC.out k b (by rw [hb]; exact List.getElem?_eq_getElem hkl))
      have hb01 : b = 0 ∨ b = 1 := H01.out b (by rw [hb]; exact List.getElem_mem hkl)
      have hb0 : 0 ≤ b := by omega
      have hb1 : b ≤ 1 := by omega
      clear hb01 hb
      have bd := fourTo_bd l k (by omega) H01.out
      have S1 := Lib.hid (fourTo_succ l k hkl)
      obtain ⟨bd0, bd1⟩ := bd
      go_wp2
      go_roundw
      case rel => exact ⟨k + 1, by omega, by go_num, by rw [S1.out, HB.out]⟩
      case measure => simp [intOf]; omega
    · obtain rfl : k = 32 := by omega
      have e1 : fourTo l 32 = spell l := by unfold fourTo; rw [List.take_of_length_le (by rw [HL.out]; omega)]
      rw [e1]
      clear e1
      go_wp2
      go_returns
      exact ⟨rfl, by go_grown⟩

end Go.Proofs.YtojdlhiibffnfaaDoor

/-
  The document's bitsOf and addrOf, by the number of the address: bits in a block of memory.
-/
namespace Go.Proofs.YtojdlhiibffnfaaDoor
open Go.RowKit
set_option linter.unusedVariables false
set_option linter.unusedSimpArgs false

/-- A bit as an int. -/
def bI (b : Bool) : Int := if b then 1 else 0
/-- The first bit of an address, the second one .. -/
def fB (six : Bool) (x j : Nat) : Bool := x.testBit (wideN six - 1 - j)
/-- Block g holds these W bits, and they may be written. -/
def BitsF (w : World) (g W : Nat) (f : Nat → Bool) : Prop := (∀ j, j < W → w.cell? ⟨g, j, none⟩ = some (.int .i64 (bI (f j)))) ∧ (∀ j, w.frozen? ⟨g, j, none⟩ = false) ∧ g < w.heap.size
theorem BitsF.keep {w w' : World} {g W : Nat} {f : Nat → Bool} (h : BitsF w g W f) (hb : Below w.heap.size w w') : BitsF w' g W f :=
  ⟨fun j hj => (hb.cell (p := ⟨g, j, none⟩) h.2.2).trans (h.1 j hj), fun j => (hb.frozen (p := ⟨g, j, none⟩) h.2.2).trans (h.2.1 j), Nat.lt_of_lt_of_le h.2.2 hb.size⟩
theorem BitsF.alloc {w : World} {g W : Nat} {f : Nat → Bool} (h : BitsF w g W f) (o : Obj) : BitsF (w.alloc o) g W f := h.keep ((Below.refl _ _).alloc (Nat.le_refl _) o)
theorem BitsF.drew {w : World} {g W : Nat} {f : Nat → Bool} (h : BitsF w g W f) : BitsF w.drew g W f := h.keep (Below.refl _ _).drew
theorem BitsF.congr {w : World} {g W : Nat} {f f' : Nat → Bool} (h : BitsF w g W f) (e : ∀ j, j < W → f j = f' j) : BitsF w g W f' :=
  ⟨fun j hj => by rw [← e j hj]; exact h.1 j hj, h.2⟩
theorem BitsF.far {w : World} {g W : Nat} {f : Nat → Bool} (h : BitsF w g W f) {p : Addr} (hp : g ≠ p.block) (u : Value) : BitsF (w.setCell p u) g W f := by
  have ne : ∀ o, p ≠ ⟨g, o, none⟩ := fun o e => hp (by rw [e])
  exact ⟨fun j hj => (World.cell?_setCell_other w p _ u (ne j)).trans (h.1 j hj), fun j => by rw [World.frozen?_setCell]; exact h.2.1 j, by simpa using h.2.2⟩
theorem BitsF.set {w : World} {g W : Nat} {f : Nat → Bool} (h : BitsF w g W f) (k : Nat) (hk : k < W) (v : Bool) : BitsF (w.setCell ⟨g, k, none⟩ (.int .i64 (bI v))) g W (fun j => if j = k then v else f j) := by
  refine ⟨fun j hj => ?_, fun j => by rw [World.frozen?_setCell]; exact h.2.1 j, by simpa using h.2.2⟩
  by_cases e : j = k
  · subst e
    simp only [if_true]
    exact World.cell?_setCell_same w _ _ (h.1 j hj)
  · simp only [if_neg e]
    rw [World.cell?_setCell_other w ⟨g, k, none⟩ ⟨g, j, none⟩ _ (fun h => e (Addr.mk.inj h).2.1.symm)]
    exact h.1 j hj

theorem bitW_test (x k : Nat) : bitW (x : Int) k = bI (x.testBit k) := by
  rw [bitW_nat, Nat.testBit_eq_decide_div_mod_eq]
  unfold bI
  by_cases h : x / 2 ^ k % 2 = 1
  · rw [decide_eq_true h, if_pos rfl, h]; rfl
  · have : x / 2 ^ k % 2 = 0 := by omega
    rw [decide_eq_false h, this]; rfl
theorem bitAt_num (six : Bool) (x j : Nat) (hj : j < wideN six) : bitAt six (aH x) (aL x) j = bI (fB six x j) := by
  unfold fB
  cases six
  · have hj' : j < 32 := hj
    show bitW (aL x) (31 - j) = bI (x.testBit (32 - 1 - j))
    unfold aL
    rw [bitW_test, show (18446744073709551616 : Nat) = 2 ^ 64 from rfl, Nat.testBit_mod_two_pow, decide_eq_true (show 31 - j < 64 by omega), Bool.true_and]
  · have hj' : j < 128 := hj
    show (if j < 64 then bitW (aH x) (63 - j) else bitW (aL x) (127 - j)) = bI (x.testBit (128 - 1 - j))
    by_cases h : j < 64
    · rw [if_pos h]
      unfold aH
      rw [bitW_test, show (18446744073709551616 : Nat) = 2 ^ 64 from rfl, Nat.testBit_div_two_pow, show 63 - j + 64 = 128 - 1 - j from by omega]
    · rw [if_neg h]
      unfold aL
      rw [bitW_test, show (18446744073709551616 : Nat) = 2 ^ 64 from rfl, Nat.testBit_mod_two_pow, decide_eq_true (show 127 - j < 64 by omega), Bool.true_and]
theorem owns_cap {w : World} {base g W cap : Nat} {e : TypeId} {xs : List Value} (h : w.ownsRow base e 1 (.slice (some ⟨g, 0, none⟩) W cap) W xs) : W ≤ cap ∧ cap ≤ maxLen := by
  rcases h.2 with ⟨h', _⟩ | ⟨g', cap', cur, h', _, _, hc, hm, _⟩
  · simp at h'
  · simp only [Value.slice.injEq, Option.some.injEq, Addr.mk.injEq, and_true, true_and] at h'
    obtain ⟨rfl, rfl⟩ := h'
    exact ⟨hc, hm⟩
theorem bits_of_owns {w : World} {base g W cap : Nat} {six : Bool} {x : Nat} (hW : wideN six = W) (h : w.ownsRow base 3 1 (.slice (some ⟨g, 0, none⟩) W cap) W ((bitsL six (aH x) (aL x)).map (Value.int .i64))) : BitsF w g (wideN six) (fB six x) := by
  refine ⟨fun j hj => ?_, fun j => h.frozenAt j, (h.lt g rfl).2⟩
  rw [h.cellAt j (by omega), List.getElem?_map, bitsL_get six _ _ j (by cases six <;> exact hj), bitAt_num six x j hj]; rfl
theorem bitsOf_num (six : Bool) (x : Nat) (hx : x < 2 ^ 128) (w : World) :
    Calls Tryd.prog 61 #[.agg #[.bool six, .int .u64 (aH x), .int .u64 (aL x)]] w fun e w' => ∃ g cap, e = .returned (.slice (some ⟨g, 0, none⟩) (wideN six) cap) ∧ BitsF w' g (wideN six) (fB six x) ∧ w.heap.size < g ∧ (wideN six ≤ cap ∧ cap ≤ maxLen) ∧ Below w.heap.size w w' := by
  cases six
  · refine (bitsOf_four' (aH x) (aL x) (aL_0 x) (aL_1 x) w).mono ?_
    rintro e w' ⟨g, cap, rfl, ho, hb⟩
    exact ⟨g, cap, rfl, bits_of_owns rfl ho, (ho.lt g rfl).1, owns_cap ho, hb⟩
  · refine (bitsOf_six' (aH x) (aL x) (aH_0 x) (aH_1 x hx) (aL_0 x) (aL_1 x) w).mono ?_
    rintro e w' ⟨g, cap, rfl, ho, hb⟩
    exact ⟨g, cap, rfl, bits_of_owns rfl ho, (ho.lt g rfl).1, owns_cap ho, hb⟩
/-- The bits of a number, as a list. -/
def bitsN (six : Bool) (x : Nat) : List Int := (List.range (wideN six)).map fun j => bI (fB six x j)
theorem bitsN_length (six : Bool) (x : Nat) : (bitsN six x).length = wideN six := by simp [bitsN]
theorem bitsN_get (six : Bool) (x j : Nat) (hj : j < wideN six) : (bitsN six x)[j]? = some (bI (fB six x j)) := by simp [bitsN, List.getElem?_range hj]
theorem bitsN_01 (six : Bool) (x : Nat) : ∀ b ∈ bitsN six x, b = 0 ∨ b = 1 := by
  intro b hb
  simp only [bitsN, List.mem_map] at hb
  obtain ⟨j, _, rfl⟩ := hb
  unfold bI; split <;> simp
theorem bitsN_eq (six : Bool) (x : Nat) : bitsN six x = bitsL six (aH x) (aL x) := by
  refine List.ext_getElem? fun j => ?_
  by_cases hj : j < wideN six
  · rw [bitsN_get six x j hj, bitsL_get six _ _ j (by cases six <;> exact hj), bitAt_num six x j hj]
  · rw [List.getElem?_eq_none (by rw [bitsN_length]; omega), List.getElem?_eq_none (by rw [bitsL_length]; cases six <;> simp_all [wideN] <;> omega)]
theorem BitsF.list {w : World} {g : Nat} {six : Bool} {x : Nat} (h : BitsF w g (wideN six) (fB six x)) : ∀ j u, (bitsN six x)[j]? = some u → w.cell? ⟨g, j, none⟩ = some (.int .i64 u) := by
  intro j u hj
  have hl := (List.getElem?_eq_some_iff.1 hj).1
  rw [bitsN_length] at hl
  rw [bitsN_get six x j hl] at hj
  rw [h.1 j hl, Option.some.inj hj]
theorem addrOf_bits (six : Bool) (x g cap : Nat) (hx : x < 2 ^ wideN six) (w : World) (h : BitsF w g (wideN six) (fB six x)) :
    Calls Tryd.prog 63 #[.slice (some ⟨g, 0, none⟩) (wideN six) cap] w fun e w' => e = .returned (.agg #[.bool six, .int .u64 (aH x), .int .u64 (aL x)]) ∧ Below w.heap.size w w' := by
  cases six
  · have hx' : x < 4294967296 := hx
    have c := addrOf_four (bitsN false x) (bitsN_length false x) (bitsN_01 false x) g cap w h.2.2 h.list
    have e1 : aH x = 0 := by unfold aH; omega
    have e2 : spell (bitsN false x) = aL x := by
      rw [bitsN_eq]
      exact spell_bits (aL x) 32 (aL_0 x) (by show aL x < 4294967296; unfold aL; omega)
    rw [e2] at c
    rw [e1]
    exact c
  · have hx' : x < 2 ^ 128 := hx
    have c := addrOf_six (bitsN true x) (bitsN_length true x) (bitsN_01 true x) g cap w h.2.2 h.list
    have e : bitsN true x = bitsTo (aH x) 64 64 ++ bitsTo (aL x) 64 64 := bitsN_eq true x
    have e1 : spell ((bitsN true x).take 64) = aH x := by
      rw [e, List.take_left' (bitsTo_length _ _ _)]
      exact spell_bits (aH x) 64 (aH_0 x) (by have := aH_1 x hx'; show aH x < 18446744073709551616; omega)
    have e2 : spell ((bitsN true x).drop 64) = aL x := by
      rw [e, List.drop_left' (bitsTo_length _ _ _)]
      exact spell_bits (aL x) 64 (aL_0 x) (by have := aL_1 x; show aL x < 18446744073709551616; omega)
    rw [e1, e2] at c
    exact c
theorem fB_low (six : Bool) (x n j : Nat) (hn : n ≤ wideN six) (hj : j < wideN six) : fB six (lowN x (wideN six - n)) j = (decide (j < n) && fB six x j) := by
  unfold fB; rw [lowN_testBit, show decide (wideN six - n ≤ wideN six - 1 - j) = decide (j < n) from decide_eq_decide.2 (by omega)]
theorem fB_top (six : Bool) (x n j : Nat) (hn : n ≤ wideN six) (hj : j < wideN six) : fB six (topN x (wideN six - n)) j = (decide (n ≤ j) || fB six x j) := by
  unfold fB; rw [topN_testBit, show decide (wideN six - 1 - j < wideN six - n) = decide (n ≤ j) from decide_eq_decide.2 (by omega)]
/-- Numbers with the same bits are the same. -/
theorem fB_ext (six : Bool) (x y : Nat) (hx : x < 2 ^ wideN six) (hy : y < 2 ^ wideN six) (h : ∀ j, j < wideN six → fB six x j = fB six y j) : x = y := by
  refine Nat.eq_of_testBit_eq fun i => ?_
  by_cases hi : i < wideN six
  · have := h (wideN six - 1 - i) (by omega)
    unfold fB at this
    rw [show wideN six - 1 - (wideN six - 1 - i) = i from by omega] at this
    exact this
  · rw [Nat.testBit_lt_two_pow (Nat.lt_of_lt_of_le hx (Nat.pow_le_pow_right (by omega) (by omega))), Nat.testBit_lt_two_pow (Nat.lt_of_lt_of_le hy (Nat.pow_le_pow_right (by omega) (by omega)))]
/-- The last bits are 0. -/
theorem lowBits_iff (six : Bool) (x n : Nat) (hx : x < 2 ^ wideN six) (hn : n ≤ wideN six) : lowN x (wideN six - n) = x ↔ ∀ j, n ≤ j → j < wideN six → fB six x j = false := by
  constructor
  · intro h j hj hl
    rw [← h, fB_low six x n j hn hl, decide_eq_false (by omega), Bool.false_and]
  · intro h
    refine fB_ext six _ _ (lowN_lt _ _ _ hx) hx fun j hj => ?_
    rw [fB_low six x n j hn hj]
    by_cases hl : j < n
    · simp [hl]
    · rw [h j (by omega) hj]; simp
/-- The first n bits are the same. -/
theorem same_bits (six : Bool) (x y n : Nat) (hx : x < 2 ^ wideN six) (hy : y < 2 ^ wideN six) (hn : n ≤ wideN six) : lowN y (wideN six - n) = lowN x (wideN six - n) ↔ ∀ j, j < n → fB six x j = fB six y j := by
  constructor
  · intro h j hj
    have := congrArg (fun z => fB six z j) h
    simp only [fB_low six _ n j hn (by omega), decide_eq_true hj, Bool.true_and] at this
    exact this.symm
  · intro h
    refine fB_ext six _ _ (lowN_lt _ _ _ hy) (lowN_lt _ _ _ hx) fun j hj => ?_
    rw [fB_low six y n j hn hj, fB_low six x n j hn hj]
    by_cases hl : j < n
    · rw [h j hl]
    · simp [hl]
end Go.Proofs.YtojdlhiibffnfaaDoor

/-
  The contract of the document's PreFault.
-/
namespace Go.Proofs.YtojdlhiibffnfaaDoor
open Go.RowKit
set_option linter.unusedVariables false
set_option linter.unusedSimpArgs false

/-- No bit from n on, among k. -/
def FaultUpto (six : Bool) (x n k : Nat) : Prop := ∀ j, n ≤ j → j < n + k → fB six x j = false
theorem refMay_num (six : Bool) (x : Nat) (hx : x < 2 ^ 128) (b : Bool) (hb : decide (x < 2 ^ wideN six) = b) (w : World) :
    Calls Tryd.prog 37 #[.agg #[.bool six, .int .u64 (aH x), .int .u64 (aL x)]] w fun e w' => e = .returned (.bool b) ∧ w.alloc (.cells #[.bool six, .int .u64 (aH x), .int .u64 (aL x)] 24) = w' := by
  rw [← hb, ← mayB_num six x hx]
  exact refMay_calls six _ _ (aH_0 x) (aL_0 x) w
set_option maxHeartbeats 400000 in
theorem refFault_form (six : Bool) (x : Nat) (n : Int) (hx : x < 2 ^ 128) (hv : ¬ x < 2 ^ wideN six) (w : World) :
    Calls Tryd.prog 62 #[.agg #[.bool six, .int .u64 (aH x), .int .u64 (aL x), .int .i64 n]] w fun e w' => e = .returned (.int .i64 4) ∧ Below w.heap.size w w' := by
  go_enter Tryd.func62, Tryd.ntmps62
  go_wp2_with fail
  refine (refMay_num six x hx false (decide_eq_false hv) _).mono ?_
  rintro e w1 ⟨rfl, rfl⟩
  go_wp2
  go_ret
  exact ⟨rfl, by go_grown⟩
set_option maxHeartbeats 400000 in
theorem refFault_out (six : Bool) (x : Nat) (n : Int) (hx : x < 2 ^ 128) (hv : x < 2 ^ wideN six) (hn : n < 0 ∨ (wideN six : Int) < n) (w : World) :
    Calls Tryd.prog 62 #[.agg #[.bool six, .int .u64 (aH x), .int .u64 (aL x), .int .i64 n]] w fun e w' => e = .returned (.int .i64 2) ∧ Below w.heap.size w w' := by
  go_enter Tryd.func62, Tryd.ntmps62
  go_wp2_with fail
  refine (refMay_num six x hx true (decide_eq_true hv) _).mono ?_
  rintro e w1 ⟨rfl, rfl⟩
  go_wp2_with fail
  refine (bitsOf_num six x hx _).mono ?_
  rintro e w1 ⟨g, cap, rfl, hB, hg, hc, hb⟩
  obtain ⟨p0, p1, p2, p3, pl⟩ := ((PreAt.new w six (aH x) (aL x) n 44).alloc _).keep hb
  have b1 := thenBelow (((Below.refl _ w).alloc (Nat.le_refl _) _).alloc (by simp) _) hb
  clear hb hB
  rcases hn with hn | hn
  · go_wp2
    go_ret
    exact ⟨rfl, b1⟩
  · have h0 : ¬ n < 0 := by omega
    go_wp2
    go_ret
    exact ⟨rfl, b1⟩
set_option maxHeartbeats 1000000 in
theorem refFault_in (six : Bool) (x n : Nat) (r : Int) (hx : x < 2 ^ 128) (hv : x < 2 ^ wideN six) (hn : n ≤ wideN six) (hr : (if lowN x (wideN six - n) = x then 0 else 5) = r) (w : World) :
    Calls Tryd.prog 62 #[.agg #[.bool six, .int .u64 (aH x), .int .u64 (aL x), .int .i64 n]] w fun e w' => e = .returned (.int .i64 r) ∧ Below w.heap.size w w' := by
  have hW := wideN_le six
  obtain ⟨W, hWe⟩ : ∃ W, wideN six = W := ⟨_, rfl⟩
  have LB := Lib.hid (lowBits_iff six x n hv hn)
  rw [hWe] at hn hW hr LB
  have HR := Lib.hid hr
  have HWE := Lib.hid hWe
  clear hr hWe
  go_enter Tryd.func62, Tryd.ntmps62
  go_wp2_with fail
  refine (refMay_num six x hx true (decide_eq_true hv) _).mono ?_
  rintro e w1 ⟨rfl, rfl⟩
  go_wp2_with fail
  refine (bitsOf_num six x hx _).mono ?_
  rw [HWE.out]
  rintro e w1 ⟨g, cap, rfl, hB, hg, hc, hb⟩
  obtain ⟨p0, p1, p2, p3, pl⟩ := ((PreAt.new w six (aH x) (aL x) n 44).alloc _).keep hb
  have b1 := thenBelow (((Below.refl _ w).alloc (Nat.le_refl _) _).alloc (by simp) _) hb
  have HB := Lib.hid hB
  obtain ⟨hc1, hc2⟩ := hc
  unfold maxLen at hc2
  clear hb hB hg
  by_cases hcap : n < cap
  · have hne : cap ≠ n := by omega
    have hwn := Lib.hid (show W - n ≤ 128 by omega)
    go_wp2
    go_loop [28] (fun i => ∃ k : Nat, k ≤ W - n ∧ i = .int .i64 k ∧ FaultUpto six x n k) (fun i => W - n - (intOf i).toNat)
    case atStart => exact ⟨0, Nat.zero_le _, rfl, fun j h1 h2 => by omega⟩
    case round =>
      obtain ⟨k, hk, rfl, hrel⟩ := hrel
      have HREL := Lib.hid hrel
      clear hrel
      by_cases hlt : k < W - n
      · have hcell := HB.out.1 (n + k) (by omega)
        cases hf : fB six x (n + k)
        · rw [hf] at hcell
          have hcell' : w1.cell? ⟨g, n + k, none⟩ = some (.int .i64 0) := hcell
          have HF := Lib.hid hf
          clear hcell hf
          go_wp2
          go_round
          case rel => exact ⟨k + 1, by omega, by go_num, fun j h1 h2 => by
            by_cases e : j = n + k
            · rw [e]; exact HF.out
            · exact HREL.out j h1 (by omega)⟩
          case measure => simp [intOf]; omega
        · rw [hf] at hcell
          have hcell' : w1.cell? ⟨g, n + k, none⟩ = some (.int .i64 1) := hcell
          have e5 : r = 5 := by
            rw [← HR.out, if_neg]
            intro hl
            have := LB.out.1 hl (n + k) (by omega) (by omega)
            rw [hf] at this; cases this
          clear hcell hf
          subst e5
          go_wp2
          go_ret
          exact ⟨rfl, b1⟩
      · obtain rfl : k = W - n := by omega
        have e0 : r = 0 := by
          rw [← HR.out, if_pos (LB.out.2 fun j h1 h2 => HREL.out j h1 (by omega))]
        subst e0
        go_wp2
        go_ret
        exact ⟨rfl, b1⟩
  · have e1 : cap = n := by omega
    have e2 : W = n := by omega
    have e0 : r = 0 := by
      rw [← HR.out, if_pos (LB.out.2 fun j h1 h2 => by omega)]
    subst e0
    subst e1
    subst e2
    clear hcap
    go_wp2
    go_loop [28] (fun i => i = .int .i64 0) (fun i => 0)
    case atStart => rfl
    case round =>
      subst hrel
      go_wp2
      go_ret
      exact ⟨rfl, b1⟩
theorem refFault_calls (six : Bool) (x : Nat) (n : Int) (hx : x < 2 ^ 128) (w : World) :
    Calls Tryd.prog 62 #[.agg #[.bool six, .int .u64 (aH x), .int .u64 (aL x), .int .i64 n]] w fun e w' => e = .returned (.int .i64 (chkE six x n)) ∧ Below w.heap.size w w' := by
  by_cases hv : x < 2 ^ wideN six
  · by_cases hn : 0 ≤ n ∧ n ≤ wideN six
    · obtain ⟨k, rfl⟩ := Int.eq_ofNat_of_zero_le hn.1
      exact refFault_in six x k _ hx hv (by omega) (by unfold chkE; rw [if_pos hv, if_pos hn]; rfl) w
    · rw [show chkE six x n = 2 from by unfold chkE; rw [if_pos hv, if_neg hn]]
      exact refFault_out six x n hx hv (by omega) w
  · rw [show chkE six x n = 4 from by unfold chkE; rw [if_neg hv]]
    exact refFault_form six x n hx hv w
end Go.Proofs.YtojdlhiibffnfaaDoor

/-
  Contracts of the document's preIn, PreHas.
-/
namespace Go.Proofs.YtojdlhiibffnfaaDoor
open Go.RowKit
set_option linter.unusedVariables false
set_option linter.unusedSimpArgs false

/-- The first k bits are the same. -/
def SameUpto (six : Bool) (x y k : Nat) : Prop := ∀ j, j < k → fB six x j = fB six y j
theorem bI_inj (a b : Bool) : (bI a == bI b) = (a == b) := by cases a <;> cases b <;> rfl

set_option maxHeartbeats 1000000 in
theorem refIn_calls (six : Bool) (x y n : Nat) (b : Bool) (hx : x < 2 ^ wideN six) (hy : y < 2 ^ wideN six) (hn : n ≤ wideN six) (hb : decide (lowN y (wideN six - n) = lowN x (wideN six - n)) = b) (w : World) :
    Calls Tryd.prog 86 #[.agg #[.bool six, .int .u64 (aH x), .int .u64 (aL x), .int .i64 n], .agg #[.bool six, .int .u64 (aH y), .int .u64 (aL y)]] w fun e w' => e = .returned (.bool b) ∧ Below w.heap.size w w' := by
  have hW := wideN_le six
  have hx' := lt128 hx
  have hy' := lt128 hy
  have SB := Lib.hid (same_bits six x y n hx hy hn)
  have HB := Lib.hid hb
  obtain ⟨W, hWe⟩ : ∃ W, wideN six = W := ⟨_, rfl⟩
  rw [hWe] at hn hW
  have HWE := Lib.hid hWe
  clear hb hWe
  go_enter Tryd.func86, Tryd.ntmps86
  go_wp2_with fail
  refine (bitsOf_num six x hx' _).mono ?_
  rw [HWE.out]
  rintro e w1 ⟨g, cap, rfl, hB1, hg1, hc1, hb1⟩
  have P1 := ((PreAt.new w six (aH x) (aL x) n 44).alloc _).keep hb1
  have A1 := (AddrAt.new (w.alloc (.cells #[.bool six, .int .u64 (aH x), .int .u64 (aL x), .int .i64 n] 44)) six (aH y) (aL y) 24).keep hb1
  have b1 := thenBelow (((Below.refl _ w).alloc (Nat.le_refl _) _).alloc (by simp) _) hb1
  simp only [World.size_alloc] at A1
  obtain ⟨a0, a1, a2, al⟩ := A1
  have HP1 := Lib.hid P1
  have HB1 := Lib.hid hB1
  clear hb1 P1 hB1 hc1 hg1
  go_wp2_with fail
  refine (bitsOf_num six y hy' _).mono ?_
  rw [HWE.out]
  rintro e w2 ⟨g2, cap2, rfl, hB2, hg2, hc2, hb2⟩
  have B1 := Lib.hid (HB1.out.keep hb2)
  have b2 := thenBelow b1 hb2
  obtain ⟨p0, p1, p2, p3, pl⟩ := HP1.out.keep hb2
  have B2 := Lib.hid hB2
  clear hb2 hB2 hc2 hg2 HB1 HP1 a0 a1 a2 al b1
  go_wp2
  go_loopw [7] (fun i wr => ∃ k q : Nat, k ≤ n ∧ i = .int .i64 k ∧ SameUpto six x y k ∧ wr = w2.drewN q) (fun i _ => n - (intOf i).toNat)
  case atStart => exact ⟨0, 0, Nat.zero_le _, rfl, fun j h => by omega, rfl⟩
  case round =>
    obtain ⟨k, q, hk, rfl, hrel, rfl⟩ := hrel
    have HREL := Lib.hid hrel
    clear hrel
    by_cases hlt : k < n
    · have c1 := B1.out.1 k (by omega)
      have c2 := B2.out.1 k (by omega)
      by_cases he : fB six x k = fB six y k
      · have HE := Lib.hid he
        rw [he] at c1
        clear he
        go_wp2_with fail
        go_quiet ((fail))
        go_wp2
        go_roundw
        case rel => exact ⟨k + 1, _, by omega, by go_num, fun j h => by
          by_cases e : j = k
          · rw [e]; exact HE.out
          · exact HREL.out j (by omega), rfl⟩
        case measure => simp [intOf]; omega
      · have n1 : (bI (fB six x k) == bI (fB six y k)) = false := by rw [bI_inj]; simpa using he
        have n2 : (bI (fB six x k) != bI (fB six y k)) = true := by simp [bne, n1]
        have eb : b = false := by
          rw [← HB.out]
          exact decide_eq_false fun hc => he (SB.out.1 hc k hlt)
        subst eb
        clear he
        go_wp2_with fail
        go_quiet ((fail))
        go_wp2
        go_ret
        exact ⟨rfl, below_drewN (below_drewN b2 _) _⟩
    · obtain rfl : k = n := by omega
      have eb : b = true := by
        rw [← HB.out]
        exact decide_eq_true (SB.out.2 HREL.out)
      subst eb
      go_wp2
      go_ret
      exact ⟨rfl, below_drewN b2 _⟩
end Go.Proofs.YtojdlhiibffnfaaDoor

/-
  Contract of the document's PreSpan.
-/
namespace Go.Proofs.YtojdlhiibffnfaaDoor
open Go.RowKit
set_option linter.unusedVariables false
set_option linter.unusedSimpArgs false

set_option maxHeartbeats 400000 in
theorem refSpan_err (six : Bool) (x : Nat) (n e0 : Int) (hx : x < 2 ^ 128) (hc : chkE six x n = e0) (he : (e0 == 0) = false) (w : World) :
    Calls Tryd.prog 40 #[.agg #[.bool six, .int .u64 (aH x), .int .u64 (aL x), .int .i64 n]] w fun e w' => e = .returned (.tuple #[.agg #[.bool false, .int .u64 0, .int .u64 0], .agg #[.bool false, .int .u64 0, .int .u64 0], .int .i64 e0]) ∧ Below w.heap.size w w' := by
  have C := Lib.hid hc
  clear hc
  go_enter Tryd.func40, Tryd.ntmps40
  go_wp2_with fail
  refine (refFault_calls six x n hx _).mono ?_
  rw [C.out]
  rintro e w1 ⟨rfl, hb1⟩
  have b1 := thenBelow ((((Below.refl _ w).alloc (Nat.le_refl _) _).alloc (by simp) _).alloc (by simp; omega) _) hb1
  have R := ((AddrV.new (w.alloc (.cells #[.bool six, .int .u64 (aH x), .int .u64 (aL x), .int .i64 n] 44)) false 0 0 24).alloc _).keep hb1
  have T := (AddrV.new ((w.alloc (.cells #[.bool six, .int .u64 (aH x), .int .u64 (aL x), .int .i64 n] 44)).alloc (.cells #[.bool false, .int .u64 0, .int .u64 0] 24)) false 0 0 24).keep hb1
  obtain ⟨⟨r0, r1, r2, rl⟩, rf⟩ := R
  obtain ⟨⟨t0, t1, t2, tl⟩, tf⟩ := T
  simp at r0 r1 r2 rl rf t0 t1 t2 tl tf
  have f0 := rf 0; have f1 := rf 1; have f2 := rf 2
  have g0 := tf 0; have g1 := tf 1; have g2 := tf 2
  clear hb1 rf tf
  go_wp2
  try simp only [Exit.inBlock, Exit.then]
  refine bodyPost_ret (by simp [results, Tryd.results40, go_sem, r0, r1, r2, t0, t1, t2]; try rfl) rfl ?_
  exact ⟨rfl, (((((b1.setCell (by simp) _).setCell (by simp) _).setCell (by simp) _).setCell (by simp; omega) _).setCell (by simp; omega) _).setCell (by simp; omega) _⟩

/-- The bits from n on, k of them, are 1. -/
def upF (six : Bool) (x n k : Nat) (j : Nat) : Bool := decide (n ≤ j ∧ j < n + k) || fB six x j
set_option maxHeartbeats 2000000 in
set_option maxRecDepth 100000 in
theorem refSpan_ok (six : Bool) (x n T : Nat) (hx : x < 2 ^ wideN six) (hn : n ≤ wideN six) (hc : chkE six x n = 0) (hT : topN x (wideN six - n) = T) (w : World) :
    Calls Tryd.prog 40 #[.agg #[.bool six, .int .u64 (aH x), .int .u64 (aL x), .int .i64 n]] w fun e w' => e = .returned (.tuple #[.agg #[.bool six, .int .u64 (aH x), .int .u64 (aL x)], .agg #[.bool six, .int .u64 (aH T), .int .u64 (aL T)], .int .i64 0]) ∧ Below w.heap.size w w' := by
  have hW := wideN_le six
  have hx' := lt128 hx
  have hTl : T < 2 ^ wideN six := by rw [← hT]; exact topN_lt _ _ _ hx (by omega)
  have FT := Lib.hid (fun j (hj : j < wideN six) => (show fB six T j = (decide (n ≤ j) || fB six x j) by rw [← hT]; exact fB_top six x n j hn hj))
  have AO := Lib.hid (fun (g cap : Nat) (W : World) (h : BitsF W g (wideN six) (fB six T)) => addrOf_bits six T g cap hTl W h)
  have C := Lib.hid hc
  have BO := Lib.hid (fun W : World => bitsOf_num six x hx' W)
  obtain ⟨W, hWe⟩ : ∃ W, wideN six = W := ⟨_, rfl⟩
  rw [hWe] at hn hW FT AO BO
  clear hc hT hWe hTl
  go_enter Tryd.func40, Tryd.ntmps40
  go_wp2_with fail
  refine (refFault_calls six x n hx' _).mono ?_
  rw [C.out]
  rintro e w1 ⟨rfl, hb1⟩
  have b1 := thenBelow ((((Below.refl _ w).alloc (Nat.le_refl _) _).alloc (by simp) _).alloc (by simp; omega) _) hb1
  have P := (((PreV.new w six (aH x) (aL x) n 44).alloc _).alloc _).keep hb1
  have R := ((AddrV.new (w.alloc (.cells #[.bool six, .int .u64 (aH x), .int .u64 (aL x), .int .i64 n] 44)) false 0 0 24).alloc _).keep hb1
  have T' := (AddrV.new ((w.alloc (.cells #[.bool six, .int .u64 (aH x), .int .u64 (aL x), .int .i64 n] 44)).alloc (.cells #[.bool false, .int .u64 0, .int .u64 0] 24)) false 0 0 24).keep hb1
  simp only [World.size_alloc] at R T' P
  have HP := Lib.hid P
  have HR := Lib.hid R
  have HT := Lib.hid T'
  have zt := T'.1.2.2.2
  obtain ⟨⟨p0, p1, p2, p3, pl⟩, pf⟩ := P
  clear hb1 pf R T'
  go_wp2_with fail
  refine (BO.out _).mono ?_
  rintro e w2 ⟨g, cap, rfl, hB2, hg2, hc2, hb2⟩
  have b2 := thenBelow b1 hb2
  have HP := Lib.hid (HP.out.keep hb2)
  have HR := Lib.hid (HR.out.keep hb2)
  have HT := Lib.hid (HT.out.keep hb2)
  have HB := Lib.hid hB2
  have hg : w.heap.size + 1 + 1 < g := by omega
  obtain ⟨hc2a, hc2b⟩ := hc2
  unfold maxLen at hc2b
  clear p0 p1 p2 p3 pl hb2 hB2 hg2 zt b1
  have P := HP.out
  obtain ⟨⟨p0, p1, p2, p3, pl⟩, pf⟩ := P
  clear pf
  go_wp2
  go_loopw [7] (fun i wr => ∃ k : Nat, k ≤ W - n ∧ i = .int .i64 ((n + k : Nat) : Int) ∧ BitsF wr g W (upF six x n k) ∧ PreV wr w.heap.size six (aH x) (aL x) n ∧ AddrV wr (w.heap.size + 1) false 0 0 ∧ AddrV wr (w.heap.size + 1 + 1) false 0 0 ∧ Below w.heap.size w wr) (fun i _ => W - (intOf i).toNat)
  case atStart => exact ⟨0, Nat.zero_le _, rfl, HB.out.congr (fun j _ => by unfold upF; rw [decide_eq_false (by omega)]; rfl), HP.out, HR.out, HT.out, b2⟩
  case round =>
    clear p0 p1 p2 p3 pl HB HP HR HT b2
    obtain ⟨k, hk, rfl, hB, hP, hR, hT, hb⟩ := hrel
    by_cases hlt : k < W - n
    · have hcell := hB.1 (n + k) (by omega)
      have hfr := hB.2.1 (n + k)
      have HB := Lib.hid (hB.set (n + k) (by omega) true)
      have HP := Lib.hid (hP.far (p := ⟨g, n + k, none⟩) (by show w.heap.size ≠ g; omega) (.int .i64 1))
      have HR := Lib.hid (hR.far (p := ⟨g, n + k, none⟩) (by show w.heap.size + 1 ≠ g; omega) (.int .i64 1))
      have HT := Lib.hid (hT.far (p := ⟨g, n + k, none⟩) (by show w.heap.size + 1 + 1 ≠ g; omega) (.int .i64 1))
      have hb' := hb.setCell (p := ⟨g, n + k, none⟩) (by show w.heap.size ≤ g; omega) (.int .i64 1)
      clear hB hP hR hT hb
      go_wp2
      go_roundw
      case rel => exact ⟨k + 1, by omega, by go_num, HB.out.congr (fun j _ => by
        unfold upF
        by_cases e : j = n + k
        · rw [if_pos e, decide_eq_true (by omega)]; rfl
        · rw [if_neg e]
          congr 1
          exact decide_eq_decide.2 (by omega)), HP.out, HR.out, HT.out, hb'⟩
      case measure => simp [intOf]; omega
    · obtain rfl : k = W - n := by omega
      have HB := Lib.hid (hB.congr (f' := fB six T) (fun j hj => by
        rw [FT.out j hj]
        unfold upF
        congr 1
        exact decide_eq_decide.2 (by omega)))
      have HP := Lib.hid hP
      have HR := Lib.hid hR
      have HT := Lib.hid hT
      obtain ⟨⟨p0, p1, p2, p3, pl⟩, pf⟩ := hP
      obtain ⟨⟨r0, r1, r2, rl⟩, rf⟩ := hR
      have f0 := rf 0; have f1 := rf 1; have f2 := rf 2
      clear pf rf hT hB
      have hne2 : ¬ w.heap.size + 1 + 1 = w.heap.size := by omega
      go_wp2_with fail
      go_region_held3 (fun w' => w'.cell? ⟨w.heap.size, 0, none⟩ = some (.bool six) ∧ w'.cell? ⟨w.heap.size, 1, none⟩ = some (.int .u64 (aH x)) ∧ w'.cell? ⟨w.heap.size, 2, none⟩ = some (.int .u64 (aL x))) (first | (simp (disch := first | assumption | (simp; done)) [go_sem, World.cell?_setCell_far, p0, p1, p2]; done) | with_reducible exact ⟨c0, c1, c2⟩ | (simp (disch := first | assumption | (simp; done)) [go_sem, World.cell?_setCell_far, c0, c1, c2]; done))
        ((go_at_call 63; refine (AO.out g cap _ HB.out.drew).mono ?_; rintro e w3 ⟨rfl, hb3⟩; have P3 := HP.out.drew.keep hb3; have R3 := HR.out.drew.keep hb3; have T3 := HT.out.drew.keep hb3; have b3 := thenBelow hb.drew hb3; clear hb3; have ⟨⟨c0, c1, c2, _, _⟩, _⟩ := P3; have ⟨⟨d0, d1, d2, dl⟩, df⟩ := R3; have h0 := df 0; have h1 := df 1; have h2 := df 2; have ⟨⟨t0, t1, t2, tl⟩, tf⟩ := T3; have i0 := tf 0; have i1 := tf 1; have i2 := tf 2))
      have R7 := ((((R3.store six (aH x) (aL x)).far (p := ⟨w.heap.size + 1 + 1, 0, none⟩) (by simp) (.bool six)).far (p := ⟨w.heap.size + 1 + 1, 1, none⟩) (by simp) (.int .u64 (aH T))).far (p := ⟨w.heap.size + 1 + 1, 2, none⟩) (by simp) (.int .u64 (aL T)))
      have T7 := (((T3.far (p := ⟨w.heap.size + 1, 0, none⟩) (by simp) (.bool six)).far (p := ⟨w.heap.size + 1, 1, none⟩) (by simp) (.int .u64 (aH x))).far (p := ⟨w.heap.size + 1, 2, none⟩) (by simp) (.int .u64 (aL x))).store six (aH T) (aL T)
      have B7 := ((((((b3.setCell (p := ⟨w.heap.size + 1, 0, none⟩) (by show w.heap.size ≤ w.heap.size + 1; omega) (.bool six)).setCell (p := ⟨w.heap.size + 1, 1, none⟩) (by show w.heap.size ≤ w.heap.size + 1; omega) (.int .u64 (aH x))).setCell (p := ⟨w.heap.size + 1, 2, none⟩) (by show w.heap.size ≤ w.heap.size + 1; omega) (.int .u64 (aL x))).setCell (p := ⟨w.heap.size + 1 + 1, 0, none⟩) (by show w.heap.size ≤ w.heap.size + 1 + 1; omega) (.bool six)).setCell (p := ⟨w.heap.size + 1 + 1, 1, none⟩) (by show w.heap.size ≤ w.heap.size + 1 + 1; omega) (.int .u64 (aH T))).setCell (p := ⟨w.heap.size + 1 + 1, 2, none⟩) (by show w.heap.size ≤ w.heap.size + 1 + 1; omega) (.int .u64 (aL T)))
      clear P3 R3 T3 b3 c0 c1 c2 d0 d1 d2 dl df h0 h1 h2 t0 t1 t2 tl tf i0 i1 i2 p0 p1 p2 p3 pl r0 r1 r2 rl f0 f1 f2 HB HP HR HT hb
      revert R7 T7 B7
      generalize ((((((w3.setCell ⟨w.heap.size + 1, 0, none⟩ (.bool six)).setCell ⟨w.heap.size + 1, 1, none⟩ (.int .u64 (aH x))).setCell ⟨w.heap.size + 1, 2, none⟩ (.int .u64 (aL x))).setCell ⟨w.heap.size + 1 + 1, 0, none⟩ (.bool six)).setCell ⟨w.heap.size + 1 + 1, 1, none⟩ (.int .u64 (aH T))).setCell ⟨w.heap.size + 1 + 1, 2, none⟩ (.int .u64 (aL T))) = W7
      intro R7 T7 B7
      obtain ⟨⟨k0, k1, k2, _⟩, _⟩ := R7
      obtain ⟨⟨l0, l1, l2, _⟩, _⟩ := T7
      go_wp2
      try simp only [Exit.inBlock, Exit.then]
      exact bodyPost_ret (v := .tuple #[.agg #[.bool six, .int .u64 (aH x), .int .u64 (aL x)], .agg #[.bool six, .int .u64 (aH T), .int .u64 (aL T)], .int .i64 0]) (by simp [results, Tryd.results40, go_sem, k0, k1, k2, l0, l1, l2]) rfl ⟨rfl, B7⟩
end Go.Proofs.YtojdlhiibffnfaaDoor

/-
  Contracts of the document's PreHalves.
-/
namespace Go.Proofs.YtojdlhiibffnfaaDoor
open Go.RowKit
set_option linter.unusedVariables false
set_option linter.unusedSimpArgs false

set_option maxHeartbeats 400000 in
theorem refHalves_err (six : Bool) (x : Nat) (n e0 : Int) (HX : x < 2 ^ 128) (hc : chkE six x n = e0) (he : (e0 == 0) = false) (w : World) :
    Calls Tryd.prog 41 #[.agg #[.bool six, .int .u64 (aH x), .int .u64 (aL x), .int .i64 n]] w fun e w' => e = .returned (.tuple #[.agg #[.bool false, .int .u64 0, .int .u64 0, .int .i64 0], .agg #[.bool false, .int .u64 0, .int .u64 0, .int .i64 0], .int .i64 e0]) ∧ Below w.heap.size w w' := by
  have C := Lib.hid hc
  clear hc
  go_enter Tryd.func41, Tryd.ntmps41
  go_wp2_with fail
  refine (refFault_calls six x n HX _).mono ?_
  rw [C.out]
  rintro e w1 ⟨rfl, hb1⟩
  have b1 := thenBelow ((((Below.refl _ w).alloc (Nat.le_refl _) _).alloc (by simp) _).alloc (by simp; omega) _) hb1
  have P := (((PreV.new w six (aH x) (aL x) n 44).alloc _).alloc _).keep hb1
  have R := ((PreV.new (w.alloc (.cells #[.bool six, .int .u64 (aH x), .int .u64 (aL x), .int .i64 n] 44)) false 0 0 0 44).alloc _).keep hb1
  have T := (PreV.new ((w.alloc (.cells #[.bool six, .int .u64 (aH x), .int .u64 (aL x), .int .i64 n] 44)).alloc (.cells #[.bool false, .int .u64 0, .int .u64 0, .int .i64 0] 44)) false 0 0 0 44).keep hb1
  simp only [World.size_alloc] at P R T
  obtain ⟨⟨r0, r1, r2, r3, rl⟩, rf⟩ := R
  obtain ⟨⟨t0, t1, t2, t3, tl⟩, tf⟩ := T
  have f0 := rf 0; have f1 := rf 1; have f2 := rf 2; have f3 := rf 3
  have g0 := tf 0; have g1 := tf 1; have g2 := tf 2; have g3 := tf 3
  clear rf tf
  clear hb1
  go_wp2
  try simp only [Exit.inBlock, Exit.then]
  refine bodyPost_ret (v := .tuple #[.agg #[.bool false, .int .u64 0, .int .u64 0, .int .i64 0], .agg #[.bool false, .int .u64 0, .int .u64 0, .int .i64 0], .int .i64 e0]) (by simp [results, Tryd.results41, go_sem, r0, r1, r2, r3, t0, t1, t2, t3]) rfl ?_
  exact ⟨rfl, (((((((b1.setCell (by simp) _).setCell (by simp) _).setCell (by simp) _).setCell (by simp) _).setCell (by simp; omega) _).setCell (by simp; omega) _).setCell (by simp; omega) _).setCell (by simp; omega) _⟩

set_option maxHeartbeats 400000 in
theorem refHalves_none (six : Bool) (x : Nat) (n : Int) (hn : n = (wideN six : Nat)) (HX : x < 2 ^ 128) (hc : chkE six x n = 0) (w : World) :
    Calls Tryd.prog 41 #[.agg #[.bool six, .int .u64 (aH x), .int .u64 (aL x), .int .i64 n]] w fun e w' => e = .returned (.tuple #[.agg #[.bool false, .int .u64 0, .int .u64 0, .int .i64 0], .agg #[.bool false, .int .u64 0, .int .u64 0, .int .i64 0], .int .i64 7]) ∧ Below w.heap.size w w' := by
  have hW := wideN_le six
  have BO := Lib.hid (fun W : World => bitsOf_num six x HX W)
  obtain ⟨W, hWe⟩ : ∃ W, wideN six = W := ⟨_, rfl⟩
  rw [hWe] at hn hW BO
  subst hn
  clear hWe
  have C := Lib.hid hc
  clear hc
  go_enter Tryd.func41, Tryd.ntmps41
  go_wp2_with fail
  refine (refFault_calls six x W HX _).mono ?_
  rw [C.out]
  rintro e w1 ⟨rfl, hb1⟩
  have b1 := thenBelow ((((Below.refl _ w).alloc (Nat.le_refl _) _).alloc (by simp) _).alloc (by simp; omega) _) hb1
  have P := (((PreV.new w six (aH x) (aL x) W 44).alloc _).alloc _).keep hb1
  have R := ((PreV.new (w.alloc (.cells #[.bool six, .int .u64 (aH x), .int .u64 (aL x), .int .i64 W] 44)) false 0 0 0 44).alloc _).keep hb1
  have T := (PreV.new ((w.alloc (.cells #[.bool six, .int .u64 (aH x), .int .u64 (aL x), .int .i64 W] 44)).alloc (.cells #[.bool false, .int .u64 0, .int .u64 0, .int .i64 0] 44)) false 0 0 0 44).keep hb1
  simp only [World.size_alloc] at P R T
  have HP := Lib.hid P
  have HR := Lib.hid R
  have HT := Lib.hid T
  obtain ⟨⟨p0, p1, p2, p3, pl⟩, pf⟩ := P
  clear hb1 pf R T
  go_wp2_with fail
  refine (BO.out _).mono ?_
  rintro e w2 ⟨g, cap, rfl, hB2, hg2, hc2, hb2⟩
  have b2 := thenBelow b1 hb2
  have R := HR.out.keep hb2
  have T := HT.out.keep hb2
  clear p0 p1 p2 p3 pl
  obtain ⟨⟨p0, p1, p2, p3, pl⟩, pf⟩ := HP.out.keep hb2
  clear pf hb2 hB2 hg2 hc2 b1 HP HR HT
  obtain ⟨⟨r0, r1, r2, r3, rl⟩, rf⟩ := R
  obtain ⟨⟨t0, t1, t2, t3, tl⟩, tf⟩ := T
  have f0 := rf 0; have f1 := rf 1; have f2 := rf 2; have f3 := rf 3
  have g0 := tf 0; have g1 := tf 1; have g2 := tf 2; have g3 := tf 3
  clear rf tf
  go_wp2
  try simp only [Exit.inBlock, Exit.then]
  refine bodyPost_ret (v := .tuple #[.agg #[.bool false, .int .u64 0, .int .u64 0, .int .i64 0], .agg #[.bool false, .int .u64 0, .int .u64 0, .int .i64 0], .int .i64 7]) (by simp [results, Tryd.results41, go_sem, r0, r1, r2, r3, t0, t1, t2, t3]) rfl ?_
  exact ⟨rfl, (((((((b2.setCell (by simp) _).setCell (by simp) _).setCell (by simp) _).setCell (by simp) _).setCell (by simp; omega) _).setCell (by simp; omega) _).setCell (by simp; omega) _).setCell (by simp; omega) _⟩

set_option maxHeartbeats 2000000 in
set_option maxRecDepth 100000 in
theorem refHalves_ok (six : Bool) (x n Hh : Nat) (hx : x < 2 ^ wideN six) (hn : n < wideN six) (hc : chkE six x n = 0) (hl : lowN x (wideN six - n) = x) (hH : lowN (topN x (wideN six - n)) (wideN six - (n + 1)) = Hh) (w : World) :
    Calls Tryd.prog 41 #[.agg #[.bool six, .int .u64 (aH x), .int .u64 (aL x), .int .i64 n]] w fun e w' => e = .returned (.tuple #[.agg #[.bool six, .int .u64 (aH x), .int .u64 (aL x), .int .i64 ((n : Int) + 1)], .agg #[.bool six, .int .u64 (aH Hh), .int .u64 (aL Hh), .int .i64 ((n : Int) + 1)], .int .i64 0]) ∧ Below w.heap.size w w' := by
  have hW := wideN_le six
  have HX := lt128 hx
  have ht : topN x (wideN six - n) < 2 ^ wideN six := topN_lt _ _ _ hx (by omega)
  have hHl : Hh < 2 ^ wideN six := by rw [← hH]; exact lowN_lt _ _ _ ht
  have FH := Lib.hid (fun j (hj : j < wideN six) => (show (if j = n then true else fB six x j) = fB six Hh j by
    rw [← hH, fB_low six _ (n + 1) j hn hj, fB_top six x n j (by omega) hj]
    by_cases e : j = n
    · subst e; simp
    · rw [if_neg e]
      by_cases h : j < n
      · rw [decide_eq_true (show j < n + 1 by omega), decide_eq_false (show ¬ n ≤ j by omega)]; simp
      · rw [decide_eq_false (show ¬ j < n + 1 by omega), (lowBits_iff six x n hx (by omega)).1 hl j (by omega) hj]; simp))
  have AO := Lib.hid (fun (g cap : Nat) (W : World) (h : BitsF W g (wideN six) (fB six Hh)) => addrOf_bits six Hh g cap hHl W h)
  have BO := Lib.hid (fun W : World => bitsOf_num six x HX W)
  obtain ⟨W, hWe⟩ : ∃ W, wideN six = W := ⟨_, rfl⟩
  rw [hWe] at hn hW FH AO BO
  have hne : ((n : Int) == (W : Int)) = false := by simp; omega
  clear hH hWe hHl ht hl
  have C := Lib.hid hc
  clear hc
  go_enter Tryd.func41, Tryd.ntmps41
  go_wp2_with fail
  refine (refFault_calls six x n HX _).mono ?_
  rw [C.out]
  rintro e w1 ⟨rfl, hb1⟩
  have b1 := thenBelow ((((Below.refl _ w).alloc (Nat.le_refl _) _).alloc (by simp) _).alloc (by simp; omega) _) hb1
  have P := (((PreV.new w six (aH x) (aL x) n 44).alloc _).alloc _).keep hb1
  have R := ((PreV.new (w.alloc (.cells #[.bool six, .int .u64 (aH x), .int .u64 (aL x), .int .i64 n] 44)) false 0 0 0 44).alloc _).keep hb1
  have T := (PreV.new ((w.alloc (.cells #[.bool six, .int .u64 (aH x), .int .u64 (aL x), .int .i64 n] 44)).alloc (.cells #[.bool false, .int .u64 0, .int .u64 0, .int .i64 0] 44)) false 0 0 0 44).keep hb1
  simp only [World.size_alloc] at P R T
  have HP := Lib.hid P
  have HR := Lib.hid R
  have HT := Lib.hid T
  have zt := T.1.2.2.2.2
  obtain ⟨⟨p0, p1, p2, p3, pl⟩, pf⟩ := P
  clear hb1 pf R T
  go_wp2_with fail
  refine (BO.out _).mono ?_
  rintro e w2 ⟨g, cap, rfl, hB2, hg2, hc2, hb2⟩
  have b2 := thenBelow b1 hb2
  have hg : w.heap.size + 1 + 1 < g := by omega
  have hg3 : g < w2.heap.size := hB2.2.2
  have HP := Lib.hid (HP.out.keep hb2)
  have HR := Lib.hid (HR.out.keep hb2)
  have HT := Lib.hid (HT.out.keep hb2)
  have HB := Lib.hid hB2
  clear p0 p1 p2 p3 pl
  have P := HP.out
  obtain ⟨⟨p0, p1, p2, p3, pl⟩, pf⟩ := P
  have c2 := hB2.1 n hn
  have cf := hB2.2.1 n
  obtain ⟨hc2a, hc2b⟩ := hc2
  unfold maxLen at hc2b
  clear pf hb2 hB2 hg2 b1 zt
  have hwr : IntKind.i64.wrap ((n : Int) + 1) = (n : Int) + 1 := by rw [IntKind.wrap_i64]; omega
  go_wp2_with fail
  have hs2 := b2.size
  have L3 := PreV.new (w2.setCell ⟨g, n, none⟩ (.int .i64 1)) six (aH x) (aL x) ((n : Int) + 1) 44
  have P3 := (HP.out.far (p := ⟨g, n, none⟩) (by show w.heap.size ≠ g; clear hwr; omega) (.int .i64 1)).alloc (.cells #[.bool six, .int .u64 (aH x), .int .u64 (aL x), .int .i64 ((n : Int) + 1)] 44)
  have R3 := (HR.out.far (p := ⟨g, n, none⟩) (by show w.heap.size + 1 ≠ g; clear hwr; omega) (.int .i64 1)).alloc (.cells #[.bool six, .int .u64 (aH x), .int .u64 (aL x), .int .i64 ((n : Int) + 1)] 44)
  have T3 := (HT.out.far (p := ⟨g, n, none⟩) (by show w.heap.size + 1 + 1 ≠ g; clear hwr; omega) (.int .i64 1)).alloc (.cells #[.bool six, .int .u64 (aH x), .int .u64 (aL x), .int .i64 ((n : Int) + 1)] 44)
  have B3 := ((HB.out.set n hn true).congr FH.out).alloc (.cells #[.bool six, .int .u64 (aH x), .int .u64 (aL x), .int .i64 ((n : Int) + 1)] 44)
  have b3 := (b2.setCell (p := ⟨g, n, none⟩) (by show w.heap.size ≤ g; clear hwr; omega) (.int .i64 1)).alloc (by rw [World.size_setCell]; exact hs2) (.cells #[.bool six, .int .u64 (aH x), .int .u64 (aL x), .int .i64 ((n : Int) + 1)] 44)
  simp only [World.size_setCell] at L3
  have hl1 : ¬ w.heap.size + 1 = w2.heap.size := by clear hwr; omega
  have hl2 : ¬ w.heap.size + 1 + 1 = w2.heap.size := by clear hwr; omega
  have hl3 : ¬ w.heap.size + 1 + 1 = w.heap.size := by clear hwr; omega
  clear HP HR HT HB p0 p1 p2 p3 pl c2 cf b2
  rw [show Value.int IntKind.i64 (bI true) = Value.int IntKind.i64 1 from rfl] at B3
  revert L3 P3 R3 T3 B3 b3
  generalize (w2.setCell ⟨g, n, none⟩ (.int .i64 1)).alloc (.cells #[.bool six, .int .u64 (aH x), .int .u64 (aL x), .int .i64 ((n : Int) + 1)] 44) = W3
  generalize w2.heap.size = LB at *
  intro P3 R3 T3 B3 b3 L3
  have HP := Lib.hid P3
  have HR := Lib.hid R3
  have HT := Lib.hid T3
  have HL := Lib.hid L3
  have HB := Lib.hid B3
  obtain ⟨⟨p0, p1, p2, p3, pl⟩, _⟩ := P3
  obtain ⟨⟨l0, l1, l2, l3, ll⟩, _⟩ := L3
  clear R3 T3 B3
  go_region_held3 (fun w' => (w'.cell? ⟨LB, 0, none⟩ = some (.bool six) ∧ w'.cell? ⟨LB, 1, none⟩ = some (.int .u64 (aH x)) ∧ w'.cell? ⟨LB, 2, none⟩ = some (.int .u64 (aL x)) ∧ w'.cell? ⟨LB, 3, none⟩ = some (.int .i64 ((n : Int) + 1))) ∧ w'.cell? ⟨w.heap.size, 3, none⟩ = some (.int .i64 n)) (first | (simp [go_sem, p3, l0, l1, l2, l3]; done) | with_reducible exact ⟨⟨d0, d1, d2, d3⟩, c3⟩ | (simp (disch := first | assumption | (simp; done)) [go_sem, World.cell?_setCell_far, c3, d0, d1, d2, d3]; done))
    ((go_at_call 63; refine (AO.out g cap _ HB.out.drew).mono ?_; rintro e w4 ⟨rfl, hb4⟩; have P4 := HP.out.drew.keep hb4; have L4 := HL.out.drew.keep hb4; have R4 := HR.out.drew.keep hb4; have T4 := HT.out.drew.keep hb4; have b4 := thenBelow b3.drew hb4; clear hb4; have ⟨⟨_, _, _, c3, _⟩, _⟩ := P4; have ⟨⟨d0, d1, d2, d3, _⟩, _⟩ := L4; have ⟨⟨r0, r1, r2, r3, rl⟩, rf⟩ := R4; have f0 := rf 0; have f1 := rf 1; have f2 := rf 2; have f3 := rf 3; have ⟨⟨t0, t1, t2, t3, tl⟩, tf⟩ := T4; have i0 := tf 0; have i1 := tf 1; have i2 := tf 2; have i3 := tf 3))
  clear hwr
  have R7 := (((((R4.store six (aH x) (aL x) ((n : Int) + 1)).far (p := ⟨w.heap.size + 1 + 1, 0, none⟩) (by simp) (.bool six)).far (p := ⟨w.heap.size + 1 + 1, 1, none⟩) (by simp) (.int .u64 (aH Hh))).far (p := ⟨w.heap.size + 1 + 1, 2, none⟩) (by simp) (.int .u64 (aL Hh))).far (p := ⟨w.heap.size + 1 + 1, 3, none⟩) (by simp) (.int .i64 ((n : Int) + 1)))
  have T7 := ((((T4.far (p := ⟨w.heap.size + 1, 0, none⟩) (by simp) (.bool six)).far (p := ⟨w.heap.size + 1, 1, none⟩) (by simp) (.int .u64 (aH x))).far (p := ⟨w.heap.size + 1, 2, none⟩) (by simp) (.int .u64 (aL x))).far (p := ⟨w.heap.size + 1, 3, none⟩) (by simp) (.int .i64 ((n : Int) + 1))).store six (aH Hh) (aL Hh) ((n : Int) + 1)
  have B7 := ((((((((b4.setCell (p := ⟨w.heap.size + 1, 0, none⟩) (by show w.heap.size ≤ w.heap.size + 1; omega) (.bool six)).setCell (p := ⟨w.heap.size + 1, 1, none⟩) (by show w.heap.size ≤ w.heap.size + 1; omega) (.int .u64 (aH x))).setCell (p := ⟨w.heap.size + 1, 2, none⟩) (by show w.heap.size ≤ w.heap.size + 1; omega) (.int .u64 (aL x))).setCell (p := ⟨w.heap.size + 1, 3, none⟩) (by show w.heap.size ≤ w.heap.size + 1; omega) (.int .i64 ((n : Int) + 1))).setCell (p := ⟨w.heap.size + 1 + 1, 0, none⟩) (by show w.heap.size ≤ w.heap.size + 1 + 1; omega) (.bool six)).setCell (p := ⟨w.heap.size + 1 + 1, 1, none⟩) (by show w.heap.size ≤ w.heap.size + 1 + 1; omega) (.int .u64 (aH Hh))).setCell (p := ⟨w.heap.size + 1 + 1, 2, none⟩) (by show w.heap.size ≤ w.heap.size + 1 + 1; omega) (.int .u64 (aL Hh))).setCell (p := ⟨w.heap.size + 1 + 1, 3, none⟩) (by show w.heap.size ≤ w.heap.size + 1 + 1; omega) (.int .i64 ((n : Int) + 1)))
  clear P4 L4 R4 T4 b4 c3 d0 d1 d2 d3 r0 r1 r2 r3 rl rf f0 f1 f2 f3 t0 t1 t2 t3 tl tf i0 i1 i2 i3 p0 p1 p2 p3 pl l0 l1 l2 l3 ll HB HP HR HT HL b3
  revert R7 T7 B7
  generalize ((((((((w4.setCell ⟨w.heap.size + 1, 0, none⟩ (.bool six)).setCell ⟨w.heap.size + 1, 1, none⟩ (.int .u64 (aH x))).setCell ⟨w.heap.size + 1, 2, none⟩ (.int .u64 (aL x))).setCell ⟨w.heap.size + 1, 3, none⟩ (.int .i64 ((n : Int) + 1))).setCell ⟨w.heap.size + 1 + 1, 0, none⟩ (.bool six)).setCell ⟨w.heap.size + 1 + 1, 1, none⟩ (.int .u64 (aH Hh))).setCell ⟨w.heap.size + 1 + 1, 2, none⟩ (.int .u64 (aL Hh))).setCell ⟨w.heap.size + 1 + 1, 3, none⟩ (.int .i64 ((n : Int) + 1))) = W7
  intro R7 T7 B7
  obtain ⟨⟨k0, k1, k2, k3, _⟩, _⟩ := R7
  obtain ⟨⟨j0, j1, j2, j3, _⟩, _⟩ := T7
  go_wp2
  try simp only [Exit.inBlock, Exit.then]
  exact bodyPost_ret (v := .tuple #[.agg #[.bool six, .int .u64 (aH x), .int .u64 (aL x), .int .i64 ((n : Int) + 1)], .agg #[.bool six, .int .u64 (aH Hh), .int .u64 (aL Hh), .int .i64 ((n : Int) + 1)], .int .i64 0]) (by simp [results, Tryd.results41, go_sem, k0, k1, k2, k3, j0, j1, j2, j3]) rfl ⟨rfl, B7⟩
theorem halves_ok' (six : Bool) (x n Hh : Nat) (hx : x < 2 ^ 128) (hn : n < wideN six) (hc : chkE six x n = 0) (hl : lowN x (wideN six - n) = x) (hH : lowN (topN x (wideN six - n)) (wideN six - (n + 1)) = Hh) (w : World) :
    Calls Tryd.prog 60 #[.agg #[.bool six, .int .u64 (aH x), .int .u64 (aL x), .int .i64 n]] w fun e w' => e = .returned (.tuple #[.agg #[.bool six, .int .u64 (aH x), .int .u64 (aL x), .int .i64 ((n : Int) + 1)], .agg #[.bool six, .int .u64 (aH Hh), .int .u64 (aL Hh), .int .i64 ((n : Int) + 1)], .int .i64 0]) ∧ Below w.heap.size w w' := by
  have := halves_ok six x n hn hx hc w
  have e : lowN x (wideN six - (n + 1)) = x := by
    conv => rhs; rw [← hl]
    conv => lhs; rw [← hl]
    refine Nat.eq_of_testBit_eq fun i => ?_
    rw [lowN_testBit, lowN_testBit]
    by_cases hk : wideN six - n ≤ i
    · rw [decide_eq_true hk, decide_eq_true (show wideN six - (n + 1) ≤ i by omega)]; simp
    · simp [hk]
  rw [e, hH] at this
  exact this
end Go.Proofs.YtojdlhiibffnfaaDoor

/-
  The document's preOver of two blocks; its within.
-/
namespace Go.Proofs.YtojdlhiibffnfaaDoor
open Go.RowKit
set_option linter.unusedVariables false
set_option linter.unusedSimpArgs false

theorem refHalves_al2 {six : Bool} {x k : Nat} (h : AL six x (k + 1)) (w : World) :
    Calls Tryd.prog 41 #[.agg #[.bool six, .int .u64 (aH x), .int .u64 (aL x), .int .i64 ((wideN six - (k + 1) : Nat) : Int)]] w fun e w' => e = .returned (.tuple #[.agg #[.bool six, .int .u64 (aH x), .int .u64 (aL x), .int .i64 ((wideN six - k : Nat) : Int)], .agg #[.bool six, .int .u64 (aH (x + 2 ^ k)), .int .u64 (aL (x + 2 ^ k)), .int .i64 ((wideN six - k : Nat) : Int)], .int .i64 0]) ∧ Below w.heap.size w w' := by
  have hk := h.1
  have c := refHalves_ok six x (wideN six - (k + 1)) (x + 2 ^ k) h.lt (by omega) h.chk (by rw [show wideN six - (wideN six - (k + 1)) = k + 1 by omega]; exact h.lowN) (by rw [show wideN six - (wideN six - (k + 1)) = k + 1 by omega, show wideN six - (wideN six - (k + 1) + 1) = k by omega, h.topN, h.halfTop]) w
  rw [show ((wideN six - (k + 1) : Nat) : Int) + 1 = ((wideN six - k : Nat) : Int) by omega] at c
  exact c
theorem refOver_long (six : Bool) (x y n m : Nat) (hm : m < n) (hn : n ≤ 128) (w : World) :
    Calls Tryd.prog 84 #[.agg #[.bool six, .int .u64 (aH x), .int .u64 (aL x), .int .i64 n], .agg #[.bool six, .int .u64 (aH y), .int .u64 (aL y), .int .i64 m]] w fun e w' => e = .returned (.bool false) ∧ Below w.heap.size w w' := by
  have b1 : Below w.heap.size w ((w.alloc (.cells #[.bool six, .int .u64 (aH x), .int .u64 (aL x), .int .i64 n] 44)).alloc (.cells #[.bool six, .int .u64 (aH y), .int .u64 (aL y), .int .i64 m] 44)) := ((Below.refl _ w).alloc (Nat.le_refl _) _).alloc (by simp) _
  go_enter Tryd.func84, Tryd.ntmps84
  go_wp2
  go_ret
  exact ⟨rfl, b1⟩
set_option maxHeartbeats 1000000 in
theorem refOver_short (six : Bool) (x y n m : Nat) (b : Bool) (hx : x < 2 ^ wideN six) (hy : y < 2 ^ wideN six) (hn : n ≤ wideN six) (hm : n ≤ m) (hb : decide (lowN y (wideN six - n) = lowN x (wideN six - n)) = b) (w : World) :
    Calls Tryd.prog 84 #[.agg #[.bool six, .int .u64 (aH x), .int .u64 (aL x), .int .i64 n], .agg #[.bool six, .int .u64 (aH y), .int .u64 (aL y), .int .i64 m]] w fun e w' => e = .returned (.bool b) ∧ Below w.heap.size w w' := by
  have IN := Lib.hid (fun W : World => refIn_calls six x y n b hx hy hn hb W)
  clear hb
  go_enter Tryd.func84, Tryd.ntmps84
  go_wp2_with fail
  refine (IN.out _).mono ?_
  rintro e w1 ⟨rfl, hb1⟩
  have b1 := thenBelow (((Below.refl _ w).alloc (Nat.le_refl _) _).alloc (by simp) _) hb1
  go_wp2
  go_ret
  exact ⟨rfl, b1⟩
theorem refOver_al {six : Bool} {x k y j : Nat} (hx : AL six x k) (hy : AL six y j) (b : Bool) (hb : cov x k y j = b) (w : World) :
    Calls Tryd.prog 84 #[.agg #[.bool six, .int .u64 (aH x), .int .u64 (aL x), .int .i64 ((wideN six - k : Nat) : Int)], .agg #[.bool six, .int .u64 (aH y), .int .u64 (aL y), .int .i64 ((wideN six - j : Nat) : Int)]] w fun e w' => e = .returned (.bool b) ∧ Below w.heap.size w w' := by
  rw [← covD_cov hx hy] at hb
  have hw := wideN_le six
  by_cases hm : wideN six - k ≤ wideN six - j
  · refine refOver_short six x y _ _ b hx.lt hy.lt (Nat.sub_le _ _) hm ?_ w
    rw [← hb, covD, decide_eq_true hm, Bool.true_and, show wideN six - (wideN six - k) = k by have := hx.1; omega, hx.lowN]
  · obtain rfl : b = false := by rw [← hb, covD, decide_eq_false hm]; rfl
    exact refOver_long six x y _ _ (by omega) (by omega) w
/-- Does one of them lie in the block? -/
def anb (x k : Nat) (l : BL) : Bool := l.any fun q => cov x k q.1 q.2
theorem fb_take_yes {six : Bool} {l : List PT} {i : Nat} (hi : i < l.length) (h : l[i].1 = six) : fb six (l.take (i + 1)) = fb six (l.take i) ++ [(l[i].2.1, wideN six - l[i].2.2.toNat)] := by
  unfold fb
  rw [List.take_succ_eq_append_getElem hi, List.filter_append, List.map_append]
  simp [h]
theorem fb_take_no {six : Bool} {l : List PT} {i : Nat} (hi : i < l.length) (h : l[i].1 ≠ six) : fb six (l.take (i + 1)) = fb six (l.take i) := by
  unfold fb
  rw [List.take_succ_eq_append_getElem hi, List.filter_append, List.map_append]
  simp [h]
theorem fb_take_mem {six : Bool} {l : List PT} {i : Nat} (hi : i < l.length) (h : l[i].1 = six) : (l[i].2.1, wideN six - l[i].2.2.toNat) ∈ fb six l := by
  unfold fb
  exact List.mem_map.2 ⟨l[i], List.mem_filter.2 ⟨List.getElem_mem hi, by simp [h]⟩, rfl⟩
/-- What the document's within says. -/
def wv (x k : Nat) (l : BL) : Int := if abv x k l then 1 else if anb x k l then -1 else 0
set_option maxHeartbeats 4000000 in
set_option maxRecDepth 100000 in
theorem refWithin (six : Bool) (x k : Nat) (hA : AL six x k) (l : List PT) (ok : AllOK l) (hlen : l.length ≤ 1000) (v : Value) (w : World) (hr : RowP w v l) :
    Calls Tryd.prog 81 #[.agg #[.bool six, .int .u64 (aH x), .int .u64 (aL x), .int .i64 ((wideN six - k : Nat) : Int)], v] w fun e w' => e = .returned (.int .i64 (wv x k (fb six l))) ∧ Below w.heap.size w w' := by
  obtain ⟨p, c, rfl, hc⟩ := hr.at
  obtain ⟨R, hR⟩ : ∃ R, wv x k (fb six l) = R := ⟨_, rfl⟩
  rw [hR]
  have HR := Lib.hid hR
  have HA := Lib.hid hA
  have OK := Lib.hid ok
  have HC := Lib.hid hc
  have B1 : Below w.heap.size w (w.alloc (.cells #[.bool six, .int .u64 (aH x), .int .u64 (aL x), .int .i64 ((wideN six - k : Nat) : Int)] 44)) := (Below.refl _ w).alloc (Nat.le_refl _) _
  have GP := Lib.hid (PreAt.new w six (aH x) (aL x) ((wideN six - k : Nat) : Int) 44)
  clear hR hA ok hc hr
  go_enter Tryd.func81, Tryd.ntmps81
  go_wp2
  revert GP B1
  generalize w.alloc (.cells #[.bool six, .int .u64 (aH x), .int .u64 (aL x), .int .i64 ((wideN six - k : Nat) : Int)] 44) = w1
  intro B1 GP
  go_loopw [5, 10] (fun v i wr => ∃ j : Nat, j ≤ l.length ∧ i = .int .i64 j ∧ v = .bool (anb x k (fb six (l.take j))) ∧ Below w1.heap.size w1 wr ∧ Hid (abv x k (fb six (l.take j)) = false)) (fun _ i _ => l.length - (intOf i).toNat)
  case atStart => exact ⟨0, Nat.zero_le _, rfl, rfl, Below.refl _ _, Lib.hid rfl⟩
  case round =>
    obtain ⟨j, hj, rfl, rfl, hnx, habv⟩ := hrel
    have hsz := hnx.size
    by_cases hlt : j < l.length
    · obtain ⟨g, o, rfl, hg, hP⟩ := HC.out j hlt
      obtain ⟨c0, c1, c2, c3⟩ := (hP.keep hg B1).keep (Nat.lt_of_lt_of_le hg B1.size) hnx
      have hgs : g < wr.heap.size := Nat.lt_of_lt_of_le (Nat.lt_of_lt_of_le hg B1.size) hsz
      have hch := OK.out _ (List.getElem_mem hlt)
      have T1 := Lib.hid (fun h => fb_take_yes (six := six) hlt h)
      have T2 := Lib.hid (fun h => fb_take_no (six := six) hlt h)
      have T3 := Lib.hid (fun h => fb_take_mem (six := six) hlt h)
      generalize l[j] = q at c0 c1 c2 c3 hch T1 T2 T3
      obtain ⟨s, y, n⟩ := q
      simp only at c0 c1 c2 c3 T1 T2 T3
      obtain ⟨p0, p1, p2, p3, pl⟩ := GP.out.keep hnx
      have HQ : Hid (PreAt wr w.heap.size six (aH x) (aL x) ((wideN six - k : Nat) : Int)) := Lib.hid ⟨p0, p1, p2, p3, pl⟩
      have pm := Nat.lt_succ_of_lt pl
      simp only [Nat.succ_eq_add_one] at pm
      by_cases hs : s = six
      · subst hs
        obtain ⟨m, hB, hn, hm⟩ := chk_al hch
        simp only at hB hn hm
        subst hn
        have T1' := T1.out rfl
        have T3' := T3.out rfl
        rw [← hm] at T1' T3'
        have hs2 : (s != s) = false := by cases s <;> rfl
        have hs3 : (!s == s) = false := by cases s <;> rfl
        clear T1 T2 T3 hm hch
        have habs : abv x k (fb s (l.take (j + 1))) = cov y m x k := by
          rw [T1']; unfold abv at *; rw [List.any_append, habv.out]; simp
        have hans : anb x k (fb s (l.take (j + 1))) = (anb x k (fb s (l.take j)) || cov x k y m) := by
          rw [T1']; unfold anb; rw [List.any_append]; simp
        cases hcv : cov y m x k with
        | true =>
          have C1 := Lib.hid (refOver_al hB HA.out true hcv)
          obtain rfl : R = 1 := by
            rw [← HR.out]; unfold wv
            rw [if_pos]
            exact List.any_eq_true.2 ⟨_, T3', hcv⟩
          clear habs hans
          go_wp2_with fail
          refine (C1.out _).mono ?_
          rintro e w2 ⟨rfl, hb2⟩
          have b2 := thenBelow (thenBelow hnx ((Below.refl _ wr).alloc (Nat.le_refl _) _)) hb2
          clear c0 c1 c2 c3 p0 p1 p2 p3 pl pm C1 hb2 HQ
          go_wp2
          go_ret
          exact ⟨rfl, thenBelow B1 b2⟩
        | false =>
          have C1 := Lib.hid (refOver_al hB HA.out false hcv)
          have C2 := Lib.hid (refOver_al HA.out hB _ rfl)
          rw [hcv] at habs
          clear hcv T1' T3'
          go_wp2_with fail
          refine (C1.out _).mono ?_
          rintro e w2 ⟨rfl, hb2⟩
          obtain ⟨r0, r1, r2, r3, rl⟩ := (HQ.out.via ((Below.refl _ _).alloc (Nat.le_refl _) _) hb2)
          obtain ⟨s0, s1, s2, s3, sl⟩ := (PreAt.new wr s (aH y) (aL y) ((wideN s - m : Nat) : Int) 44).keep hb2
          have b2 := thenBelow (thenBelow hnx ((Below.refl _ wr).alloc (Nat.le_refl _) _)) hb2
          clear c0 c1 c2 c3 p0 p1 p2 p3 pl pm C1 hb2 HQ hnx
          cases han : anb x k (fb s (l.take j)) with
          | true =>
            rw [han, Bool.true_or] at hans
            go_wp2
            go_roundw
            case rel => exact ⟨j + 1, by omega, by go_num, by rw [hans], b2, Lib.hid habs⟩
            case measure => simp [intOf]; omega
          | false =>
            rw [han, Bool.false_or] at hans
            go_wp2_with fail
            refine (C2.out _).mono ?_
            rintro e w3 ⟨rfl, hb3⟩
            have b3 := thenBelow b2 hb3
            clear r0 r1 r2 r3 rl s0 s1 s2 s3 sl C2 hb3 b2
            go_wp2
            go_roundw
            case rel => exact ⟨j + 1, by omega, by go_num, by rw [hans], b3, Lib.hid habs⟩
            case measure => simp [intOf]; omega
      · have T2' := T2.out hs
        have hs2 : (s != six) = true := by simpa using hs
        have hs3 : (!s == six) = true := by cases s <;> cases six <;> simp_all
        have b2 := thenBelow hnx ((Below.refl _ wr).alloc (Nat.le_refl _) (.cells #[.bool s, .int .u64 (aH y), .int .u64 (aL y), .int .i64 n] 44))
        have ha' := habv.out
        rw [← T2'] at ha'
        clear T1 T2 T3 hs
        go_wp2
        go_roundw
        case rel => exact ⟨j + 1, by omega, by go_num, by rw [T2'], b2, Lib.hid ha'⟩
        case measure => simp [intOf]; omega
    · obtain rfl : j = l.length := by omega
      have ha := habv.out
      rw [List.take_length] at ha ⊢
      have e := HR.out
      unfold wv at e
      rw [ha] at e
      cases han : anb x k (fb six l) with
      | true =>
        rw [han] at e
        obtain rfl : R = -1 := e.symm
        go_wp2
        go_ret
        exact ⟨rfl, thenBelow B1 hnx⟩
      | false =>
        rw [han] at e
        obtain rfl : R = 0 := e.symm
        go_wp2
        go_ret
        exact ⟨rfl, thenBelow B1 hnx⟩
end Go.Proofs.YtojdlhiibffnfaaDoor

/-
  The document's walked, way by way.
-/
namespace Go.Proofs.YtojdlhiibffnfaaDoor
open Go.RowKit
set_option linter.unusedVariables false
set_option linter.unusedSimpArgs false

theorem pt_ne' (p q : PT) : p = q ∨ (p ≠ q ∧ (p.1 == q.1) = false) ∨ (p ≠ q ∧ p.1 = q.1 ∧ (aH p.2.1 == aH q.2.1) = false) ∨ (p ≠ q ∧ p.1 = q.1 ∧ aH p.2.1 = aH q.2.1 ∧ (aL p.2.1 == aL q.2.1) = false) ∨ (p ≠ q ∧ p.1 = q.1 ∧ p.2.1 = q.2.1 ∧ (p.2.2 == q.2.2) = false) := by
  by_cases e : p = q
  · exact .inl e
  · rcases pt_ne p q with h | h | h | h | h
    · exact absurd h e
    · exact .inr (.inl ⟨e, h⟩)
    · exact .inr (.inr (.inl ⟨e, h⟩))
    · exact .inr (.inr (.inr (.inl ⟨e, h⟩)))
    · exact .inr (.inr (.inr (.inr ⟨e, h⟩)))
set_option maxHeartbeats 8000000 in
set_option maxRecDepth 100000 in
theorem rk_unif (six : Bool) (x k F : Nat) (vl vm : Value) (l m : List PT) (a b : Int) (CF : Hid (∀ (args : Array Value) (W : World), Sem.run Tryd.prog (callFunc F args) W = .ok (.enter F args) W)) (r : Bool) (KF : Hid (∀ W : World, Calls Tryd.prog F #[.bool (a == 1), .bool (b == 1)] W fun e w' => e = .returned (.bool r) ∧ Below W.heap.size W w')) (ha : 0 ≤ a) (hb : 0 ≤ b) (R : List PT) (w : World) (hrl : RowP w vl l) (hrm : RowP w vm m)
    (W1 : Hid (∀ W : World, RowP W vl l → Calls Tryd.prog 81 #[.agg #[.bool six, .int .u64 (aH x), .int .u64 (aL x), .int .i64 ((wideN six - k : Nat) : Int)], vl] W fun e w' => e = .returned (.int .i64 a) ∧ Below W.heap.size W w'))
    (W2 : Hid (∀ W : World, RowP W vm m → Calls Tryd.prog 81 #[.agg #[.bool six, .int .u64 (aH x), .int .u64 (aL x), .int .i64 ((wideN six - k : Nat) : Int)], vm] W fun e w' => e = .returned (.int .i64 b) ∧ Below W.heap.size W w')) (hR : Hid (R = if r then [(six, x, ((wideN six - k : Nat) : Int))] else [])) :
    Calls Tryd.prog 68 #[.agg #[.bool six, .int .u64 (aH x), .int .u64 (aL x), .int .i64 ((wideN six - k : Nat) : Int)], vl, vm, .func (.func F) #[] #[]] w (PresOut R w) := by
  have b0 : Below w.heap.size w (w.alloc (.cells #[.bool six, .int .u64 (aH x), .int .u64 (aL x), .int .i64 ((wideN six - k : Nat) : Int)] 44)) := (Below.refl _ w).alloc (Nat.le_refl _) _
  have GP := PreAt.new w six (aH x) (aL x) ((wideN six - k : Nat) : Int) 44
  have RL := Lib.hid (hrl.keep b0)
  have RM := Lib.hid (hrm.keep b0)
  clear hrl hrm
  go_enter Tryd.func68, Tryd.ntmps68
  go_wp2_with fail
  refine (W1.out _ RL.out).mono ?_
  rintro e w1 ⟨rfl, hb1⟩
  have b1 := thenBelow b0 hb1
  have RL := Lib.hid (RL.out.keep hb1)
  have RM := Lib.hid (RM.out.keep hb1)
  have FB := Lib.hid (GP.keep hb1)
  obtain ⟨p0, p1, p2, p3, pl⟩ := preCells FB.out
  clear hb1 b0 GP W1
  go_wp2_with fail
  refine (W2.out _ RM.out).mono ?_
  rintro e w2 ⟨rfl, hb2⟩
  have b2 := thenBelow b1 hb2
  have RL := Lib.hid (RL.out.keep hb2)
  have RM := Lib.hid (RM.out.keep hb2)
  have FB := Lib.hid (FB.out.keep hb2)
  clear p0 p1 p2 p3 pl hb2 b1 W2
  obtain ⟨p0, p1, p2, p3, pl⟩ := preCells FB.out
  go_wp2_with fail
  rw [CF.out, Oper.upon_enter]
  refine (KF.out _).mono ?_
  rintro e w5 ⟨rfl, hb5⟩
  have b5 := thenBelow b2 hb5
  have FB := Lib.hid (FB.out.keep hb5)
  clear p0 p1 p2 p3 pl hb5 b2
  obtain ⟨p0, p1, p2, p3, pl⟩ := preCells FB.out
  cases r
  · go_wp2
    go_returns
    exact ⟨_, rfl, by rw [hR.out]; exact owned_nil _ _, b5⟩
  · go_wp2
    go_returns
    exact ⟨_, rfl, by rw [hR.out]; exact owned_one _ _ b5.size _ _ _, b5.alloc b5.size _⟩
set_option maxHeartbeats 8000000 in
set_option maxRecDepth 100000 in
theorem rk_split1 (six : Bool) (x k F : Nat) (vl vm : Value) (l m : List PT) (a b : Int) (hA : AL six x (k + 1)) (c1 c2 : List PT) (hlen : c1.length + c2.length ≤ 1000000000)
    (K1 : Hid (∀ W : World, RowP W vl l → RowP W vm m → Calls Tryd.prog 68 #[.agg #[.bool six, .int .u64 (aH x), .int .u64 (aL x), .int .i64 ((wideN six - k : Nat) : Int)], vl, vm, .func (.func F) #[] #[]] W (PresOut c1 W)))
    (K2 : Hid (∀ W : World, RowP W vl l → RowP W vm m → Calls Tryd.prog 68 #[.agg #[.bool six, .int .u64 (aH (x + 2 ^ k)), .int .u64 (aL (x + 2 ^ k)), .int .i64 ((wideN six - k : Nat) : Int)], vl, vm, .func (.func F) #[] #[]] W (PresOut c2 W))) (ha : a < 0) (R : List PT) (w : World) (hrl : RowP w vl l) (hrm : RowP w vm m)
    (W1 : Hid (∀ W : World, RowP W vl l → Calls Tryd.prog 81 #[.agg #[.bool six, .int .u64 (aH x), .int .u64 (aL x), .int .i64 ((wideN six - (k + 1) : Nat) : Int)], vl] W fun e w' => e = .returned (.int .i64 a) ∧ Below W.heap.size W w'))
    (W2 : Hid (∀ W : World, RowP W vm m → Calls Tryd.prog 81 #[.agg #[.bool six, .int .u64 (aH x), .int .u64 (aL x), .int .i64 ((wideN six - (k + 1) : Nat) : Int)], vm] W fun e w' => e = .returned (.int .i64 b) ∧ Below W.heap.size W w')) (hR : Hid (R = if c1 = [(six, x, ((wideN six - k : Nat) : Int))] ∧ c2 = [(six, x + 2 ^ k, ((wideN six - k : Nat) : Int))] then [(six, x, ((wideN six - (k + 1) : Nat) : Int))] else c1 ++ c2)) :
    Calls Tryd.prog 68 #[.agg #[.bool six, .int .u64 (aH x), .int .u64 (aL x), .int .i64 ((wideN six - (k + 1) : Nat) : Int)], vl, vm, .func (.func F) #[] #[]] w (PresOut R w) := by
  have b0 : Below w.heap.size w (w.alloc (.cells #[.bool six, .int .u64 (aH x), .int .u64 (aL x), .int .i64 ((wideN six - (k + 1) : Nat) : Int)] 44)) := (Below.refl _ w).alloc (Nat.le_refl _) _
  have GP := PreAt.new w six (aH x) (aL x) ((wideN six - (k + 1) : Nat) : Int) 44
  have RL := Lib.hid (hrl.keep b0)
  have RM := Lib.hid (hrm.keep b0)
  clear hrl hrm
  go_enter Tryd.func68, Tryd.ntmps68
  go_wp2_with fail
  refine (W1.out _ RL.out).mono ?_
  rintro e w1 ⟨rfl, hb1⟩
  have b1 := thenBelow b0 hb1
  have RL := Lib.hid (RL.out.keep hb1)
  have RM := Lib.hid (RM.out.keep hb1)
  have FB := Lib.hid (GP.keep hb1)
  obtain ⟨p0, p1, p2, p3, pl⟩ := preCells FB.out
  clear hb1 b0 GP W1
  go_wp2_with fail
  refine (W2.out _ RM.out).mono ?_
  rintro e w2 ⟨rfl, hb2⟩
  have b2 := thenBelow b1 hb2
  have RL := Lib.hid (RL.out.keep hb2)
  have RM := Lib.hid (RM.out.keep hb2)
  have FB := Lib.hid (FB.out.keep hb2)
  clear p0 p1 p2 p3 pl hb2 b1 W2
  obtain ⟨p0, p1, p2, p3, pl⟩ := preCells FB.out
  have HH := Lib.hid (refHalves_al2 hA)
  obtain ⟨i0, hii, hz0, hz1, hz2⟩ := info_parts info_pre
  go_wp2_with fail
  refine (HH.out _).mono ?_
  rintro e1 w5 ⟨rfl, hb5⟩
  have bLU : Below w5.heap.size w5 ((w5.alloc (.cells #[.bool six, .int .u64 (aH x), .int .u64 (aL x), .int .i64 ((wideN six - k : Nat) : Int)] 44)).alloc (.cells #[.bool six, .int .u64 (aH (x + 2 ^ k)), .int .u64 (aL (x + 2 ^ k)), .int .i64 ((wideN six - k : Nat) : Int)] 44)) := ((Below.refl _ w5).alloc (Nat.le_refl _) _).alloc (by simp) _
  have b5 := thenBelow (thenBelow b2 hb5) bLU
  have s5 := b5.size
  have RL := Lib.hid ((RL.out.keep hb5).keep bLU)
  have RM := Lib.hid ((RM.out.keep hb5).keep bLU)
  have FB := Lib.hid ((FB.out.keep hb5).keep bLU)
  have GL := (PreAt.new w5 six (aH x) (aL x) ((wideN six - k : Nat) : Int) 44).alloc (.cells #[.bool six, .int .u64 (aH (x + 2 ^ k)), .int .u64 (aL (x + 2 ^ k)), .int .i64 ((wideN six - k : Nat) : Int)] 44)
  have GU := PreAt.new (w5.alloc (.cells #[.bool six, .int .u64 (aH x), .int .u64 (aL x), .int .i64 ((wideN six - k : Nat) : Int)] 44)) six (aH (x + 2 ^ k)) (aL (x + 2 ^ k)) ((wideN six - k : Nat) : Int) 44
  rw [World.size_alloc] at GU
  clear p0 p1 p2 p3 pl hb5 b2 HH bLU
  go_wp2_with fail
  refine (K1.out _ RL.out RM.out).mono ?_
  rintro e2 w6 ⟨vx, rfl, ox6, hb6⟩
  have b6 := thenBelow b5 hb6
  have s6 := b6.size
  have RL := Lib.hid (RL.out.keep hb6)
  have RM := Lib.hid (RM.out.keep hb6)
  have FB := Lib.hid (FB.out.keep hb6)
  have FL := Lib.hid (GL.keep hb6)
  have FU := Lib.hid (GU.keep hb6)
  clear GL GU hb6 b5 K1
  obtain ⟨u0, u1, u2, u3, ul⟩ := preCells FU.out
  go_wp2_with fail
  refine (K2.out _ RL.out RM.out).mono ?_
  rintro e3 w7 ⟨vy, rfl, oy7, hb7⟩
  have b7 := thenBelow b6 hb7
  have FB := Lib.hid (FB.out.keep hb7)
  obtain ⟨p0, p1, p2, p3, pl⟩ := preCells FB.out
  obtain ⟨l0, l1, l2, l3, ll⟩ := preCells (FL.out.keep hb7)
  have FU' := Lib.hid (FU.out.keep hb7)
  clear u0 u1 u2 u3 ul
  obtain ⟨u0, u1, u2, u3, ul⟩ := preCells FU'.out
  have ox := ownsLow (ownsKeep ox6 hb7) s5
  have oy := ownsLow oy7 s6
  clear ox6 oy7
  have ox0 := RowP.owned ox
  have oy0 := RowP.owned oy
  have hby : (c1.length + c2.length) * 32 ≤ 140737488355328 := by omega
  have h63 : c1.length + c2.length ≤ maxLen := by unfold maxLen; omega
  clear hb7 b6 K2 RL RM FL FU FU'
  obtain ⟨pa, ca, rfl⟩ := ox0.form
  obtain ⟨pb, cb, rfl⟩ := oy0.form
  clear ox0 oy0
  have RR := hR.out
  clear hR
  by_cases n1 : c1.length = 1
  · by_cases n2 : c2.length = 1
    · obtain ⟨q1, e1⟩ := List.length_eq_one_iff.1 n1
      obtain ⟨q2, e2⟩ := List.length_eq_one_iff.1 n2
      obtain ⟨g1, k1, f1, _, _⟩ := ox.form (by omega)
      obtain ⟨g2, k2, f2, _, _⟩ := oy.form (by omega)
      rw [f1] at ox ⊢
      rw [f2] at oy ⊢
      obtain ⟨x0, x1, x2, x3⟩ := owned_at ox rfl 0 (by omega)
      obtain ⟨y0, y1, y2, y3⟩ := owned_at oy rfl 0 (by omega)
      have z1 : c1[0]'(by omega) = q1 := by simp [e1]
      have z2 : c2[0]'(by omega) = q2 := by simp [e2]
      rw [z1] at x0 x1 x2 x3
      rw [z2] at y0 y1 y2 y3
      simp only [Nat.zero_mul, Nat.zero_add] at x0 x1 x2 x3 y0 y1 y2 y3
      have n3 : ((c1.length : Int) == 1) = true := by simp; omega
      have n4 : ((c2.length : Int) == 1) = true := by simp; omega
      have n5 : (0 : Int) < (c1.length : Int) := by omega
      have n6 : (0 : Int) < (c2.length : Int) := by omega
      have E1 := Lib.hid e1
      have E2 := Lib.hid e2
      clear f1 f2 n1 n2 z1 z2 e1 e2
      rcases pt_ne' q1 (six, x, ((wideN six - k : Nat) : Int)) with h | ⟨hne, h⟩ | ⟨hne, h, h'⟩ | ⟨hne, h, h', h''⟩ | ⟨hne, h, h', h''⟩
      · subst h
        rcases pt_ne' q2 (six, x + 2 ^ k, ((wideN six - k : Nat) : Int)) with h | ⟨hne, h⟩ | ⟨hne, h, h'⟩ | ⟨hne, h, h', h''⟩ | ⟨hne, h, h', h''⟩
        · subst h
          rw [if_pos ⟨E1.out, E2.out⟩] at RR
          simp only at x0 x1 x2 x3 y0 y1 y2 y3
          go_wp2_with fail
          go_quiet ((fail))
          go_wp2
          go_returns
          refine ⟨_, rfl, ?_, (below_drewN b7 _).alloc (below_drewN b7 _).size _⟩
          rw [RR]
          exact owned_one _ _ (below_drewN b7 _).size _ _ _
        all_goals
          have NR : R = _ := RR.trans (if_neg fun c => hne (List.cons.inj (E2.out.symm.trans c.2)).1)
          clear RR hne
          obtain ⟨s, y, n⟩ := q2
          simp only at x0 x1 x2 x3 y0 y1 y2 y3 h
          try simp only at h'
          try simp only at h''
          try subst h
          try subst h'
          go_wp2_with fail
          go_quiet ((fail))
          go_wp2_with (first
            | (at_builtin; refine wpList_append_two (by rfl) _ _ _ (by rfl) w.heap.size 44 i0 _ 4 32 Tryd.underlying25 hii hz0 hz1 hz2 rfl (by decide) _ _ _ (by rfl) ox _ _ _ _ (by rfl) oy (pRow_one _) hby h63 b7.size ?_; intro ve we he be))
          go_wp2
          go_returns
          refine ⟨_, rfl, ?_, (below_drewN b7 _).trans be⟩
          rw [NR]; unfold Owned; rw [List.length_append, pRow_app]; exact he
      all_goals
        have NR : R = _ := RR.trans (if_neg fun c => hne (List.cons.inj (E1.out.symm.trans c.1)).1)
        clear RR hne
        obtain ⟨s, y, n⟩ := q1
        simp only at x0 x1 x2 x3 h
        try simp only at h'
        try simp only at h''
        try subst h
        try subst h'
        go_wp2_with fail
        go_quiet ((fail))
        go_wp2_with (first
          | (at_builtin; refine wpList_append_two (by rfl) _ _ _ (by rfl) w.heap.size 44 i0 _ 4 32 Tryd.underlying25 hii hz0 hz1 hz2 rfl (by decide) _ _ _ (by rfl) ox _ _ _ _ (by rfl) oy (pRow_one _) hby h63 b7.size ?_; intro ve we he be))
        go_wp2
        go_returns
        refine ⟨_, rfl, ?_, (below_drewN b7 _).trans be⟩
        rw [NR]; unfold Owned; rw [List.length_append, pRow_app]; exact he
    · have NR : R = _ := RR.trans (if_neg fun c => n2 (by rw [c.2]; rfl))
      clear RR
      have n3 : ((c2.length : Int) == 1) = false := by simp; omega
      have n4 : ¬ (c2.length : Int) = 1 := by omega
      have n5 : (c1.length : Int) = 1 := by omega
      have n6 : ((c1.length : Int) == 1) = true := by simp; omega
      clear n1 n2 n5
      go_wp2_with fail
      go_quiet ((fail))
      go_wp2_with (first
        | (at_builtin; refine wpList_append_two (by rfl) _ _ _ (by rfl) w.heap.size 44 i0 _ 4 32 Tryd.underlying25 hii hz0 hz1 hz2 rfl (by decide) _ _ _ (by rfl) ox _ _ _ _ (by rfl) oy (pRow_one _) hby h63 b7.size ?_; intro ve we he be))
      go_wp2
      go_returns
      refine ⟨_, rfl, ?_, (below_drewN b7 _).trans be⟩
      rw [NR]; unfold Owned; rw [List.length_append, pRow_app]; exact he
  · have NR : R = _ := RR.trans (if_neg fun c => n1 (by rw [c.1]; rfl))
    clear RR
    have n3 : ((c1.length : Int) == 1) = false := by simp; omega
    have n4 : ¬ (c1.length : Int) = 1 := by omega
    clear n1
    go_wp2_with fail
    go_quiet ((fail))
    go_wp2_with (first
      | (at_builtin; refine wpList_append_two (by rfl) _ _ _ (by rfl) w.heap.size 44 i0 _ 4 32 Tryd.underlying25 hii hz0 hz1 hz2 rfl (by decide) _ _ _ (by rfl) ox _ _ _ _ (by rfl) oy (pRow_one _) hby h63 b7.size ?_; intro ve we he be))
    go_wp2
    go_returns
    refine ⟨_, rfl, ?_, (below_drewN b7 _).trans be⟩
    rw [NR]; unfold Owned; rw [List.length_append, pRow_app]; exact he
set_option maxHeartbeats 8000000 in
set_option maxRecDepth 100000 in
theorem rk_split2 (six : Bool) (x k F : Nat) (vl vm : Value) (l m : List PT) (a b : Int) (hA : AL six x (k + 1)) (c1 c2 : List PT) (hlen : c1.length + c2.length ≤ 1000000000)
    (K1 : Hid (∀ W : World, RowP W vl l → RowP W vm m → Calls Tryd.prog 68 #[.agg #[.bool six, .int .u64 (aH x), .int .u64 (aL x), .int .i64 ((wideN six - k : Nat) : Int)], vl, vm, .func (.func F) #[] #[]] W (PresOut c1 W)))
    (K2 : Hid (∀ W : World, RowP W vl l → RowP W vm m → Calls Tryd.prog 68 #[.agg #[.bool six, .int .u64 (aH (x + 2 ^ k)), .int .u64 (aL (x + 2 ^ k)), .int .i64 ((wideN six - k : Nat) : Int)], vl, vm, .func (.func F) #[] #[]] W (PresOut c2 W))) (ha : 0 ≤ a) (hb : b < 0) (R : List PT) (w : World) (hrl : RowP w vl l) (hrm : RowP w vm m)
    (W1 : Hid (∀ W : World, RowP W vl l → Calls Tryd.prog 81 #[.agg #[.bool six, .int .u64 (aH x), .int .u64 (aL x), .int .i64 ((wideN six - (k + 1) : Nat) : Int)], vl] W fun e w' => e = .returned (.int .i64 a) ∧ Below W.heap.size W w'))
    (W2 : Hid (∀ W : World, RowP W vm m → Calls Tryd.prog 81 #[.agg #[.bool six, .int .u64 (aH x), .int .u64 (aL x), .int .i64 ((wideN six - (k + 1) : Nat) : Int)], vm] W fun e w' => e = .returned (.int .i64 b) ∧ Below W.heap.size W w')) (hR : Hid (R = if c1 = [(six, x, ((wideN six - k : Nat) : Int))] ∧ c2 = [(six, x + 2 ^ k, ((wideN six - k : Nat) : Int))] then [(six, x, ((wideN six - (k + 1) : Nat) : Int))] else c1 ++ c2)) :
    Calls Tryd.prog 68 #[.agg #[.bool six, .int .u64 (aH x), .int .u64 (aL x), .int .i64 ((wideN six - (k + 1) : Nat) : Int)], vl, vm, .func (.func F) #[] #[]] w (PresOut R w) := by
  have b0 : Below w.heap.size w (w.alloc (.cells #[.bool six, .int .u64 (aH x), .int .u64 (aL x), .int .i64 ((wideN six - (k + 1) : Nat) : Int)] 44)) := (Below.refl _ w).alloc (Nat.le_refl _) _
  have GP := PreAt.new w six (aH x) (aL x) ((wideN six - (k + 1) : Nat) : Int) 44
  have RL := Lib.hid (hrl.keep b0)
  have RM := Lib.hid (hrm.keep b0)
  clear hrl hrm
  go_enter Tryd.func68, Tryd.ntmps68
  go_wp2_with fail
  refine (W1.out _ RL.out).mono ?_
  rintro e w1 ⟨rfl, hb1⟩
  have b1 := thenBelow b0 hb1
  have RL := Lib.hid (RL.out.keep hb1)
  have RM := Lib.hid (RM.out.keep hb1)
  have FB := Lib.hid (GP.keep hb1)
  obtain ⟨p0, p1, p2, p3, pl⟩ := preCells FB.out
  clear hb1 b0 GP W1
  go_wp2_with fail
  refine (W2.out _ RM.out).mono ?_
  rintro e w2 ⟨rfl, hb2⟩
  have b2 := thenBelow b1 hb2
  have RL := Lib.hid (RL.out.keep hb2)
  have RM := Lib.hid (RM.out.keep hb2)
  have FB := Lib.hid (FB.out.keep hb2)
  clear p0 p1 p2 p3 pl hb2 b1 W2
  obtain ⟨p0, p1, p2, p3, pl⟩ := preCells FB.out
  have HH := Lib.hid (refHalves_al2 hA)
  obtain ⟨i0, hii, hz0, hz1, hz2⟩ := info_parts info_pre
  go_wp2_with fail
  refine (HH.out _).mono ?_
  rintro e1 w5 ⟨rfl, hb5⟩
  have bLU : Below w5.heap.size w5 ((w5.alloc (.cells #[.bool six, .int .u64 (aH x), .int .u64 (aL x), .int .i64 ((wideN six - k : Nat) : Int)] 44)).alloc (.cells #[.bool six, .int .u64 (aH (x + 2 ^ k)), .int .u64 (aL (x + 2 ^ k)), .int .i64 ((wideN six - k : Nat) : Int)] 44)) := ((Below.refl _ w5).alloc (Nat.le_refl _) _).alloc (by simp) _
  have b5 := thenBelow (thenBelow b2 hb5) bLU
  have s5 := b5.size
  have RL := Lib.hid ((RL.out.keep hb5).keep bLU)
  have RM := Lib.hid ((RM.out.keep hb5).keep bLU)
  have FB := Lib.hid ((FB.out.keep hb5).keep bLU)
  have GL := (PreAt.new w5 six (aH x) (aL x) ((wideN six - k : Nat) : Int) 44).alloc (.cells #[.bool six, .int .u64 (aH (x + 2 ^ k)), .int .u64 (aL (x + 2 ^ k)), .int .i64 ((wideN six - k : Nat) : Int)] 44)
  have GU := PreAt.new (w5.alloc (.cells #[.bool six, .int .u64 (aH x), .int .u64 (aL x), .int .i64 ((wideN six - k : Nat) : Int)] 44)) six (aH (x + 2 ^ k)) (aL (x + 2 ^ k)) ((wideN six - k : Nat) : Int) 44
  rw [World.size_alloc] at GU
  clear p0 p1 p2 p3 pl hb5 b2 HH bLU
  go_wp2_with fail
  refine (K1.out _ RL.out RM.out).mono ?_
  rintro e2 w6 ⟨vx, rfl, ox6, hb6⟩
  have b6 := thenBelow b5 hb6
  have s6 := b6.size
  have RL := Lib.hid (RL.out.keep hb6)
  have RM := Lib.hid (RM.out.keep hb6)
  have FB := Lib.hid (FB.out.keep hb6)
  have FL := Lib.hid (GL.keep hb6)
  have FU := Lib.hid (GU.keep hb6)
  clear GL GU hb6 b5 K1
  obtain ⟨u0, u1, u2, u3, ul⟩ := preCells FU.out
  go_wp2_with fail
  refine (K2.out _ RL.out RM.out).mono ?_
  rintro e3 w7 ⟨vy, rfl, oy7, hb7⟩
  have b7 := thenBelow b6 hb7
  have FB := Lib.hid (FB.out.keep hb7)
  obtain ⟨p0, p1, p2, p3, pl⟩ := preCells FB.out
  obtain ⟨l0, l1, l2, l3, ll⟩ := preCells (FL.out.keep hb7)
  have FU' := Lib.hid (FU.out.keep hb7)
  clear u0 u1 u2 u3 ul
  obtain ⟨u0, u1, u2, u3, ul⟩ := preCells FU'.out
  have ox := ownsLow (ownsKeep ox6 hb7) s5
  have oy := ownsLow oy7 s6
  clear ox6 oy7
  have ox0 := RowP.owned ox
  have oy0 := RowP.owned oy
  have hby : (c1.length + c2.length) * 32 ≤ 140737488355328 := by omega
  have h63 : c1.length + c2.length ≤ maxLen := by unfold maxLen; omega
  clear hb7 b6 K2 RL RM FL FU FU'
  obtain ⟨pa, ca, rfl⟩ := ox0.form
  obtain ⟨pb, cb, rfl⟩ := oy0.form
  clear ox0 oy0
  have RR := hR.out
  clear hR
  by_cases n1 : c1.length = 1
  · by_cases n2 : c2.length = 1
    · obtain ⟨q1, e1⟩ := List.length_eq_one_iff.1 n1
      obtain ⟨q2, e2⟩ := List.length_eq_one_iff.1 n2
      obtain ⟨g1, k1, f1, _, _⟩ := ox.form (by omega)
      obtain ⟨g2, k2, f2, _, _⟩ := oy.form (by omega)
      rw [f1] at ox ⊢
      rw [f2] at oy ⊢
      obtain ⟨x0, x1, x2, x3⟩ := owned_at ox rfl 0 (by omega)
      obtain ⟨y0, y1, y2, y3⟩ := owned_at oy rfl 0 (by omega)
      have z1 : c1[0]'(by omega) = q1 := by simp [e1]
      have z2 : c2[0]'(by omega) = q2 := by simp [e2]
      rw [z1] at x0 x1 x2 x3
      rw [z2] at y0 y1 y2 y3
      simp only [Nat.zero_mul, Nat.zero_add] at x0 x1 x2 x3 y0 y1 y2 y3
      have n3 : ((c1.length : Int) == 1) = true := by simp; omega
      have n4 : ((c2.length : Int) == 1) = true := by simp; omega
      have n5 : (0 : Int) < (c1.length : Int) := by omega
      have n6 : (0 : Int) < (c2.length : Int) := by omega
      have E1 := Lib.hid e1
      have E2 := Lib.hid e2
      clear f1 f2 n1 n2 z1 z2 e1 e2
      rcases pt_ne' q1 (six, x, ((wideN six - k : Nat) : Int)) with h | ⟨hne, h⟩ | ⟨hne, h, h'⟩ | ⟨hne, h, h', h''⟩ | ⟨hne, h, h', h''⟩
      · subst h
        rcases pt_ne' q2 (six, x + 2 ^ k, ((wideN six - k : Nat) : Int)) with h | ⟨hne, h⟩ | ⟨hne, h, h'⟩ | ⟨hne, h, h', h''⟩ | ⟨hne, h, h', h''⟩
        · subst h
          rw [if_pos ⟨E1.out, E2.out⟩] at RR
          simp only at x0 x1 x2 x3 y0 y1 y2 y3
          go_wp2_with fail
          go_quiet ((fail))
          go_wp2
          go_returns
          refine ⟨_, rfl, ?_, (below_drewN b7 _).alloc (below_drewN b7 _).size _⟩
          rw [RR]
          exact owned_one _ _ (below_drewN b7 _).size _ _ _
        all_goals
          have NR : R = _ := RR.trans (if_neg fun c => hne (List.cons.inj (E2.out.symm.trans c.2)).1)
          clear RR hne
          obtain ⟨s, y, n⟩ := q2
          simp only at x0 x1 x2 x3 y0 y1 y2 y3 h
          try simp only at h'
          try simp only at h''
          try subst h
          try subst h'
          go_wp2_with fail
          go_quiet ((fail))
          go_wp2_with (first
            | (at_builtin; refine wpList_append_two (by rfl) _ _ _ (by rfl) w.heap.size 44 i0 _ 4 32 Tryd.underlying25 hii hz0 hz1 hz2 rfl (by decide) _ _ _ (by rfl) ox _ _ _ _ (by rfl) oy (pRow_one _) hby h63 b7.size ?_; intro ve we he be))
          go_wp2
          go_returns
          refine ⟨_, rfl, ?_, (below_drewN b7 _).trans be⟩
          rw [NR]; unfold Owned; rw [List.length_append, pRow_app]; exact he
      all_goals
        have NR : R = _ := RR.trans (if_neg fun c => hne (List.cons.inj (E1.out.symm.trans c.1)).1)
        clear RR hne
        obtain ⟨s, y, n⟩ := q1
        simp only at x0 x1 x2 x3 h
        try simp only at h'
        try simp only at h''
        try subst h
        try subst h'
        go_wp2_with fail
        go_quiet ((fail))
        go_wp2_with (first
          | (at_builtin; refine wpList_append_two (by rfl) _ _ _ (by rfl) w.heap.size 44 i0 _ 4 32 Tryd.underlying25 hii hz0 hz1 hz2 rfl (by decide) _ _ _ (by rfl) ox _ _ _ _ (by rfl) oy (pRow_one _) hby h63 b7.size ?_; intro ve we he be))
        go_wp2
        go_returns
        refine ⟨_, rfl, ?_, (below_drewN b7 _).trans be⟩
        rw [NR]; unfold Owned; rw [List.length_append, pRow_app]; exact he
    · have NR : R = _ := RR.trans (if_neg fun c => n2 (by rw [c.2]; rfl))
      clear RR
      have n3 : ((c2.length : Int) == 1) = false := by simp; omega
      have n4 : ¬ (c2.length : Int) = 1 := by omega
      have n5 : (c1.length : Int) = 1 := by omega
      have n6 : ((c1.length : Int) == 1) = true := by simp; omega
      clear n1 n2 n5
      go_wp2_with fail
      go_quiet ((fail))
      go_wp2_with (first
        | (at_builtin; refine wpList_append_two (by rfl) _ _ _ (by rfl) w.heap.size 44 i0 _ 4 32 Tryd.underlying25 hii hz0 hz1 hz2 rfl (by decide) _ _ _ (by rfl) ox _ _ _ _ (by rfl) oy (pRow_one _) hby h63 b7.size ?_; intro ve we he be))
      go_wp2
      go_returns
      refine ⟨_, rfl, ?_, (below_drewN b7 _).trans be⟩
      rw [NR]; unfold Owned; rw [List.length_append, pRow_app]; exact he
  · have NR : R = _ := RR.trans (if_neg fun c => n1 (by rw [c.1]; rfl))
    clear RR
    have n3 : ((c1.length : Int) == 1) = false := by simp; omega
    have n4 : ¬ (c1.length : Int) = 1 := by omega
    clear n1
    go_wp2_with fail
    go_quiet ((fail))
    go_wp2_with (first
      | (at_builtin; refine wpList_append_two (by rfl) _ _ _ (by rfl) w.heap.size 44 i0 _ 4 32 Tryd.underlying25 hii hz0 hz1 hz2 rfl (by decide) _ _ _ (by rfl) ox _ _ _ _ (by rfl) oy (pRow_one _) hby h63 b7.size ?_; intro ve we he be))
    go_wp2
    go_returns
    refine ⟨_, rfl, ?_, (below_drewN b7 _).trans be⟩
    rw [NR]; unfold Owned; rw [List.length_append, pRow_app]; exact he
end Go.Proofs.YtojdlhiibffnfaaDoor

/-
  The document's presFault.
-/
namespace Go.Proofs.YtojdlhiibffnfaaDoor
open Go.RowKit
set_option linter.unusedVariables false
set_option linter.unusedSimpArgs false

theorem refCheck_big (l m : List PT) (vl vm : Value) (hn : l.length ≤ 9223372036854775807) (hm : m.length ≤ 9223372036854775807) (h : 80 < l.length ∨ 80 < m.length) (b : Nat) (w : World) (rl : RowP w vl l) (rm : RowP w vm m) (h0 : w.cell? ⟨b, 0, none⟩ = some vl) (h1 : w.cell? ⟨b, 1, none⟩ = some vm) :
    Calls Tryd.prog 67 #[.slice (some ⟨b, 0, none⟩) 2 2] w fun e w' => e = .returned (.int .i64 1) ∧ Below w.heap.size w w' := by
  obtain ⟨p1, c1, rfl, _⟩ := rl.at
  obtain ⟨p2, c2, rfl, _⟩ := rm.at
  by_cases hl : 80 < l.length
  · have hl' : (80 : Int) < (l.length : Int) := by omega
    go_enter Tryd.func67, Tryd.ntmps67
    go_wp2
    go_rounds 1
    go_ret
    exact ⟨rfl, Below.refl _ _⟩
  · have hl' : ¬ (80 : Int) < (l.length : Int) := by omega
    have hm' : (80 : Int) < (m.length : Int) := by omega
    go_enter Tryd.func67, Tryd.ntmps67
    go_wp2
    go_rounds 2
    go_ret
    exact ⟨rfl, Below.refl _ _⟩
set_option maxHeartbeats 4000000 in
set_option maxRecDepth 100000 in
theorem refCheck_small (l m : List PT) (vl vm : Value) (hn : l.length ≤ 80) (hm : m.length ≤ 80) (wl : Words l) (wm : Words m) (E : Int) (hE : (if ferr l = 0 then ferr m else ferr l) = E) (b : Nat) (w : World) (hb : b < w.heap.size) (rl : RowP w vl l) (rm : RowP w vm m) (h0 : w.cell? ⟨b, 0, none⟩ = some vl) (h1 : w.cell? ⟨b, 1, none⟩ = some vm) :
    Calls Tryd.prog 67 #[.slice (some ⟨b, 0, none⟩) 2 2] w fun e w' => e = .returned (.int .i64 E) ∧ Below w.heap.size w w' := by
  obtain ⟨p1, c1, rfl, q1⟩ := rl.at
  obtain ⟨p2, c2, rfl, q2⟩ := rm.at
  have hl' : ¬ (80 : Int) < (l.length : Int) := by omega
  have hm' : ¬ (80 : Int) < (m.length : Int) := by omega
  have LE := Lib.hid hE
  have WL := Lib.hid wl
  have WM := Lib.hid wm
  have Q1 := Lib.hid q1
  have Q2 := Lib.hid q2
  clear hE wl wm q1 q2 rl rm
  go_enter Tryd.func67, Tryd.ntmps67
  go_wp2
  go_rounds 3
  go_wp2
  go_loopw [22] (fun i wr => ∃ j : Nat, j ≤ 2 ∧ i = .int .i64 j ∧ Below w.heap.size w wr ∧ Hid (1 ≤ j → ferr l = 0) ∧ Hid (2 ≤ j → ferr m = 0)) (fun i _ => 2 - (intOf i).toNat)
  case atStart => exact ⟨0, by omega, rfl, Below.refl _ _, Lib.hid (fun h => by omega), Lib.hid (fun h => by omega)⟩
  case round =>
    obtain ⟨j, hj, rfl, hnx, i1, i2⟩ := hrel
    by_cases hlt : j < 2
    · have pick : ∃ (L : List PT) (p : Option Addr) (c : Nat), wr.cell? ⟨b, j, none⟩ = some (.slice p L.length c) ∧ L.length ≤ 80 ∧ Words L ∧ (∀ k (hk : k < L.length), ∃ g o, p = some ⟨g, o, none⟩ ∧ g < w.heap.size ∧ PCell w g (o + k * 4) L[k]) ∧ (ferr L ≠ 0 → E = ferr L) ∧ (ferr L = 0 → (1 ≤ j + 1 → ferr l = 0) ∧ (2 ≤ j + 1 → ferr m = 0)) := by
        have e := LE.out
        match j, hlt with
        | 0, _ => exact ⟨l, p1, c1, (hnx.cell (p := ⟨b, 0, none⟩) hb).trans h0, hn, WL.out, Q1.out, fun h => by rw [if_neg h] at e; exact e.symm, fun h => ⟨fun _ => h, fun h => by omega⟩⟩
        | 1, _ =>
          have z := i1.out (by omega)
          exact ⟨m, p2, c2, (hnx.cell (p := ⟨b, 1, none⟩) hb).trans h1, hm, WM.out, Q2.out, fun h => by rw [if_pos z] at e; exact e.symm, fun h => ⟨fun _ => z, fun _ => h⟩⟩
      obtain ⟨L, p, c, hcell, hL, hW, hC, hbad, hok⟩ := pick
      have HW := Lib.hid hW
      have HC := Lib.hid hC
      have HBAD := Lib.hid hbad
      have HOK := Lib.hid hok
      clear hW hC hbad hok i1 i2
      have hj2 : (j : Int) < 2 := by omega
      have hj3 : decide ((j : Int) < 2) = true := decide_eq_true hj2
      go_wp2
      go_loopw [28] (fun i wq => ∃ k : Nat, k ≤ L.length ∧ i = .int .i64 k ∧ Below w.heap.size w wq ∧ Hid (ferr L = ferr (L.drop k))) (fun i _ => L.length - (intOf i).toNat)
      case atStart => exact ⟨0, by omega, rfl, hnx, Lib.hid rfl⟩
      case round =>
        obtain ⟨k, hk, rfl, hny, hf⟩ := hrel
        by_cases hkl : k < L.length
        · obtain ⟨g, o, rfl, hg, hP⟩ := HC.out k hkl
          obtain ⟨x0, x1, x2, x3⟩ := hP.keep hg hny
          have hw := HW.out _ (List.getElem_mem hkl)
          have T1 := Lib.hid (fun h => ferr_drop_ok hkl h)
          have T2 := Lib.hid (fun h => ferr_drop_bad hkl h)
          generalize L[k] = q at x0 x1 x2 x3 hw T1 T2
          obtain ⟨s, x, n⟩ := q
          simp only at x0 x1 x2 x3 hw
          have CK := Lib.hid (fun W : World => refFault_calls s x n hw W)
          have hgs := Nat.lt_of_lt_of_le hg hny.size
          go_wp2_with fail
          refine (CK.out _).mono ?_
          rintro e w2 ⟨rfl, hb2⟩
          have b2 := thenBelow (thenBelow hny ((Below.refl _ _).alloc (Nat.le_refl _) _)) hb2
          clear x0 x1 x2 x3 hb2
          by_cases hz : chkP (s, x, n) = 0
          · have T1' := T1.out hz
            have hz' : chkE s x n = 0 := hz
            clear T1 T2 hz
            rw [hz']
            go_wp2
            go_roundw
            case rel => exact ⟨k + 1, by omega, by go_num, b2, Lib.hid (hf.out.trans T1')⟩
            case measure => simp [intOf]; omega
          · have T2' := T2.out hz
            have hz' : ¬ chkE s x n = 0 := hz
            have hz1 : (chkE s x n == 0) = false := by simpa using hz'
            have hz2 : (chkE s x n != 0) = true := by simp [bne, hz1]
            obtain rfl : E = chkE s x n := by
              have := hf.out.trans T2'
              rw [HBAD.out (by rw [this]; exact hz), this]
              rfl
            clear T1 T2 hz
            go_wp2
            go_ret
            exact ⟨rfl, b2⟩
        · obtain rfl : k = L.length := by omega
          have z : ferr L = 0 := by rw [hf.out, List.drop_length]; rfl
          obtain ⟨z1, z2⟩ := HOK.out z
          go_wp2
          go_roundw
          case rel => exact ⟨j + 1, by omega, by go_num, hny, Lib.hid z1, Lib.hid z2⟩
          case measure => simp [intOf]; omega
    · obtain rfl : j = 2 := by omega
      obtain rfl : E = 0 := by
        have e := LE.out
        rw [if_pos (i1.out (by omega)), i2.out (by omega)] at e
        exact e.symm
      go_wp2
      go_ret
      exact ⟨rfl, hnx⟩
theorem refCheck (l m : List PT) (vl vm : Value) (hn : l.length ≤ 9223372036854775807) (hm : m.length ≤ 9223372036854775807) (wl : Words l) (wm : Words m) (b : Nat) (w : World) (hb : b < w.heap.size) (rl : RowP w vl l) (rm : RowP w vm m) (h0 : w.cell? ⟨b, 0, none⟩ = some vl) (h1 : w.cell? ⟨b, 1, none⟩ = some vm) :
    Calls Tryd.prog 67 #[.slice (some ⟨b, 0, none⟩) 2 2] w fun e w' => e = .returned (.int .i64 (listsE l m)) ∧ Below w.heap.size w w' := by
  unfold listsE
  by_cases h : 80 < l.length ∨ 80 < m.length
  · rw [if_pos h]; exact refCheck_big l m vl vm hn hm h b w rl rm h0 h1
  · rw [if_neg h]; exact refCheck_small l m vl vm (by omega) (by omega) wl wm _ rfl b w hb rl rm h0 h1
end Go.Proofs.YtojdlhiibffnfaaDoor

/-
  The document's walked, whole; CidrSet, CidrMerge, CidrMinus, CidrBoth.
-/
namespace Go.Proofs.YtojdlhiibffnfaaDoor
open Go.RowKit
set_option linter.unusedVariables false
set_option linter.unusedSimpArgs false

theorem wv_cases (x k : Nat) (l : BL) : (wv x k l = 1 ∧ unif x k (wth x k l) = true ∧ 0 < (wth x k l).length) ∨ (wv x k l = 0 ∧ unif x k (wth x k l) = true ∧ (wth x k l).length = 0) ∨ (wv x k l = -1 ∧ unif x k (wth x k l) = false) := by
  unfold wv wth
  by_cases ha : abv x k l = true
  · rw [if_pos ha, if_pos ha]
    exact .inl ⟨rfl, by simp [unif], by simp⟩
  · have ha' : abv x k l = false := by simpa using ha
    rw [if_neg ha, if_neg ha]
    cases hn : anb x k l with
    | false =>
      have hb : blw x k l = [] := List.filter_eq_nil_iff.2 fun q hq => by
        have := List.any_eq_false.1 hn q hq
        simpa using this
      exact .inr (.inl ⟨rfl, by rw [hb]; rfl, by rw [hb]; rfl⟩)
    | true =>
      refine .inr (.inr ⟨rfl, ?_⟩)
      obtain ⟨q, hq, hc⟩ := List.any_eq_true.1 hn
      cases hb : blw x k l with
      | nil => have := List.filter_eq_nil_iff.1 hb q hq; exact absurd hc this
      | cons r t =>
        have hm : r ∈ blw x k l := by rw [hb]; exact .head _
        show decide (r = (x, k)) = false
        rw [decide_eq_false_iff_not]
        rintro rfl
        have := List.any_eq_false.1 ha' _ (List.mem_filter.1 hm).1
        exact absurd (cov_self x k) this
theorem cn_join' {six : Bool} {S : Nat → Prop} {x k : Nat} (hx : AL six x (k + 1)) :
    cn six S (k + 1) x = if cn six S k x = [(six, x, ((wideN six - k : Nat) : Int))] ∧ cn six S k (x + 2 ^ k) = [(six, x + 2 ^ k, ((wideN six - k : Nat) : Int))] then [(six, x, ((wideN six - (k + 1) : Nat) : Int))] else cn six S k x ++ cn six S k (x + 2 ^ k) := by
  by_cases h : ∀ a, inB x (k + 1) a → S a
  · rw [if_pos, cn_all h]
    exact ⟨cn_all fun a ha => h a (inB_low ha), cn_all fun a ha => h a (inB_high ha)⟩
  · rw [if_neg, cn_half h]
    rintro ⟨e1, e2⟩
    have := cn_join (S := S) hx
    rw [e1, e2, if_pos (by rfl), cn_half h, e1, e2] at this
    simp at this
section
variable {six : Bool} {F : Nat} {c : Bool → Bool → Bool} (hc : Chooses F c) {l m : List PT} (ol : AllOK l) (om : AllOK m) (n1 : l.length ≤ 80) (n2 : m.length ≤ 80)
include hc ol om n1 n2
theorem rk_u {k x : Nat} (hA : AL six x k) (u1 : unif x k (wth x k (fb six l)) = true) (u2 : unif x k (wth x k (fb six m)) = true) (w : World) (vl vm : Value) (hrl : RowP w vl l) (hrm : RowP w vm m) :
    Calls Tryd.prog 68 #[.agg #[.bool six, .int .u64 (aH x), .int .u64 (aL x), .int .i64 ((wideN six - k : Nat) : Int)], vl, vm, .func (.func F) #[] #[]] w (PresOut (cn six (chS c (fb six l) (fb six m)) k x) w) := by
  have key : ∀ L : BL, unif x k (wth x k L) = true → 0 ≤ wv x k L ∧ (wv x k L == 1) = decide (0 < (wth x k L).length) := by
    intro L hu
    rcases wv_cases x k L with ⟨a, _, b⟩ | ⟨a, _, b⟩ | ⟨_, b⟩
    · rw [a, decide_eq_true b]; exact ⟨by decide, rfl⟩
    · rw [a, decide_eq_false (by omega)]; exact ⟨by decide, rfl⟩
    · rw [hu] at b; cases b
  obtain ⟨a0, a1⟩ := key _ u1
  obtain ⟨b0, b1⟩ := key _ u2
  refine rk_unif six x k F vl vm l m _ _ (Lib.hid hc.1) _ (Lib.hid fun W => hc.2 _ _ W) a0 b0 _ w hrl hrm (Lib.hid fun W h => refWithin six x k hA l ol (by omega) vl W h) (Lib.hid fun W h => refWithin six x k hA m om (by omega) vm W h) (Lib.hid ?_)
  rw [cn_unif hA (fb_al six ol) (fb_al six om) u1 u2, a1, b1]
theorem rk_calls : ∀ (k x : Nat), AL six x k → ∀ (w : World) (vl vm : Value), RowP w vl l → RowP w vm m →
    Calls Tryd.prog 68 #[.agg #[.bool six, .int .u64 (aH x), .int .u64 (aL x), .int .i64 ((wideN six - k : Nat) : Int)], vl, vm, .func (.func F) #[] #[]] w (PresOut (cn six (chS c (fb six l) (fb six m)) k x) w)
  | 0, x, hA, w, vl, vm, hrl, hrm => by
    have u : ∀ l : BL, unif x 0 (wth x 0 l) = true := fun l => by
      cases h : unif x 0 (wth x 0 l) with
      | true => rfl
      | false => obtain ⟨j, hj⟩ := nonunif_pos h; omega
    exact rk_u hc ol om n1 n2 hA (u _) (u _) w vl vm hrl hrm
  | k + 1, x, hA, w, vl, vm, hrl, hrm => by
    have hlen : (cn six (chS c (fb six l) (fb six m)) k x).length + (cn six (chS c (fb six l) (fb six m)) k (x + 2 ^ k)).length ≤ 1000000000 := by
      have := cn_len' (fb_al six ol) (fb_al six om) (c := c) hA.low
      have := cn_len' (fb_al six ol) (fb_al six om) (c := c) hA.high
      have := fb_len six l
      have := fb_len six m
      omega
    have W1 := Lib.hid fun (W : World) (h : RowP W vl l) => refWithin six x (k + 1) hA l ol (by omega) vl W h
    have W2 := Lib.hid fun (W : World) (h : RowP W vm m) => refWithin six x (k + 1) hA m om (by omega) vm W h
    have K1 := Lib.hid fun (W : World) (h1 : RowP W vl l) (h2 : RowP W vm m) => rk_calls k x hA.low W vl vm h1 h2
    have K2 := Lib.hid fun (W : World) (h1 : RowP W vl l) (h2 : RowP W vm m) => rk_calls k (x + 2 ^ k) hA.high W vl vm h1 h2
    have hj := cn_join' (S := chS c (fb six l) (fb six m)) hA
    have neg : ∀ L : BL, unif x (k + 1) (wth x (k + 1) L) = false → wv x (k + 1) L < 0 := by
      intro L hu
      rcases wv_cases x (k + 1) L with ⟨_, b, _⟩ | ⟨_, b, _⟩ | ⟨a, _⟩
      · rw [hu] at b; cases b
      · rw [hu] at b; cases b
      · omega
    have pos : ∀ L : BL, unif x (k + 1) (wth x (k + 1) L) = true → 0 ≤ wv x (k + 1) L := by
      intro L hu
      rcases wv_cases x (k + 1) L with ⟨a, _⟩ | ⟨a, _⟩ | ⟨_, b⟩
      · omega
      · omega
      · rw [hu] at b; cases b
    cases u1 : unif x (k + 1) (wth x (k + 1) (fb six l)) with
    | false => exact rk_split1 six x k F vl vm l m _ _ hA _ _ hlen K1 K2 (neg _ u1) _ w hrl hrm W1 W2 (Lib.hid hj)
    | true =>
      cases u2 : unif x (k + 1) (wth x (k + 1) (fb six m)) with
      | true => exact rk_u hc ol om n1 n2 hA u1 u2 w vl vm hrl hrm
      | false => exact rk_split2 six x k F vl vm l m _ _ hA _ _ hlen K1 K2 (pos _ u1) (neg _ u2) _ w hrl hrm W1 W2 (Lib.hid hj)
theorem rk_fam (w : World) (vl vm : Value) (hrl : RowP w vl l) (hrm : RowP w vm m) :
    Calls Tryd.prog 68 #[.agg #[.bool six, .int .u64 0, .int .u64 0, .int .i64 0], vl, vm, .func (.func F) #[] #[]] w (PresOut (famE six c l m) w) := by
  have := rk_calls hc ol om n1 n2 (six := six) (wideN six) 0 (AL.top six) w vl vm hrl hrm
  rw [Nat.sub_self] at this
  exact this
end
theorem rch_merge : Chooses 46 (fun a _ => a) :=
  ⟨enters _ _ Tryd.func46 (by kernel_rfl) (by kernel_rfl), fun a b W => by
    go_enter Tryd.func46, Tryd.ntmps46
    go_wp2
    go_returns
    exact ⟨rfl, Below.refl _ _⟩⟩
theorem rch_minus : Chooses 48 (fun a b => a && !b) :=
  ⟨enters _ _ Tryd.func48 (by kernel_rfl) (by kernel_rfl), fun a b W => by
    cases a <;> cases b
    all_goals
      go_enter Tryd.func48, Tryd.ntmps48
      go_wp2
      go_returns
      exact ⟨rfl, Below.refl _ _⟩⟩
theorem rch_both : Chooses 50 (fun a b => a && b) :=
  ⟨enters _ _ Tryd.func50 (by kernel_rfl) (by kernel_rfl), fun a b W => by
    cases a <;> cases b
    all_goals
      go_enter Tryd.func50, Tryd.ntmps50
      go_wp2
      go_returns
      exact ⟨rfl, Below.refl _ _⟩⟩
theorem refTop_calls' (s : Bool) (w : World) : Calls Tryd.prog 42 #[.bool s] w fun e w' => e = .returned (.agg #[.bool s, .int .u64 0, .int .u64 0, .int .i64 0]) ∧ Below w.heap.size w w' := by
  go_enter Tryd.func42, Tryd.ntmps42
  go_wp2
  go_returns
  exact ⟨rfl, by go_grown⟩
set_option maxHeartbeats 4000000 in
theorem set_err (l m : List PT) (vl vm : Value) (F : Nat) (E : Int) (hE : (E == 0) = false)
    (CK : Hid (∀ (W : World) (b : Nat), b < W.heap.size → RowP W vl l → RowP W vm m → W.cell? ⟨b, 0, none⟩ = some vl → W.cell? ⟨b, 1, none⟩ = some vm → Calls Tryd.prog 67 #[.slice (some ⟨b, 0, none⟩) 2 2] W fun e w' => e = .returned (.int .i64 E) ∧ Below W.heap.size W w'))
    (w : World) (rl : RowP w vl l) (rm : RowP w vm m) :
    Calls Tryd.prog 45 #[vl, vm, .func (.func F) #[] #[]] w (PresOutE [] E w) := by
  have hE2 : (E != 0) = true := by simp [bne, hE]
  have hE3 : ¬ E = 0 := by simpa using hE
  obtain ⟨p1, c1, rfl⟩ := rl.form
  obtain ⟨p2, c2, rfl⟩ := rm.form
  have RL := Lib.hid rl
  have RM := Lib.hid rm
  clear rl rm
  go_enter Tryd.func45, Tryd.ntmps45
  go_wp2_with fail
  refine (CK.out _ w.heap.size (by simp) (RL.out.keep ((Below.refl _ _).alloc (Nat.le_refl _) _)) (RM.out.keep ((Below.refl _ _).alloc (Nat.le_refl _) _)) (by simp) (by simp)).mono ?_
  rintro e w1 ⟨rfl, hb1⟩
  have b1 := thenBelow ((Below.refl _ w).alloc (Nat.le_refl _) _) hb1
  clear hb1
  go_wp2
  go_returns
  exact ⟨_, rfl, owned_nil _ _, b1⟩
set_option maxHeartbeats 4000000 in
theorem set_walk (l m : List PT) (vl vm : Value) (F : Nat) (A B : List PT) (hA : A.length ≤ 100000) (hB : B.length ≤ 100000)
    (CK : Hid (∀ (W : World) (b : Nat), b < W.heap.size → RowP W vl l → RowP W vm m → W.cell? ⟨b, 0, none⟩ = some vl → W.cell? ⟨b, 1, none⟩ = some vm → Calls Tryd.prog 67 #[.slice (some ⟨b, 0, none⟩) 2 2] W fun e w' => e = .returned (.int .i64 0) ∧ Below W.heap.size W w'))
    (K1 : Hid (∀ W : World, RowP W vl l → RowP W vm m → Calls Tryd.prog 68 #[.agg #[.bool false, .int .u64 0, .int .u64 0, .int .i64 0], vl, vm, .func (.func F) #[] #[]] W (PresOut A W)))
    (K2 : Hid (∀ W : World, RowP W vl l → RowP W vm m → Calls Tryd.prog 68 #[.agg #[.bool true, .int .u64 0, .int .u64 0, .int .i64 0], vl, vm, .func (.func F) #[] #[]] W (PresOut B W)))
    (w : World) (rl : RowP w vl l) (rm : RowP w vm m) :
    Calls Tryd.prog 45 #[vl, vm, .func (.func F) #[] #[]] w (PresOutE (A ++ B) 0 w) := by
  obtain ⟨i0, hii, hz0, hz1, hz2⟩ := info_parts info_pre
  obtain ⟨p1, c1, rfl⟩ := rl.form
  obtain ⟨p2, c2, rfl⟩ := rm.form
  have RL := Lib.hid rl
  have RM := Lib.hid rm
  have TF := Lib.hid (refTop_calls' false)
  have TT := Lib.hid (refTop_calls' true)
  clear rl rm
  go_enter Tryd.func45, Tryd.ntmps45
  go_wp2_with fail
  refine (CK.out _ w.heap.size (by simp) (RL.out.keep ((Below.refl _ _).alloc (Nat.le_refl _) _)) (RM.out.keep ((Below.refl _ _).alloc (Nat.le_refl _) _)) (by simp) (by simp)).mono ?_
  rintro e w1 ⟨rfl, hb1⟩
  have b1 := thenBelow ((Below.refl _ w).alloc (Nat.le_refl _) _) hb1
  have RL := Lib.hid (RL.out.keep b1)
  have RM := Lib.hid (RM.out.keep b1)
  clear hb1 CK
  go_wp2_with fail
  refine (TF.out _).mono ?_
  rintro e w2 ⟨rfl, hb2⟩
  have b2 := thenBelow b1 hb2
  have RL := Lib.hid (RL.out.keep hb2)
  have RM := Lib.hid (RM.out.keep hb2)
  clear hb2 b1
  go_wp2_with fail
  refine (K1.out _ RL.out RM.out).mono ?_
  rintro e w3 ⟨va, rfl, oa, hb3⟩
  have s2 := b2.size
  have b3 := thenBelow b2 hb3
  have RL := Lib.hid (RL.out.keep hb3)
  have RM := Lib.hid (RM.out.keep hb3)
  clear hb3 b2
  go_wp2_with fail
  refine (TT.out _).mono ?_
  rintro e w4 ⟨rfl, hb4⟩
  have b4 := thenBelow b3 hb4
  have RL := Lib.hid (RL.out.keep hb4)
  have RM := Lib.hid (RM.out.keep hb4)
  have oa4 := ownsKeep oa hb4
  clear hb4 b3 oa
  go_wp2_with fail
  refine (K2.out _ RL.out RM.out).mono ?_
  rintro e w5 ⟨vb, rfl, ob, hb5⟩
  have s4 := b4.size
  have b5 := thenBelow b4 hb5
  have oa5 := ownsLow (ownsKeep oa4 hb5) s2
  have hby : (A.length + B.length) * 32 ≤ 140737488355328 := by omega
  have h63 : A.length + B.length ≤ maxLen := by unfold maxLen; omega
  clear hb5 b4 oa4 RL RM
  go_wp2_with (first
    | (at_builtin; refine wpList_append_two (by rfl) _ _ _ (by rfl) w.heap.size 44 i0 _ 4 32 Tryd.underlying25 hii hz0 hz1 hz2 rfl (by decide) _ _ _ (by rfl) oa5 _ _ _ _ (by rfl) ob (pRow_one _) hby h63 b5.size ?_; intro ve we he be))
  go_wp2
  go_returns
  refine ⟨_, rfl, ?_, b5.trans be⟩
  unfold Owned; rw [List.length_append, pRow_app]; exact he
theorem set_calls {F : Nat} {c : Bool → Bool → Bool} (hc : Chooses F c) (l m : List PT) (vl vm : Value) (hn : l.length ≤ 9223372036854775807) (hm : m.length ≤ 9223372036854775807) (wl : Words l) (wm : Words m) (w : World) (rl : RowP w vl l) (rm : RowP w vm m) :
    Calls Tryd.prog 45 #[vl, vm, .func (.func F) #[] #[]] w (PresOutE (ansL c l m) (listsE l m) w) := by
  have CK : ∀ (W : World) (b : Nat), b < W.heap.size → RowP W vl l → RowP W vm m → W.cell? ⟨b, 0, none⟩ = some vl → W.cell? ⟨b, 1, none⟩ = some vm → Calls Tryd.prog 67 #[.slice (some ⟨b, 0, none⟩) 2 2] W fun e w' => e = .returned (.int .i64 (listsE l m)) ∧ Below W.heap.size W w' :=
    fun W b hb h1 h2 h3 h4 => refCheck l m vl vm hn hm wl wm b W hb h1 h2 h3 h4
  unfold ansL
  by_cases h : listsE l m = 0
  · rw [if_pos h, h]
    rw [h] at CK
    obtain ⟨n1, n2, ol, om⟩ := lists0 h
    exact set_walk l m vl vm F (famE false c l m) (famE true c l m) (famE_len false c ol om n1 n2) (famE_len true c ol om n1 n2) (Lib.hid CK) (Lib.hid fun W h1 h2 => rk_fam hc ol om n1 n2 W vl vm h1 h2) (Lib.hid fun W h1 h2 => rk_fam hc ol om n1 n2 W vl vm h1 h2) w rl rm
  · rw [if_neg h]
    exact set_err l m vl vm F _ (by simpa using h) (Lib.hid CK) w rl rm
theorem refMerge_calls (l : List PT) (vl : Value) (hn : l.length ≤ 9223372036854775807) (wl : Words l) (w : World) (rl : RowP w vl l) :
    Calls Tryd.prog 16 #[vl] w (PresOutE (ansL (fun a _ => a) l []) (listsE l []) w) := by
  have K := Lib.hid (set_calls rch_merge l [] vl (.slice none 0 0) hn (by simp) wl words_nil w rl (row_nil _))
  generalize ansL (fun a _ => a) l [] = R at K ⊢
  generalize listsE l [] = E at K ⊢
  clear rl wl
  go_enter Tryd.func16, Tryd.ntmps16
  go_wp2_with fail
  refine K.out.mono ?_
  rintro e w1 ⟨v, rfl, ho, hb⟩
  go_wp2
  go_returns
  exact ⟨_, rfl, ho, hb⟩
theorem refMinus_calls (l m : List PT) (vl vm : Value) (hn : l.length ≤ 9223372036854775807) (hm : m.length ≤ 9223372036854775807) (wl : Words l) (wm : Words m) (w : World) (rl : RowP w vl l) (rm : RowP w vm m) :
    Calls Tryd.prog 18 #[vl, vm] w (PresOutE (ansL (fun a b => a && !b) l m) (listsE l m) w) := by
  have K := Lib.hid (set_calls rch_minus l m vl vm hn hm wl wm w rl rm)
  generalize ansL (fun a b => a && !b) l m = R at K ⊢
  generalize listsE l m = E at K ⊢
  clear rl rm wl wm
  go_enter Tryd.func18, Tryd.ntmps18
  go_wp2_with fail
  refine K.out.mono ?_
  rintro e w1 ⟨v, rfl, ho, hb⟩
  go_wp2
  go_returns
  exact ⟨_, rfl, ho, hb⟩
theorem refBoth2_calls (l m : List PT) (vl vm : Value) (hn : l.length ≤ 9223372036854775807) (hm : m.length ≤ 9223372036854775807) (wl : Words l) (wm : Words m) (w : World) (rl : RowP w vl l) (rm : RowP w vm m) :
    Calls Tryd.prog 20 #[vl, vm] w (PresOutE (ansL (fun a b => a && b) l m) (listsE l m) w) := by
  have K := Lib.hid (set_calls rch_both l m vl vm hn hm wl wm w rl rm)
  generalize ansL (fun a b => a && b) l m = R at K ⊢
  generalize listsE l m = E at K ⊢
  clear rl rm wl wm
  go_enter Tryd.func20, Tryd.ntmps20
  go_wp2_with fail
  refine K.out.mono ?_
  rintro e w1 ⟨v, rfl, ho, hb⟩
  go_wp2
  go_returns
  exact ⟨_, rfl, ho, hb⟩
end Go.Proofs.YtojdlhiibffnfaaDoor

/-
  Arguments that are slices: how they lie when they come in; the row's last step where every argument is read again as it was.
-/
namespace Go.Proofs.YtojdlhiibffnfaaDoor
open Go.ChangeShapes Go.WideShapes Go.ChangeAt Go.RowKit Go.Joins Go.Deep
set_option linter.unusedSimpArgs false
set_option linter.unusedVariables false

theorem laidOut : laidOutB Tryd.prog = true := by kernel_rfl
section
variable {H : Type} {enc : TypeId × Value → H} {P : Program}
theorem postBelowAt {f : Func} {s : ChangeSpec} {apart fresh handsOn : Bool} {W W' : World} {args : Array Value} {v : Value} {ds gs : List (DataW H)} {before pa pv : List MemPlace}
    (hW : DataW.Whole enc P f.params.toList s.vars apart W args.toList ds gs before) (hb : Below W.heap.size W W')
    (hres : ∀ (b : Nat) (sp : Nat → Bool) (hd : Bool), DataW.TrodAll enc P W' b sp hd f.resultTypes.toList (v.resultList f.resultTypes.size) (s.fn H (ds ++ gs)).results [])
    (hargs : DataW.TrodAll enc P W' 0 (fun b => decide (b < W.heap.size)) true f.params.toList args.toList (s.fn H (ds ++ gs)).args pa)
    (hvars : ∀ sp : Nat → Bool, (∀ p ∈ before, sp p.block = true) → DataW.TrodVars enc P W' sp s.vars (s.fn H (ds ++ gs)).vars pv)
    (hps : before = pa ++ pv) : s.post enc P f apart fresh handsOn false W args v W' := by
  have seen : ∀ p ∈ before, (fun b => decide (b < W.heap.size)) p.block = true := fun p hp => decide_eq_true (hW.lt p hp)
  exact ⟨ds, gs, before, [], pa, pv, hW, hres _ _ _, hargs, hvars _ seen, World.keptBut_mono (fun p hp => ⟨hp, Or.inr (List.mem_append.1 (hps ▸ hp))⟩) (hb.frame (· ∈ before)), fun h => by cases h⟩
end
section
variable {H : Type} {enc : TypeId × Value → H} {w : World} {base : Nat} {spare : Nat → Bool} {held : Bool}
theorem addr_add' (g o j : Nat) : (⟨g, o, none⟩ : Addr).add j = ⟨g, o + j, none⟩ := by
  unfold Addr.add
  split
  · rename_i h; subst h; rfl
  · rfl
/-- A slice of prefixes that came in. -/
theorem openPres {r : Reach} {b0 : Nat} {v : Value} {d : DataW H} {p : List MemPlace} (hv : Value.okWide Tryd.prog w r b0 25 v) (h : DataW.Trod enc Tryd.prog w base spare held 25 v d p) :
    ∃ l : List PT, RowP w v l ∧ Words l ∧ l.length ≤ 9223372036854775807 := by
  obtain ⟨q, len, cap, rfl⟩ := okWide_slice Tryd.underlying25 hv
  obtain ⟨fuel, hf⟩ := h
  have hf : DataW.trod enc Tryd.prog w base spare held fuel 25 [.slice q len cap] = some (d, p) := hf
  rcases open_slice Tryd.underlying25 hf with ⟨h0, _⟩ | ⟨a, ln, cp, m, n, D, Pl, hcs, _, hl, hm, hmm, _, hi⟩
  · simp only [List.cons.injEq, and_true] at h0
    rw [h0]
    exact ⟨[], .inl ⟨rfl, none, 0, rfl⟩, fun p hp => (by cases hp), by simp⟩
  · simp only [List.cons.injEq, Value.slice.injEq, and_true] at hcs
    obtain ⟨rfl, rfl, rfl⟩ := hcs
    have hlm : len ≤ m := by rw [hmm]; split <;> omega
    have hmax : len ≤ 9223372036854775807 := Nat.le_trans hl hm
    rw [cellsPrefix] at hi
    have each : ∀ i, i < len → ∃ pt : PT, pt.2.1 < 2 ^ 128 ∧ w.cell? (a.add (i * 4)) = some (.bool pt.1) ∧ w.cell? ((a.add (i * 4)).add 1) = some (.int .u64 (aH pt.2.1)) ∧ w.cell? ((a.add (i * 4)).add 2) = some (.int .u64 (aL pt.2.1)) ∧ w.cell? ((a.add (i * 4)).add 3) = some (.int .i64 pt.2.2) := by
      intro i hil
      obtain ⟨cs', hc, ht⟩ := hi i (by omega)
      obtain ⟨_, hcl, hat⟩ := World.cells?_some hc
      obtain ⟨s, hi', lo, k, rfl, _, w1, w2, w3⟩ := trodPrefix hcl ht
      obtain ⟨x, hx, e1, e2⟩ := asNum hi' lo (u64_of_wf w1).1 (u64_of_wf w1).2 (u64_of_wf w2).1 (u64_of_wf w2).2
      refine ⟨(s, x, k), hx, ?_, ?_, ?_, ?_⟩
      · have := hat 0 (by omega); simpa [Addr.add] using this
      · have := hat 1 (by omega); simpa [← e1] using this
      · have := hat 2 (by omega); simpa [← e2] using this
      · have := hat 3 (by omega); simpa using this
    by_cases h0 : len = 0
    · subst h0
      exact ⟨[], .inl ⟨rfl, _, _, rfl⟩, fun p hp => (by cases hp), by simp⟩
    · obtain ⟨g, o, sp⟩ := a
      have hsp : sp = none := by
        obtain ⟨pt, _, hc, _⟩ := each 0 (by omega)
        cases sp with
        | none => rfl
        | some z =>
          exfalso
          simp only [Nat.zero_mul, Addr.add, if_true] at hc
          unfold World.cell? at hc
          split at hc <;> simp at hc
      subst hsp
      have hg : g < w.heap.size := by
        obtain ⟨pt, _, hc, _⟩ := each 0 (by omega)
        rcases Nat.lt_or_ge g w.heap.size with hlt | hge
        · exact hlt
        · exfalso
          rw [addr_add'] at hc
          unfold World.cell? at hc
          simp [Array.getElem?_eq_none hge] at hc
      have ch : ∀ i : Fin len, ∃ pt : PT, pt.2.1 < 2 ^ 128 ∧ PCell w g (o + i.1 * 4) pt := fun i => by
        obtain ⟨pt, hx, c0, c1, c2, c3⟩ := each i.1 i.2
        rw [addr_add'] at c0 c1 c2 c3
        rw [addr_add'] at c1 c2 c3
        exact ⟨pt, hx, c0, c1, c2, c3⟩
      refine ⟨List.ofFn fun i => Classical.choose (ch i), .inr ⟨g, o, cap, by rw [List.length_ofFn], hg, fun k hk => ?_⟩, fun pt hp => ?_, by rw [List.length_ofFn]; exact hmax⟩
      · rw [List.getElem_ofFn]
        exact (Classical.choose_spec (ch ⟨k, by simpa using hk⟩)).2
      · obtain ⟨i, rfl⟩ := List.mem_ofFn.1 hp
        exact (Classical.choose_spec (ch i)).1
end
end Go.Proofs.YtojdlhiibffnfaaDoor
