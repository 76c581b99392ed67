/-
  TopHas: for every list of jobs and number an address goes somewhere just if the merged prefixes of all routes have it. No conditions.
-/
import Derived.Test.YtifhakoeinalaaaDoorRows
import Derived.Test.YtifhakoeinalaaaDoorCards
import Derived.Test.YtifhakoeinalaaaDoorActOwn
import Derived.Test.YtifhakoeinalaaaDoorRowsJ
import Derived.Test.YtifhakoeinalaaaDoorTopM
import Derived.Test.YtifhakoeinalaaaDoorTopRoutes
import Derived.Test.YtifhakoeinalaaaDoorLaidF
import Derived.Deep.CutRange
import Derived.Deep.DeepCutAuto
import Derived.Deep.CutBlock
namespace Go.Proofs.YtifhakoeinalaaaDoor
open Go.ChangeShapes Go.WideShapes Go.ChangeAt Go.RowKit Go.Joins
set_option linter.unusedSimpArgs false
set_option linter.unusedVariables false
theorem hasP_calls (p : PT) (y : Nat) (hf : p.1 = false) (hc : chkE p.1 p.2.1 p.2.2 = 0) (hy : y < 2 ^ wideN false) (w : World) :
    Calls Tryd.prog 10 #[.agg #[.bool p.1, .int .u64 (aH p.2.1), .int .u64 (aL p.2.1), .int .i64 p.2.2], .agg #[.bool false, .int .u64 (aH y), .int .u64 (aL y)]] w fun e w' => e = .returned (.tuple #[.bool (mB false y (p, 0)), .int .i64 0]) ∧ Below w.heap.size w w' := by
  obtain ⟨t, x, n⟩ := p
  simp only at hf
  subst hf
  obtain ⟨hx, k, rfl, hk, hl⟩ := chk0 hc
  simp only at hx hk hl hc ⊢
  refine (has_ok false x y k _ _ (lt128 hx) (lt128 hy) hc hk hy rfl rfl w).mono ?_
  rintro e w' ⟨rfl, hb⟩
  exact ⟨by simp [mB], hb⟩
theorem ownP_notR {w : World} {base k n : Nat} {v : Value} {xs : List Value} (h : w.ownsRow base 33 4 v n xs) (e : v.ownBlock = some k) : NotR w k := by
  rcases h.2 with ⟨rfl, _⟩ | ⟨g, cap, cur, rfl, _, hg, _⟩
  · simp [Value.ownBlock] at e
  · simp only [Value.ownBlock, Option.some.injEq] at e
    subst e
    intro c he
    rw [hg] at he
    simp only [Option.some.injEq, Obj.cells.injEq] at he
    exact absurd he.2.1 (by decide)
theorem ownP_ne {w : World} {base base' n : Nat} {v t : Value} {xs : List Value} {L : List RT} (h : w.ownsRow base 33 4 v n xs) (o : OwnR w base' t L) : t.ownBlock = none ∨ t.ownBlock ≠ v.ownBlock := by
  cases hv : v.ownBlock with
  | none => cases t.ownBlock <;> simp
  | some k => exact .inr ((ownP_notR h hv).ne o)
theorem pcs_one (p : PT) : ∀ u ∈ pcs p, u.oneCell' = true := by
  intro u hu
  simp only [pcs, List.mem_cons, List.not_mem_nil, or_false] at hu
  rcases hu with rfl | rfl | rfl | rfl <;> rfl
set_option maxHeartbeats 8000000 in
set_option maxRecDepth 100000 in
theorem TopHas.walk (v0 : Value) (l0 : List JT) (a1 : Int) (wrd0 : WordsJ l0) (len0 : l0.length ≤ 9223372036854775807) (b0 : -9223372036854775808 ≤ a1) (b1 : a1 ≤ 9223372036854775807) (w : World) (row0 : RowJ w v0 l0) (hF : Laid1.Tabs w) :
    Calls Tryd.prog 3 #[v0, .int .i64 a1] w fun e w' => e = .returned (.bool true) ∧ Below w.heap.size w w' := by
  obtain ⟨i0, hii, hz0, hz1, hz2⟩ := info_parts info_pre
  obtain ⟨j0, jii, jz0, jz1, jz2⟩ := info_parts info_route
  have AC := Lib.hid (fun (W : World) (r : RowJ W v0 l0) => acts_calls l0 v0 60 (by decide) len0 wrd0 W r)
  have NC := Lib.hid (fun (W : World) => near_calls a1 b0 b1 W)
  have R0 := Lib.hid row0
  obtain ⟨p, c, rfl⟩ := row0.form
  have hal : (actsZ l0 60).length ≤ 60 := by unfold actsZ; rw [List.length_map, List.length_take]; omega
  have hwa : Hid (WordsA (actsZ l0 60)) := Lib.hid (actsZ_words l0 60)
  have HF : Hid (∀ r ∈ runL (actsZ l0 60), r.1.1 = false) := Lib.hid (acts_four l0 60)
  obtain ⟨as_, has⟩ : ∃ x, actsZ l0 60 = x := ⟨_, rfl⟩
  rw [has] at AC hal hwa HF
  obtain ⟨y, hy⟩ : ∃ y, nearZ a1 = y := ⟨_, rfl⟩
  have HY : Hid (y < 2 ^ wideN false ∧ y < 2 ^ 128) := Lib.hid (by have := nearZ_lt a1; rw [hy] at this; exact ⟨this, Nat.lt_of_lt_of_le this (by decide)⟩)
  rw [hy] at NC
  have RC := Lib.hid (fun (u : Value) (W : World) (r : RowA W u as_) => routesTop_calls as_ u (by omega) hwa.out W r)
  have LC := Lib.hid (fun (m : List RT) (u : Value) (hm : m.length ≤ 1000) (hw : WordsR m) (W : World) (r : RowR W u m) => tableLook_calls m u false y (by omega) hw HY.out.2 W r)
  have II := Lib.hid (InvR.run as_)
  obtain ⟨L, hL⟩ : ∃ L, runL as_ = L := ⟨_, rfl⟩
  rw [hL] at RC II HF
  have hLl : L.length ≤ 60 := II.out.size
  have F4 := four_routes II.out HF.out
  have HTOP := Lib.hid (top_has II.out HF.out HY.out.1)
  have hpl : (L.map Prod.fst).length ≤ 80 := by rw [List.length_map]; omega
  have ME := Lib.hid (mergeTo F4 hpl (S := tS (L.map Prod.fst)) (fun a _ => Iff.rfl))
  have hmm : (cn false (tS (L.map Prod.fst)) (wideN false) 0).length ≤ 60 := Nat.le_trans (cn_short F4) (by rw [List.length_map]; omega)
  have HM4 : Hid (Four (cn false (tS (L.map Prod.fst)) (wideN false) 0)) := Lib.hid Four.cn
  obtain ⟨mm, hmmE⟩ : ∃ x, cn false (tS (L.map Prod.fst)) (wideN false) 0 = x := ⟨_, rfl⟩
  rw [hmmE] at HTOP ME hmm HM4
  have FM := Lib.hid hF
  clear row0 has hy hL F4 hpl hmmE hF
  go_enter Tryd.func3, Tryd.ntmps3
  go_wp2_with fail
  refine (AC.out _ R0.out).mono ?_
  rintro e w1 ⟨u, rfl, OA, hb1⟩
  have OA := Lib.hid OA
  clear AC R0
  go_wp2_with fail
  refine (RC.out _ _ OA.out.row).mono ?_
  rintro e w3 ⟨rs, rfl, OR, hb3⟩
  have hn3 := thenBelow hb1 hb3
  have RR : Hid (OwnR w3 w.heap.size rs L) := Lib.hid (ownsLow OR hb1.size)
  obtain ⟨rp, rc, rfl⟩ := (OwnR.row RR.out).form
  obtain ⟨m, hm⟩ : ∃ m, L.length = m := ⟨_, rfl⟩
  have HM := Lib.hid hm
  rw [hm] at hLl RR
  rw [hm]
  clear OR OA hb3 hb1 hm RC
  go_wp2_with fail
  go_loopw [7, 8] (fun v i wr => ∃ k : Nat, k ≤ m ∧ i = .int .i64 k ∧ Hid (Owned wr w.heap.size v ((L.take k).map Prod.fst)) ∧ Hid (OwnR wr w.heap.size (.slice rp m rc) L) ∧ Below w.heap.size w wr) (fun _ i _ => m - (intOf i).toNat)
  case atStart => exact ⟨0, by omega, rfl, Lib.hid (owned_nil _ _), RR, hn3⟩
  case round =>
    obtain ⟨k, hk, rfl, OP, RK, hnk⟩ := hrel
    by_cases hlt : k < m
    · have hkl : k < L.length := by rw [HM.out]; exact hlt
      obtain ⟨rp', rc', hre, _, at_⟩ := (OwnR.row RK.out).at
      injection hre with h1 h2 h3
      subst h1
      clear h2 h3
      obtain ⟨g, o, rfl, hg, hrec⟩ := at_ k hkl
      obtain ⟨x0, x1, x2, x3, x4⟩ := routeCells hrec
      have HT : Hid ((L.take (k + 1)).map Prod.fst = (L.take k).map Prod.fst ++ [L[k].1]) := Lib.hid (by rw [take_snoc hkl, List.map_append]; rfl)
      generalize L[k] = r at x0 x1 x2 x3 x4 HT
      obtain ⟨ps, hps⟩ : ∃ ps, (L.take k).map Prod.fst = ps := ⟨_, rfl⟩
      rw [hps] at OP HT
      have hpsl : ps.length = k := by rw [← hps, List.length_map, List.length_take]; omega
      have HPL := Lib.hid hpsl
      obtain ⟨vp, vc, rfl⟩ := (RowP.owned OP.out).form
      have OP' : Hid (wr.ownsRow w.heap.size 33 4 (.slice vp k vc) k (pRow ps)) := Lib.hid (by have := OP.out; unfold Owned at this; rw [hpsl] at this; exact this)
      rw [hpsl]
      have hlt' : (k : Int) < (m : Int) := by omega
      have hnw : Hid (∀ W : World, ∀ j u, (pcs r.1)[j]? = some u → (W.alloc (.cells #[.bool r.1.1, .int .u64 (aH r.1.2.1), .int .u64 (aL r.1.2.1), .int .i64 r.1.2.2] 33)).cell? ((⟨W.heap.size, 0, none⟩ : Addr).add j) = some u) := Lib.hid fun W j u hj =>
        World.news_of_block (_root_.Go.heap_alloc_new W _) j u (by simpa [pcs] using hj)
      have h63 : k + 1 ≤ maxLen := by unfold maxLen; omega
      have hby : (k + 1) * 32 ≤ 140737488355328 := by omega
      have HSZ : Hid (∀ o : Obj, w.heap.size ≤ (wr.alloc o).heap.size) := Lib.hid fun o => by have := hnk.size; simp; omega
      clear hps hpsl hrec at_ OP
      go_wp2_with (at_builtin; refine wpList_append_own _ rfl _ _ 28 rfl w.heap.size 33 i0 _ 4 32 Tryd.underlying28 hii hz0 hz1 hz2 rfl (by decide) _ _ _ rfl (OP'.out.alloc _) ⟨wr.heap.size, 0, none⟩ 1 1 (pcs r.1) rfl rfl (hnw.out wr) (pcs_one r.1) h63 hby (HSZ.out _) ?_; intro v7 w7 ho7 hg7 _)
      have hn7 := (hnk.alloc hnk.size _).grown hg7 (by have := hnk.size; simp; omega) (fun q hq => (OP'.out.lt q hq).1)
      have R7 : Hid (OwnR w7 w.heap.size (.slice (some ⟨g, o, none⟩) m rc) L) := Lib.hid ((RK.out.alloc _).kept hg7 (ownP_ne OP'.out RK.out))
      have O7 : Hid (Owned w7 w.heap.size v7 ((L.take (k + 1)).map Prod.fst)) := Lib.hid (by rw [HT.out]; unfold Owned; rw [List.length_append, pRow_app, HPL.out]; simpa [pRow] using ho7)
      clear ho7 hg7
      go_wp2
      go_roundw
      case rel => exact ⟨k + 1, by omega, by go_num, O7, R7, hn7⟩
      case measure => simp [intOf]; omega
    · obtain rfl : k = m := by omega
      have e1 : L.take k = L := by rw [← HM.out]; exact List.take_length
      rw [e1] at OP
      clear e1
      obtain ⟨vp, vc, rfl⟩ := (RowP.owned OP.out).form
      have FMk := Lib.hid (FM.out.keep hnk)
      obtain ⟨psl, hpsl⟩ : ∃ x, (L.map Prod.fst).length = x := ⟨_, rfl⟩
      rw [hpsl] at OP
      rw [hpsl]
      clear hpsl
      go_wp2_with fail
      refine (ME.out _ _ (RowP.owned OP.out) FMk.out).mono ?_
      rintro e w5 ⟨mv, rfl, hmo, hb5⟩
      have OM : Hid (Owned w5 w.heap.size mv mm) := Lib.hid (ownsLow hmo hnk.size)
      have R5 : Hid (OwnR w5 w.heap.size (.slice rp k rc) L) := Lib.hid (ownsKeep RK.out hb5)
      have hn5 := thenBelow hnk hb5
      obtain ⟨mp, mc, rfl⟩ := (RowP.owned OM.out).form
      obtain ⟨mn, hmn⟩ : ∃ x, mm.length = x := ⟨_, rfl⟩
      have HMN := Lib.hid hmn
      rw [hmn] at OM hmm
      rw [hmn]
      clear hmo hnk hb5 OP RK FMk hmn ME
      go_wp2_with fail
      refine (NC.out _).mono ?_
      rintro e w4 ⟨rfl, hb4⟩
      have bA := (thenBelow hn5 hb4).alloc (thenBelow hn5 hb4).size (.cells #[.bool false, .int .u64 (aH y), .int .u64 (aL y)] 31)
      have A0 := AddrAt.new w4 false (aH y) (aL y) 31
      have RY : Hid (RowR (w4.alloc (.cells #[.bool false, .int .u64 (aH y), .int .u64 (aL y)] 31)) (.slice rp k rc) L) := Lib.hid (OwnR.row ((ownsKeep R5.out hb4).alloc _))
      have OMY : Hid (Owned (w4.alloc (.cells #[.bool false, .int .u64 (aH y), .int .u64 (aL y)] 31)) w.heap.size (.slice mp mn mc) mm) := Lib.hid ((ownsKeep OM.out hb4).alloc _)
      clear R5 OM hn5 hb4 NC
      obtain ⟨lk1, lk2⟩ := look_inv II.out HY.out.1
      have LC1 := Lib.hid (fun (W : World) (u : Value) (r : RowR W u L) => LC.out L u (by rw [HM.out]; omega) (inv_words II.out) W r)
      rw [lk1, lk2] at LC1
      obtain ⟨p1, hp1⟩ : ∃ x, (bestA false y L).1 = x := ⟨_, rfl⟩
      obtain ⟨p2, hp2⟩ : ∃ x, (bestA false y L).2 = x := ⟨_, rfl⟩
      rw [hp1, hp2] at LC1
      rw [hp1] at HTOP
      have hby : L.length * 40 ≤ 140737488355328 := by rw [HM.out]; omega
      have h63 : L.length ≤ maxLen := by rw [HM.out]; unfold maxLen; omega
      clear lk1 lk2 hp1 hp2 LC
      go_upto_region 9 with fail
      revert bA A0 RY OMY
      generalize w4.alloc (.cells #[.bool false, .int .u64 (aH y), .int .u64 (aL y)] 31) = Y
      intro bA A0 RY OMY
      obtain ⟨a0, a1', a2', al⟩ := A0
      have HBB : Hid (∀ X : World, Below Y.heap.size Y X → X.cell? ⟨w4.heap.size, 0, none⟩ = some (.bool false) ∧ X.cell? ⟨w4.heap.size, 1, none⟩ = some (.int .u64 (aH y)) ∧ X.cell? ⟨w4.heap.size, 2, none⟩ = some (.int .u64 (aL y))) := Lib.hid fun X h => ⟨(h.cell (p := ⟨w4.heap.size, 0, none⟩) al).trans a0, (h.cell (p := ⟨w4.heap.size, 1, none⟩) al).trans a1', (h.cell (p := ⟨w4.heap.size, 2, none⟩) al).trans a2'⟩
      go_cut [12, 13] from 45 to 51 (fun sa sb wx => ∃ b, sa = .pointer (some ⟨b, 0, none⟩) ∧ sb = .int .i64 0 ∧ AnsV wx b 0 p1 p2 ∧ Below Y.heap.size Y wx)
      case first =>
        go_region_held3 (fun w' => w'.cell? ⟨w4.heap.size, 0, none⟩ = some (.bool false) ∧ w'.cell? ⟨w4.heap.size, 1, none⟩ = some (.int .u64 (aH y)) ∧ w'.cell? ⟨w4.heap.size, 2, none⟩ = some (.int .u64 (aL y)))
          (first
            | exact HBB.out _ ((Below.refl _ Y).drew)
            | exact HBB.out _ (((Below.refl _ Y).alloc (Nat.le_refl _) _).drew)
            | exact HBB.out _ B1
            | exact HBB.out _ (B1.alloc B1.size _)
            | exact HBB.out _ B2
            | exact HBB.out _ (B2.alloc B2.size _)
            | exact HBB.out _ (((B2.setCell (by first | exact Nat.le_refl _ | exact B1.size) _).setCell (by first | exact Nat.le_refl _ | exact B1.size) _).setCell (by first | exact Nat.le_refl _ | exact B1.size) _)
            | exact HBB.out _ ((((B2.alloc B2.size _).setCell (by exact B2.size) _).setCell (by exact B2.size) _).setCell (by exact B2.size) _)
            | fail)
          (first
            | (refine step_append_copy rfl _ _ _ rfl 35 j0 _ 40 Tryd.underlying23 jii jz0 jz1 jz2 rfl (by decide) rcs_len rcs_one rfl _ _ rfl (RY.out.keep ((Below.refl _ Y).drew)) hby h63 ?_; intro v5 w5 ho5 hb5; have B1 : Below Y.heap.size Y w5 := thenBelow ((Below.refl _ Y).drew) hb5; have O5 := Lib.hid (OwnR.row ho5))
            | (refine step_append_copy rfl _ _ _ rfl 35 j0 _ 40 Tryd.underlying23 jii jz0 jz1 jz2 rfl (by decide) rcs_len rcs_one rfl _ _ rfl (RY.out.keep (((Below.refl _ Y).alloc (Nat.le_refl _) _).drew)) hby h63 ?_; intro v5 w5 ho5 hb5; have B1 : Below Y.heap.size Y w5 := thenBelow (((Below.refl _ Y).alloc (Nat.le_refl _) _).drew) hb5; have VA := (((AnsV.new Y 0 0 0 41).drew).keep hb5 (by simp [go_sem])); have O5 := Lib.hid (OwnR.row ho5))
            | (go_at_call 9; have VA' := VA; refine (LC1.out _ _ O5.out).mono ?_; rintro e w6 ⟨rfl, hb6⟩; have B2 := thenBelow B1 hb6; have V6 := VA'.keep hb6 VA'.2.2.2.2; obtain ⟨v0, v1, v2, vf, vl⟩ := id V6)
            | (go_at_call 9; refine (LC1.out _ _ O5.out).mono ?_; rintro e w6 ⟨rfl, hb6⟩; have B2 := thenBelow B1 hb6)
            | (go_at_call 9; refine (LC1.out _ _ (O5.out.keep ((Below.refl _ _).alloc (Nat.le_refl _) _))).mono ?_; rintro e w6 ⟨rfl, hb6⟩; have V6 := (AnsV.new w5 0 0 0 41).keep hb6 (by simp [go_sem]); have B2 := thenBelow (B1.alloc B1.size _) hb6; obtain ⟨v0, v1, v2, vf, vl⟩ := id V6)
            | fail)
        all_goals
          go_wp2_with fail
          go_meet
          first
            | exact ⟨_, rfl, rfl, AnsV.new w6 0 p1 p2 41, B2.alloc B2.size _⟩
            | exact ⟨_, rfl, rfl, V6.store 0 p1 p2, ((B2.setCell (by first | exact Nat.le_refl _ | exact B1.size) _).setCell (by first | exact Nat.le_refl _ | exact B1.size) _).setCell (by first | exact Nat.le_refl _ | exact B1.size) _⟩
      case rest =>
        obtain ⟨bx, rfl, rfl, VX, BX⟩ := hcut
        rename World => X2
        have AX := AddrAt.keep ⟨a0, a1', a2', al⟩ BX
        have OMX : Hid (Owned X2 w.heap.size (.slice mp mn mc) mm) := Lib.hid (ownsKeep OMY.out BX)
        have hnX := thenBelow bA BX
        clear a0 a1' a2' bA RY OMY BX HBB LC1 hby h63
        have RM := Lib.hid (RowP.owned OMX.out)
        go_wp2_with fail
        go_loopw [14, 15] (fun h i wr => ∃ (j : Nat) (hb : Bool), j ≤ mn ∧ i = .int .i64 j ∧ h = .bool hb ∧ Hid (hasP (mm.take j) y = hb) ∧ Below X2.heap.size X2 wr) (fun _ i _ => mn - (intOf i).toNat)
        case atStart => exact ⟨0, false, by omega, rfl, rfl, Lib.hid rfl, Below.refl _ _⟩
        case round =>
          obtain ⟨j, hb, hj, rfl, rfl, HB, BR⟩ := hrel
          by_cases hltj : j < mn
          · have hjl : j < mm.length := by rw [HMN.out]; exact hltj
            rcases RM.out with ⟨e0, _⟩ | ⟨g, o, cc, e0, hg, hrec⟩
            · rw [e0] at hjl; exact absurd hjl (by simp)
            · injection e0 with h1 h2 h3
              subst h1
              clear h2 h3
              have hrec' := (hrec j hjl).keep hg BR
              have AW := AX.keep BR
              have hgr := Nat.lt_of_lt_of_le hg BR.size
              have HT := Lib.hid (hasP_take hjl y)
              have hc := HM4.out.1 _ (List.getElem_mem hjl)
              have hf := HM4.out.2 _ (List.getElem_mem hjl)
              generalize mm[j] = r at hrec' HT hc hf
              rw [HB.out] at HT
              have HBB : Hid (∀ X : World, Below wr.heap.size wr X → X.cell? ⟨g, o + j * 4, none⟩ = some (.bool r.1) ∧ X.cell? ⟨g, o + j * 4 + 1, none⟩ = some (.int .u64 (aH r.2.1)) ∧ X.cell? ⟨g, o + j * 4 + 2, none⟩ = some (.int .u64 (aL r.2.1)) ∧ X.cell? ⟨g, o + j * 4 + 3, none⟩ = some (.int .i64 r.2.2) ∧ X.cell? ⟨w4.heap.size, 0, none⟩ = some (.bool false) ∧ X.cell? ⟨w4.heap.size, 1, none⟩ = some (.int .u64 (aH y)) ∧ X.cell? ⟨w4.heap.size, 2, none⟩ = some (.int .u64 (aL y))) := Lib.hid fun X h => by
                obtain ⟨x0, x1, x2, x3⟩ := hrec'.keep hgr h
                obtain ⟨y0, y1, y2, _⟩ := AW.keep h
                exact ⟨x0, x1, x2, x3, y0, y1, y2⟩
              obtain ⟨x0, x1, x2, x3, y0, y1, y2⟩ := HBB.out _ (Below.refl _ wr)
              have PH := Lib.hid (fun (W : World) => hasP_calls r y hf hc HY.out.1 W)
              have hlt' : (j : Int) < (mn : Int) := by omega
              clear hrec hrec' AW hf hc
              go_wp2_with fail
              go_region_held3 (fun w' => w'.cell? ⟨g, o + j * 4, none⟩ = some (.bool r.1) ∧ w'.cell? ⟨g, o + j * 4 + 1, none⟩ = some (.int .u64 (aH r.2.1)) ∧ w'.cell? ⟨g, o + j * 4 + 2, none⟩ = some (.int .u64 (aL r.2.1)) ∧ w'.cell? ⟨g, o + j * 4 + 3, none⟩ = some (.int .i64 r.2.2) ∧ w'.cell? ⟨w4.heap.size, 0, none⟩ = some (.bool false) ∧ w'.cell? ⟨w4.heap.size, 1, none⟩ = some (.int .u64 (aH y)) ∧ w'.cell? ⟨w4.heap.size, 2, none⟩ = some (.int .u64 (aL y)))
                (first
                  | exact HBB.out _ ((Below.refl _ wr).drew)
                  | exact HBB.out _ B8
                  | fail)
                (first
                  | (go_at_call 10; refine (PH.out _).mono ?_; rintro e w8 ⟨rfl, hb8⟩; have B8 : Below wr.heap.size wr w8 := thenBelow ((Below.refl _ wr).drew) hb8)
                  | fail)
              have hn8 := thenBelow BR B8
              generalize mB false y (r, 0) = mb at HT
              clear HB HBB PH x0 x1 x2 x3 y0 y1 y2
              cases hb
              · have H2 : Hid (hasP (mm.take (j + 1)) y = mb) := Lib.hid (by rw [HT.out]; simp)
                go_wp2_with fail
                exact ⟨⟨j + 1, _, by omega, by go_num, rfl, H2, hn8⟩, by simp [intOf]; omega⟩
              · have H2 : Hid (hasP (mm.take (j + 1)) y = true) := Lib.hid (by rw [HT.out]; simp)
                go_wp2_with fail
                exact ⟨⟨j + 1, _, by omega, by go_num, rfl, H2, hn8⟩, by simp [intOf]; omega⟩
          · obtain rfl : j = mn := by omega
            have e1 : mm.take j = mm := by rw [← HMN.out]; exact List.take_length
            rw [e1] at HB
            have hhb : hb = decide (0 < p1) := by rw [← HB.out, HTOP.out]
            obtain ⟨s0, s1, s2, sf, sl⟩ := VX.keep BR VX.2.2.2.2
            have hn9 := thenBelow hnX BR
            clear sf HB HTOP e1
            by_cases hp : 0 < p1
            · rw [decide_eq_true hp] at hhb
              subst hhb
              go_wp2
              go_ret
              exact ⟨by simp, hn9⟩
            · rw [decide_eq_false hp] at hhb
              subst hhb
              go_wp2
              go_ret
              exact ⟨by simp, hn9⟩
theorem TopHas.own : ownKnob Tryd.prog.godebug = none := by kernel_rfl
set_option maxRecDepth 100000 in
theorem TopHas.lifted (os : Os) (started : os.Started) (H : Type) (enc : TypeId × Value → H) :
    ReturnsInHanded {} Tryd.checked os 3 .any (fun w args => (Rows.topHasSpec.pre enc Tryd.prog Tryd.f3 [] false w args ∧ laidMetH Tryd.prog Rows.topHasRow.laid w) ∧ sizedMet enc Tryd.prog Tryd.f3 (OpenSpec.ofChange Rows.topHasSpec) false w args) (Rows.topHasSpec.post enc Tryd.prog Tryd.f3 false true false false) := by
  refine returnsInHanded_of_change_and (C := Tryd.checked) (X := fun w _ => laidMetH Tryd.prog Rows.topHasRow.laid w) (fun _ _ _ hh h => h.of_heap hh) TopHas.own started (by kernel_rfl) Tryd.func3
    (ChangeSpec.witness_at (enc := enc) (C := Tryd.checked) (os := os) (X := fun w _ => laidMetH Tryd.prog Rows.topHasRow.laid w) false (Laid1.world os) #[.slice none 0 0, .int .i64 0] 8 rfl (by kernel_rfl) (by kernel_rfl) (by kernel_rfl) (by kernel_rfl) (by kernel_rfl) (Laid1.met os _)) ?_
  intro W base args ds gs before hval0 hW hcnd _ hL _
  have hT : Laid1.Tabs W := Laid1.of hL
  have hval : ∀ (j : Nat) t v, Tryd.f3.params[j]? = some t → args[j]? = some v → Value.okWide Tryd.prog W .any base t v := hval0
  have hW' := hW
  obtain ⟨p, q, hA0, hV, rfl, hfz, hnd⟩ := hW
  have hA : DataW.TrodAll enc Tryd.prog W 0 (fun _ => true) true Tryd.f3.params.toList args.toList ds p := hA0
  rw [Tryd.params3] at hA hval
  obtain ⟨v0, vs0, d0, ds0, p0, q0, hargs, rfl, rfl, rd0, r0⟩ := trodAll_cons hA
  obtain ⟨v1, vs1, d1, ds1, p1, q1, rfl, rfl, rfl, rd1, r1⟩ := trodAll_cons r0
  obtain ⟨rfl, rfl, rfl⟩ := trodAll_nil r1
  obtain rfl : args = #[v0, v1] := by cases args; simp_all
  obtain ⟨rfl, rfl⟩ := trodVars_none hV
  obtain ⟨l0, row0, wrd0, len0⟩ := openJobs (hval 0 22 v0 rfl rfl) rd0
  obtain ⟨a1, rfl, rfl, rfl, wa1⟩ := open_int Tryd.underlying3 (hval 1 3 v1 rfl rfl) rd1
  clear hA0 hval0
  refine (TopHas.walk v0 l0 a1 wrd0 len0 (i64_of_wf wa1).1 (i64_of_wf wa1).2 W row0 hT).mono fun e W' ⟨he, hb⟩ => ?_
  subst he
  exact ⟨_, rfl, postBelowR (pv := []) hW' hb (fun _ _ _ => trodAll_cons_mk (shut_bool Tryd.underlying4 _) trodAll_mk0) (trodAll_cons_mk (Below.trod laidOutR (by kernel_rfl) (of_decide_eq_true (by kernel_rfl)) rd0 hb (fun x hx => hW'.lt x (by simp [hx]))) (trodAll_cons_mk (Below.trod laidOutR (by kernel_rfl) (of_decide_eq_true (by kernel_rfl)) rd1 hb (fun x hx => by cases hx)) trodAll_mk0)) (fun _ _ => rfl) rfl⟩

theorem TopHas.holds : Rows.TopHasSaid :=
  OpenClaim.holds_of_wide 3 Tryd.f3 rfl rfl rfl rfl rfl rfl rfl ⟨rfl, rfl, rfl, rfl, rfl⟩ rfl rfl rfl rfl rfl (by kernel_rfl) Tryd.func3 (by kernel_rfl)
    (of_decide_eq_true (by kernel_rfl)) (by unfold Func.isWrapper; first | (rw [if_pos (by decide +kernel)]; kernel_rfl) | (rw [if_neg (by decide +kernel)]; exact ⟨rfl, rfl⟩))
    (fun os started H enc _ => TopHas.lifted os started H enc)
#print axioms TopHas.holds
theorem TopHas.card : Rows.TopHasCardSaid :=
  Claim7.holds_tied_plain_at .later [] Rows.topHasCard.laidKinds true Rows.topHasCard.stood.harness Rows.topHasCard.stood.looks
    TopHas.holds (fun _ h => by cases h) (by kernel_rfl) (fun _ h => by cases h) topHas_row_tie rfl ⟨rfl, rfl⟩ (by kernel_rfl) rfl
    (fun f fn hf hfn => by
      obtain rfl : f = 3 := Option.some.inj ((show Tryd.prog.funcNamed "whipcord/whipcordtop.TopHas" = some 3 by kernel_rfl).symm.trans hf) |>.symm
      obtain rfl : fn = Tryd.f3 := (Option.some.inj (Tryd.func3.symm.trans hfn)).symm
      exact ⟨by kernel_rfl, fun j t ht => by
        rw [Tryd.params3] at ht
        match j, ht with
        | 0, ht => obtain rfl := Option.some.inj ht; exact (show Tryd.prog.wantsStandIn 22 = false by kernel_rfl)
        | 1, ht => obtain rfl := Option.some.inj ht; exact (show Tryd.prog.wantsStandIn 3 = false by kernel_rfl)
        | j + 2, ht => simp at ht⟩)
    (by kernel_rfl)
#print axioms TopHas.card
end Go.Proofs.YtifhakoeinalaaaDoor
