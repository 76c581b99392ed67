/-
  TopRange: for all numbers routes of all prefixes of a range send just its addresses to their hop. No conditions.
-/
import Derived.Test.YtifhakoeinalaaaDoorRows
import Derived.Test.YtifhakoeinalaaaDoorCards
import Derived.Test.YtifhakoeinalaaaDoorActOwn
import Derived.Test.YtifhakoeinalaaaDoorTopM
import Derived.Test.YtifhakoeinalaaaDoorLaidF
import Derived.Deep.CutRange
import Derived.Deep.DeepCutAuto
import Derived.Deep.CutBlock
namespace Go.Proofs.YtifhakoeinalaaaDoor
open Go.ChangeShapes Go.WideShapes Go.ChangeAt Go.RowKit Go.Joins
set_option linter.unusedSimpArgs false
set_option linter.unusedVariables false
theorem range_table {x z : Nat} (hz : z < 2 ^ wideN false) (hl : x ≤ z) (hd : z < x + 2 ^ 9) : InvR ((cn false (fromTo x z) (wideN false) 0).map fun p => (p, (5 : Int))) ∧ (cn false (fromTo x z) (wideN false) 0).length ≤ 20 ∧ 1 ≤ (cn false (fromTo x z) (wideN false) 0).length ∧
    ∀ y, y < 2 ^ wideN false → (bestA false y ((cn false (fromTo x z) (wideN false) 0).map fun p => (p, (5 : Int)))).1 = if x ≤ y ∧ y ≤ z then 5 else 0 := by
  have hlen : (cn false (fromTo x z) (wideN false) 0).length ≤ 20 := by
    have := canon_range_len x z 9 hd (wideN false) 0
    unfold cn; rw [List.length_map]; omega
  have F : Four (cn false (fromTo x z) (wideN false) 0) := Four.cn
  have hs : SortedR ((cn false (fromTo x z) (wideN false) 0).map fun p => (p, (5 : Int))) := by
    unfold SortedR cn
    rw [List.pairwise_map, List.pairwise_map]
    refine canon_row.imp fun {p q} h => ?_
    refine .inr ⟨rfl, .inl ?_⟩
    have := pow_one p.2
    show p.1 < q.1
    omega
  have I : InvR ((cn false (fromTo x z) (wideN false) 0).map fun p => (p, (5 : Int))) := ⟨hs, fun r hr => by
    obtain ⟨p, hp, rfl⟩ := List.mem_map.1 hr
    exact rt_mk (F.1 p hp) (by decide) (by decide), by rw [List.length_map]; omega⟩
  have hm : ∀ y, y < 2 ^ wideN false → ((∃ r ∈ (cn false (fromTo x z) (wideN false) 0).map fun p => (p, (5 : Int)), mB false y r = true) ↔ x ≤ y ∧ y ≤ z) := fun y hy => by
    have h := tS_cn (S := fromTo x z) (a := y)
    rw [fb_four F] at h
    constructor
    · rintro ⟨r, hr, hmr⟩
      obtain ⟨p, hp, rfl⟩ := List.mem_map.1 hr
      exact (h.1 ⟨p, hp, (mB_inB 5 (F.2 p hp) (F.1 p hp) y).1 hmr⟩).2
    · intro hw
      obtain ⟨p, hp, hi⟩ := h.2 ⟨⟨Nat.zero_le _, by rw [Nat.zero_add]; exact hy⟩, hw⟩
      exact ⟨(p, 5), List.mem_map.2 ⟨p, hp, rfl⟩, (mB_inB 5 (F.2 p hp) (F.1 p hp) y).2 hi⟩
  refine ⟨I, hlen, ?_, fun y hy => ?_⟩
  · obtain ⟨r, hr, _⟩ := (hm x (by omega)).2 ⟨Nat.le_refl _, hl⟩
    have := List.length_pos_of_mem hr
    rw [List.length_map] at this
    exact this
  · rcases bestA_best (s := false) (y := y) I.val with ⟨a, h, _⟩ | ⟨r, hr, hmr, h, _, _⟩
    · rw [h, if_neg]
      intro hw
      obtain ⟨r, hr, hmr⟩ := (hm y hy).2 hw
      rw [a r hr] at hmr; cases hmr
    · rw [if_pos ((hm y hy).1 ⟨r, hr, hmr⟩), ← h]
      obtain ⟨p, hp, rfl⟩ := List.mem_map.1 hr
      rfl
theorem ownP_notT {w : World} {base k n : Nat} {v : Value} {xs : List Value} (h : w.ownsRow base 33 4 v n xs) (e : v.ownBlock = some k) : NotR w k := by
  rcases h.2 with ⟨rfl, _⟩ | ⟨g, cap, cur, rfl, _, hg, _⟩
  · simp [Value.ownBlock] at e
  · simp only [Value.ownBlock, Option.some.injEq] at e
    subst e
    intro c he
    rw [hg] at he
    simp only [Option.some.injEq, Obj.cells.injEq] at he
    exact absurd he.2.1 (by decide)
set_option maxHeartbeats 8000000 in
set_option maxRecDepth 100000 in
theorem TopRange.walk (a0 a1 a2 : Int) (b0 : -9223372036854775808 ≤ a0) (b1 : a0 ≤ 9223372036854775807) (c0 : -9223372036854775808 ≤ a1) (c1 : a1 ≤ 9223372036854775807) (d0 : -9223372036854775808 ≤ a2) (d1 : a2 ≤ 9223372036854775807) (w : World) (hF : Laid1.Tabs w) :
    Calls Tryd.prog 4 #[.int .i64 a0, .int .i64 a1, .int .i64 a2] w fun e w' => e = .returned (.bool true) ∧ Below w.heap.size w w' := by
  obtain ⟨j0, jii, jz0, jz1, jz2⟩ := info_parts info_route
  have N1 := Lib.hid (fun (W : World) => near_calls a0 b0 b1 W)
  have N2 := Lib.hid (fun (W : World) => near_calls a2 d0 d1 W)
  have P3 := Lib.hid (fun W => picked_calls a1 300 (by decide) (by decide) c0 c1 W)
  have m0 := Int.emod_nonneg a1 (show (300 : Int) ≠ 0 by decide)
  have m1 := Int.emod_lt_of_pos a1 (show (0 : Int) < 300 by decide)
  obtain ⟨t, ht⟩ : ∃ t, a1 % 300 = t := ⟨_, rfl⟩
  rw [ht] at P3 m0 m1
  have hx32 := nearZ_lt a0
  have hxs : nearZ a0 ≤ 167772700 := by unfold nearZ; have := Int.emod_lt_of_pos a0 (show (0 : Int) < 540 by decide); omega
  have hy32 := nearZ_lt a2
  obtain ⟨x, hx⟩ : ∃ x, nearZ a0 = x := ⟨_, rfl⟩
  obtain ⟨y, hy⟩ : ∃ y, nearZ a2 = y := ⟨_, rfl⟩
  rw [hx] at N1 hx32 hxs
  rw [hy] at N2 hy32
  obtain ⟨z, hz⟩ : ∃ z, x + t.toNat = z := ⟨_, rfl⟩
  have hwide : (2 : Nat) ^ wideN false = 4294967296 := by decide
  have hxv : x < 2 ^ wideN false := by omega
  have hyv : y < 2 ^ wideN false := by omega
  have hzv : z < 2 ^ wideN false := by omega
  have X1 : Hid (∀ W : World, Calls Tryd.prog 11 #[.agg #[.bool false, .int .u64 (aH x), .int .u64 (aL x)], .int .i64 t] W fun e w' => e = .returned (.tuple #[.agg #[.bool false, .int .u64 (aH z), .int .u64 (aL z)], .int .i64 0]) ∧ Below W.heap.size W w') := Lib.hid fun W => next_num false x z t hxv hzv (by omega) (by omega) (by omega) W
  have RG : Hid (∀ W : World, FamAt W → Calls Tryd.prog 13 #[.agg #[.bool false, .int .u64 (aH x), .int .u64 (aL x)], .agg #[.bool false, .int .u64 (aH z), .int .u64 (aL z)]] W (PresOutE (cn false (fromTo x z) (wideN false) 0) 0 W)) := Lib.hid fun W f => range_ok false x z hxv hzv (by omega) W f
  obtain ⟨I, hP20, hP1, hbest⟩ := range_table hzv (show x ≤ z by omega) (show z < x + 2 ^ 9 by omega)
  have hb := hbest y hyv
  clear hbest
  obtain ⟨P, hP⟩ : ∃ P, cn false (fromTo x z) (wideN false) 0 = P := ⟨_, rfl⟩
  rw [hP] at RG I hP20 hP1 hb
  obtain ⟨lk1, lk2⟩ := look_inv I hyv
  have hy128 : y < 2 ^ 128 := Nat.lt_of_lt_of_le hyv (by decide)
  have LC := Lib.hid (fun (W : World) (u : Value) (r : RowR W u (P.map fun p => (p, (5 : Int)))) => tableLook_calls _ u false y (by rw [List.length_map]; omega) (inv_words I) hy128 W r)
  rw [lk1, lk2] at LC
  obtain ⟨p1, hp1⟩ : ∃ q, (bestA false y (P.map fun p => (p, (5 : Int)))).1 = q := ⟨_, rfl⟩
  obtain ⟨p2, hp2⟩ : ∃ q, (bestA false y (P.map fun p => (p, (5 : Int)))).2 = q := ⟨_, rfl⟩
  rw [hp1, hp2] at LC
  rw [hp1] at hb
  have HB := Lib.hid hb
  have FM := Lib.hid hF
  have HLo : Hid (aL x = (x : Int) ∧ aL y = (y : Int) ∧ aL z = (z : Int)) := Lib.hid (by unfold aL; omega)
  clear hF hP hp1 hp2 lk1 lk2 hb I hx hy ht hwide
  go_enter Tryd.func4, Tryd.ntmps4
  go_wp2_with fail
  refine (N1.out _).mono ?_
  rintro e w1 ⟨rfl, hb1⟩
  have bA := hb1.alloc hb1.size (.cells #[.bool false, .int .u64 (aH x), .int .u64 (aL x)] 31)
  have A0 := AddrAt.new w1 false (aH x) (aL x) 31
  go_upto_region 2 with fail
  revert bA A0
  clear hb1
  generalize w1.alloc (.cells #[.bool false, .int .u64 (aH x), .int .u64 (aL x)] 31) = Y
  intro bA A0
  obtain ⟨bf, hbf⟩ : ∃ b, w1.heap.size = b := ⟨_, rfl⟩
  rw [hbf] at A0 ⊢
  clear hbf
  obtain ⟨f0, f1, f2, fl⟩ := A0
  have HBB : Hid (∀ X : World, Below Y.heap.size Y X → X.cell? ⟨bf, 0, none⟩ = some (.bool false) ∧ X.cell? ⟨bf, 1, none⟩ = some (.int .u64 (aH x)) ∧ X.cell? ⟨bf, 2, none⟩ = some (.int .u64 (aL x))) := Lib.hid fun X h => ⟨(h.cell (p := ⟨bf, 0, none⟩) fl).trans f0, (h.cell (p := ⟨bf, 1, none⟩) fl).trans f1, (h.cell (p := ⟨bf, 2, none⟩) fl).trans f2⟩
  go_cut [8, 9] from 20 to 26 (fun s8 s9 wx => ∃ b, s8 = .pointer (some ⟨b, 0, none⟩) ∧ s9 = .int .i64 0 ∧ AddrAt wx b false (aH z) (aL z) ∧ Below Y.heap.size Y wx)
  case first =>
    go_region_held3 (fun w' => w'.cell? ⟨bf, 0, none⟩ = some (.bool false) ∧ w'.cell? ⟨bf, 1, none⟩ = some (.int .u64 (aH x)) ∧ w'.cell? ⟨bf, 2, none⟩ = some (.int .u64 (aL x)))
      (first
        | exact HBB.out _ ((Below.refl _ Y).drew)
        | exact HBB.out _ (((Below.refl _ Y).alloc (Nat.le_refl _) _).drew)
        | exact HBB.out _ B2
        | exact HBB.out _ (B2.alloc B2.size _)
        | exact HBB.out _ (((B2.setCell (by exact Nat.le_refl _) _).setCell (by exact Nat.le_refl _) _).setCell (by exact Nat.le_refl _) _)
        | exact HBB.out _ ((((B2.alloc B2.size _).setCell (by exact B2.size) _).setCell (by exact B2.size) _).setCell (by exact B2.size) _)
        | fail)
      (first
        | (go_at_call 12; refine (P3.out _).mono ?_; rintro e w' ⟨rfl, rfl⟩)
        | (go_at_call 11; refine (X1.out _).mono ?_; rintro e w6 ⟨rfl, hb6⟩; first | (have V6 := (AddrV.new Y false 0 0 31).drew.keep hb6; have B2 : Below Y.heap.size Y w6 := thenBelow (((Below.refl _ Y).alloc (Nat.le_refl _) _).drew) hb6; obtain ⟨⟨v0, v1, v2, vl⟩, vf⟩ := id V6) | (have B2 : Below Y.heap.size Y w6 := thenBelow ((Below.refl _ Y).drew) hb6))
        | fail)
    all_goals
      go_wp2_with fail
      go_meet
      first
        | exact ⟨_, rfl, rfl, AddrAt.new w6 false (aH z) (aL z) 31, B2.alloc B2.size _⟩
        | exact ⟨_, rfl, rfl, (V6.store false (aH z) (aL z)).1, ((B2.setCell (by exact Nat.le_refl _) _).setCell (by exact Nat.le_refl _) _).setCell (by exact Nat.le_refl _) _⟩
  case rest =>
    obtain ⟨bl_, rfl, rfl, AL_, BX⟩ := hcut
    rename World => X1_
    have AF := AddrAt.keep ⟨f0, f1, f2, fl⟩ BX
    have hnX := thenBelow bA BX
    have FMX := Lib.hid (FM.out.keep hnX)
    clear f0 f1 f2 fl HBB bA BX FM
    obtain ⟨f0, f1, f2, fl⟩ := id AF
    obtain ⟨g0, g1, g2, gl⟩ := id AL_
    go_wp2_with fail
    refine (RG.out _ FMX.out).mono ?_
    rintro e w3 ⟨pv, rfl, hpo, hb3⟩
    have OP : Hid (Owned w3 w.heap.size pv P) := Lib.hid (ownsLow hpo hnX.size)
    have AF3 := AF.keep hb3
    have AL3 := AL_.keep hb3
    have hn3 := thenBelow hnX hb3
    obtain ⟨pp, pc, rfl⟩ := (RowP.owned OP.out).form
    obtain ⟨n, hn⟩ : ∃ n, P.length = n := ⟨_, rfl⟩
    have HN := Lib.hid hn
    rw [hn] at hP20 hP1 OP
    rw [hn]
    have hnb : ((n : Int) == 0) = false := by simp; omega
    clear hpo hb3 hnX FMX AF AL_ f0 f1 f2 fl g0 g1 g2 gl hn
    go_wp2_with fail
    obtain ⟨bF_, hbF_⟩ : ∃ f : PT → RT, f = fun p => (p, (5 : Int)) := ⟨_, rfl⟩
    rw [← hbF_] at LC
    have HFF := Lib.hid hbF_
    clear hbF_
    go_loopw [12, 13] (fun v i wr => ∃ k : Nat, k ≤ n ∧ i = .int .i64 k ∧ Hid (OwnR wr w3.heap.size v ((P.take k).map bF_)) ∧ Below w3.heap.size w3 wr) (fun _ i _ => n - (intOf i).toNat)
    case atStart => exact ⟨0, by omega, rfl, Lib.hid (World.ownsRow_nil _ _ _ _), Below.refl _ _⟩
    case round =>
      obtain ⟨k, hk, rfl, OR, hnk⟩ := hrel
      have PK := Lib.hid (ownsKeep OP.out hnk)
      by_cases hlt : k < n
      · have hkl : k < P.length := by rw [HN.out]; exact hlt
        rcases RowP.owned PK.out with ⟨e0, _⟩ | ⟨g, o, cc, e0, hg, hrec⟩
        · rw [e0] at hkl; exact absurd hkl (by simp)
        injection e0 with h1 h2 h3
        subst h1
        clear h2 h3
        obtain ⟨x0, x1, x2, x3⟩ := hrec k hkl
        have HT : Hid ((P.take (k + 1)).map bF_ = (P.take k).map bF_ ++ [(P[k], 5)]) := Lib.hid (by rw [take_snoc hkl, List.map_append, HFF.out]; rfl)
        generalize P[k] = r at x0 x1 x2 x3 HT
        obtain ⟨ps, hps⟩ : ∃ ps, (P.take k).map bF_ = ps := ⟨_, rfl⟩
        rw [hps] at OR HT
        have hpsl : ps.length = k := by rw [← hps, List.length_map, List.length_take]; omega
        have HPL := Lib.hid hpsl
        obtain ⟨vp, vc, rfl⟩ := (OwnR.row OR.out).form
        have OR' : Hid (wr.ownsRow w3.heap.size 35 5 (.slice vp k vc) k (rowOf rcs ps)) := Lib.hid (by have := OR.out; unfold OwnR at this; rw [hpsl] at this; exact this)
        rw [hpsl]
        have hlt' : (k : Int) < (n : Int) := by omega
        have hnw : Hid (∀ W : World, ∀ j u, (rcs (r, 5))[j]? = some u → (W.alloc (.cells #[.bool r.1, .int .u64 (aH r.2.1), .int .u64 (aL r.2.1), .int .i64 r.2.2, .int .i64 5] 35)).cell? ((⟨W.heap.size, 0, none⟩ : Addr).add j) = some u) := Lib.hid fun W j u hj =>
          World.news_of_block (_root_.Go.heap_alloc_new W _) j u (by simpa [rcs] using hj)
        have h63 : k + 1 ≤ maxLen := by unfold maxLen; omega
        have hby : (k + 1) * 40 ≤ 140737488355328 := by omega
        have HSZ : Hid (∀ o : Obj, w3.heap.size ≤ (wr.alloc o).heap.size) := Lib.hid fun o => by have := hnk.size; simp; omega
        clear hps hpsl hrec
        go_wp2_with (at_builtin; refine wpList_append_own _ rfl _ _ 23 rfl w3.heap.size 35 j0 _ 5 40 Tryd.underlying23 jii jz0 jz1 jz2 rfl (by decide) _ _ _ rfl (OR'.out.alloc _) ⟨wr.heap.size, 0, none⟩ 1 1 (rcs (r, 5)) rfl rfl (hnw.out wr) (rcs_one _) h63 hby (HSZ.out _) ?_; intro v7 w7 ho7 hg7 _)
        have hn7 := (hnk.alloc hnk.size _).grown hg7 (by have := hnk.size; simp; omega) (fun q hq => (OR'.out.lt q hq).1)
        have O7 : Hid (OwnR w7 w3.heap.size v7 ((P.take (k + 1)).map bF_)) := Lib.hid (by rw [HT.out]; unfold OwnR; rw [List.length_append, rowOf_app, HPL.out]; exact ho7)
        clear ho7 hg7
        go_wp2
        go_roundw
        case rel => exact ⟨k + 1, by omega, by go_num, O7, hn7⟩
        case measure => simp [intOf]; omega
      · obtain rfl : k = n := by omega
        have e1 : P.take k = P := by rw [← HN.out]; exact List.take_length
        rw [e1] at OR
        clear e1 PK
        have hnw := thenBelow hn3 hnk
        have AFk := AF3.keep hnk
        have ALk := AL3.keep hnk
        obtain ⟨vp, vc, rfl⟩ := (OwnR.row OR.out).form
        obtain ⟨rl, hrl⟩ : ∃ q, (P.map bF_).length = q := ⟨_, rfl⟩
        rw [hrl] at OR
        rw [hrl]
        clear hrl
        go_wp2_with fail
        refine (N2.out _).mono ?_
        rintro e w4 ⟨rfl, hb4⟩
        have hn4 := (thenBelow hnw hb4).alloc (thenBelow hnw hb4).size (.cells #[.bool false, .int .u64 (aH y), .int .u64 (aL y)] 31)
        have A4 := AddrAt.new w4 false (aH y) (aL y) 31
        have AF4 := (AFk.keep hb4).alloc (.cells #[.bool false, .int .u64 (aH y), .int .u64 (aL y)] 31)
        have AL4 := (ALk.keep hb4).alloc (.cells #[.bool false, .int .u64 (aH y), .int .u64 (aL y)] 31)
        have R4 : Hid (RowR (w4.alloc (.cells #[.bool false, .int .u64 (aH y), .int .u64 (aL y)] 31)) (.slice vp rl vc) (P.map bF_)) := Lib.hid (OwnR.row ((ownsKeep OR.out hb4).alloc _))
        have hl4 := (AFk.keep hb4).2.2.2
        have hl5 := (ALk.keep hb4).2.2.2
        clear hb4 OR AFk ALk hnw hnk
        go_wp2_with fail
        refine (LC.out _ _ R4.out).mono ?_
        rintro e w5 ⟨rfl, hb5⟩
        have A5 := A4.keep hb5
        have AF5 := AF4.keep hb5
        have AL5 := AL4.keep hb5
        have hn5 := thenBelow hn4 hb5
        clear hb5 A4 AF4 AL4 R4 hn4 LC
        obtain ⟨q0, q1, q2, ql⟩ := A5
        obtain ⟨f0, f1, f2, fl⟩ := AF5
        obtain ⟨g0, g1, g2, gl⟩ := AL5
        rw [HLo.out.1] at f2
        rw [HLo.out.2.1] at q2
        rw [HLo.out.2.2] at g2
        have hne1 : ¬ bf = w5.heap.size := by omega
        have hne2 : ¬ bl_ = w5.heap.size := by omega
        have hne3 : ¬ w4.heap.size = w5.heap.size := by omega
        by_cases r1 : x ≤ y
        · have r1' : (x : Int) ≤ (y : Int) := by omega
          by_cases r2 : y ≤ z
          · have r2' : (y : Int) ≤ (z : Int) := by omega
            have hp : p1 = 5 := by rw [HB.out, if_pos ⟨r1, r2⟩]
            clear HB
            subst hp
            go_wp2
            go_ret
            exact ⟨by simp, hn5.alloc hn5.size _⟩
          · have r2' : ¬ (y : Int) ≤ (z : Int) := by omega
            have hp : p1 = 0 := by rw [HB.out, if_neg (fun h => r2 h.2)]
            clear HB
            subst hp
            go_wp2
            go_ret
            exact ⟨by simp, hn5.alloc hn5.size _⟩
        · have r1' : ¬ (x : Int) ≤ (y : Int) := by omega
          have hp : p1 = 0 := by rw [HB.out, if_neg (fun h => r1 h.1)]
          clear HB
          subst hp
          go_wp2
          go_ret
          exact ⟨by simp, hn5.alloc hn5.size _⟩
theorem TopRange.own : ownKnob Tryd.prog.godebug = none := by kernel_rfl
set_option maxRecDepth 100000 in
theorem TopRange.lifted (os : Os) (started : os.Started) (H : Type) (enc : TypeId × Value → H) :
    ReturnsInHanded {} Tryd.checked os 4 .any (fun w args => (Rows.topRangeSpec.pre enc Tryd.prog Tryd.f4 [] false w args ∧ laidMetH Tryd.prog Rows.topRangeRow.laid w) ∧ sizedMet enc Tryd.prog Tryd.f4 (OpenSpec.ofChange Rows.topRangeSpec) false w args) (Rows.topRangeSpec.post enc Tryd.prog Tryd.f4 false true false false) := by
  refine returnsInHanded_of_change_and (C := Tryd.checked) (X := fun w _ => laidMetH Tryd.prog Rows.topRangeRow.laid w) (fun _ _ _ hh h => h.of_heap hh) TopRange.own started (by kernel_rfl) Tryd.func4
    (ChangeSpec.witness_at (enc := enc) (C := Tryd.checked) (os := os) (X := fun w _ => laidMetH Tryd.prog Rows.topRangeRow.laid w) false (Laid1.world os) #[.int .i64 0, .int .i64 0, .int .i64 0] 8 rfl (by kernel_rfl) (by kernel_rfl) (by kernel_rfl) (by kernel_rfl) (by kernel_rfl) (Laid1.met os _)) ?_
  intro W base args ds gs before hval0 hW hcnd _ hL _
  have hT : Laid1.Tabs W := Laid1.of hL
  have hval : ∀ (j : Nat) t v, Tryd.f4.params[j]? = some t → args[j]? = some v → Value.okWide Tryd.prog W .any base t v := hval0
  have hW' := hW
  obtain ⟨p, q, hA0, hV, rfl, hfz, hnd⟩ := hW
  have hA : DataW.TrodAll enc Tryd.prog W 0 (fun _ => true) true Tryd.f4.params.toList args.toList ds p := hA0
  rw [Tryd.params4] at hA hval
  obtain ⟨v0, vs0, d0, ds0, p0, q0, hargs, rfl, rfl, rd0, r0⟩ := trodAll_cons hA
  obtain ⟨v1, vs1, d1, ds1, p1, q1, rfl, rfl, rfl, rd1, r1⟩ := trodAll_cons r0
  obtain ⟨v2, vs2, d2, ds2, p2, q2, rfl, rfl, rfl, rd2, r2⟩ := trodAll_cons r1
  obtain ⟨rfl, rfl, rfl⟩ := trodAll_nil r2
  obtain rfl : args = #[v0, v1, v2] := by cases args; simp_all
  obtain ⟨rfl, rfl⟩ := trodVars_none hV
  obtain ⟨a0, rfl, rfl, rfl, wa0⟩ := open_int Tryd.underlying3 (hval 0 3 v0 rfl rfl) rd0
  obtain ⟨a1, rfl, rfl, rfl, wa1⟩ := open_int Tryd.underlying3 (hval 1 3 v1 rfl rfl) rd1
  obtain ⟨a2, rfl, rfl, rfl, wa2⟩ := open_int Tryd.underlying3 (hval 2 3 v2 rfl rfl) rd2
  clear hA0 hval0
  simp only [List.append_nil] at hW'
  refine (TopRange.walk a0 a1 a2 (i64_of_wf wa0).1 (i64_of_wf wa0).2 (i64_of_wf wa1).1 (i64_of_wf wa1).2 (i64_of_wf wa2).1 (i64_of_wf wa2).2 W hT).mono fun e W' ⟨he, hb⟩ => ?_
  subst he
  exact ⟨_, rfl, postBelow (pa := []) (pv := []) hW' hb (fun _ _ _ => trodAll_cons_mk (shut_bool Tryd.underlying4 _) trodAll_mk0) (fun sp _ => trodAll_cons_mk (shut_int Tryd.underlying3 wa0) (trodAll_cons_mk (shut_int Tryd.underlying3 wa1) (trodAll_cons_mk (shut_int Tryd.underlying3 wa2) trodAll_mk0))) (fun _ _ => rfl) rfl⟩

theorem TopRange.holds : Rows.TopRangeSaid :=
  OpenClaim.holds_of_wide 4 Tryd.f4 rfl rfl rfl rfl rfl rfl rfl ⟨rfl, rfl, rfl, rfl, rfl⟩ rfl rfl rfl rfl rfl (by kernel_rfl) Tryd.func4 (by kernel_rfl)
    (of_decide_eq_true (by kernel_rfl)) (by unfold Func.isWrapper; first | (rw [if_pos (by decide +kernel)]; kernel_rfl) | (rw [if_neg (by decide +kernel)]; exact ⟨rfl, rfl⟩))
    (fun os started H enc _ => TopRange.lifted os started H enc)
#print axioms TopRange.holds
theorem TopRange.card : Rows.TopRangeCardSaid :=
  Claim7.holds_tied_plain_at .later [] Rows.topRangeCard.laidKinds true Rows.topRangeCard.stood.harness Rows.topRangeCard.stood.looks
    TopRange.holds (fun _ h => by cases h) (by kernel_rfl) (fun _ h => by cases h) topRange_row_tie rfl ⟨rfl, rfl⟩ (by kernel_rfl) rfl
    (fun f fn hf hfn => by
      obtain rfl : f = 4 := Option.some.inj ((show Tryd.prog.funcNamed "whipcord/whipcordtop.TopRange" = some 4 by kernel_rfl).symm.trans hf) |>.symm
      obtain rfl : fn = Tryd.f4 := (Option.some.inj (Tryd.func4.symm.trans hfn)).symm
      exact ⟨by kernel_rfl, fun j t ht => by
        rw [Tryd.params4] at ht
        match j, ht with
        | 0, ht => obtain rfl := Option.some.inj ht; exact (show Tryd.prog.wantsStandIn 3 = false by kernel_rfl)
        | 1, ht => obtain rfl := Option.some.inj ht; exact (show Tryd.prog.wantsStandIn 3 = false by kernel_rfl)
        | 2, ht => obtain rfl := Option.some.inj ht; exact (show Tryd.prog.wantsStandIn 3 = false by kernel_rfl)
        | j + 3, ht => simp at ht⟩)
    (by kernel_rfl)
#print axioms TopRange.card
end Go.Proofs.YtifhakoeinalaaaDoor
