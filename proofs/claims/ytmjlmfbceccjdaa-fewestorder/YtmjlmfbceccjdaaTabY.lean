/-
  whipcordkeep.Acts: the acts of jobs.
-/
import Derived.Test.YtmjlmfbceccjdaaG13
import Derived.Deep.CutRange
import Derived.Deep.DeepCutAuto
namespace Go.Proofs.Ytmjlmfbceccjdaa
open Go.RowKit
set_option linter.unusedVariables false
set_option linter.unusedSimpArgs false

/-- A job: kind, prefix, hop. -/
abbrev JT := Int × Int × Int
def jcs (j : JT) : List Value := [.int .i64 j.1, .int .i64 j.2.1, .int .i64 j.2.2]
theorem jcs_len (j : JT) : (jcs j).length = 3 := rfl
abbrev RowJ (w : World) (v : Value) (l : List JT) : Prop := RowK jcs 3 w v l
def okI (z : Int) : Prop := -9223372036854775808 ≤ z ∧ z ≤ 9223372036854775807
def WordsJ (l : List JT) : Prop := ∀ j ∈ l, okI j.1 ∧ okI j.2.1 ∧ okI j.2.2
/-- The act of a job. -/
def actZ (j : JT) : ActT :=
  if 5 < j.1 % 8 then ⟨3, (false, 0, 0), 0, false, nearZ j.2.1⟩ else if j.1 % 8 = 5 then ⟨4, preZ j.2.1, 0, false, 0⟩
  else if 2 < j.1 % 8 then ⟨2, preZ j.2.1, 0, false, 0⟩ else ⟨1, preZ j.2.1, 1 + j.2.2 % 5, false, 0⟩
def actsZ (l : List JT) (n : Nat) : List ActT := (l.take n).map actZ
theorem actZ_words (j : JT) : (actZ j).p.2.1 < 2 ^ 128 ∧ (actZ j).y < 2 ^ 128 := by
  have h1 : (preZ j.2.1).2.1 < 2 ^ 128 := Nat.lt_of_lt_of_le (xZ_lt _) (by decide)
  have h2 : nearZ j.2.1 < 2 ^ 128 := Nat.lt_of_lt_of_le (nearZ_lt _) (by decide)
  have h0 : (0 : Nat) < 2 ^ 128 := by decide
  unfold actZ
  split
  · exact ⟨h0, h2⟩
  · split
    · exact ⟨h1, h0⟩
    · split
      · exact ⟨h1, h0⟩
      · exact ⟨h1, h0⟩
theorem actsZ_words (l : List JT) (n : Nat) : WordsA (actsZ l n) := fun a ha => by
  obtain ⟨j, _, rfl⟩ := List.mem_map.1 ha
  exact actZ_words j
/-- A variable that holds an act. -/
def ActV (w : World) (b : Nat) (a : ActT) : Prop := RecAt w b 0 (acs a) ∧ (∀ o, w.frozen? ⟨b, o, none⟩ = false) ∧ b < w.heap.size
theorem ActV.keep {w w' : World} {b : Nat} {a : ActT} (h : ActV w b a) (hb : Below w.heap.size w w') : ActV w' b a :=
  ⟨h.1.keep hb h.2.2, fun o => (hb.frozen (p := ⟨b, o, none⟩) h.2.2).trans (h.2.1 o), Nat.lt_of_lt_of_le h.2.2 hb.size⟩
theorem ActV.new (w : World) (a : ActT) : ActV (w.alloc (objA a)) w.heap.size a := ⟨actNew w a, fun o => by simp [go_sem], by simp⟩
theorem ActV.store {w : World} {b : Nat} {a : ActT} (h : ActV w b a) (c : ActT) :
    ActV (((((((((w.setCell ⟨b, 0, none⟩ (.int .i64 c.k)).setCell ⟨b, 1, none⟩ (.bool c.p.1)).setCell ⟨b, 2, none⟩ (.int .u64 (aH c.p.2.1))).setCell ⟨b, 3, none⟩ (.int .u64 (aL c.p.2.1))).setCell ⟨b, 4, none⟩ (.int .i64 c.p.2.2)).setCell ⟨b, 5, none⟩ (.int .i64 c.h)).setCell ⟨b, 6, none⟩ (.bool c.s)).setCell ⟨b, 7, none⟩ (.int .u64 (aH c.y))).setCell ⟨b, 8, none⟩ (.int .u64 (aL c.y))) b c := by
  obtain ⟨hr, hf, hl⟩ := h
  obtain ⟨y0, y1, y2, y3, y4, y5, y6, y7, y8⟩ := actCells hr
  simp only [Nat.zero_add] at y0 y1 y2 y3 y4 y5 y6 y7 y8
  refine ⟨fun j u hj => ?_, fun o => by simp only [World.frozen?_setCell]; exact hf o, by simpa using hl⟩
  match j, hj with
  | 0, hj => simp [acs] at hj; simp [go_sem, y0, y1, y2, y3, y4, y5, y6, y7, y8, ← hj]
  | 1, hj => simp [acs] at hj; simp [go_sem, y0, y1, y2, y3, y4, y5, y6, y7, y8, ← hj]
  | 2, hj => simp [acs] at hj; simp [go_sem, y0, y1, y2, y3, y4, y5, y6, y7, y8, ← hj]
  | 3, hj => simp [acs] at hj; simp [go_sem, y0, y1, y2, y3, y4, y5, y6, y7, y8, ← hj]
  | 4, hj => simp [acs] at hj; simp [go_sem, y0, y1, y2, y3, y4, y5, y6, y7, y8, ← hj]
  | 5, hj => simp [acs] at hj; simp [go_sem, y0, y1, y2, y3, y4, y5, y6, y7, y8, ← hj]
  | 6, hj => simp [acs] at hj; simp [go_sem, y0, y1, y2, y3, y4, y5, y6, y7, y8, ← hj]
  | 7, hj => simp [acs] at hj; simp [go_sem, y0, y1, y2, y3, y4, y5, y6, y7, y8, ← hj]
  | 8, hj => simp [acs] at hj; simp [go_sem, y0, y1, y2, y3, y4, y5, y6, y7, y8, ← hj]
  | j + 9, hj => simp [acs] at hj
/-- .. and what lies beside it. -/
theorem ActV.stored {w w0 : World} {b n base : Nat} {a : ActT} {v : Value} {l : List ActT} (h : ActV w b a) (ho : OwnA w base v l) (hne : v.ownBlock ≠ some b) (hb : Below n w0 w) (hn : n ≤ b) (c : ActT) :
    ∃ X, X = (((((((((w.setCell ⟨b, 0, none⟩ (.int .i64 c.k)).setCell ⟨b, 1, none⟩ (.bool c.p.1)).setCell ⟨b, 2, none⟩ (.int .u64 (aH c.p.2.1))).setCell ⟨b, 3, none⟩ (.int .u64 (aL c.p.2.1))).setCell ⟨b, 4, none⟩ (.int .i64 c.p.2.2)).setCell ⟨b, 5, none⟩ (.int .i64 c.h)).setCell ⟨b, 6, none⟩ (.bool c.s)).setCell ⟨b, 7, none⟩ (.int .u64 (aH c.y))).setCell ⟨b, 8, none⟩ (.int .u64 (aL c.y))) ∧ ActV X b c ∧ OwnA X base v l ∧ Below n w0 X := by
  refine ⟨_, rfl, h.store c, ?_, ?_⟩
  · exact ((((((((ho.kept (grownBy_setCell _ _ _) (.inr hne)).kept (grownBy_setCell _ _ _) (.inr hne)).kept (grownBy_setCell _ _ _) (.inr hne)).kept (grownBy_setCell _ _ _) (.inr hne)).kept (grownBy_setCell _ _ _) (.inr hne)).kept (grownBy_setCell _ _ _) (.inr hne)).kept (grownBy_setCell _ _ _) (.inr hne)).kept (grownBy_setCell _ _ _) (.inr hne)).kept (grownBy_setCell _ _ _) (.inr hne)
  · exact ((((((((hb.setCell (p := ⟨b, 0, none⟩) hn _).setCell (p := ⟨b, 1, none⟩) hn _).setCell (p := ⟨b, 2, none⟩) hn _).setCell (p := ⟨b, 3, none⟩) hn _).setCell (p := ⟨b, 4, none⟩) hn _).setCell (p := ⟨b, 5, none⟩) hn _).setCell (p := ⟨b, 6, none⟩) hn _).setCell (p := ⟨b, 7, none⟩) hn _).setCell (p := ⟨b, 8, none⟩) hn _
theorem aH0 : aH 0 = 0 := by unfold aH; simp
theorem aL0 : aL 0 = 0 := by unfold aL; simp
set_option maxHeartbeats 8000000 in
set_option maxRecDepth 100000 in
theorem acts_calls (l : List JT) (v : Value) (n : Nat) (hn : n ≤ 1000) (hlen : l.length ≤ 9223372036854775807) (hw : WordsJ l) (w : World) (row : RowJ w v l) :
    Calls Try.prog 12 #[v, .int .i64 n] w fun e w' => ∃ u, e = .returned u ∧ OwnA w' w.heap.size u (actsZ l n) ∧ Below w.heap.size w w' := by
  obtain ⟨i0, hii, hz0, hz1, hz2⟩ := info_parts info_act
  obtain ⟨p, c, rfl, hcap, at_⟩ := row.at
  have AT := Lib.hid at_
  have HW := Lib.hid hw
  clear at_ row hw
  go_enter Try.func12, Try.ntmps12
  go_wp2
  go_loopw [5, 6] (fun u i wr => ∃ k : Nat, k ≤ n ∧ k ≤ l.length ∧ i = .int .i64 k ∧ Hid (OwnA wr w.heap.size u (actsZ l k)) ∧ Below w.heap.size w wr) (fun _ i _ => n - (intOf i).toNat)
  case atStart => exact ⟨0, by omega, by omega, rfl, Lib.hid (World.ownsRow_nil _ _ _ _), Below.refl _ _⟩
  case round =>
    obtain ⟨k, hk, hkl, rfl, OW, hnx⟩ := hrel
    have hsz := hnx.size
    by_cases hlt : k < l.length
    · by_cases hlt2 : k < n
      · obtain ⟨g, o, rfl, hg, hrec⟩ := AT.out k hlt
        have hr' := hrec.keep hnx hg
        have x0 := hr' 0 _ rfl
        have x1 := hr' 1 _ rfl
        have x2 := hr' 2 _ rfl
        simp only [Nat.add_zero] at x0
        obtain ⟨v0, v1, v2⟩ := HW.out _ (List.getElem_mem hlt)
        have EA := Lib.hid (show actsZ l (k + 1) = actsZ l k ++ [actZ l[k]] by unfold actsZ; rw [take_snoc hlt, List.map_append]; rfl)
        generalize l[k] = j at x0 x1 x2 v0 v1 v2 EA
        clear hr' hrec
        have hll : (actsZ l k).length = k := by unfold actsZ; rw [List.length_map, List.length_take]; omega
        have PC := Lib.hid (fun (W : World) (b : Nat) (h : W.cell? ⟨b, 0, none⟩ = some (.int .i64 j.2.1)) => pres1_calls j.2.1 v1.1 v1.2 b W h)
        have P5 := Lib.hid (fun W => picked_calls j.2.2 5 (by decide) (by decide) v2.1 v2.2 W)
        have P8 := Lib.hid (fun W => picked_calls j.1 8 (by decide) (by decide) v0.1 v0.2 W)
        have NC := Lib.hid (fun W => near_calls j.2.1 v1.1 v1.2 W)
        have hgr := Nat.lt_of_lt_of_le hg hsz
        have hlt' : (k : Int) < (l.length : Int) := by omega
        have hlt2' : (k : Int) < (n : Int) := by omega
        go_wp2_with fail
        have J1 := (AnsV.new wr j.1 j.2.1 j.2.2 67).alloc (.cells #[.int .i64 j.2.1] 3)
        have bY : Below wr.heap.size wr ((wr.alloc (.cells #[.int .i64 j.1, .int .i64 j.2.1, .int .i64 j.2.2] 67)).alloc (.cells #[.int .i64 j.2.1] 3)) := by go_grown
        refine (PC.out _ (wr.heap.size + 1) (by simp)).mono ?_
        rintro e w1 ⟨pv, rfl, hop, hb1⟩
        have J2 := J1.keep hb1 J1.2.2.2.2
        have b1 := thenBelow bY hb1
        obtain ⟨pg, pc, hpv⟩ : ∃ pg pc, pv = .slice (some ⟨pg, 0, none⟩) 1 pc := by
          rcases hop.2 with ⟨_, h0⟩ | ⟨g, cap, cur, e, _⟩
          · cases h0
          · exact ⟨g, cap, e⟩
        subst hpv
        have q0 := owns_cellAt hop 0 _ rfl
        have q1 := owns_cellAt hop 1 _ rfl
        have q2 := owns_cellAt hop 2 _ rfl
        have q3 := owns_cellAt hop 3 _ rfl
        obtain ⟨pz, hpz⟩ : ∃ pz, preZ j.2.1 = pz := ⟨_, rfl⟩
        have PZ := Lib.hid hpz
        rw [hpz] at q0 q1 q2 q3
        clear hpz
        have J3 := J2.alloc (.cells #[.bool pz.1, .int .u64 (aH pz.2.1), .int .u64 (aL pz.2.1), .int .i64 pz.2.2] 32)
        have P3 := PreAt.new w1 pz.1 (aH pz.2.1) (aL pz.2.1) pz.2.2 32
        have b3 := b1.alloc b1.size (.cells #[.bool pz.1, .int .u64 (aH pz.2.1), .int .u64 (aL pz.2.1), .int .i64 pz.2.2] 32)
        have OW3 : Hid (OwnA (w1.alloc (.cells #[.bool pz.1, .int .u64 (aH pz.2.1), .int .u64 (aL pz.2.1), .int .i64 pz.2.2] 32)) w.heap.size u5 (actsZ l k)) := Lib.hid (ownsKeep OW.out b3)
        have hn3 := thenBelow hnx b3
        have own5 : ∀ q, u5.ownBlock = some q → q < wr.heap.size := fun q hq => (OW.out.lt q hq).2
        clear J1 bY hb1 PC J2 b1 hop OW x0 x1 x2 hnx
        go_wp2_with fail
        revert J3 P3 b3 OW3 hn3
        generalize w1.alloc (.cells #[.bool pz.1, .int .u64 (aH pz.2.1), .int .u64 (aL pz.2.1), .int .i64 pz.2.2] 32) = W3
        intro J3 P3 b3 OW3 hn3
        have J3' := J3
        obtain ⟨k0, k1, k2, _, kl⟩ := J3'
        obtain ⟨p0, p1, p2, p3, pl⟩ := P3
        have hm0 := Int.emod_nonneg j.2.2 (show (5 : Int) ≠ 0 by decide)
        have hm1 := Int.emod_lt_of_pos j.2.2 (show (0 : Int) < 5 by decide)
        have hw5 : IntKind.i64.wrap (1 + j.2.2 % 5) = 1 + j.2.2 % 5 := by rw [IntKind.wrap_i64]; omega
        obtain ⟨a0, ha0⟩ : ∃ a0 : ActT, a0 = ⟨1, pz, 1 + j.2.2 % 5, false, 0⟩ := ⟨_, rfl⟩
        have hobj : objA a0 = .cells #[.int .i64 1, .bool pz.1, .int .u64 (aH pz.2.1), .int .u64 (aL pz.2.1), .int .i64 pz.2.2, .int .i64 (1 + j.2.2 % 5), .bool false, .int .u64 0, .int .u64 0] 34 := by rw [ha0]; simp [objA, aH0, aL0]
        have HO := Lib.hid hobj
        have HA0 := Lib.hid ha0
        clear hobj ha0
        go_cut [9] from 32 to 37 (fun s9 wx => s9 = .pointer (some ⟨W3.heap.size, 0, none⟩) ∧ wx = (W3.alloc (.cells #[.int .i64 1, .bool pz.1, .int .u64 (aH pz.2.1), .int .u64 (aL pz.2.1), .int .i64 pz.2.2, .int .i64 (1 + j.2.2 % 5), .bool false, .int .u64 0, .int .u64 0] 34)).drew)
        case first =>
          go_region_with (go_at_call 11; refine (P5.out _).mono ?_; rintro e w' ⟨rfl, rfl⟩)
          all_goals (go_wp2_with fail; go_meet; exact ⟨rfl, rfl⟩)
        case rest =>
          obtain ⟨rfl, hwc⟩ := hcut
          rw [← HO.out] at hwc
          have AV : ActV wc W3.heap.size a0 := by rw [hwc]; exact (ActV.new W3 a0).keep (Below.refl _ _).drew
          have bX : Below W3.heap.size W3 wc := by rw [hwc]; exact ((Below.refl _ W3).alloc (Nat.le_refl _) _).drew
          have J4 := J3.keep bX J3.2.2.2.2
          have OW4 : Hid (OwnA wc w.heap.size u5 (actsZ l k)) := Lib.hid (ownsKeep OW3.out bX)
          have hn4 := thenBelow hn3 bX
          have PP : PreAt wc w1.heap.size pz.1 (aH pz.2.1) (aL pz.2.1) pz.2.2 := PreAt.keep ⟨p0, p1, p2, p3, pl⟩ bX
          clear hwc J3 P5 k0 k1 k2 kl p0 p1 p2 p3 pl OW3 hn3 bX
          obtain ⟨k0, k1, k2, _, kl⟩ := J4
          go_wp2_with fail
          refine (P8.out _).mono ?_
          rintro e w' ⟨rfl, rfl⟩
          have hk0 := Int.emod_nonneg j.1 (show (8 : Int) ≠ 0 by decide)
          have hk1 := Int.emod_lt_of_pos j.1 (show (0 : Int) < 8 by decide)
          have AZ : Hid (∀ b : ActT, (if 5 < j.1 % 8 then (⟨3, (false, 0, 0), 0, false, nearZ j.2.1⟩ : ActT) else if j.1 % 8 = 5 then ⟨4, pz, 0, false, 0⟩ else if 2 < j.1 % 8 then ⟨2, pz, 0, false, 0⟩ else ⟨1, pz, 1 + j.2.2 % 5, false, 0⟩) = b → actsZ l (k + 1) = actsZ l k ++ [b]) := Lib.hid fun b hb => by rw [EA.out, ← hb, actZ, PZ.out]
          have hby : ((actsZ l k).length + 1) * 72 ≤ 140737488355328 := by rw [hll]; omega
          have h63 : (actsZ l k).length + 1 ≤ maxLen := by rw [hll]; unfold maxLen; omega
          have HLL := Lib.hid hll
          clear hll P8
          generalize j.1 % 8 = kk at *
          have hB : w.heap.size ≤ W3.heap.size := by have := b3.size; omega
          have hne5 : u5.ownBlock ≠ some W3.heap.size := fun e => by have := own5 _ e; have := b3.size; omega
          by_cases h5 : 5 < kk
          · have EZ := Lib.hid (AZ.out _ (if_pos h5))
            clear AZ EA PZ
            go_wp2_with fail
            refine (NC.out _).mono ?_
            rintro e w5 ⟨rfl, hb5⟩
            have AV5 := AV.keep hb5
            have OW5 : Hid (OwnA w5 w.heap.size u5 (actsZ l k)) := Lib.hid (ownsKeep OW4.out hb5)
            have hn5 := thenBelow hn4 hb5
            clear AV OW4 hn4 hb5 PP k0 k1 k2 kl NC
            obtain ⟨bb, hbb⟩ : ∃ bb : ActT, bb = ⟨3, (false, 0, 0), 0, false, nearZ j.2.1⟩ := ⟨_, rfl⟩
            obtain ⟨X, hX, AVX, OX, hnX⟩ := AV5.stored OW5.out hne5 hn5 hB (⟨3, (false, 0, 0), 0, false, nearZ j.2.1⟩)
            have AS0 := AV5
            simp only [aH0, aL0] at hX
            obtain ⟨zr, zf, zl⟩ := AS0
            obtain ⟨y0, y1, y2, y3, y4, y5, y6, y7, y8⟩ := actCells zr
            simp only [Nat.zero_add] at y0 y1 y2 y3 y4 y5 y6 y7 y8
            have f0 := zf 0
            have f1 := zf 1
            have f2 := zf 2
            have f3 := zf 3
            have f4 := zf 4
            have f5 := zf 5
            have f6 := zf 6
            have f7 := zf 7
            have f8 := zf 8
            have HX := Lib.hid hX
            have HBB := Lib.hid hbb
            have OWX := Lib.hid OX
            clear hX hbb OX
            go_upto_region 15 with fail
            rw [← HX.out]
            clear y0 y1 y2 y3 y4 y5 y6 y7 y8 f0 f1 f2 f3 f4 f5 f6 f7 f8 zr zf zl
            rw [← HBB.out] at AVX
            rw [← HBB.out] at EZ
            clear HX HBB
            obtain ⟨yr, yf, yl⟩ := AVX
            obtain ⟨y0, y1, y2, y3, y4, y5, y6, y7, y8⟩ := actCells yr
            simp only [Nat.zero_add] at y0 y1 y2 y3 y4 y5 y6 y7 y8
            go_wp2_with (at_builtin; refine wpList_append_own _ rfl _ _ 26 rfl w.heap.size 34 i0 _ 9 72 Try.underlying26 hii hz0 hz1 hz2 rfl (by decide) _ _ _ rfl (OWX.out.alloc _) ⟨X.heap.size, 0, none⟩ 1 1 (acs bb) rfl rfl (fun j u hj => World.news_of_block (_root_.Go.heap_alloc_new X _) j u (by simpa [acs] using hj)) (acs_one bb) h63 hby (by have := hnX.size; simp; omega) ?_; intro u2 w9 ho9 hg9 _)
            have hn9 := (hnX.alloc hnX.size _).grown hg9 (by have := hnX.size; simp; omega) (fun q hq => (OWX.out.lt q hq).1)
            have O9 := Lib.hid (show OwnA w9 w.heap.size u2 (actsZ l (k + 1)) by rw [EZ.out]; unfold OwnA; rw [List.length_append, rowOf_app]; exact ho9)
            go_wp2
            go_roundw
            case rel => exact ⟨k + 1, by omega, by omega, by go_num, O9, hn9⟩
            case measure => simp [intOf]; omega
          have h5' : ¬ 5 < kk := h5
          clear NC
          obtain ⟨p0, p1, p2, p3, pl⟩ := PP
          by_cases h6 : kk = 5
          · have EZ := Lib.hid (AZ.out _ ((if_neg h5).trans (if_pos h6)))
            have h6b : (kk == 5) = true := by simpa using h6
            clear AZ EA PZ h6
            obtain ⟨bb, hbb⟩ : ∃ bb : ActT, bb = ⟨4, pz, 0, false, 0⟩ := ⟨_, rfl⟩
            obtain ⟨X, hX, AVX, OX, hnX⟩ := AV.stored OW4.out hne5 hn4 hB (⟨4, pz, 0, false, 0⟩)
            have AS0 := AV
            simp only [aH0, aL0] at hX
            obtain ⟨zr, zf, zl⟩ := AS0
            obtain ⟨y0, y1, y2, y3, y4, y5, y6, y7, y8⟩ := actCells zr
            simp only [Nat.zero_add] at y0 y1 y2 y3 y4 y5 y6 y7 y8
            have f0 := zf 0
            have f1 := zf 1
            have f2 := zf 2
            have f3 := zf 3
            have f4 := zf 4
            have f5 := zf 5
            have f6 := zf 6
            have f7 := zf 7
            have f8 := zf 8
            have HX := Lib.hid hX
            have HBB := Lib.hid hbb
            have OWX := Lib.hid OX
            clear hX hbb OX
            go_upto_region 15 with fail
            rw [← HX.out]
            clear y0 y1 y2 y3 y4 y5 y6 y7 y8 f0 f1 f2 f3 f4 f5 f6 f7 f8 zr zf zl
            rw [← HBB.out] at AVX
            rw [← HBB.out] at EZ
            clear HX HBB
            obtain ⟨yr, yf, yl⟩ := AVX
            obtain ⟨y0, y1, y2, y3, y4, y5, y6, y7, y8⟩ := actCells yr
            simp only [Nat.zero_add] at y0 y1 y2 y3 y4 y5 y6 y7 y8
            go_wp2_with (at_builtin; refine wpList_append_own _ rfl _ _ 26 rfl w.heap.size 34 i0 _ 9 72 Try.underlying26 hii hz0 hz1 hz2 rfl (by decide) _ _ _ rfl (OWX.out.alloc _) ⟨X.heap.size, 0, none⟩ 1 1 (acs bb) rfl rfl (fun j u hj => World.news_of_block (_root_.Go.heap_alloc_new X _) j u (by simpa [acs] using hj)) (acs_one bb) h63 hby (by have := hnX.size; simp; omega) ?_; intro u2 w9 ho9 hg9 _)
            have hn9 := (hnX.alloc hnX.size _).grown hg9 (by have := hnX.size; simp; omega) (fun q hq => (OWX.out.lt q hq).1)
            have O9 := Lib.hid (show OwnA w9 w.heap.size u2 (actsZ l (k + 1)) by rw [EZ.out]; unfold OwnA; rw [List.length_append, rowOf_app]; exact ho9)
            go_wp2
            go_roundw
            case rel => exact ⟨k + 1, by omega, by omega, by go_num, O9, hn9⟩
            case measure => simp [intOf]; omega
          have h6b : (kk == 5) = false := by simpa using h6
          by_cases h7 : 2 < kk
          · have EZ := Lib.hid (AZ.out _ ((if_neg h5).trans ((if_neg h6).trans (if_pos h7))))
            clear AZ EA PZ h6
            obtain ⟨bb, hbb⟩ : ∃ bb : ActT, bb = ⟨2, pz, 0, false, 0⟩ := ⟨_, rfl⟩
            obtain ⟨X, hX, AVX, OX, hnX⟩ := AV.stored OW4.out hne5 hn4 hB (⟨2, pz, 0, false, 0⟩)
            have AS0 := AV
            simp only [aH0, aL0] at hX
            obtain ⟨zr, zf, zl⟩ := AS0
            obtain ⟨y0, y1, y2, y3, y4, y5, y6, y7, y8⟩ := actCells zr
            simp only [Nat.zero_add] at y0 y1 y2 y3 y4 y5 y6 y7 y8
            have f0 := zf 0
            have f1 := zf 1
            have f2 := zf 2
            have f3 := zf 3
            have f4 := zf 4
            have f5 := zf 5
            have f6 := zf 6
            have f7 := zf 7
            have f8 := zf 8
            have HX := Lib.hid hX
            have HBB := Lib.hid hbb
            have OWX := Lib.hid OX
            clear hX hbb OX
            go_upto_region 15 with fail
            rw [← HX.out]
            clear y0 y1 y2 y3 y4 y5 y6 y7 y8 f0 f1 f2 f3 f4 f5 f6 f7 f8 zr zf zl
            rw [← HBB.out] at AVX
            rw [← HBB.out] at EZ
            clear HX HBB
            obtain ⟨yr, yf, yl⟩ := AVX
            obtain ⟨y0, y1, y2, y3, y4, y5, y6, y7, y8⟩ := actCells yr
            simp only [Nat.zero_add] at y0 y1 y2 y3 y4 y5 y6 y7 y8
            go_wp2_with (at_builtin; refine wpList_append_own _ rfl _ _ 26 rfl w.heap.size 34 i0 _ 9 72 Try.underlying26 hii hz0 hz1 hz2 rfl (by decide) _ _ _ rfl (OWX.out.alloc _) ⟨X.heap.size, 0, none⟩ 1 1 (acs bb) rfl rfl (fun j u hj => World.news_of_block (_root_.Go.heap_alloc_new X _) j u (by simpa [acs] using hj)) (acs_one bb) h63 hby (by have := hnX.size; simp; omega) ?_; intro u2 w9 ho9 hg9 _)
            have hn9 := (hnX.alloc hnX.size _).grown hg9 (by have := hnX.size; simp; omega) (fun q hq => (OWX.out.lt q hq).1)
            have O9 := Lib.hid (show OwnA w9 w.heap.size u2 (actsZ l (k + 1)) by rw [EZ.out]; unfold OwnA; rw [List.length_append, rowOf_app]; exact ho9)
            go_wp2
            go_roundw
            case rel => exact ⟨k + 1, by omega, by omega, by go_num, O9, hn9⟩
            case measure => simp [intOf]; omega
          have EZ := Lib.hid (AZ.out _ ((if_neg h5).trans ((if_neg h6).trans (if_neg h7))))
          clear AZ EA PZ h6
          obtain ⟨bb, hbb⟩ : ∃ bb : ActT, bb = ⟨1, pz, 1 + j.2.2 % 5, false, 0⟩ := ⟨_, rfl⟩
          have AVX := AV
          rw [HA0.out, ← hbb] at AVX
          rw [← hbb] at EZ
          clear hbb
          have OWX := OW4
          have hnX := hn4
          go_upto_region 15 with fail
          obtain ⟨X, hX⟩ : ∃ X, wc = X := ⟨_, rfl⟩
          subst hX
          obtain ⟨yr, yf, yl⟩ := AVX
          obtain ⟨y0, y1, y2, y3, y4, y5, y6, y7, y8⟩ := actCells yr
          simp only [Nat.zero_add] at y0 y1 y2 y3 y4 y5 y6 y7 y8
          go_wp2_with (at_builtin; refine wpList_append_own _ rfl _ _ 26 rfl w.heap.size 34 i0 _ 9 72 Try.underlying26 hii hz0 hz1 hz2 rfl (by decide) _ _ _ rfl (OWX.out.alloc _) ⟨wc.heap.size, 0, none⟩ 1 1 (acs bb) rfl rfl (fun j u hj => World.news_of_block (_root_.Go.heap_alloc_new wc _) j u (by simpa [acs] using hj)) (acs_one bb) h63 hby (by have := hnX.size; simp; omega) ?_; intro u2 w9 ho9 hg9 _)
          have hn9 := (hnX.alloc hnX.size _).grown hg9 (by have := hnX.size; simp; omega) (fun q hq => (OWX.out.lt q hq).1)
          have O9 := Lib.hid (show OwnA w9 w.heap.size u2 (actsZ l (k + 1)) by rw [EZ.out]; unfold OwnA; rw [List.length_append, rowOf_app]; exact ho9)
          go_wp2
          go_roundw
          case rel => exact ⟨k + 1, by omega, by omega, by go_num, O9, hn9⟩
          case measure => simp [intOf]; omega
      · obtain rfl : k = n := by omega
        go_wp2
        go_returns
        exact ⟨_, rfl, OW.out, hnx⟩
    · have hle : ¬ (k : Int) < (l.length : Int) := by omega
      have e1 : actsZ l k = actsZ l n := by unfold actsZ; rw [List.take_of_length_le (by omega), List.take_of_length_le (by omega)]
      rw [e1] at OW
      go_wp2
      go_returns
      exact ⟨_, rfl, OW.out, hnx⟩
end Go.Proofs.Ytmjlmfbceccjdaa
