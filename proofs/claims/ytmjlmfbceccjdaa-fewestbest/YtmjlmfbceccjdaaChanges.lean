/-
  fewest.changes: the addresses where a prefix begins or has just ended.
-/
import Derived.Test.YtmjlmfbceccjdaaG20
import Derived.Test.YtmjlmfbceccjdaaG13
import Derived.Test.YtmjlmfbceccjdaaG5
import Derived.Test.YtmjlmfbceccjdaaPreK2
import Derived.Test.YtmjlmfbceccjdaaG19
import Derived.Deep.CutRange
import Derived.Deep.DeepCutAuto
import Derived.Deep.CutBlock
namespace Go.Proofs.Ytmjlmfbceccjdaa
open Go.RowKit
set_option linter.unusedVariables false
set_option linter.unusedSimpArgs false
def dcs (c : Bool × Nat) : List Value := [.bool c.1, .int .u64 (aH c.2), .int .u64 (aL c.2)]
theorem dcs_len (c : Bool × Nat) : (dcs c).length = 3 := rfl
theorem dcs_one (c : Bool × Nat) : ∀ u ∈ dcs c, u.oneCell' = true := by
  intro u hu
  simp only [dcs, List.mem_cons, List.not_mem_nil, or_false] at hu
  rcases hu with rfl | rfl | rfl <;> rfl
theorem dCells {w : World} {g o : Nat} {c : Bool × Nat} (h : RecAt w g o (dcs c)) : w.cell? ⟨g, o, none⟩ = some (.bool c.1) ∧ w.cell? ⟨g, o + 1, none⟩ = some (.int .u64 (aH c.2)) ∧ w.cell? ⟨g, o + 2, none⟩ = some (.int .u64 (aL c.2)) :=
  ⟨h 0 _ rfl, h 1 _ rfl, h 2 _ rfl⟩
abbrev OwnD (w : World) (base : Nat) (v : Value) (l : List (Bool × Nat)) : Prop := w.ownsRow base 30 3 v l.length (rowOf dcs l)
abbrev RowD (w : World) (v : Value) (l : List (Bool × Nat)) : Prop := RowK dcs 3 w v l
theorem OwnD.row {w : World} {base : Nat} {v : Value} {l : List (Bool × Nat)} (h : OwnD w base v l) : RowD w v l := RowK.owned dcs_len h
theorem info_addr : (Try.prog.info? 30).map (fun i => (i.zero, i.size, i.bytes)) = some (some (.agg #[.bool false, .int .u64 0, .int .u64 0]), 3, 24) := by kernel_rfl
theorem chg_take {l : List RT} {k : Nat} (hk : k < l.length) : chgL (l.take (k + 1)) = chgL (l.take k) ++ chgR l[k] := by
  rw [chgL, List.take_succ_eq_append_getElem hk, List.flatMap_append]; simp [chgL]
theorem chgR_len (r : RT) : (chgR r).length ≤ 2 := by unfold chgR; split <;> simp
theorem chgL_len (l : List RT) : (chgL l).length ≤ 2 * l.length := by
  induction l with
  | nil => simp [chgL]
  | cons r t ih => have := chgR_len r; simp only [chgL, List.flatMap_cons, List.length_append, List.length_cons] at ih ⊢; omega
theorem AddrAt.grown {w w' : World} {b : Nat} {s : Bool} {h l : Int} {row : Option Nat} (a : AddrAt w b s h l) (hg : w.grownBy w' row) (hn : row ≠ some b) : AddrAt w' b s h l := by
  obtain ⟨a0, a1, a2, al⟩ := a
  have e := hg.block b al (fun e => hn e.symm)
  exact ⟨(World.cell?_of_block (a := ⟨b, 0, none⟩) e).trans a0, (World.cell?_of_block (a := ⟨b, 1, none⟩) e).trans a1, (World.cell?_of_block (a := ⟨b, 2, none⟩) e).trans a2, Nat.lt_of_lt_of_le al hg.size⟩
set_option maxHeartbeats 8000000 in
set_option maxRecDepth 100000 in
theorem changes_calls (l : List RT) (v : Value) (hv : ValR l) (hlen : l.length ≤ 1000) (w : World) (row : RowR w v l) :
    Calls Try.prog 43 #[v] w fun e w' => ∃ u, e = .returned u ∧ OwnD w' w.heap.size u (chgL l) ∧ Below w.heap.size w w' := by
  obtain ⟨p, c, rfl, hcap, at_⟩ := row.at
  obtain ⟨n, hn⟩ : ∃ n, l.length = n := ⟨_, rfl⟩
  have HN := Lib.hid hn
  have AT := Lib.hid at_
  have HV := Lib.hid hv
  rw [hn] at hlen ⊢
  obtain ⟨i0, hii, hz0, hz1, hz2⟩ := info_parts info_addr
  have IN := Lib.hid (And.intro hii (And.intro hz0 (And.intro hz1 hz2)))
  clear row at_ hn hv hii hz0 hz1 hz2
  obtain ⟨B, hB⟩ : ∃ B, w.heap.size = B := ⟨_, rfl⟩
  have HB := Lib.hid hB
  rw [hB]
  go_enter Try.func43, Try.ntmps43
  go_wp2
  go_loopw [3, 13] (fun u i wr => ∃ k : Nat, k ≤ n ∧ i = .int .i64 k ∧ Hid (OwnD wr B u (chgL (l.take k))) ∧ Below B w wr ∧ B ≤ wr.heap.size) (fun _ i _ => n - (intOf i).toNat)
  case atStart => exact ⟨0, by omega, rfl, Lib.hid (World.ownsRow_nil _ _ _ _), Below.refl _ _, by omega⟩
  case round =>
    clear hB
    obtain ⟨k, hk, rfl, OD, hnk, hBs⟩ := hrel
    by_cases hlt : k < n
    · have hkl : k < l.length := by rw [HN.out]; exact hlt
      obtain ⟨g, o, rfl, hg, hrec⟩ := AT.out k hkl
      rw [HB.out] at hg
      obtain ⟨x0, x1, x2, x3, x4⟩ := routeCells (hrec.keep hnk hg)
      obtain ⟨hA, eA⟩ := al_of (HV.out _ (List.getElem_mem hkl))
      have HT := Lib.hid (chg_take hkl)
      have hlk : (l.take k).length ≤ 1000 := by rw [List.length_take]; omega
      generalize l[k] = r at x0 x1 x2 x3 x4 hA eA HT
      obtain ⟨cl, hcl⟩ : ∃ cl, chgL (l.take k) = cl := ⟨_, rfl⟩
      have hcll : cl.length ≤ 2000 := by rw [← hcl]; have := chgL_len (l.take k); omega
      rw [hcl] at OD HT
      obtain ⟨s, hs⟩ : ∃ q, r.1.1 = q := ⟨_, rfl⟩
      obtain ⟨x, hx⟩ : ∃ q, r.1.2.1 = q := ⟨_, rfl⟩
      obtain ⟨kr, hkr⟩ : ∃ q, kR r = q := ⟨_, rfl⟩
      have HT2 : Hid (chgL (l.take (k + 1)) = cl ++ ((s, x) :: if x + 2 ^ kr < 2 ^ wideN s then [(s, x + 2 ^ kr)] else [])) := Lib.hid (by rw [HT.out, chgR, hs, hx, hkr])
      rw [hs, hx, hkr] at hA
      rw [eA, hs, hkr] at x3
      rw [hs] at x0
      rw [hx] at x1 x2
      have SPC := Lib.hid (fun (W : World) => span_al hA W)
      have hlt' : (k : Int) < (n : Int) := by omega
      have HAL := Lib.hid hA
      clear hcl hkr hs hx hA eA hrec HT
      go_wp2_with fail
      refine (SPC.out _).mono ?_
      rintro e w1 ⟨rfl, hb1⟩
      have hs1 : wr.heap.size ≤ w1.heap.size := Nat.le_trans (by simp) hb1.size
      have hn1 : Below B w w1 := (hnk.alloc hBs _).trans (hb1.mono (by simp; omega))
      have OD1 : Hid (OwnD w1 B u3 cl) := Lib.hid (ownsKeep (OD.out.alloc _) hb1)
      clear hb1 x0 x1 x2 x3 x4 SPC OD hnk
      obtain ⟨y, hy⟩ : ∃ y, x + (2 ^ kr - 1) = y := ⟨_, rfl⟩
      rw [hy]
      have hpw := pow_one kr
      have HY := Lib.hid (show y + 1 = x + 2 ^ kr by omega)
      have hyv : y < 2 ^ wideN s := by have := HAL.out.2.1; omega
      clear hy hpw
      go_upto_region 6 with fail
      have A6 := (AddrAt.new w1 s (aH x) (aL x) 30).alloc (.cells #[.bool s, .int .u64 (aH y), .int .u64 (aL y)] 30)
      have A7 := AddrAt.new (w1.alloc (.cells #[.bool s, .int .u64 (aH x), .int .u64 (aL x)] 30)) s (aH y) (aL y) 30
      have hnZ := (hn1.alloc (by omega) (.cells #[.bool s, .int .u64 (aH x), .int .u64 (aL x)] 30)).alloc (by simp; omega) (.cells #[.bool s, .int .u64 (aH y), .int .u64 (aL y)] 30)
      have ODZ : Hid (OwnD ((w1.alloc (.cells #[.bool s, .int .u64 (aH x), .int .u64 (aL x)] 30)).alloc (.cells #[.bool s, .int .u64 (aH y), .int .u64 (aL y)] 30)) B u3 cl) := Lib.hid ((OD1.out.alloc _).alloc _)
      have hsZ : B ≤ ((w1.alloc (.cells #[.bool s, .int .u64 (aH x), .int .u64 (aL x)] 30)).alloc (.cells #[.bool s, .int .u64 (aH y), .int .u64 (aL y)] 30)).heap.size := by simp; omega
      have HQ := Lib.hid (show ∀ q, u3.ownBlock = some q → q < w1.heap.size from fun q hq => (OD1.out.lt q hq).2)
      simp only [World.size_alloc] at A7
      clear OD1 hn1
      obtain ⟨b7, hb7⟩ : ∃ b, w1.heap.size + 1 = b := ⟨_, rfl⟩
      obtain ⟨b6, hb6⟩ : ∃ b, w1.heap.size = b := ⟨_, rfl⟩
      have HNE := Lib.hid (show u3.ownBlock ≠ some b7 from fun e => by have := HQ.out _ e; omega)
      rw [hb7] at A7 ⊢
      rw [hb6] at A6 ⊢
      generalize (w1.alloc (.cells #[.bool s, .int .u64 (aH x), .int .u64 (aL x)] 30)).alloc (.cells #[.bool s, .int .u64 (aH y), .int .u64 (aL y)] 30) = Z at A6 A7 hnZ ODZ hsZ ⊢
      clear hb6 hb7 hs1 HQ
      go_cut [3] from 24 to 27 (fun s3 wx => Hid (OwnD wx B s3 (cl ++ [(s, x)])) ∧ AddrAt wx b7 s (aH y) (aL y) ∧ Below B w wx ∧ B ≤ wx.heap.size)
      case first =>
        obtain ⟨f0, f1, f2, fl⟩ := A6
        obtain ⟨hii, hz0, hz1, hz2⟩ := IN.out
        have ODY := Lib.hid (ODZ.out.alloc (.cells #[.bool s, .int .u64 (aH x), .int .u64 (aL x)] 30))
        have hCN := Lib.hid (cell_new Z (dcs (s, x)) 30)
        go_wp2_with (at_builtin; refine wpList_append_one rfl _ _ 84 rfl B 30 i0 _ 24 Try.underlying84 hii hz0 hz1 hz2 rfl (by decide) dcs_len dcs_one cl ⟨_, rfl, ODY.out⟩ (s, x) Z.heap.size 1 rfl hCN.out (by omega) (by decide) (by simp; omega) ?_; intro v2 w2 ho2 hg2 hb2)
        go_meet
        have bA := (Below.refl Z.heap.size Z).alloc (Nat.le_refl _) (.cells #[.bool s, .int .u64 (aH x), .int .u64 (aL x)] 30)
        exact ⟨Lib.hid ho2, (A7.alloc _).grown hg2 HNE.out, (hnZ.alloc hsZ _).trans hb2, Nat.le_trans hsZ (Nat.le_trans bA.size hb2.size)⟩
      case rest =>
        clear A6 A7 hnZ ODZ hsZ HNE
        obtain ⟨OD2, A7, hn2, hs2⟩ := hcut
        obtain ⟨g0, g1, g2, gl⟩ := A7
        obtain ⟨z, hz⟩ : ∃ z, x + 2 ^ kr = z := ⟨_, rfl⟩
        obtain ⟨c2, hc2⟩ : ∃ c2, cl ++ [(s, x)] = c2 := ⟨_, rfl⟩
        have hc2l : c2.length ≤ 2001 := by rw [← hc2]; simp; omega
        rw [hc2] at OD2
        have HT3 : Hid (chgL (l.take (k + 1)) = c2 ++ if z < 2 ^ wideN s then [(s, z)] else []) := Lib.hid (by rw [HT2.out, hz, ← hc2, List.append_assoc]; rfl)
        have HYZ := Lib.hid (show y + 1 = z by rw [HY.out, hz])
        clear hc2 hz HT2 HY
        by_cases hend : z < 2 ^ wideN s
        · have HT4 : Hid (chgL (l.take (k + 1)) = c2 ++ [(s, z)]) := Lib.hid (by rw [HT3.out, if_pos hend])
          have NX := Lib.hid (fun (W : World) => next_num s y z 1 hyv hend (by omega) (by omega) (by have := HYZ.out; omega) W)
          clear HT3 HYZ hend hyv
          go_wp2_with fail
          refine (NX.out _).mono ?_
          rintro e w3 ⟨rfl, hb3⟩
          have hs3 : B ≤ w3.heap.size := Nat.le_trans hs2 hb3.size
          have hn3 : Below B w w3 := hn2.trans (hb3.mono hs2)
          have OD3 := Lib.hid (((ownsKeep OD2.out hb3).alloc (.cells #[.bool s, .int .u64 (aH z), .int .u64 (aL z)] 30)).alloc (.cells #[.bool s, .int .u64 (aH z), .int .u64 (aL z)] 30))
          have hCN : Hid (∀ j u, (dcs (s, z))[j]? = some u → ((w3.alloc (.cells #[.bool s, .int .u64 (aH z), .int .u64 (aL z)] 30)).alloc (.cells #[.bool s, .int .u64 (aH z), .int .u64 (aL z)] 30)).cell? ⟨w3.heap.size + 1, j, none⟩ = some u) := Lib.hid (by
            have := cell_new (w3.alloc (.cells #[.bool s, .int .u64 (aH z), .int .u64 (aL z)] 30)) (dcs (s, z)) 30
            rw [World.size_alloc] at this
            exact this)
          have hnA := (hn3.alloc hs3 (.cells #[.bool s, .int .u64 (aH z), .int .u64 (aL z)] 30)).alloc (by simp; omega) (.cells #[.bool s, .int .u64 (aH z), .int .u64 (aL z)] 30)
          clear g0 g1 g2 gl OD2 hn2 hs2 hb3 NX hn3
          obtain ⟨hii, hz0, hz1, hz2⟩ := IN.out
          go_wp2_with (at_builtin; refine wpList_append_one rfl _ _ 84 rfl B 30 i0 _ 24 Try.underlying84 hii hz0 hz1 hz2 rfl (by decide) dcs_len dcs_one c2 ⟨_, rfl, OD3.out⟩ (s, z) (w3.heap.size + 1) 1 rfl hCN.out (by omega) (by decide) (by simp; omega) ?_; intro v2 w2 ho2 hg2 hb2)
          have hn4 := hnA.trans hb2
          have hs4 : B ≤ w2.heap.size := Nat.le_trans (by simp; omega) hb2.size
          have OD4 := Lib.hid ho2
          clear ho2 hg2 hb2 hnA OD3 hCN
          go_roundw
          case rel => exact ⟨k + 1, by omega, by go_num, Lib.hid (by rw [HT4.out]; exact OD4.out), hn4, hs4⟩
          case measure => simp [intOf]; omega
        · have HT4 : Hid (chgL (l.take (k + 1)) = c2) := Lib.hid (by rw [HT3.out, if_neg hend, List.append_nil])
          have NX := Lib.hid (fun (W : World) => next_num_none s y 1 hyv (.inr (by have := HYZ.out; omega)) W)
          clear HT3 HYZ hend hyv
          go_wp2_with fail
          refine (NX.out _).mono ?_
          rintro e w3 ⟨rfl, hb3⟩
          have hs3 : B ≤ w3.heap.size := Nat.le_trans hs2 hb3.size
          have hn3 : Below B w w3 := hn2.trans (hb3.mono hs2)
          have OD3 := Lib.hid ((ownsKeep OD2.out hb3).alloc (.cells #[.bool false, .int .u64 0, .int .u64 0] 30))
          have hnA := hn3.alloc hs3 (.cells #[.bool false, .int .u64 0, .int .u64 0] 30)
          have hsA : B ≤ (w3.alloc (.cells #[.bool false, .int .u64 0, .int .u64 0] 30)).heap.size := by simp; omega
          clear g0 g1 g2 gl OD2 hn2 hs2 hb3 NX hn3
          go_wp2_with fail
          go_roundw
          case rel => exact ⟨k + 1, by omega, by go_num, Lib.hid (by rw [HT4.out]; exact OD3.out), hnA, hsA⟩
          case measure => simp [intOf]; omega
    · obtain rfl : k = n := by omega
      have e1 : l.take k = l := by rw [← HN.out]; exact List.take_length
      rw [e1] at OD
      go_wp2
      go_ret
      exact ⟨_, by simp, OD.out, hnk⟩
end Go.Proofs.Ytmjlmfbceccjdaa
