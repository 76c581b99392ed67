/-
  table.Look; the document's preIn of a route, goes and TableLook.
-/
import Derived.Test.YtepfcphhgmmlhaaTabN
import Derived.Test.YtepfcphhgmmlhaaRefIn
namespace Go.Proofs.Ytepfcphhgmmlhaa
open Go.RowKit
set_option linter.unusedVariables false
set_option linter.unusedSimpArgs false

theorem refInM_calls (r : RT) (s : Bool) (y : Nat) (hc : chkE r.1.1 r.1.2.1 r.1.2.2 = 0) (hy : y < 2 ^ wideN s) (w : World) :
    Calls Try.prog 53 #[.agg #[.bool r.1.1, .int .u64 (aH r.1.2.1), .int .u64 (aL r.1.2.1), .int .i64 r.1.2.2], .agg #[.bool s, .int .u64 (aH y), .int .u64 (aL y)]] w fun e w' => e = .returned (.bool (mB s y r)) ∧ Below w.heap.size w w' := by
  obtain ⟨⟨t, x, n⟩, h⟩ := r
  obtain ⟨hx, k, rfl, hk, hl⟩ := chk0 hc
  simp only at hx hk hl hc ⊢
  by_cases e : t = s
  · subst e
    exact refIn_calls t x y k _ hx hy hk (by rw [hl]; simp [mB]) w
  · rw [show mB s y ((t, x, (k : Int)), h) = false by simp [mB, e]]
    have hne : (t == s) = false := by simpa using e
    have hne2 : (t != s) = true := by simp [bne, hne]
    go_enter Try.func53, Try.ntmps53
    go_wp2
    go_ret
    exact ⟨rfl, by go_grown⟩
theorem AnsV.len {w : World} {b : Nat} {c h l : Int} (a : AnsV w b c h l) (u : Int) : AnsV (w.setCell ⟨b, 2, none⟩ (.int .i64 u)) b c h u := by
  obtain ⟨a0, a1, a2, af, az⟩ := a
  exact ⟨by simp [go_sem, a0, a1, a2], by simp [go_sem, a0, a1, a2], by simp [go_sem, a0, a1, a2], fun o => by simp only [World.frozen?_setCell]; exact af o, by simpa using az⟩
theorem bestM_take {s : Bool} {y : Nat} {l : List RT} {k : Nat} (hk : k < l.length) : bestM s y (l.take (k + 1)) = if mB s y l[k] && decide (l[k].1.2.2 > (bestM s y (l.take k)).2) then (l[k].2, l[k].1.2.2) else bestM s y (l.take k) := by
  rw [← bestM_snoc, List.take_add_one, List.getElem?_eq_getElem hk]; rfl
set_option maxHeartbeats 4000000 in
set_option maxRecDepth 100000 in
theorem goes_calls (l : List RT) (v : Value) (s : Bool) (y : Nat) (hlen : l.length ≤ 1000) (hv : ValR l) (hy : y < 2 ^ wideN s) (w : World) (row : RowR w v l) :
    Calls Try.prog 31 #[v, .agg #[.bool s, .int .u64 (aH y), .int .u64 (aL y)]] w fun e w' => e = .returned (.agg #[.int .i64 0, .int .i64 (bestA s y l).1, .int .i64 (bestA s y l).2]) ∧ Below w.heap.size w w' := by
  obtain ⟨p, c, rfl, hcap, at_⟩ := row.at
  obtain ⟨n, hn⟩ : ∃ n, l.length = n := ⟨_, rfl⟩
  have HN := Lib.hid hn
  have AT := Lib.hid at_
  have HV := Lib.hid hv
  rw [hn] at hlen ⊢
  have B0 := ((AddrAt.new w s (aH y) (aL y) 49).alloc (.cells #[.int .i64 0, .int .i64 0, .int .i64 0] 63)).alloc (.cells #[.int .i64 0, .int .i64 0, .int .i64 (-1)] 63)
  have B1 := (AnsV.new (w.alloc (.cells #[.bool s, .int .u64 (aH y), .int .u64 (aL y)] 49)) 0 0 0 63).alloc (.cells #[.int .i64 0, .int .i64 0, .int .i64 (-1)] 63)
  have B2 := AnsV.new ((w.alloc (.cells #[.bool s, .int .u64 (aH y), .int .u64 (aL y)] 49)).alloc (.cells #[.int .i64 0, .int .i64 0, .int .i64 0] 63)) 0 0 (-1) 63
  have bY : Below w.heap.size w (((w.alloc (.cells #[.bool s, .int .u64 (aH y), .int .u64 (aL y)] 49)).alloc (.cells #[.int .i64 0, .int .i64 0, .int .i64 0] 63)).alloc (.cells #[.int .i64 0, .int .i64 0, .int .i64 (-1)] 63)) := by go_grown
  simp only [World.size_alloc] at B1 B2
  have yz : (((w.alloc (.cells #[.bool s, .int .u64 (aH y), .int .u64 (aL y)] 49)).alloc (.cells #[.int .i64 0, .int .i64 0, .int .i64 0] 63)).alloc (.cells #[.int .i64 0, .int .i64 0, .int .i64 (-1)] 63)).heap.size = w.heap.size + 3 := by simp
  clear row hv at_ hn
  go_enter Try.func31, Try.ntmps31
  go_wp2
  revert B0 B1 B2 bY yz
  generalize ((w.alloc (.cells #[.bool s, .int .u64 (aH y), .int .u64 (aL y)] 49)).alloc (.cells #[.int .i64 0, .int .i64 0, .int .i64 0] 63)).alloc (.cells #[.int .i64 0, .int .i64 0, .int .i64 (-1)] 63) = Y
  intro B0 bY B1 B2 yz
  go_loopw [11] (fun i wr => ∃ (k : Nat) (h m : Int), k ≤ n ∧ i = .int .i64 k ∧ Below w.heap.size w wr ∧ AddrAt wr w.heap.size s (aH y) (aL y) ∧ AnsV wr (w.heap.size + 1) 0 0 0 ∧ AnsV wr (w.heap.size + 1 + 1) 0 h m ∧ Hid (bestM s y (l.take k) = (h, m)) ∧ w.heap.size + 3 ≤ wr.heap.size) (fun i _ => n - (intOf i).toNat)
  case atStart => exact ⟨0, 0, -1, by omega, rfl, bY, B0, B1, B2, Lib.hid rfl, by omega⟩
  case round =>
    obtain ⟨k, h, m, hk, rfl, hnx, b0, b1, b2, IV, hsz⟩ := hrel
    by_cases hlt : k < n
    · have hkl : k < l.length := by rw [HN.out]; exact hlt
      obtain ⟨g, o, rfl, hgw, hrec⟩ := AT.out k hkl
      obtain ⟨x0, x1, x2, x3, x4⟩ := routeCells (hrec.keep hnx hgw)
      have hvk := HV.out _ (List.getElem_mem hkl)
      have T4 := Lib.hid (bestM_take (s := s) (y := y) hkl)
      have hklt : (k : Int) < (n : Int) := by omega
      generalize hr : l[k] = r at x0 x1 x2 x3 x4 hvk T4
      clear hr
      have C := Lib.hid (fun W => refInM_calls r s y hvk hy W)
      have hgr := Nat.lt_of_lt_of_le hgw hnx.size
      have b0' := b0
      obtain ⟨a0, a1, a2, al⟩ := b0'
      have hne : ¬ w.heap.size = wr.heap.size := by omega
      go_wp2_with fail
      refine (C.out _).mono ?_
      rintro e w1 ⟨rfl, hb1⟩
      have hA : Below wr.heap.size wr (wr.alloc (.cells #[.bool r.1.1, .int .u64 (aH r.1.2.1), .int .u64 (aL r.1.2.1), .int .i64 r.1.2.2, .int .i64 r.2] 53)) := (Below.refl wr.heap.size wr).alloc (Nat.le_refl _) _
      have ba := thenBelow hA hb1
      have RR := (recNew wr r 53).keep hb1 (show wr.heap.size < _ by simp)
      have hn1 := thenBelow hnx ba
      have c0 := b0.keep ba
      have c1 := b1.keep ba b1.2.2.2.2
      have c2 := b2.keep ba b2.2.2.2.2
      have hs1 := Nat.le_trans hsz ba.size
      have hrw1 : wr.heap.size < w1.heap.size := Nat.lt_of_lt_of_le (show wr.heap.size < _ by simp) hb1.size
      clear x0 x1 x2 x3 x4 a0 a1 a2 al b0 b1 b2 hb1 hA ba C
      obtain ⟨y0, y1, y2, y3, y4⟩ := routeCells RR
      simp only [Nat.zero_add] at y0 y1 y2 y3 y4
      have T5 := Lib.hid (show bestM s y (l.take (k + 1)) = if mB s y r && decide (r.1.2.2 > m) then (r.2, r.1.2.2) else (h, m) by rw [T4.out, IV.out])
      clear T4
      by_cases hm : mB s y r = true
      · rw [hm]
        by_cases hg : r.1.2.2 > m
        · have T6 := Lib.hid (show bestM s y (l.take (k + 1)) = (r.2, r.1.2.2) by rw [T5.out, hm]; simp [hg])
          have AS := Lib.hid (c2.store 0 r.2 r.1.2.2)
          have A1S := Lib.hid (((c1.far (p := ⟨w.heap.size + 1 + 1, 0, none⟩) (by simp) (.int .i64 0)).far (p := ⟨w.heap.size + 1 + 1, 1, none⟩) (by simp) (.int .i64 r.2)).far (p := ⟨w.heap.size + 1 + 1, 2, none⟩) (by simp) (.int .i64 r.1.2.2))
          have bS := Lib.hid (((hn1.setCell (p := ⟨w.heap.size + 1 + 1, 0, none⟩) (by simp; omega) (.int .i64 0)).setCell (p := ⟨w.heap.size + 1 + 1, 1, none⟩) (by simp; omega) (.int .i64 r.2)).setCell (p := ⟨w.heap.size + 1 + 1, 2, none⟩) (by simp; omega) (.int .i64 r.1.2.2))
          have bA : Below (w.heap.size + 1) w1 (((w1.setCell ⟨w.heap.size + 1 + 1, 0, none⟩ (.int .i64 0)).setCell ⟨w.heap.size + 1 + 1, 1, none⟩ (.int .i64 r.2)).setCell ⟨w.heap.size + 1 + 1, 2, none⟩ (.int .i64 r.1.2.2)) := ((((Below.refl (w.heap.size + 1) w1).setCell (p := ⟨w.heap.size + 1 + 1, 0, none⟩) (by simp) (.int .i64 0)).setCell (p := ⟨w.heap.size + 1 + 1, 1, none⟩) (by simp) (.int .i64 r.2)).setCell (p := ⟨w.heap.size + 1 + 1, 2, none⟩) (by simp) (.int .i64 r.1.2.2))
          have AA := Lib.hid (show AddrAt _ w.heap.size s (aH y) (aL y) from ⟨(bA.cell (p := ⟨w.heap.size, 0, none⟩) (Nat.lt_succ_self _)).trans c0.1, (bA.cell (p := ⟨w.heap.size, 1, none⟩) (Nat.lt_succ_self _)).trans c0.2.1, (bA.cell (p := ⟨w.heap.size, 2, none⟩) (Nat.lt_succ_self _)).trans c0.2.2.1, Nat.lt_of_lt_of_le c0.2.2.2 bA.size⟩)
          obtain ⟨d0, d1, d2, f0, fl⟩ := c2
          have f1 := f0 0
          have f2 := f0 1
          have f3 := f0 2
          clear T5 bA c0 c1
          go_wp2
          go_roundw
          case rel => exact ⟨k + 1, _, _, by omega, by go_num, bS.out, AA.out, A1S.out, AS.out, T6, by simp; omega⟩
          case measure => simp [intOf]; omega
        · have T6 := Lib.hid (show bestM s y (l.take (k + 1)) = (h, m) by rw [T5.out, hm]; simp [hg])
          have c2' := c2
          obtain ⟨d0, d1, d2, f0, fl⟩ := c2'
          clear T5
          go_wp2
          go_roundw
          case rel => exact ⟨k + 1, _, _, by omega, by go_num, hn1, c0, c1, c2, T6, hs1⟩
          case measure => simp [intOf]; omega
      · have hm' : mB s y r = false := by simpa using hm
        rw [hm']
        have T6 := Lib.hid (show bestM s y (l.take (k + 1)) = (h, m) by rw [T5.out, hm']; rfl)
        clear T5
        go_wp2
        go_roundw
        case rel => exact ⟨k + 1, _, _, by omega, by go_num, hn1, c0, c1, c2, T6, hs1⟩
        case measure => simp [intOf]; omega
    · obtain rfl : k = n := by omega
      have e1 : l.take k = l := by rw [← HN.out]; exact List.take_length
      have IV' := IV.out
      rw [e1] at IV'
      have bA : bestA s y l = (h, if m < 0 then 0 else m) := by simp only [bestA, IV']
      have BA := Lib.hid bA
      clear bA IV IV' e1
      have b2' := b2
      obtain ⟨d0, d1, d2, f0, fl⟩ := b2'
      have f1 := f0 0
      have f2 := f0 1
      have f3 := f0 2
      by_cases hm : m < 0
      · have A2 := b2.len 0
        have A1 := b1.far (p := ⟨w.heap.size + 1 + 1, 2, none⟩) (by simp) (.int .i64 0)
        have bS := hnx.setCell (p := ⟨w.heap.size + 1 + 1, 2, none⟩) (by simp; omega) (.int .i64 0)
        have AS := A1.store 0 h 0
        have bT := ((bS.setCell (p := ⟨w.heap.size + 1, 0, none⟩) (by simp) (.int .i64 0)).setCell (p := ⟨w.heap.size + 1, 1, none⟩) (by simp) (.int .i64 h)).setCell (p := ⟨w.heap.size + 1, 2, none⟩) (by simp) (.int .i64 0)
        obtain ⟨z0, z1, z2, _⟩ := AS
        obtain ⟨g0, g1, g2, _⟩ := A2
        obtain ⟨k0, k1, k2, h0, hl⟩ := A1
        have h1 := h0 0
        have h2 := h0 1
        have h3 := h0 2
        clear bS
        go_wp2
        refine bodyPost_ret (by simp [results, Try.results31, go_sem, z0, z1, z2]; try rfl) rfl ?_
        exact ⟨by rw [BA.out, if_pos hm], bT⟩
      · have AS := b1.store 0 h m
        have bT := ((hnx.setCell (p := ⟨w.heap.size + 1, 0, none⟩) (by simp) (.int .i64 0)).setCell (p := ⟨w.heap.size + 1, 1, none⟩) (by simp) (.int .i64 h)).setCell (p := ⟨w.heap.size + 1, 2, none⟩) (by simp) (.int .i64 m)
        obtain ⟨z0, z1, z2, _⟩ := AS
        obtain ⟨k0, k1, k2, h0, hl⟩ := b1
        have h1 := h0 0
        have h2 := h0 1
        have h3 := h0 2
        go_wp2
        refine bodyPost_ret (by simp [results, Try.results31, go_sem, z0, z1, z2]; try rfl) rfl ?_
        exact ⟨by rw [BA.out, if_neg (by omega)], bT⟩
end Go.Proofs.Ytepfcphhgmmlhaa
