/-
  table.cut.
-/
import Derived.Test.YtepfcphhgmmlhaaTabR
namespace Go.Proofs.Ytepfcphhgmmlhaa
open Go.RowKit
set_option linter.unusedVariables false
set_option linter.unusedSimpArgs false

/-- What a method of a table leaves: the table, and all blocks but its own. -/
def TabOut (w w' : World) (b base : Nat) (v : Value) (L' : List RT) : Prop := (∃ v', Tab w' b base v' L') ∧ But (fun k => k = b ∨ v.ownBlock = some k) w w'
def delR (L : List RT) (p : PK) : List RT := L.take (posR L p) ++ L.drop (posR L p + 1)
def cutA (L : List RT) (p : PK) : Int := if finE L p = 0 then hopR L p else 0
def cutL (L : List RT) (p : PK) : List RT := if finE L p = 0 then delR L p else L
set_option maxHeartbeats 2000000 in
theorem cut_calls (b base : Nat) (v : Value) (L : List RT) (p : PK) (hp : p.2.1 < 2 ^ 128) (hs : SortedR L) (hlen : L.length ≤ 1000) (w : World) (T : Tab w b base v L) :
    Calls Try.prog 70 #[.pointer (some ⟨b, 0, none⟩), .agg #[.bool p.1, .int .u64 (aH p.2.1), .int .u64 (aL p.2.1), .int .i64 p.2.2]] w fun e w' => e = .returned (.tuple #[.agg #[.int .i64 0, .int .i64 (cutA L p), .int .i64 0], .int .i64 (finE L p)]) ∧ TabOut w w' b base v (cutL L p) := by
  have FC := Lib.hid (fun (W : World) (t : Tab W b base v L) => find_calls b base v L p hp hs hlen W t)
  have P1 := (PreAt.new w p.1 (aH p.2.1) (aL p.2.1) p.2.2 51).alloc (.cells #[.int .i64 0, .int .i64 0, .int .i64 0] 63)
  have A1 := AnsV.new (w.alloc (.cells #[.bool p.1, .int .u64 (aH p.2.1), .int .u64 (aL p.2.1), .int .i64 p.2.2] 51)) 0 0 0 63
  have N1 := NotR.new (w.alloc (.cells #[.bool p.1, .int .u64 (aH p.2.1), .int .u64 (aL p.2.1), .int .i64 p.2.2] 51)) #[.int .i64 0, .int .i64 0, .int .i64 0] 63 (by decide)
  simp only [World.size_alloc] at A1 N1
  have TY := Lib.hid ((T.alloc (.cells #[.bool p.1, .int .u64 (aH p.2.1), .int .u64 (aL p.2.1), .int .i64 p.2.2] 51)).alloc (.cells #[.int .i64 0, .int .i64 0, .int .i64 0] 63))
  have bY : Below w.heap.size w ((w.alloc (.cells #[.bool p.1, .int .u64 (aH p.2.1), .int .u64 (aL p.2.1), .int .i64 p.2.2] 51)).alloc (.cells #[.int .i64 0, .int .i64 0, .int .i64 0] 63)) := by go_grown
  have hbw := T.1.2.2
  have olt : ∀ k, v.ownBlock = some k → base ≤ k ∧ k < w.heap.size := T.2.1.lt
  have hbb := T.2.2
  clear T
  go_enter Try.func70, Try.ntmps70
  go_wp2_with fail
  refine (FC.out _ TY.out).mono ?_
  rintro e w1 ⟨rfl, hb1⟩
  have A2 := A1.keep hb1 A1.2.2.2.2
  have N2 := N1.of (hb1.block _ A1.2.2.2.2)
  have T1 := Lib.hid (TY.out.keep hb1)
  have b1 := thenBelow bY hb1
  have BU := But.of_below (S := fun k => k = b ∨ v.ownBlock = some k) b1
  clear P1 TY bY hb1 FC A1 N1
  by_cases hz : finE L p = 0
  · obtain ⟨_, _, e2, ht, e3, e4⟩ := finE_0 hs hz
    have DC := Lib.hid (fun (W : World) (o : OwnR W base v L) => delete_calls base (posR L p) v L hlen ht W o)
    have E := Lib.hid (show cutA L p = hopR L p ∧ cutL L p = L.take (posR L p) ++ L.drop (posR L p + 1) by simp [cutA, cutL, hz, delR])
    obtain ⟨q, c, rfl, hcap, at_⟩ := T1.out.2.1.row.at
    obtain ⟨g, o, rfl, hg, hrec⟩ := at_ _ ht
    obtain ⟨x0, x1, x2, x3, x4⟩ := routeCells hrec
    rw [e4] at x4
    have cb := T1.out.1.1
    have hti : ((posR L p : Nat) : Int) < (L.length : Int) := by omega
    have hZ := Lib.hid hz
    rw [hz, e2]
    clear e2 e3 e4 at_ hrec x0 x1 x2 x3 hz
    obtain ⟨n, hn⟩ : ∃ n, L.length = n := ⟨_, rfl⟩
    obtain ⟨i, hi⟩ : ∃ i, posR L p = i := ⟨_, rfl⟩
    rw [hn] at cb ht hti DC hcap olt BU T1
    rw [hi] at ht hti x4 DC E
    rw [hi]
    have HNI := Lib.hid (And.intro hn hi)
    rw [hn] at hlen
    clear hn hi
    go_wp2_with fail
    refine (DC.out _ T1.out.2.1).mono ?_
    rintro e w2 ⟨v', rfl, ho2, hg2⟩
    have Rne : (Value.slice (some ⟨g, o, none⟩) n c).ownBlock ≠ some (w.heap.size + 1) := fun e => by have := (olt _ e).2; omega
    have bne : (Value.slice (some ⟨g, o, none⟩) n c).ownBlock ≠ some b := fun e => by have := (olt _ e).1; omega
    have A3 := A2.of_block (hg2.block _ A2.2.2.2.2 (fun e => Rne e.symm)) hg2.size
    have N3 := N2.of (hg2.block _ A2.2.2.2.2 (fun e => Rne e.symm))
    have B3 := T1.out.1.grown hg2 bne
    have BU2 := BU.trans (But.of_grown (S := fun k => k = b ∨ (Value.slice (some ⟨g, o, none⟩) n c).ownBlock = some k) hg2 (fun k h => .inr h)) (fun k _ h => h)
    obtain ⟨vp, vc, e'⟩ := ho2.row.form
    obtain ⟨m, hm⟩ : ∃ m, (L.take i ++ L.drop (i + 1)).length = m := ⟨_, rfl⟩
    rw [hm] at e'
    subst e'
    have OW : Hid (OwnR w2 base (.slice vp m vc) (L.take i ++ L.drop (i + 1))) := Lib.hid ho2
    clear ho2 hg2 A2 N2 BU DC T1 x4 cb hm
    -- the store into the table's variable, and into the result
    have B4 := B3.store (.slice vp m vc)
    have Rb : w.heap.size + 1 ≠ b := by omega
    have A4 := A3.far (p := ⟨b, 0, none⟩) Rb (.slice vp m vc)
    have N4 := N3.of (w' := w2.setCell ⟨b, 0, none⟩ (.slice vp m vc)) (Below.heap_setCell _ _ _ _ Rb)
    have O4 := OW.out.kept (grownBy_setCell w2 ⟨b, 0, none⟩ (.slice vp m vc)) (.inr fun e => by have := (OW.out.lt b e).1; omega)
    have U4 := BU2.setCell (p := ⟨b, 0, none⟩) (fun _ => .inl rfl) (.slice vp m vc)
    have Ne4 : (Value.slice vp m vc).ownBlock ≠ some (w.heap.size + 1) := N4.ne (L := L.take i ++ L.drop (i + 1)) O4
    have AS := A4.store 0 (hopR L p) 0
    have nS : ¬ (w.heap.size + 1 < w.heap.size) := by omega
    have U5 := ((U4.setCell (p := ⟨w.heap.size + 1, 0, none⟩) (fun h => absurd h nS) (.int .i64 0)).setCell (p := ⟨w.heap.size + 1, 1, none⟩) (fun h => absurd h nS) (.int .i64 (hopR L p))).setCell (p := ⟨w.heap.size + 1, 2, none⟩) (fun h => absurd h nS) (.int .i64 0)
    have O5 := ((O4.kept (grownBy_setCell _ ⟨w.heap.size + 1, 0, none⟩ (.int .i64 0)) (.inr Ne4)).kept (grownBy_setCell _ ⟨w.heap.size + 1, 1, none⟩ (.int .i64 (hopR L p))) (.inr Ne4)).kept (grownBy_setCell _ ⟨w.heap.size + 1, 2, none⟩ (.int .i64 0)) (.inr Ne4)
    have B5 := ((B4.far (p := ⟨w.heap.size + 1, 0, none⟩) Rb.symm (.int .i64 0)).far (p := ⟨w.heap.size + 1, 1, none⟩) Rb.symm (.int .i64 (hopR L p))).far (p := ⟨w.heap.size + 1, 2, none⟩) Rb.symm (.int .i64 0)
    have F5 := Lib.hid (And.intro U5 (And.intro O5 B5))
    clear U5 O5 B5 U4 O4 B4 N4 Ne4 OW BU2
    obtain ⟨z0, z1, z2, _⟩ := AS
    obtain ⟨k0, k1, k2, g0, gl⟩ := A4
    have g1 := g0 0
    have g2 := g0 1
    have g3 := g0 2
    obtain ⟨d0, df, dl⟩ := B3
    have df0 := df 0
    go_wp2
    refine bodyPost_ret (by simp [results, Try.results70, go_sem, z0, z1, z2]; try rfl) rfl ?_
    refine ⟨by rw [E.out.1, hZ.out], ⟨_, F5.out.2.2, ?_, hbb⟩, by rw [HNI.out.1]; exact F5.out.1⟩
    rw [E.out.2]
    exact F5.out.2.1
  · have hz1 : (finE L p == 0) = false := by simpa using hz
    have hz2 : (finE L p != 0) = true := by simp [bne, hz1]
    have E := Lib.hid (show cutA L p = 0 ∧ cutL L p = L by simp [cutA, cutL, hz])
    have AS := A2.store 0 0 0
    have nS : ¬ (w.heap.size + 1 < w.heap.size) := by omega
    have Rb : w.heap.size + 1 ≠ b := by omega
    have Ne4 := N2.ne T1.out.2.1
    have U5 := ((BU.setCell (p := ⟨w.heap.size + 1, 0, none⟩) (fun h => absurd h nS) (.int .i64 0)).setCell (p := ⟨w.heap.size + 1, 1, none⟩) (fun h => absurd h nS) (.int .i64 0)).setCell (p := ⟨w.heap.size + 1, 2, none⟩) (fun h => absurd h nS) (.int .i64 0)
    have O5 := ((T1.out.2.1.kept (grownBy_setCell _ ⟨w.heap.size + 1, 0, none⟩ (.int .i64 0)) (.inr Ne4)).kept (grownBy_setCell _ ⟨w.heap.size + 1, 1, none⟩ (.int .i64 0)) (.inr Ne4)).kept (grownBy_setCell _ ⟨w.heap.size + 1, 2, none⟩ (.int .i64 0)) (.inr Ne4)
    have B5 := ((T1.out.1.far (p := ⟨w.heap.size + 1, 0, none⟩) Rb.symm (.int .i64 0)).far (p := ⟨w.heap.size + 1, 1, none⟩) Rb.symm (.int .i64 0)).far (p := ⟨w.heap.size + 1, 2, none⟩) Rb.symm (.int .i64 0)
    have F5 := Lib.hid (And.intro U5 (And.intro O5 B5))
    clear U5 O5 B5 BU Ne4
    obtain ⟨z0, z1, z2, _⟩ := AS
    obtain ⟨k0, k1, k2, g0, gl⟩ := A2
    have g1 := g0 0
    have g2 := g0 1
    have g3 := g0 2
    go_wp2
    refine bodyPost_ret (by simp [results, Try.results70, go_sem, z0, z1, z2]; try rfl) rfl ?_
    refine ⟨by rw [E.out.1], ⟨_, F5.out.2.2, ?_, hbb⟩, F5.out.1⟩
    rw [E.out.2]
    exact F5.out.2.1
end Go.Proofs.Ytepfcphhgmmlhaa
