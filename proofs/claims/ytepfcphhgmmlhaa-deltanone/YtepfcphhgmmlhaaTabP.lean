/-
  table.Look; the document's TableLook.
-/
import Derived.Test.YtepfcphhgmmlhaaTabO
namespace Go.Proofs.Ytepfcphhgmmlhaa
open Go.RowKit
set_option linter.unusedVariables false
set_option linter.unusedSimpArgs false

/-- The error of Look. -/
def lookE (l : List RT) (s : Bool) (y : Nat) : Int := if tabE l = 0 then (if y < 2 ^ wideN s then 0 else 4) else tabE l
/-- What Look answers: hop and length. -/
def lookA (l : List RT) (s : Bool) (y : Nat) : Int × Int := if lookE l s y = 0 then bestA s y l else (0, 0)
theorem lookE_0 {l : List RT} {s : Bool} {y : Nat} (h : lookE l s y = 0) : tabE l = 0 ∧ y < 2 ^ wideN s := by
  unfold lookE at h
  split at h
  · rename_i a
    split at h
    · rename_i b; exact ⟨a, b⟩
    · cases h
  · rename_i a; exact absurd h a
set_option maxHeartbeats 2000000 in
theorem look_calls (b : Nat) (v : Value) (l : List RT) (s : Bool) (y : Nat) (hy : y < 2 ^ 128) (h0 : tabE l = 0) (hs : SortedR (srt l)) (w : World) (hc : w.cell? ⟨b, 0, none⟩ = some v) (row : RowR w v (srt l)) :
    Calls Try.prog 62 #[.pointer (some ⟨b, 0, none⟩), .agg #[.bool s, .int .u64 (aH y), .int .u64 (aL y)]] w fun e w' => e = .returned (.tuple #[.agg #[.int .i64 0, .int .i64 (lookA l s y).1, .int .i64 (lookA l s y).2], .int .i64 (lookE l s y)]) ∧ Below w.heap.size w w' := by
  have hv := (tabE_val h0).1
  have hvs : ValR (srt l) := fun r hr => hv r ((srt_mem l r).1 hr)
  have hl : (srt l).length ≤ 1000 := by
    have : ∀ (m t : List RT), (m.foldl insR t).length = t.length + m.length := by
      intro m
      induction m with
      | nil => intro t; simp
      | cons a m ih => intro t; rw [List.foldl_cons, ih, insR_len, List.length_cons]; omega
    have h2 := this l []
    have h3 := (tabE_val h0).2.2
    unfold srt
    rw [h2]
    simp
    omega
  by_cases hyv : y < 2 ^ wideN s
  · have e1 : lookE l s y = 0 := by simp [lookE, h0, hyv]
    rw [lookA, e1, if_pos rfl, ← look_same h0 hs]
    exact look_ok b v (srt l) s y hyv hvs hl w hc row
  · have e1 : lookE l s y = 4 := by simp [lookE, h0, hyv]
    rw [lookA, e1]
    exact look_form b s y hy hyv w
set_option maxHeartbeats 4000000 in
set_option maxRecDepth 100000 in
theorem tableLook_calls (l : List RT) (v : Value) (s : Bool) (y : Nat) (hlen : l.length ≤ 9223372036854775807) (hw : WordsR l) (hy : y < 2 ^ 128) (w : World) (row : RowR w v l) :
    Calls Try.prog 45 #[v, .agg #[.bool s, .int .u64 (aH y), .int .u64 (aL y)]] w fun e w' => e = .returned (.tuple #[.agg #[.int .i64 0, .int .i64 (lookA l s y).1, .int .i64 (lookA l s y).2], .int .i64 (lookE l s y)]) ∧ Below w.heap.size w w' := by
  have BC := Lib.hid (fun (W : World) (r : RowR W v l) => build_calls l v hlen hw W r)
  obtain ⟨p, c, rfl⟩ := row.form
  have B0 := (AddrAt.new w s (aH y) (aL y) 49).alloc (.cells #[.int .i64 0, .int .i64 0, .int .i64 0] 63)
  have B1 := AnsV.new (w.alloc (.cells #[.bool s, .int .u64 (aH y), .int .u64 (aL y)] 49)) 0 0 0 63
  have bY : Below w.heap.size w ((w.alloc (.cells #[.bool s, .int .u64 (aH y), .int .u64 (aL y)] 49)).alloc (.cells #[.int .i64 0, .int .i64 0, .int .i64 0] 63)) := by go_grown
  simp only [World.size_alloc] at B1
  have RY := Lib.hid (row.keep bY)
  clear row
  go_enter Try.func45, Try.ntmps45
  go_wp2_with fail
  refine (BC.out _ RY.out).mono ?_
  rintro e w1 ⟨u, rfl, ho, hs, hb1⟩
  have b0 := B0.keep hb1
  have b1 := B1.keep hb1 B1.2.2.2.2
  have hn1 := thenBelow bY hb1
  by_cases h0 : tabE l = 0
  · rw [if_pos h0] at ho
    rw [h0]
    have hs' := hs h0
    obtain ⟨up, uc, rfl⟩ := ho.row.form
    have LC := Lib.hid (fun (b : Nat) (W : World) (hc : W.cell? ⟨b, 0, none⟩ = some (.slice up (srt l).length uc)) (r : RowR W (.slice up (srt l).length uc) (srt l)) => look_calls b _ l s y hy h0 hs' W hc r)
    have bT := (Below.refl w1.heap.size w1).alloc (Nat.le_refl _) (.cells #[.slice up (srt l).length uc] 59)
    have c0 := b0.keep bT
    have c1 := b1.keep bT b1.2.2.2.2
    have RT1 := Lib.hid (ho.row.keep bT)
    have hn2 := thenBelow hn1 bT
    have cv : (w1.alloc (.cells #[.slice up (srt l).length uc] 59)).cell? ⟨w1.heap.size, 0, none⟩ = some (.slice up (srt l).length uc) := by simp
    obtain ⟨a0, a1, a2, al⟩ := c0
    clear ho hs hs' B0 B1 bY RY hb1 b0 b1 BC bT
    go_wp2_with fail
    refine (LC.out _ _ cv RT1.out).mono ?_
    rintro e w2 ⟨rfl, hb2⟩
    have d1 := c1.keep hb2 c1.2.2.2.2
    have hn3 := thenBelow hn2 hb2
    have AS := d1.store 0 (lookA l s y).1 (lookA l s y).2
    have bS := ((hn3.setCell (p := ⟨w.heap.size + 1, 0, none⟩) (by simp) (.int .i64 0)).setCell (p := ⟨w.heap.size + 1, 1, none⟩) (by simp) (.int .i64 (lookA l s y).1)).setCell (p := ⟨w.heap.size + 1, 2, none⟩) (by simp) (.int .i64 (lookA l s y).2)
    obtain ⟨z0, z1, z2, _⟩ := AS
    obtain ⟨k0, k1, k2, g0, gl⟩ := d1
    have g1 := g0 0
    have g2 := g0 1
    have g3 := g0 2
    clear cv RT1 LC a0 a1 a2 al c1 hb2
    go_wp2
    refine bodyPost_ret (by simp [results, Try.results45, go_sem, z0, z1, z2]; try rfl) rfl ?_
    exact ⟨by simp, bS⟩
  · have e1 : lookE l s y = tabE l := by simp [lookE, h0]
    have e2 : lookA l s y = (0, 0) := by simp [lookA, e1, h0]
    have E12 := Lib.hid (And.intro e1 e2)
    rw [if_neg h0] at ho
    obtain ⟨up, uc, rfl⟩ := ho.row.form
    have hz1 : (tabE l == 0) = false := by simpa using h0
    have hz2 : (tabE l != 0) = true := by simp [bne, hz1]
    have d1 := b1.alloc (.cells #[.slice up 0 uc] 59)
    have hn2 := hn1.alloc hn1.size (.cells #[.slice up 0 uc] 59)
    have AS := d1.store 0 0 0
    have bS := ((hn2.setCell (p := ⟨w.heap.size + 1, 0, none⟩) (by simp) (.int .i64 0)).setCell (p := ⟨w.heap.size + 1, 1, none⟩) (by simp) (.int .i64 0)).setCell (p := ⟨w.heap.size + 1, 2, none⟩) (by simp) (.int .i64 0)
    obtain ⟨z0, z1, z2, _⟩ := AS
    obtain ⟨k0, k1, k2, g0, gl⟩ := d1
    have g1 := g0 0
    have g2 := g0 1
    have g3 := g0 2
    clear ho hs B0 B1 bY RY hb1 b0 b1 BC e1 e2
    go_wp2
    refine bodyPost_ret (by simp [results, Try.results45, go_sem, z0, z1, z2]; try rfl) rfl ?_
    exact ⟨by rw [E12.out.1, E12.out.2], bS⟩
end Go.Proofs.Ytepfcphhgmmlhaa
