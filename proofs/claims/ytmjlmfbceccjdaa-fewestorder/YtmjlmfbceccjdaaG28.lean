/-
  Laid together: GoesTo, TLongM.
-/
import Derived.Test.YtmjlmfbceccjdaaG27
import Derived.Test.YtmjlmfbceccjdaaG9
import Derived.Deep.CutBlock
import Derived.Test.YtmjlmfbceccjdaaG14
import Derived.Test.YtmjlmfbceccjdaaTabY
/-
  Where an address goes: goesTo of the keep laws.
-/
namespace Go.Proofs.Ytmjlmfbceccjdaa
open Go.ChangeShapes Go.WideShapes Go.ChangeAt Go.RowKit Go.Joins
set_option linter.unusedSimpArgs false
set_option linter.unusedVariables false
/-- Where goesTo says an address goes. -/
def goesZ (l : List RT) (s : Bool) (y : Nat) : Int := if lookE l s y = 0 then (lookA l s y).1 else -1
set_option maxHeartbeats 4000000 in
set_option maxRecDepth 100000 in
theorem goesTo_calls (l : List RT) (v : Value) (s : Bool) (y : Nat) (hlen : l.length ≤ 1000) (hw : WordsR l) (hy : y < 2 ^ 128) (w : World) (row : RowR w v l) :
    Calls Try.prog 20 #[v, .agg #[.bool s, .int .u64 (aH y), .int .u64 (aL y)]] w fun e w' => e = .returned (.int .i64 (goesZ l s y)) ∧ Below w.heap.size w w' := by
  obtain ⟨i0, hii, hz0, hz1, hz2⟩ := info_parts info_route
  have LC := Lib.hid (fun (W : World) (u : Value) (r : RowR W u l) => tableLook_calls l u s y (by omega) hw hy W r)
  obtain ⟨q1, hq1⟩ : ∃ x, (lookA l s y).1 = x := ⟨_, rfl⟩
  obtain ⟨q2, hq2⟩ : ∃ x, (lookA l s y).2 = x := ⟨_, rfl⟩
  obtain ⟨qe, hqe⟩ : ∃ x, lookE l s y = x := ⟨_, rfl⟩
  obtain ⟨G, hG⟩ : ∃ x, goesZ l s y = x := ⟨_, rfl⟩
  have HG : Hid (G = if qe = 0 then q1 else -1) := Lib.hid (by rw [← hG, goesZ, hqe, hq1])
  rw [hq1, hq2, hqe] at LC
  rw [hG]
  clear hq1 hq2 hqe hG
  have bA := (Below.refl w.heap.size w).alloc (Nat.le_refl _) (.cells #[.bool s, .int .u64 (aH y), .int .u64 (aL y)] 30)
  have A0 := AddrAt.new w s (aH y) (aL y) 30
  have RW := Lib.hid (row.keep bA)
  obtain ⟨p, c, rfl⟩ := row.form
  clear row
  go_enter Try.func20, Try.ntmps20
  go_wp2_with fail
  revert bA A0 RW
  generalize w.alloc (.cells #[.bool s, .int .u64 (aH y), .int .u64 (aL y)] 30) = Y
  intro bA A0 RW
  obtain ⟨a0, a1, a2, al⟩ := A0
  have HBB : Hid (∀ X : World, Below Y.heap.size Y X → X.cell? ⟨w.heap.size, 0, none⟩ = some (.bool s) ∧ X.cell? ⟨w.heap.size, 1, none⟩ = some (.int .u64 (aH y)) ∧ X.cell? ⟨w.heap.size, 2, none⟩ = some (.int .u64 (aL y))) := Lib.hid fun X h => ⟨(h.cell (p := ⟨w.heap.size, 0, none⟩) al).trans a0, (h.cell (p := ⟨w.heap.size, 1, none⟩) al).trans a1, (h.cell (p := ⟨w.heap.size, 2, none⟩) al).trans a2⟩
  have hby : l.length * 40 ≤ 140737488355328 := by omega
  have h63 : l.length ≤ maxLen := by unfold maxLen; omega
  go_cut [5, 6] from 7 to 13 (fun s5 s6 wx => ∃ b, s5 = .pointer (some ⟨b, 0, none⟩) ∧ s6 = .int .i64 qe ∧ AnsV wx b 0 q1 q2 ∧ Below w.heap.size w wx)
  case first =>
    go_region_held3 (fun w' => w'.cell? ⟨w.heap.size, 0, none⟩ = some (.bool s) ∧ w'.cell? ⟨w.heap.size, 1, none⟩ = some (.int .u64 (aH y)) ∧ w'.cell? ⟨w.heap.size, 2, none⟩ = some (.int .u64 (aL y)))
      (first
        | exact HBB.out _ ((Below.refl _ Y).drew)
        | exact HBB.out _ (((Below.refl _ Y).alloc (Nat.le_refl _) _).drew)
        | exact HBB.out _ B1
        | exact HBB.out _ (B1.alloc B1.size _)
        | exact HBB.out _ B2
        | exact HBB.out _ (B2.alloc B2.size _)
        | exact HBB.out _ (((B2.setCell (by first | exact Nat.le_refl _ | exact B1.size) _).setCell (by first | exact Nat.le_refl _ | exact B1.size) _).setCell (by first | exact Nat.le_refl _ | exact B1.size) _)
        | exact HBB.out _ ((((B2.alloc B2.size _).setCell (by exact B2.size) _).setCell (by exact B2.size) _).setCell (by exact B2.size) _)
        | fail)
      (first
        | (refine step_append_copy rfl _ _ _ rfl 51 i0 _ 40 Try.underlying23 hii hz0 hz1 hz2 rfl (by decide) rcs_len rcs_one rfl _ _ rfl (RW.out.keep ((Below.refl _ Y).drew)) hby h63 ?_; intro v5 w5 ho5 hb5; have B1 : Below Y.heap.size Y w5 := thenBelow ((Below.refl _ Y).drew) hb5; have O5 := Lib.hid (OwnR.row ho5))
        | (refine step_append_copy rfl _ _ _ rfl 51 i0 _ 40 Try.underlying23 hii hz0 hz1 hz2 rfl (by decide) rcs_len rcs_one rfl _ _ rfl (RW.out.keep (((Below.refl _ Y).alloc (Nat.le_refl _) _).drew)) hby h63 ?_; intro v5 w5 ho5 hb5; have B1 : Below Y.heap.size Y w5 := thenBelow (((Below.refl _ Y).alloc (Nat.le_refl _) _).drew) hb5; have VA := (((AnsV.new Y 0 0 0 79).drew).keep hb5 (by simp [go_sem])); have O5 := Lib.hid (OwnR.row ho5))
        | (go_at_call 41; have VA' := VA; refine (LC.out _ _ O5.out).mono ?_; rintro e w6 ⟨rfl, hb6⟩; have B2 := thenBelow B1 hb6; have V6 := VA'.keep hb6 VA'.2.2.2.2; obtain ⟨v0, v1, v2, vf, vl⟩ := id V6)
        | (go_at_call 41; refine (LC.out _ _ O5.out).mono ?_; rintro e w6 ⟨rfl, hb6⟩; have B2 := thenBelow B1 hb6)
        | (go_at_call 41; refine (LC.out _ _ (O5.out.keep ((Below.refl _ _).alloc (Nat.le_refl _) _))).mono ?_; rintro e w6 ⟨rfl, hb6⟩; have V6 := (AnsV.new w5 0 0 0 79).keep hb6 (by simp [go_sem]); have B2 := thenBelow (B1.alloc B1.size _) hb6; obtain ⟨v0, v1, v2, vf, vl⟩ := id V6)
        | fail)
    all_goals
      go_wp2_with fail
      go_meet
      first
        | exact ⟨_, rfl, rfl, AnsV.new w6 0 q1 q2 79, thenBelow bA (B2.alloc B2.size _)⟩
        | exact ⟨_, rfl, rfl, V6.store 0 q1 q2, thenBelow bA (((B2.setCell (by first | exact Nat.le_refl _ | exact B1.size) _).setCell (by first | exact Nat.le_refl _ | exact B1.size) _).setCell (by first | exact Nat.le_refl _ | exact B1.size) _)⟩
  case rest =>
    obtain ⟨b, rfl, rfl, ⟨v0, v1, v2, vf, vl⟩, BZ⟩ := hcut
    by_cases h0 : qe = 0
    · have hg : G = q1 := by rw [HG.out, if_pos h0]
      have h0b : (qe == 0) = true := by simpa using h0
      clear h0 HG
      subst hg
      go_wp2
      go_ret
      exact ⟨by simp, BZ⟩
    · have hg : G = -1 := by rw [HG.out, if_neg h0]
      have h0b : (qe == 0) = false := by simpa using h0
      clear h0 HG
      subst hg
      go_wp2
      go_ret
      exact ⟨by simp, BZ⟩
end Go.Proofs.Ytmjlmfbceccjdaa
/-
  Plain mathematics: the longest prefix, where an address goes, the family of the routes that acts leave.
-/
namespace Go.Proofs.Ytmjlmfbceccjdaa
open Go.RowKit
set_option linter.unusedVariables false
set_option linter.unusedSimpArgs false
theorem doL_mem {L : List RT} (I : InvR L) {a : ActT} {r : RT} (h : r ∈ doL L a) : r ∈ L ∨ r.1 = a.p := by
  unfold doL at h
  split at h
  · by_cases hz : putE L (a.p, a.h) = 0
    · rcases (put_mem I hz r).1 h with e | ⟨e, _⟩
      · exact .inr (by rw [e])
      · exact .inl e
    · rw [put_err hz] at h; exact .inl h
  · split at h
    · by_cases hz : finE L a.p = 0
      · exact .inl ((cut_mem I hz r).1 h).1
      · rw [cut_err hz] at h; exact .inl h
    · exact .inl h
theorem run_mem (l : List ActT) {r : RT} (h : r ∈ runL l) : ∃ a ∈ l, r.1 = a.p := by
  suffices H : ∀ (l : List ActT) (L : List RT), InvR L → r ∈ l.foldl doL L → r ∈ L ∨ ∃ a ∈ l, r.1 = a.p by
    rcases H l [] InvR.nil h with h | h
    · cases h
    · exact h
  intro l
  induction l with
  | nil => intro L _ h; exact .inl h
  | cons a t ih =>
    intro L I h
    rcases ih (doL L a) (I.step a) h with h | ⟨b, hb, e⟩
    · rcases doL_mem I h with h | h
      · exact .inl h
      · exact .inr ⟨a, List.mem_cons_self, h⟩
    · exact .inr ⟨b, List.mem_cons_of_mem _ hb, e⟩
theorem actZ_four (j : JT) : (actZ j).p.1 = false := by
  unfold actZ
  repeat' split
  all_goals rfl
theorem acts_four (l : List JT) (n : Nat) : ∀ r ∈ runL (actsZ l n), r.1.1 = false := fun r hr => by
  obtain ⟨a, ha, e⟩ := run_mem _ hr
  unfold actsZ at ha
  obtain ⟨j, _, rfl⟩ := List.mem_map.1 ha
  rw [e]; exact actZ_four j
theorem last_bestA {L : List RT} (I : InvR L) (s : Bool) (y : Nat) : lastM (L.filter (mB s y)) = bestA s y L := by
  obtain ⟨e1, e2⟩ := (lastM_best (s := s) (y := y) I.sorted I.val).unique I.sorted.dist (bestA_best I.val)
  exact Prod.ext e1 e2
theorem look_inv {L : List RT} (I : InvR L) {s : Bool} {y : Nat} (hy : y < 2 ^ wideN s) : lookE L s y = 0 ∧ lookA L s y = bestA s y L := by
  have h : lookE L s y = 0 := by rw [lookE, if_pos (tab_inv I), if_pos hy]
  exact ⟨h, by rw [lookA, if_pos h]⟩
theorem goes_inv {L : List RT} (I : InvR L) {s : Bool} {y : Nat} (hy : y < 2 ^ wideN s) : goesZ L s y = (bestM s y L).1 := by
  obtain ⟨a, b⟩ := look_inv I hy
  rw [goesZ, if_pos a, b]; rfl
theorem inv_words {L : List RT} (I : InvR L) : WordsR L := fun r hr => lt128 (chk0 (I.val r hr)).1
/-- The last answer of a look behind acts. -/
theorem long_end {as_ M : List ActT} {XL : List (Int × Int × Int)} {y : Nat} {g : ActT} {n : Nat} (h : runX [] M = XL) (e : M = as_ ++ [g]) (hg : g = ⟨3, (false, 0, 0), 0, false, y⟩) (hy : y < 2 ^ wideN false) (hn : as_.length = n) (i0 : n < XL.length) :
    XL[n] = (0, (bestM false y (runL as_)).1, if (bestM false y (runL as_)).2 < 0 then 0 else (bestM false y (runL as_)).2) := by
  subst hn
  have I := InvR.run as_
  have l0 : (runX [] as_).length = as_.length := runX_len _ _
  have eX : XL = runX [] as_ ++ [doA (runL as_) g] := by rw [← h, e, runX_snoc]; rfl
  subst eX
  rw [List.getElem_append_right (by omega)]
  simp only [l0, Nat.sub_self, List.getElem_cons_zero]
  rw [hg]
  show (if y < 2 ^ wideN false then _ else _) = _
  rw [if_pos hy, last_bestA I]
  rfl
end Go.Proofs.Ytmjlmfbceccjdaa
