/-
  Laid together: FwT, AnyR.
-/
import Derived.Test.YtmjlmfbceccjdaaG17
import Derived.Test.YtmjlmfbceccjdaaG20
import Derived.Test.YtmjlmfbceccjdaaG13
/-
  A tree of parts in memory.
-/
namespace Go.Proofs.Ytmjlmfbceccjdaa
open Go.RowKit
set_option linter.unusedVariables false
set_option linter.unusedSimpArgs false
/-- The cells of a part. -/
def tcs (p : PK) (hv v1 v2 : Value) : List Value := [.bool p.1, .int .u64 (aH p.2.1), .int .u64 (aL p.2.1), .int .i64 p.2.2, hv, v1, v2]
/-- A slice of hops that lies in blocks from lo on. -/
def HopAt (W : World) (lo : Nat) (hv : Value) (hs : List Int) : Prop := ∃ g o c, hv = .slice (some ⟨g, o, none⟩) hs.length c ∧ lo ≤ g ∧ g < W.heap.size ∧ hs.length ≤ c ∧ ∀ i (hi : i < hs.length), RecAt W g (o + i * 1) (ics hs[i])
def TreeAt (W : World) (lo : Nat) : FT → Value → Prop
  | .leaf p hs, v => ∃ b hv, v = .pointer (some ⟨b, 0, none⟩) ∧ lo ≤ b ∧ b < W.heap.size ∧ RecAt W b 0 (tcs p hv (.pointer none) (.pointer none)) ∧ HopAt W lo hv hs
  | .node p hs t u, v => ∃ b hv v1 v2, v = .pointer (some ⟨b, 0, none⟩) ∧ lo ≤ b ∧ b < W.heap.size ∧ RecAt W b 0 (tcs p hv v1 v2) ∧ HopAt W lo hv hs ∧ TreeAt W lo t v1 ∧ TreeAt W lo u v2
theorem RecAt.same {W W' : World} {b o : Nat} {cs : List Value} (h : RecAt W b o cs) (e : W'.heap[b]? = W.heap[b]?) : RecAt W' b o cs := fun j u hj => by
  have := h j u hj
  unfold World.cell? at this ⊢
  rw [e]; exact this
theorem HopAt.same {W W' : World} {lo : Nat} {hv : Value} {hs : List Int} (h : HopAt W lo hv hs) (hz : W.heap.size ≤ W'.heap.size) (e : ∀ b, lo ≤ b → b < W.heap.size → W'.heap[b]? = W.heap[b]?) : HopAt W' lo hv hs := by
  obtain ⟨g, o, c, h1, h2, h3, h4, h5⟩ := h
  exact ⟨g, o, c, h1, h2, by omega, h4, fun i hi => (h5 i hi).same (e g h2 h3)⟩
theorem TreeAt.same {W W' : World} {lo : Nat} (hz : W.heap.size ≤ W'.heap.size) (e : ∀ b, lo ≤ b → b < W.heap.size → W'.heap[b]? = W.heap[b]?) : ∀ (t : FT) (v : Value), TreeAt W lo t v → TreeAt W' lo t v
  | .leaf p hs, v, h => by
    obtain ⟨b, hv, h1, h2, h3, h4, h5⟩ := h
    exact ⟨b, hv, h1, h2, by omega, h4.same (e b h2 h3), h5.same hz e⟩
  | .node p hs t u, v, h => by
    obtain ⟨b, hv, v1, v2, h1, h2, h3, h4, h5, h6, h7⟩ := h
    exact ⟨b, hv, v1, v2, h1, h2, by omega, h4.same (e b h2 h3), h5.same hz e, TreeAt.same hz e t v1 h6, TreeAt.same hz e u v2 h7⟩
theorem TreeAt.keep {W W' : World} {lo : Nat} {t : FT} {v : Value} (h : TreeAt W lo t v) (hb : Below W.heap.size W W') : TreeAt W' lo t v :=
  TreeAt.same hb.size (fun b _ hb2 => hb.block b hb2) t v h
theorem HopAt.low {W : World} {lo lo' : Nat} {hv : Value} {hs : List Int} (h : HopAt W lo' hv hs) (hl : lo ≤ lo') : HopAt W lo hv hs := by
  obtain ⟨g, o, c, h1, h2, h3, h4, h5⟩ := h
  exact ⟨g, o, c, h1, by omega, h3, h4, h5⟩
theorem TreeAt.low {W : World} {lo lo' : Nat} (hl : lo ≤ lo') : ∀ (t : FT) (v : Value), TreeAt W lo' t v → TreeAt W lo t v
  | .leaf p hs, v, h => by
    obtain ⟨b, hv, h1, h2, h3, h4, h5⟩ := h
    exact ⟨b, hv, h1, by omega, h3, h4, h5.low hl⟩
  | .node p hs t u, v, h => by
    obtain ⟨b, hv, v1, v2, h1, h2, h3, h4, h5, h6, h7⟩ := h
    exact ⟨b, hv, v1, v2, h1, by omega, h3, h4, h5.low hl, TreeAt.low hl t v1 h6, TreeAt.low hl u v2 h7⟩
theorem HopAt.row {W : World} {lo : Nat} {hv : Value} {hs : List Int} (h : HopAt W lo hv hs) : RowN W hv hs := by
  obtain ⟨g, o, c, h1, h2, h3, h4, h5⟩ := h
  exact .inr ⟨g, o, c, h1, h3, h4, h5⟩
theorem HopAt.owned {W : World} {base : Nat} {hv : Value} {hs : List Int} (h : OwnN W base hv hs) (hne : hs ≠ []) : HopAt W base hv hs := by
  rcases h.2 with ⟨hv', h0⟩ | ⟨g, cap, cur, hv', hb, hg, hnc, _⟩
  · exact absurd (List.eq_nil_of_length_eq_zero h0) hne
  · rcases h.row with ⟨e, _⟩ | ⟨g', o, c, e, hgs, hcc, hr⟩
    · exact absurd e hne
    · rw [hv'] at e
      injection e with e1 e2 e3
      injection e1 with e1
      injection e1 with e1 e4
      subst e1
      exact ⟨g, o, c, by rw [hv', e3, e4], hb, hgs, hcc, hr⟩
/-- The hops of a part, as its pointer has them. -/
theorem TreeAt.hops {W : World} {lo : Nat} {t : FT} {v : Value} (h : TreeAt W lo t v) : ∃ b hv, v = .pointer (some ⟨b, 0, none⟩) ∧ lo ≤ b ∧ b < W.heap.size ∧ W.cell? ⟨b, 4, none⟩ = some hv ∧ HopAt W lo hv t.hs := by
  cases t with
  | leaf p hs =>
    obtain ⟨b, hv, h1, h2, h3, h4, h5⟩ := h
    exact ⟨b, hv, h1, h2, h3, by simpa using h4 4 _ rfl, h5⟩
  | node p hs t u =>
    obtain ⟨b, hv, v1, v2, h1, h2, h3, h4, h5, _⟩ := h
    exact ⟨b, hv, h1, h2, h3, by simpa using h4 4 _ rfl, h5⟩
end Go.Proofs.Ytmjlmfbceccjdaa
/-
  slices.IndexFunc, slices.ContainsFunc over []api.Route: what the function says of each element decides.
-/
namespace Go.Proofs.Ytmjlmfbceccjdaa
open Go.RowKit
set_option linter.unusedVariables false
set_option linter.unusedSimpArgs false
set_option maxHeartbeats 2000000 in
theorem indexR_calls (l : List (RT)) (v : Value) (F : Nat) (fb : Array Value) (P : RT → Bool) (hlen : l.length ≤ 100000) (w : World) (row : RowR w v l) (eg : ∀ args W, (callFunc F args).run Try.prog W = .ok (.enter F args) W)
    (KF : Hid (∀ c ∈ l, ∀ W, Below w.heap.size w W → Calls Try.prog F (#[.agg #[.bool c.1.1, .int .u64 (aH c.1.2.1), .int .u64 (aL c.1.2.1), .int .i64 c.1.2.2, .int .i64 c.2]] ++ fb) W fun e w' => e = .returned (.bool (P c)) ∧ Below W.heap.size W w')) :
    Calls Try.prog 79 #[v, .func (.func F) #[] fb] w fun e w' => ∃ r : Int, e = .returned (.int .i64 r) ∧ (0 ≤ r ↔ l.any P = true) ∧ Below w.heap.size w w' := by
  obtain ⟨p, c, rfl, hcap, at_⟩ := row.at
  obtain ⟨n, hn⟩ : ∃ n, l.length = n := ⟨_, rfl⟩
  have HN := Lib.hid hn
  have AT := Lib.hid at_
  rw [hn] at hlen ⊢
  clear row at_ hn
  go_enter Try.func79, Try.ntmps79
  go_wp2
  go_loopw [8] (fun i wr => ∃ k : Nat, k ≤ n ∧ i = .int .i64 k ∧ Below w.heap.size w wr ∧ Hid (∀ c ∈ l.take k, P c = false)) (fun i _ => n - (intOf i).toNat)
  case atStart => exact ⟨0, by omega, rfl, Below.refl _ _, Lib.hid (fun c h => by simp at h)⟩
  case round =>
    obtain ⟨k, hk, rfl, hnk, HF⟩ := hrel
    by_cases hlt : k < n
    · have hkl : k < l.length := by rw [HN.out]; exact hlt
      obtain ⟨g, o, rfl, hg, hrec⟩ := AT.out k hkl
      obtain ⟨x0, x1, x2, x3, x4⟩ := routeCells (hrec.keep hnk hg)
      have C := KF.out l[k] (List.getElem_mem hkl) wr hnk
      have HA := Lib.hid (show P l[k] = true → l.any P = true from fun h => List.any_eq_true.2 ⟨_, List.getElem_mem hkl, h⟩)
      have HT := Lib.hid (show P l[k] = false → ∀ c ∈ l.take (k + 1), P c = false from fun h c hc => by
        rw [List.take_succ_eq_append_getElem hkl, List.mem_append, List.mem_singleton] at hc
        rcases hc with hc | rfl
        · exact HF.out c hc
        · exact h)
      have hlt' : (k : Int) < (n : Int) := by omega
      generalize l[k] = r at x0 x1 x2 x3 x4 C HA HT
      cases hP : P r with
      | true =>
        rw [hP] at C
        go_wp2_with (go_at_fn F; refine C.mono ?_; rintro e w1 ⟨rfl, hb1⟩)
        go_ret
        exact ⟨k, rfl, ⟨fun _ => HA.out hP, fun _ => by omega⟩, thenBelow hnk hb1⟩
      | false =>
        rw [hP] at C
        go_wp2_with (go_at_fn F; refine C.mono ?_; rintro e w1 ⟨rfl, hb1⟩)
        have hn1 := thenBelow hnk hb1
        go_roundw
        case rel => exact ⟨k + 1, by omega, by go_num, hn1, Lib.hid (HT.out hP)⟩
        case measure => simp [intOf]; omega
    · obtain rfl : k = n := by omega
      have e1 : l.take k = l := by rw [← HN.out]; exact List.take_length
      have HZ : Hid (l.any P = false) := Lib.hid (by rw [List.any_eq_false]; intro c hc; rw [e1] at HF; simp [HF.out c hc])
      go_wp2
      go_ret
      exact ⟨-1, rfl, ⟨fun h => by omega, fun h => by rw [HZ.out] at h; cases h⟩, hnk⟩
set_option maxHeartbeats 2000000 in
theorem containsR_calls (l : List (RT)) (v : Value) (F : Nat) (fb : Array Value) (P : RT → Bool) (hlen : l.length ≤ 100000) (w : World) (row : RowR w v l) (eg : ∀ args W, (callFunc F args).run Try.prog W = .ok (.enter F args) W)
    (KF : Hid (∀ c ∈ l, ∀ W, Below w.heap.size w W → Calls Try.prog F (#[.agg #[.bool c.1.1, .int .u64 (aH c.1.2.1), .int .u64 (aL c.1.2.1), .int .i64 c.1.2.2, .int .i64 c.2]] ++ fb) W fun e w' => e = .returned (.bool (P c)) ∧ Below W.heap.size W w')) :
    Calls Try.prog 58 #[v, .func (.func F) #[] fb] w fun e w' => e = .returned (.bool (l.any P)) ∧ Below w.heap.size w w' := by
  have C := Lib.hid (indexR_calls l v F fb P hlen w row eg KF)
  obtain ⟨p, c, rfl⟩ := row.form
  obtain ⟨b, hb⟩ : ∃ b, l.any P = b := ⟨_, rfl⟩
  rw [hb] at C ⊢
  clear row KF hb
  generalize l.length = n at C hlen ⊢
  go_enter Try.func58, Try.ntmps58
  go_wp2_with fail
  refine C.out.mono ?_
  rintro e w1 ⟨r, rfl, hr, hb1⟩
  cases b with
  | true =>
    have h0 : (0 : Int) ≤ r := hr.2 rfl
    go_wp2
    go_ret
    exact ⟨rfl, hb1⟩
  | false =>
    have h0 : ¬ (0 : Int) ≤ r := fun h => by have := hr.1 h; cases this
    go_wp2
    go_ret
    exact ⟨rfl, hb1⟩
end Go.Proofs.Ytmjlmfbceccjdaa
