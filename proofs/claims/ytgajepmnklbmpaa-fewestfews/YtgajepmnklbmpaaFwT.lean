/-
  A tree of parts in memory.
-/
import Derived.Test.YtgajepmnklbmpaaG13
import Derived.Test.YtgajepmnklbmpaaG16
namespace Go.Proofs.Ytgajepmnklbmpaa
open Go.RowKit
set_option linter.unusedVariables false
set_option linter.unusedSimpArgs false
/-- The cells of a part. -/
def tcs (p : PK) (hv v1 v2 : Value) : List Value := [.bool p.1, .int .u64 (aH p.2.1), .int .u64 (aL p.2.1), .int .i64 p.2.2, hv, v1, v2]
/-- A slice of hops that lies in blocks from lo on. -/
def HopAt (W : World) (lo : Nat) (hv : Value) (hs : List Int) : Prop := ∃ g o c, hv = .slice (some ⟨g, o, none⟩) hs.length c ∧ lo ≤ g ∧ g < W.heap.size ∧ hs.length ≤ c ∧ ∀ i (hi : i < hs.length), RecAt W g (o + i * 1) (ics hs[i])
def TreeAt (W : World) (lo : Nat) : FT → Value → Prop
  | .leaf p hs, v => ∃ b hv, v = .pointer (some ⟨b, 0, none⟩) ∧ lo ≤ b ∧ b < W.heap.size ∧ RecAt W b 0 (tcs p hv (.pointer none) (.pointer none)) ∧ HopAt W lo hv hs
  | .node p hs t u, v => ∃ b hv v1 v2, v = .pointer (some ⟨b, 0, none⟩) ∧ lo ≤ b ∧ b < W.heap.size ∧ RecAt W b 0 (tcs p hv v1 v2) ∧ HopAt W lo hv hs ∧ TreeAt W lo t v1 ∧ TreeAt W lo u v2
theorem RecAt.same {W W' : World} {b o : Nat} {cs : List Value} (h : RecAt W b o cs) (e : W'.heap[b]? = W.heap[b]?) : RecAt W' b o cs := fun j u hj => by
  have := h j u hj
  unfold World.cell? at this ⊢
  rw [e]; exact this
theorem HopAt.same {W W' : World} {lo : Nat} {hv : Value} {hs : List Int} (h : HopAt W lo hv hs) (hz : W.heap.size ≤ W'.heap.size) (e : ∀ b, lo ≤ b → b < W.heap.size → W'.heap[b]? = W.heap[b]?) : HopAt W' lo hv hs := by
  obtain ⟨g, o, c, h1, h2, h3, h4, h5⟩ := h
  exact ⟨g, o, c, h1, h2, by omega, h4, fun i hi => (h5 i hi).same (e g h2 h3)⟩
theorem TreeAt.same {W W' : World} {lo : Nat} (hz : W.heap.size ≤ W'.heap.size) (e : ∀ b, lo ≤ b → b < W.heap.size → W'.heap[b]? = W.heap[b]?) : ∀ (t : FT) (v : Value), TreeAt W lo t v → TreeAt W' lo t v
  | .leaf p hs, v, h => by
    obtain ⟨b, hv, h1, h2, h3, h4, h5⟩ := h
    exact ⟨b, hv, h1, h2, by omega, h4.same (e b h2 h3), h5.same hz e⟩
  | .node p hs t u, v, h => by
    obtain ⟨b, hv, v1, v2, h1, h2, h3, h4, h5, h6, h7⟩ := h
    exact ⟨b, hv, v1, v2, h1, h2, by omega, h4.same (e b h2 h3), h5.same hz e, TreeAt.same hz e t v1 h6, TreeAt.same hz e u v2 h7⟩
theorem TreeAt.keep {W W' : World} {lo : Nat} {t : FT} {v : Value} (h : TreeAt W lo t v) (hb : Below W.heap.size W W') : TreeAt W' lo t v :=
  TreeAt.same hb.size (fun b _ hb2 => hb.block b hb2) t v h
theorem HopAt.low {W : World} {lo lo' : Nat} {hv : Value} {hs : List Int} (h : HopAt W lo' hv hs) (hl : lo ≤ lo') : HopAt W lo hv hs := by
  obtain ⟨g, o, c, h1, h2, h3, h4, h5⟩ := h
  exact ⟨g, o, c, h1, by omega, h3, h4, h5⟩
theorem TreeAt.low {W : World} {lo lo' : Nat} (hl : lo ≤ lo') : ∀ (t : FT) (v : Value), TreeAt W lo' t v → TreeAt W lo t v
  | .leaf p hs, v, h => by
    obtain ⟨b, hv, h1, h2, h3, h4, h5⟩ := h
    exact ⟨b, hv, h1, by omega, h3, h4, h5.low hl⟩
  | .node p hs t u, v, h => by
    obtain ⟨b, hv, v1, v2, h1, h2, h3, h4, h5, h6, h7⟩ := h
    exact ⟨b, hv, v1, v2, h1, by omega, h3, h4, h5.low hl, TreeAt.low hl t v1 h6, TreeAt.low hl u v2 h7⟩
theorem HopAt.row {W : World} {lo : Nat} {hv : Value} {hs : List Int} (h : HopAt W lo hv hs) : RowN W hv hs := by
  obtain ⟨g, o, c, h1, h2, h3, h4, h5⟩ := h
  exact .inr ⟨g, o, c, h1, h3, h4, h5⟩
theorem HopAt.owned {W : World} {base : Nat} {hv : Value} {hs : List Int} (h : OwnN W base hv hs) (hne : hs ≠ []) : HopAt W base hv hs := by
  rcases h.2 with ⟨hv', h0⟩ | ⟨g, cap, cur, hv', hb, hg, hnc, _⟩
  · exact absurd (List.eq_nil_of_length_eq_zero h0) hne
  · rcases h.row with ⟨e, _⟩ | ⟨g', o, c, e, hgs, hcc, hr⟩
    · exact absurd e hne
    · rw [hv'] at e
      injection e with e1 e2 e3
      injection e1 with e1
      injection e1 with e1 e4
      subst e1
      exact ⟨g, o, c, by rw [hv', e3, e4], hb, hgs, hcc, hr⟩
/-- The hops of a part, as its pointer has them. -/
theorem TreeAt.hops {W : World} {lo : Nat} {t : FT} {v : Value} (h : TreeAt W lo t v) : ∃ b hv, v = .pointer (some ⟨b, 0, none⟩) ∧ lo ≤ b ∧ b < W.heap.size ∧ W.cell? ⟨b, 4, none⟩ = some hv ∧ HopAt W lo hv t.hs := by
  cases t with
  | leaf p hs =>
    obtain ⟨b, hv, h1, h2, h3, h4, h5⟩ := h
    exact ⟨b, hv, h1, h2, h3, by simpa using h4 4 _ rfl, h5⟩
  | node p hs t u =>
    obtain ⟨b, hv, v1, v2, h1, h2, h3, h4, h5, _⟩ := h
    exact ⟨b, hv, h1, h2, h3, by simpa using h4 4 _ rfl, h5⟩
end Go.Proofs.Ytgajepmnklbmpaa
