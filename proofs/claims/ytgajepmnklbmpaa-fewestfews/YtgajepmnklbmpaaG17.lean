/-
  Laid together: FwF, FwN, FwQ, FwD, FwH, FwP, FwR.
-/
import Derived.Test.YtgajepmnklbmpaaFwT
import Derived.Test.YtgajepmnklbmpaaTabG
import Derived.Test.YtgajepmnklbmpaaG9
import Derived.Deep.CutRange
import Derived.Deep.DeepCutAuto
import Derived.Deep.RegionHeld3
import Derived.Test.YtgajepmnklbmpaaG13
import Derived.Test.YtgajepmnklbmpaaCidrE
import Derived.Test.YtgajepmnklbmpaaRefSame
import Derived.Test.YtgajepmnklbmpaaFwG
import Derived.Test.YtgajepmnklbmpaaG8
import Derived.Test.YtgajepmnklbmpaaG11
/-
  fewest.eachRoute, and the function that Fewest hands it.
-/
namespace Go.Proofs.Ytgajepmnklbmpaa
open Go.RowKit
set_option linter.unusedVariables false
set_option linter.unusedSimpArgs false
set_option maxHeartbeats 2000000 in
set_option maxRecDepth 100000 in
/-- It appends a route to the variable in block B. -/
theorem f1_calls (B M : Nat) (r : RT) (L : List RT) (sv : Value) (w : World) (hB : B < M) (hM : M ≤ w.heap.size) (bx : Box w B sv) (own : OwnR w M sv L) (hL : L.length ≤ 99999) :
    Calls Try.prog 32 #[.agg #[.bool r.1.1, .int .u64 (aH r.1.2.1), .int .u64 (aL r.1.2.1), .int .i64 r.1.2.2, .int .i64 r.2], .pointer (some ⟨B, 0, none⟩)] w fun e w' => e = .returned (.tuple #[]) ∧ ∃ sv', Box w' B sv' ∧ OwnR w' M sv' (L ++ [r]) ∧ Below B w w' ∧ ∀ k, k < M → k ≠ B → w'.heap[k]? = w.heap[k]? := by
  obtain ⟨i0, hii, hz0, hz1, hz2⟩ := info_parts info_route
  have b1 := (Below.refl w.heap.size w).alloc (Nat.le_refl _) (.cells #[.bool r.1.1, .int .u64 (aH r.1.2.1), .int .u64 (aL r.1.2.1), .int .i64 r.1.2.2, .int .i64 r.2] 66)
  have B1 := bx.alloc (.cells #[.bool r.1.1, .int .u64 (aH r.1.2.1), .int .u64 (aL r.1.2.1), .int .i64 r.1.2.2, .int .i64 r.2] 66)
  have O1 := own.alloc (.cells #[.bool r.1.1, .int .u64 (aH r.1.2.1), .int .u64 (aL r.1.2.1), .int .i64 r.1.2.2, .int .i64 r.2] 66)
  have hM1 : M ≤ (w.alloc (.cells #[.bool r.1.1, .int .u64 (aH r.1.2.1), .int .u64 (aL r.1.2.1), .int .i64 r.1.2.2, .int .i64 r.2] 66)).heap.size := Nat.le_trans hM b1.size
  have z := fun j u hj => cell_new w (rcs r) 66 j u hj
  have z0 : (w.alloc (.cells #[.bool r.1.1, .int .u64 (aH r.1.2.1), .int .u64 (aL r.1.2.1), .int .i64 r.1.2.2, .int .i64 r.2] 66)).cell? ⟨w.heap.size, 0, none⟩ = some (.bool r.1.1) := z 0 _ rfl
  have z1 : (w.alloc (.cells #[.bool r.1.1, .int .u64 (aH r.1.2.1), .int .u64 (aL r.1.2.1), .int .i64 r.1.2.2, .int .i64 r.2] 66)).cell? ⟨w.heap.size, 1, none⟩ = some (.int .u64 (aH r.1.2.1)) := z 1 _ rfl
  have z2 : (w.alloc (.cells #[.bool r.1.1, .int .u64 (aH r.1.2.1), .int .u64 (aL r.1.2.1), .int .i64 r.1.2.2, .int .i64 r.2] 66)).cell? ⟨w.heap.size, 2, none⟩ = some (.int .u64 (aL r.1.2.1)) := z 2 _ rfl
  have z3 : (w.alloc (.cells #[.bool r.1.1, .int .u64 (aH r.1.2.1), .int .u64 (aL r.1.2.1), .int .i64 r.1.2.2, .int .i64 r.2] 66)).cell? ⟨w.heap.size, 3, none⟩ = some (.int .i64 r.1.2.2) := z 3 _ rfl
  have z4 : (w.alloc (.cells #[.bool r.1.1, .int .u64 (aH r.1.2.1), .int .u64 (aL r.1.2.1), .int .i64 r.1.2.2, .int .i64 r.2] 66)).cell? ⟨w.heap.size, 4, none⟩ = some (.int .i64 r.2) := z 4 _ rfl
  obtain ⟨svp, svc, rfl⟩ := own.row.form
  clear z
  go_enter Try.func32, Try.ntmps32
  obtain ⟨x0, xf, xl⟩ := id B1
  have O2 := Lib.hid (O1.alloc (.cells #[.bool r.1.1, .int .u64 (aH r.1.2.1), .int .u64 (aL r.1.2.1), .int .i64 r.1.2.2, .int .i64 r.2] 66))
  have hsz : (w.alloc (.cells #[.bool r.1.1, .int .u64 (aH r.1.2.1), .int .u64 (aL r.1.2.1), .int .i64 r.1.2.2, .int .i64 r.2] 66)).heap.size = w.heap.size + 1 := by simp
  have hCN0 := cell_new (w.alloc (.cells #[.bool r.1.1, .int .u64 (aH r.1.2.1), .int .u64 (aL r.1.2.1), .int .i64 r.1.2.2, .int .i64 r.2] 66)) (rcs r) 66
  rw [hsz] at hCN0
  have hCN := Lib.hid hCN0
  clear hCN0
  have b2 := (b1.mono (Nat.le_refl _)).alloc b1.size (.cells #[.bool r.1.1, .int .u64 (aH r.1.2.1), .int .u64 (aL r.1.2.1), .int .i64 r.1.2.2, .int .i64 r.2] 66)
  have B2 := Lib.hid (B1.alloc (.cells #[.bool r.1.1, .int .u64 (aH r.1.2.1), .int .u64 (aL r.1.2.1), .int .i64 r.1.2.2, .int .i64 r.2] 66))
  go_wp2_with (at_builtin; refine wpList_append_one rfl _ _ 33 rfl M 66 i0 _ 40 Try.underlying33 hii hz0 hz1 hz2 rfl (by decide) rcs_len rcs_one L ⟨_, rfl, O2.out⟩ r (w.heap.size + 1) 1 rfl hCN.out (by omega) (by decide) (by simp; omega) ?_; intro v8 w8 ho8 hg8 hb8; obtain ⟨vp, vc, rfl⟩ := (OwnR.row (show OwnR w8 M v8 (L ++ [r]) from ho8)).form; have y0 := (B2.out.keep hb8 hB).1; have y1 := (B2.out.keep hb8 hB).2.1 0)
  have O8 : Hid (OwnR w8 M (.slice vp (L ++ [r]).length vc) (L ++ [r])) := Lib.hid ho8
  have B8 := Lib.hid ((B2.out.keep hb8 hB).store (.slice vp (L ++ [r]).length vc))
  have hMB : Hid (Below B w w8) := Lib.hid ((b2.mono (by omega)).trans (hb8.mono (by omega)))
  have hK := Lib.hid (show ∀ k, k < M → w8.heap[k]? = w.heap[k]? from fun k hk => (hb8.block k hk).trans (b2.block k (by omega)))
  clear ho8 hg8 hb8
  rw [show (L ++ [r]).length = L.length + 1 by simp] at O8 B8
  go_returns
  refine ⟨by simp, _, B8.out, O8.out.kept (grownBy_setCell w8 ⟨B, 0, none⟩ (.slice vp (L.length + 1) vc)) ?_, hMB.out.setCell (p := ⟨B, 0, none⟩) (Nat.le_refl _) _, fun k hk hne => (Below.heap_setCell _ _ _ k hne).trans (hK.out k hk)⟩
  cases hq : (Value.slice vp (L.length + 1) vc).ownBlock with
  | none => exact .inl rfl
  | some q =>
    refine .inr fun e => ?_
    have := (O8.out.lt q hq).1
    have e2 : q = B := by simpa using e
    omega
/-- All parts have hops, and not too many. -/
def FTok : FT → Prop
  | .leaf _ hs => hs ≠ [] ∧ hs.length ≤ 1000
  | .node _ hs a b => (hs ≠ [] ∧ hs.length ≤ 1000) ∧ FTok a ∧ FTok b
/-- What a call of eachRoute leaves. -/
abbrev EachOut (B M : Nat) (L : List RT) (w : World) (e : Ending) (w' : World) : Prop := e = .returned (.tuple #[]) ∧ (∃ sv', Box w' B sv' ∧ OwnR w' M sv' L) ∧ Below B w w' ∧ ∀ k, k < M → k ≠ B → w'.heap[k]? = w.heap[k]?
/-- The cells of a part and its hops, wherever the tree stands as it was. -/
theorem part_cells {W0 : World} {lo M : Nat} (hM : M = W0.heap.size) {b : Nat} {p : PK} {hv v1 v2 : Value} {hs : List Int} (hlb : lo ≤ b) (hbM : b < W0.heap.size) (rec : RecAt W0 b 0 (tcs p hv v1 v2)) (hop : HopAt W0 lo hv hs) (W : World) (hMW : M ≤ W.heap.size) (ag : (∀ k, lo ≤ k → k < M → W.heap[k]? = W0.heap[k]?)) :
    (W.cell? ⟨b, 0, none⟩ = some (.bool p.1) ∧ W.cell? ⟨b, 1, none⟩ = some (.int .u64 (aH p.2.1)) ∧ W.cell? ⟨b, 2, none⟩ = some (.int .u64 (aL p.2.1)) ∧ W.cell? ⟨b, 3, none⟩ = some (.int .i64 p.2.2) ∧ W.cell? ⟨b, 4, none⟩ = some (hv) ∧ W.cell? ⟨b, 5, none⟩ = some (v1) ∧ W.cell? ⟨b, 6, none⟩ = some (v2)) ∧ RowN W hv hs := by
  have r := rec.same (W' := W) (ag b hlb (by omega))
  have c := fun j u (hj : (tcs p hv v1 v2)[j]? = some u) => r j u hj
  simp only [Nat.zero_add] at c
  exact ⟨⟨c 0 _ rfl, c 1 _ rfl, c 2 _ rfl, c 3 _ rfl, c 4 _ rfl, c 5 _ rfl, c 6 _ rfl⟩, (hop.same (by omega) fun k h1 h2 => ag k h1 (by omega)).row⟩
set_option maxHeartbeats 4000000 in
set_option maxRecDepth 100000 in
theorem each_calls (B lo M : Nat) (W0 : World) (hBlo : B < lo) (hlM : lo ≤ M) (hM : M = W0.heap.size) : ∀ (t : FT) (v : Value) (h : Int) (L : List RT) (sv : Value) (w : World), TreeAt W0 lo t v → FTok t → M ≤ w.heap.size → (∀ k, lo ≤ k → k < M → w.heap[k]? = W0.heap[k]?) → Box w B sv → OwnR w M sv L → L.length + (ecT t h).length ≤ 99999 →
    Calls Try.prog 31 #[v, .int .i64 h, .func (.func 32) #[] #[.pointer (some ⟨B, 0, none⟩)]] w (EachOut B M (L ++ ecT t h) w) := by
  have EF := enters_of Try.func32 (by kernel_rfl) rfl
  intro t
  induction t with
  | leaf p hs =>
    intro v h L sv w tr ok hMw ag bx own hL
    obtain ⟨b, hv, rfl, hlb, hbM, rec, hop⟩ := tr
    obtain ⟨hne, hln⟩ := ok
    have PC := Lib.hid (part_cells hM hlb hbM rec hop)
    have HC := Lib.hid (fun (W : World) (r : RowN W hv hs) => hasN_calls hs hv h (by omega) W r)
    obtain ⟨g, o, c, rfl, _⟩ := hop
    have HAG := Lib.hid ag
    have HBX := Lib.hid bx
    have HOW := Lib.hid own
    obtain ⟨⟨x0, x1, x2, x3, x4, x5, x6⟩, R0⟩ := PC.out w hMw ag
    have HR := Lib.hid R0
    clear rec ag bx own R0
    by_cases hin : h ∈ hs
    · have HE := Lib.hid (show ecT (.leaf p hs) h = [] by rw [ecT]; simp only [if_pos hin, List.nil_append])
      rw [decide_eq_true hin] at HC
      obtain ⟨E, hE⟩ : ∃ E, ecT (.leaf p hs) h = E := ⟨_, rfl⟩
      rw [hE] at HE hL ⊢
      clear hE hin
      go_enter Try.func31, Try.ntmps31
      go_wp2_with fail
      refine (HC.out _ HR.out).mono ?_
      rintro e w1 ⟨rfl, hb1⟩
      have hM1 : M ≤ w1.heap.size := Nat.le_trans hMw hb1.size
      have ag1 := Lib.hid (show ∀ k, lo ≤ k → k < M → w1.heap[k]? = W0.heap[k]? from fun k h1 h2 => (hb1.block k (by omega)).trans (HAG.out k h1 h2))
      have s1 := Lib.hid (show ∀ k, k < M → k ≠ B → w1.heap[k]? = w.heap[k]? from fun k h1 _ => hb1.block k (by omega))
      have bx1 := Lib.hid (HBX.out.keep hb1 HBX.out.2.2)
      have ow1 := Lib.hid (ownsKeep HOW.out hb1)
      have g1 : Below B w w1 := hb1.mono (by omega)
      obtain ⟨⟨y0, y1, y2, y3, y4, y5, y6⟩, R1⟩ := PC.out w1 hM1 ag1.out
      clear HC HR hb1 R1 x0 x1 x2 x3 x4 x5 x6
      go_wp2_with fail
      go_returns
      exact ⟨by simp, ⟨sv, bx1.out, by rw [HE.out, List.append_nil]; exact ow1.out⟩, g1, s1.out⟩
    · have HE := Lib.hid (show ecT (.leaf p hs) h = (p, hs.headD 0) :: [] by rw [ecT]; simp only [if_neg hin]; first | done | rfl)
      rw [decide_eq_false hin] at HC
      obtain ⟨E, hE⟩ : ∃ E, ecT (.leaf p hs) h = E := ⟨_, rfl⟩
      rw [hE] at HE hL ⊢
      have hpos : 0 < hs.length := List.length_pos_iff.2 hne
      have hz : hs.headD 0 = hs[0] := by cases hs with | nil => exact absurd rfl hne | cons a t => rfl
      have CZ := Lib.hid (show ∀ W, RowN W (.slice (some ⟨g, o, none⟩) hs.length c) hs → W.cell? ⟨g, o, none⟩ = some (.int .i64 (hs.headD 0)) from fun W r => by
        obtain ⟨p', c', e1, _, at_⟩ := r.at
        obtain ⟨g', o', e2, _, hr⟩ := at_ 0 hpos
        injection e1 with e1 _ _
        rw [← e1] at e2
        injection e2 with e2
        injection e2 with e2 e3
        subst e2; subst e3
        have := intCell hr
        rw [hz]; simpa using this)
      obtain ⟨H, hH⟩ : ∃ z, hs.headD 0 = z := ⟨_, rfl⟩
      rw [hH] at HE CZ
      have hL1 : L.length ≤ 99998 := by have := congrArg List.length HE.out; rw [List.length_cons] at this; omega
      have F1 := Lib.hid (fun (W : World) (hMW : M ≤ W.heap.size) (bx : Box W B sv) (ow : OwnR W M sv L) => f1_calls B M (p, H) L sv W (by omega) hMW bx ow (by omega))
      have hposI : (0 : Int) < (hs.length : Int) := by omega
      clear hE hin hz hH
      go_enter Try.func31, Try.ntmps31
      go_wp2_with fail
      refine (HC.out _ HR.out).mono ?_
      rintro e w1 ⟨rfl, hb1⟩
      have hM1 : M ≤ w1.heap.size := Nat.le_trans hMw hb1.size
      have ag1 := Lib.hid (show ∀ k, lo ≤ k → k < M → w1.heap[k]? = W0.heap[k]? from fun k h1 h2 => (hb1.block k (by omega)).trans (HAG.out k h1 h2))
      have s1 := Lib.hid (show ∀ k, k < M → k ≠ B → w1.heap[k]? = w.heap[k]? from fun k h1 _ => hb1.block k (by omega))
      have bx1 := Lib.hid (HBX.out.keep hb1 HBX.out.2.2)
      have ow1 := Lib.hid (ownsKeep HOW.out hb1)
      have g1 : Below B w w1 := hb1.mono (by omega)
      obtain ⟨⟨y0, y1, y2, y3, y4, y5, y6⟩, R1⟩ := PC.out w1 hM1 ag1.out
      have yz := CZ.out w1 R1
      clear HC HR hb1 R1 x0 x1 x2 x3 x4 x5 x6 CZ
      go_wp2_with fail
      refine (F1.out _ hM1 bx1.out ow1.out).mono ?_
      rintro e w2 ⟨rfl, sv2, bx2, ow2, hb2, hs2⟩
      have ag2 := Lib.hid (show ∀ k, lo ≤ k → k < M → w2.heap[k]? = W0.heap[k]? from fun k h1 h2 => (hs2 k h2 (by omega)).trans (ag1.out k h1 h2))
      have hM2 : M ≤ w2.heap.size := Nat.le_trans hM1 hb2.size
      obtain ⟨⟨z0, z1, z2, z3, z4, z5, z6⟩, R2⟩ := PC.out w2 hM2 ag2.out
      have HB2 := Lib.hid bx2
      have HO2 := Lib.hid ow2
      have HS2 := Lib.hid hs2
      clear y0 y1 y2 y3 y4 y5 y6 yz R2 bx2 ow2 hs2 F1
      go_wp2_with fail
      go_returns
      exact ⟨by simp, ⟨sv2, HB2.out, by rw [HE.out]; exact HO2.out⟩, g1.trans hb2, fun k h1 h2 => (HS2.out k h1 h2).trans (s1.out k h1 h2)⟩
  | node p hs t1 t2 ih1 ih2 =>
    intro v h L sv w tr ok hMw ag bx own hL
    obtain ⟨b, hv, v1, v2, rfl, hlb, hbM, rec, hop, tr1, tr2⟩ := tr
    obtain ⟨⟨hne, hln⟩, ok1, ok2⟩ := ok
    obtain ⟨b7, _, rfl, _⟩ := tr1.hops
    obtain ⟨b8, _, rfl, _⟩ := tr2.hops
    have PC := Lib.hid (part_cells hM hlb hbM rec hop)
    have HC := Lib.hid (fun (W : World) (r : RowN W hv hs) => hasN_calls hs hv h (by omega) W r)
    obtain ⟨g, o, c, rfl, _⟩ := hop
    have HAG := Lib.hid ag
    have HBX := Lib.hid bx
    have HOW := Lib.hid own
    obtain ⟨⟨x0, x1, x2, x3, x4, x5, x6⟩, R0⟩ := PC.out w hMw ag
    have HR := Lib.hid R0
    have IH1 := Lib.hid (fun (h : Int) (L : List RT) (sv : Value) (W : World) (a b c d e) => ih1 _ h L sv W tr1 ok1 a b c d e)
    have IH2 := Lib.hid (fun (h : Int) (L : List RT) (sv : Value) (W : World) (a b c d e) => ih2 _ h L sv W tr2 ok2 a b c d e)
    clear ih1 ih2 tr1 tr2 ok1 ok2
    clear rec ag bx own R0
    by_cases hin : h ∈ hs
    · have HE := Lib.hid (show ecT (.node p hs t1 t2) h = ecT t1 h ++ ecT t2 h by rw [ecT]; simp only [if_pos hin, List.nil_append])
      rw [decide_eq_true hin] at HC
      obtain ⟨E, hE⟩ : ∃ E, ecT (.node p hs t1 t2) h = E := ⟨_, rfl⟩
      rw [hE] at HE hL ⊢
      clear hE hin
      go_enter Try.func31, Try.ntmps31
      go_wp2_with fail
      refine (HC.out _ HR.out).mono ?_
      rintro e w1 ⟨rfl, hb1⟩
      have hM1 : M ≤ w1.heap.size := Nat.le_trans hMw hb1.size
      have ag1 := Lib.hid (show ∀ k, lo ≤ k → k < M → w1.heap[k]? = W0.heap[k]? from fun k h1 h2 => (hb1.block k (by omega)).trans (HAG.out k h1 h2))
      have s1 := Lib.hid (show ∀ k, k < M → k ≠ B → w1.heap[k]? = w.heap[k]? from fun k h1 _ => hb1.block k (by omega))
      have bx1 := Lib.hid (HBX.out.keep hb1 HBX.out.2.2)
      have ow1 := Lib.hid (ownsKeep HOW.out hb1)
      have g1 : Below B w w1 := hb1.mono (by omega)
      obtain ⟨⟨y0, y1, y2, y3, y4, y5, y6⟩, R1⟩ := PC.out w1 hM1 ag1.out
      clear HC HR hb1 x0 x1 x2 x3 x4 x5 x6
      go_wp2_with fail
      refine (IH1.out h L sv w1 hM1 ag1.out bx1.out ow1.out (by have := congrArg List.length HE.out; rw [List.length_append] at this; (try simp only [List.length_append]); omega)).mono ?_
      rintro e w3 ⟨rfl, ⟨sv3, bx3, ow3⟩, hb3, hs3⟩
      have ag3 := Lib.hid (show ∀ k, lo ≤ k → k < M → w3.heap[k]? = W0.heap[k]? from fun k h1 h2 => (hs3 k h2 (by omega)).trans (ag1.out k h1 h2))
      have hM3 : M ≤ w3.heap.size := Nat.le_trans hM1 hb3.size
      obtain ⟨⟨t0, t1_, t2_, t3, t4, t5, t6⟩, R3⟩ := PC.out w3 hM3 ag3.out
      have HB3 := Lib.hid bx3
      have HO3 := Lib.hid ow3
      have s3 := Lib.hid (show ∀ k, k < M → k ≠ B → w3.heap[k]? = w.heap[k]? from fun k h1 h2 => (hs3 k h1 h2).trans (s1.out k h1 h2))
      have g3 : Below B w w3 := g1.trans hb3
      clear bx3 ow3 hs3 hb3 R3 IH1 y0 y1 y2 y3 y4 y5 y6 R1
      go_wp2_with fail
      refine (IH2.out h (L ++ ecT t1 h) sv3 w3 hM3 ag3.out HB3.out HO3.out (by have := congrArg List.length HE.out; rw [List.length_append] at this; (try simp only [List.length_append]); omega)).mono ?_
      rintro e w4 ⟨rfl, ⟨sv4, bx4, ow4⟩, hb4, hs4⟩
      have g4 : Below B w w4 := g3.trans hb4
      have HB4 := Lib.hid bx4
      have HO4 := Lib.hid ow4
      have HS4 := Lib.hid hs4
      clear bx4 ow4 hs4 IH2 t0 t1_ t2_ t3 t4 t5 t6
      go_wp2_with fail
      go_returns
      exact ⟨by simp, ⟨sv4, HB4.out, by rw [HE.out, ← List.append_assoc]; exact HO4.out⟩, g4, fun k h1 h2 => (HS4.out k h1 h2).trans (s3.out k h1 h2)⟩
    · have HE := Lib.hid (show ecT (.node p hs t1 t2) h = (p, hs.headD 0) :: (ecT t1 (hs.headD 0) ++ ecT t2 (hs.headD 0)) by rw [ecT]; simp only [if_neg hin]; first | done | rfl)
      rw [decide_eq_false hin] at HC
      obtain ⟨E, hE⟩ : ∃ E, ecT (.node p hs t1 t2) h = E := ⟨_, rfl⟩
      rw [hE] at HE hL ⊢
      have hpos : 0 < hs.length := List.length_pos_iff.2 hne
      have hz : hs.headD 0 = hs[0] := by cases hs with | nil => exact absurd rfl hne | cons a t => rfl
      have CZ := Lib.hid (show ∀ W, RowN W (.slice (some ⟨g, o, none⟩) hs.length c) hs → W.cell? ⟨g, o, none⟩ = some (.int .i64 (hs.headD 0)) from fun W r => by
        obtain ⟨p', c', e1, _, at_⟩ := r.at
        obtain ⟨g', o', e2, _, hr⟩ := at_ 0 hpos
        injection e1 with e1 _ _
        rw [← e1] at e2
        injection e2 with e2
        injection e2 with e2 e3
        subst e2; subst e3
        have := intCell hr
        rw [hz]; simpa using this)
      obtain ⟨H, hH⟩ : ∃ z, hs.headD 0 = z := ⟨_, rfl⟩
      rw [hH] at HE CZ
      have hL1 : L.length ≤ 99998 := by have := congrArg List.length HE.out; rw [List.length_cons] at this; omega
      have F1 := Lib.hid (fun (W : World) (hMW : M ≤ W.heap.size) (bx : Box W B sv) (ow : OwnR W M sv L) => f1_calls B M (p, H) L sv W (by omega) hMW bx ow (by omega))
      have hposI : (0 : Int) < (hs.length : Int) := by omega
      clear hE hin hz hH
      go_enter Try.func31, Try.ntmps31
      go_wp2_with fail
      refine (HC.out _ HR.out).mono ?_
      rintro e w1 ⟨rfl, hb1⟩
      have hM1 : M ≤ w1.heap.size := Nat.le_trans hMw hb1.size
      have ag1 := Lib.hid (show ∀ k, lo ≤ k → k < M → w1.heap[k]? = W0.heap[k]? from fun k h1 h2 => (hb1.block k (by omega)).trans (HAG.out k h1 h2))
      have s1 := Lib.hid (show ∀ k, k < M → k ≠ B → w1.heap[k]? = w.heap[k]? from fun k h1 _ => hb1.block k (by omega))
      have bx1 := Lib.hid (HBX.out.keep hb1 HBX.out.2.2)
      have ow1 := Lib.hid (ownsKeep HOW.out hb1)
      have g1 : Below B w w1 := hb1.mono (by omega)
      obtain ⟨⟨y0, y1, y2, y3, y4, y5, y6⟩, R1⟩ := PC.out w1 hM1 ag1.out
      have yz := CZ.out w1 R1
      clear HC HR hb1 R1 x0 x1 x2 x3 x4 x5 x6 CZ
      go_wp2_with fail
      refine (F1.out _ hM1 bx1.out ow1.out).mono ?_
      rintro e w2 ⟨rfl, sv2, bx2, ow2, hb2, hs2⟩
      have ag2 := Lib.hid (show ∀ k, lo ≤ k → k < M → w2.heap[k]? = W0.heap[k]? from fun k h1 h2 => (hs2 k h2 (by omega)).trans (ag1.out k h1 h2))
      have hM2 : M ≤ w2.heap.size := Nat.le_trans hM1 hb2.size
      obtain ⟨⟨z0, z1, z2, z3, z4, z5, z6⟩, R2⟩ := PC.out w2 hM2 ag2.out
      have HB2 := Lib.hid bx2
      have HO2 := Lib.hid ow2
      have HS2 := Lib.hid hs2
      clear y0 y1 y2 y3 y4 y5 y6 yz R2 bx2 ow2 hs2 F1
      have g2 : Below B w w2 := g1.trans hb2
      have s2 := Lib.hid (show ∀ k, k < M → k ≠ B → w2.heap[k]? = w.heap[k]? from fun k h1 h2 => (HS2.out k h1 h2).trans (s1.out k h1 h2))
      go_wp2_with fail
      refine (IH1.out H (L ++ [(p, H)]) sv2 w2 hM2 ag2.out HB2.out HO2.out (by have := congrArg List.length HE.out; rw [List.length_cons, List.length_append] at this; (try simp only [List.length_append, List.length_cons, List.length_nil]); omega)).mono ?_
      rintro e w3 ⟨rfl, ⟨sv3, bx3, ow3⟩, hb3, hs3⟩
      have ag3 := Lib.hid (show ∀ k, lo ≤ k → k < M → w3.heap[k]? = W0.heap[k]? from fun k h1 h2 => (hs3 k h2 (by omega)).trans (ag2.out k h1 h2))
      have hM3 : M ≤ w3.heap.size := Nat.le_trans hM2 hb3.size
      obtain ⟨⟨t0, t1_, t2_, t3, t4, t5, t6⟩, R3⟩ := PC.out w3 hM3 ag3.out
      have HB3 := Lib.hid bx3
      have HO3 := Lib.hid ow3
      have s3 := Lib.hid (show ∀ k, k < M → k ≠ B → w3.heap[k]? = w.heap[k]? from fun k h1 h2 => (hs3 k h1 h2).trans (s2.out k h1 h2))
      have g3 : Below B w w3 := g2.trans hb3
      clear bx3 ow3 hs3 hb3 R3 IH1 z0 z1 z2 z3 z4 z5 z6
      go_wp2_with fail
      refine (IH2.out H ((L ++ [(p, H)]) ++ ecT t1 H) sv3 w3 hM3 ag3.out HB3.out HO3.out (by have := congrArg List.length HE.out; rw [List.length_cons, List.length_append] at this; (try simp only [List.length_append, List.length_cons, List.length_nil]); omega)).mono ?_
      rintro e w4 ⟨rfl, ⟨sv4, bx4, ow4⟩, hb4, hs4⟩
      have g4 : Below B w w4 := g3.trans hb4
      have HB4 := Lib.hid bx4
      have HO4 := Lib.hid ow4
      have HS4 := Lib.hid hs4
      clear bx4 ow4 hs4 IH2 t0 t1_ t2_ t3 t4 t5 t6
      go_wp2_with fail
      go_returns
      exact ⟨by simp, ⟨sv4, HB4.out, by rw [HE.out, show L ++ (p, H) :: (ecT t1 H ++ ecT t2 H) = L ++ [(p, H)] ++ ecT t1 H ++ ecT t2 H by simp]; exact HO4.out⟩, g4, fun k h1 h2 => (HS4.out k h1 h2).trans (s3.out k h1 h2)⟩
end Go.Proofs.Ytgajepmnklbmpaa
/-
  Plain mathematics: how many routes the parts of a table may need, at most.
-/
namespace Go.Proofs.Ytgajepmnklbmpaa
open Go.RowKit
set_option linter.unusedVariables false
set_option linter.unusedSimpArgs false
theorem FTok_dvT (s : Bool) {l : List RT} (hl : l.length ≤ 900) : ∀ (k x : Nat) (a : Int), FTok (dvT s l k x a) := by
  have one : ∀ (k x : Nat) (a : Int), (dvT s l k x a).hs ≠ [] ∧ (dvT s l k x a).hs.length ≤ 1000 := fun k x a => ⟨dvT_ne s l k x a, by have := dvT_len s l k x a; omega⟩
  intro k
  induction k with
  | zero => intro x a; have := one 0 x a; rw [dvT] at this ⊢; exact this
  | succ k ih =>
    intro x a
    have := one (k + 1) x a
    rw [dvT] at this ⊢
    split
    · rename_i h
      rw [if_pos h] at this
      exact ⟨this, ih _ _, ih _ _⟩
    · rename_i h
      rw [if_neg h] at this
      exact this
def ndT : FT → Nat
  | .leaf _ _ => 1
  | .node _ _ a b => 1 + ndT a + ndT b
theorem ec_nd : ∀ (t : FT) (h : Int), (ecT t h).length ≤ ndT t
  | .leaf p hs, h => by
    rw [ecT, ndT]
    split <;> simp
  | .node p hs a b, h => by
    rw [ecT, ndT, List.length_append, List.length_append]
    have h1 := ec_nd a (if h ∈ hs then h else hs.headD 0)
    have h2 := ec_nd b (if h ∈ hs then h else hs.headD 0)
    have h3 : (if h ∈ hs then ([] : List RT) else [(p, hs.headD 0)]).length ≤ 1 := by split <;> simp
    omega
theorem filter_two {α : Type} (P Q : α → Bool) : ∀ (l : List α), (∀ x ∈ l, P x = true → Q x = false) → (l.filter P).length + (l.filter Q).length ≤ l.length
  | [], _ => by simp
  | a :: l, h => by
    have ih := filter_two P Q l fun x hx => h x (by simp [hx])
    have ha := h a (by simp)
    cases hp : P a with
    | true =>
      rw [List.filter_cons_of_pos hp, List.filter_cons_of_neg (by rw [ha hp]; decide), List.length_cons, List.length_cons]; omega
    | false =>
      rw [List.filter_cons_of_neg (by rw [hp]; decide)]
      cases hq : Q a with
      | true => rw [List.filter_cons_of_pos hq, List.length_cons, List.length_cons]; omega
      | false => rw [List.filter_cons_of_neg (by rw [hq]; decide), List.length_cons]; omega
theorem lng_two {s : Bool} {l : List RT} (hv : ValR l) {k x : Nat} (hk : k + 1 ≤ wideN s) : (lngR s x k l).length + (lngR s (x + 2 ^ k) k l).length ≤ (lngR s x (k + 1) l).length := by
  have sub : ∀ x', (x' = x ∨ x' = x + 2 ^ k) → lngR s x' k l = (lngR s x (k + 1) l).filter fun r => !decide (r.1 = pkB s x' k) && ovR s x' k r := fun x' hx => by
    unfold lngR
    rw [List.filter_filter]
    refine List.filter_congr fun r hr => ?_
    cases h : ovR s x' k r with
    | false => simp
    | true =>
      obtain ⟨h1, h2⟩ := ov_child hk hx (hv r hr) h
      rw [h1, decide_eq_false h2]; simp
  rw [sub x (.inl rfl), sub (x + 2 ^ k) (.inr rfl)]
  refine filter_two _ _ _ fun r _ h => ?_
  rw [Bool.and_eq_true, ovR_iff] at h
  rw [Bool.and_eq_false_iff]
  refine .inr ?_
  rw [← Bool.not_eq_true, ovR_iff]
  rintro ⟨_, h2, h3⟩
  have := h.2.2
  have hp : 0 < 2 ^ kR r := Nat.two_pow_pos _
  omega
theorem nd_le {s : Bool} {l : List RT} (hv : ValR l) : ∀ (k x : Nat) (a : Int), k ≤ wideN s → ndT (dvT s l k x a) ≤ 1 + 2 * k * (lngR s x k l).length
  | 0, x, a, _ => by rw [dvT, ndT]; omega
  | k + 1, x, a, hk => by
    rw [dvT]
    by_cases hd : deepR s x (k + 1) l = true
    · rw [if_pos hd, ndT]
      have h1 := nd_le (s := s) hv k x (atH (pkB s x (k + 1)) l a) (by omega)
      have h2 := nd_le (s := s) hv k (x + 2 ^ k) (atH (pkB s x (k + 1)) l a) (by omega)
      have h3 := lng_two hv (x := x) hk
      have hpos : 0 < (lngR s x (k + 1) l).length := by
        refine List.length_pos_iff.2 fun h => ?_
        rw [(lng_deep s x (k + 1) l).1 h] at hd; cases hd
      generalize (lngR s x k l).length = p at h1 h3
      generalize (lngR s (x + 2 ^ k) k l).length = q at h2 h3
      generalize (lngR s x (k + 1) l).length = m at h3 hpos ⊢
      have e1 : 2 * k * p + 2 * k * q = 2 * k * (p + q) := by rw [Nat.mul_add]
      have e2 : 2 * k * (p + q) ≤ 2 * k * m := Nat.mul_le_mul_left _ h3
      have e3 : 2 * (k + 1) * m = 2 * k * m + 2 * m := by rw [Nat.mul_add, Nat.add_mul]
      omega
    · rw [if_neg hd, ndT]; omega
/-- The routes of a table of the fewest. -/
def fwL (l : List RT) : List RT := ecT (dvT false l 32 0 0) 0
theorem fw_len {l : List RT} (hv : ValR l) (hl : l.length ≤ 60) : (fwL l).length ≤ 99999 := by
  have h1 := ec_nd (dvT false l 32 0 0) 0
  have h2 := nd_le (s := false) hv 32 0 0 (by decide)
  have h3 := lng_len false 0 32 l
  have h4 : 2 * 32 * (lngR false 0 32 l).length ≤ 2 * 32 * 60 := Nat.mul_le_mul_left _ (by omega)
  unfold fwL
  omega
end Go.Proofs.Ytgajepmnklbmpaa
/-
  Plain mathematics: no table that goes the same ways has fewer routes than Fewest makes.
-/
namespace Go.Proofs.Ytgajepmnklbmpaa
open Go.RowKit
set_option linter.unusedVariables false
set_option linter.unusedSimpArgs false
theorem headD_mem {l : List Int} (h : l ≠ []) : l.headD 0 ∈ l := by
  cases l with
  | nil => exact absurd rfl h
  | cons a t => exact List.mem_cons_self ..
/-- The fewest routes that a part needs, under one of its best hops. -/
def muT (t : FT) : Nat := (ecT t (t.hs.headD 0)).length
/-- The best hops are those of the halves. -/
def GoodT : FT → Prop
  | .leaf _ hs => hs ≠ []
  | .node _ hs a b => hs = bestL a.hs b.hs ∧ GoodT a ∧ GoodT b
theorem GoodT.ne : ∀ {t : FT}, GoodT t → t.hs ≠ []
  | .leaf _ _, h => h
  | .node _ hs a b, h => by
    show hs ≠ []
    rw [h.1]; exact bestL_ne (GoodT.ne h.2.1)
theorem dvT_good (s : Bool) (l : List RT) : ∀ (k x : Nat) (a : Int), GoodT (dvT s l k x a)
  | 0, x, a => by rw [dvT]; show [atH (pkB s x 0) l a] ≠ []; simp
  | k + 1, x, a => by
    rw [dvT]
    split
    · exact ⟨rfl, dvT_good s l k _ _, dvT_good s l k _ _⟩
    · show [atH (pkB s x (k + 1)) l a] ≠ []; simp
def outN (z : Int) (hs : List Int) : Nat := if z ∈ hs then 0 else 1
def sepN (a b : List Int) : Nat := if (a.filter fun h => decide (h ∈ b)) = [] then 1 else 0
theorem both_in {a b : List Int} {z : Int} (h : z ∈ bestL a b) : outN z a + outN z b = sepN a b := by
  unfold bestL at h
  unfold sepN outN
  split at h
  · rename_i he
    rw [if_pos he]
    rw [List.filter_eq_nil_iff] at he
    rcases List.mem_append.1 h with h | h
    · have : z ∉ b := by have := he z h; simpa using this
      rw [if_pos h, if_neg this]
    · have : z ∉ a := fun ha => by have := he z ha; simp [h] at this
      rw [if_neg this, if_pos h]
  · rename_i he
    rw [if_neg he]
    obtain ⟨h1, h2⟩ := List.mem_filter.1 h
    rw [if_pos h1, if_pos (of_decide_eq_true h2)]
theorem both_any (a b : List Int) (z : Int) : sepN a b + outN z (bestL a b) ≤ outN z a + outN z b := by
  by_cases h : z ∈ bestL a b
  · rw [both_in h, show outN z (bestL a b) = 0 by rw [outN, if_pos h]]; omega
  · rw [show outN z (bestL a b) = 1 by rw [outN, if_neg h]]
    unfold bestL at h
    unfold sepN outN
    split at h
    · rename_i he
      rw [if_pos he]
      rw [List.mem_append, not_or] at h
      rw [if_neg h.1, if_neg h.2]; omega
    · rename_i he
      rw [if_neg he]
      by_cases ha : z ∈ a
      · have : z ∉ b := fun hb => h (List.mem_filter.2 ⟨ha, decide_eq_true hb⟩)
        rw [if_pos ha, if_neg this]; omega
      · rw [if_neg ha]; omega
theorem cost : ∀ (t : FT), GoodT t → (∀ z, (ecT t z).length = muT t + outN z t.hs) ∧ (∀ p hs a b, t = .node p hs a b → muT t = muT a + muT b + sepN a.hs b.hs)
  | .leaf p hs, h => by
    have hm := headD_mem (l := hs) h
    have h0 : muT (.leaf p hs) = 0 := by
      show (ecT (.leaf p hs) (hs.headD 0)).length = 0
      rw [ecT, if_pos hm]; rfl
    refine ⟨fun z => ?_, fun _ _ _ _ e => by cases e⟩
    rw [h0, ecT]
    show (if z ∈ hs then ([] : List RT) else [(p, hs.headD 0)]).length = 0 + outN z hs
    unfold outN
    split <;> simp
  | .node p hs a b, h => by
    obtain ⟨e, ga, gb⟩ := h
    have ca := (cost a ga).1
    have cb := (cost b gb).1
    have hne : hs ≠ [] := by rw [e]; exact bestL_ne ga.ne
    have inn : ∀ z, z ∈ hs → (ecT a z ++ ecT b z).length = muT a + muT b + sepN a.hs b.hs := fun z hz => by
      rw [e] at hz
      rw [List.length_append, ca, cb, ← both_in hz]; omega
    have hm := headD_mem hne
    have h0 : muT (.node p hs a b) = muT a + muT b + sepN a.hs b.hs := by
      show (ecT (.node p hs a b) (hs.headD 0)).length = _
      rw [ecT]
      simp only [if_pos hm, List.nil_append]
      exact inn _ hm
    refine ⟨fun z => ?_, fun p' hs' a' b' e' => by cases e'; exact h0⟩
    rw [h0, ecT]
    show _ = _ + outN z hs
    by_cases hz : z ∈ hs
    · simp only [if_pos hz, List.nil_append]
      rw [inn z hz, show outN z hs = 0 by rw [outN, if_pos hz]]; omega
    · simp only [if_neg hz]
      rw [List.length_append, inn _ hm, show outN z hs = 1 by rw [outN, if_neg hz]]
      simp; omega
theorem cost_node {p : PK} {hs : List Int} {a b : FT} (h : GoodT (.node p hs a b)) (z d : Int) : (ecT (.node p hs a b) z).length ≤ (ecT a z).length + (ecT b z).length ∧ (ecT (.node p hs a b) z).length ≤ 1 + (ecT a d).length + (ecT b d).length := by
  obtain ⟨e, ga, gb⟩ := id h
  have c := cost _ h
  have m := c.2 p hs a b rfl
  rw [c.1 z, m, (cost a ga).1, (cost b gb).1, (cost a ga).1, (cost b gb).1]
  show _ + outN z hs ≤ _ ∧ _ + outN z hs ≤ _
  have h1 := both_any a.hs b.hs z
  have h2 := both_any a.hs b.hs d
  rw [← e] at h1 h2
  have h3 : outN z hs ≤ 1 := by unfold outN; split <;> omega
  omega
theorem ov_two {s : Bool} {m : List RT} (hv : ValR m) {k x : Nat} (hk : k + 1 ≤ wideN s) : (m.filter (ovR s x k)).length + (m.filter (ovR s (x + 2 ^ k) k)).length ≤ (lngR s x (k + 1) m).length := by
  have sub : ∀ x', (x' = x ∨ x' = x + 2 ^ k) → m.filter (ovR s x' k) = (lngR s x (k + 1) m).filter (ovR s x' k) := fun x' hx => by
    unfold lngR
    rw [List.filter_filter]
    refine List.filter_congr fun r hr => ?_
    cases h : ovR s x' k r with
    | false => simp
    | true =>
      obtain ⟨h1, h2⟩ := ov_child hk hx (hv r hr) h
      rw [h1, decide_eq_false h2]; simp
  rw [sub x (.inl rfl), sub (x + 2 ^ k) (.inr rfl)]
  refine filter_two _ _ _ fun r _ h => ?_
  rw [ovR_iff] at h
  rw [← Bool.not_eq_true, ovR_iff]
  rintro ⟨_, h2, h3⟩
  have := h.2.2
  have hp : 0 < 2 ^ kR r := Nat.two_pow_pos _
  omega
theorem lng_ov {s : Bool} {m : List RT} (hv : ValR m) {k x : Nat} (hk : k ≤ wideN s) : (lngR s x k m).length ≤ (m.filter (ovR s x k)).length ∧ ((∃ r ∈ m, r.1 = pkB s x k) → (lngR s x k m).length + 1 ≤ (m.filter (ovR s x k)).length) := by
  have e1 : lngR s x k m = (m.filter (ovR s x k)).filter fun r => !decide (r.1 = pkB s x k) := by unfold lngR; rw [List.filter_filter]
  refine ⟨by rw [e1]; exact List.length_filter_le .., ?_⟩
  rintro ⟨r, hr, e⟩
  have h2 := filter_two (fun r => !decide (r.1 = pkB s x k)) (fun r => decide (r.1 = pkB s x k)) (m.filter (ovR s x k)) fun x _ h => by simpa using h
  have h3 : 0 < ((m.filter (ovR s x k)).filter fun r => decide (r.1 = pkB s x k)).length := List.length_pos_of_mem (List.mem_filter.2 ⟨List.mem_filter.2 ⟨hr, ov_self hk (hv r hr) e⟩, decide_eq_true e⟩)
  rw [e1]; omega
/-- No table that goes the same ways within a block has fewer routes there. -/
theorem fw_min {s : Bool} {l m : List RT} (hl : ValR l) (dl : DistR l) (hm : ValR m) (dm : DistR m) : ∀ (k x : Nat) (a b : Int), AL s x k → (∀ y, inB x k y → goB s x k l a y = goB s x k m b y) → (ecT (dvT s l k x a) b).length ≤ (m.filter (ovR s x k)).length := by
  have leaf : ∀ (k x : Nat) (a b : Int), AL s x k → deepR s x k l = false → (∀ y, inB x k y → goB s x k l a y = goB s x k m b y) → (ecT (dvT s l k x a) b).length ≤ (m.filter (ovR s x k)).length := by
    intro k x a b hA hd h
    have e0 : dvT s l k x a = .leaf (pkB s x k) [atH (pkB s x k) l a] := by
      cases k with
      | zero => rw [dvT]
      | succ k => rw [dvT, hd]; rfl
    rw [e0, ecT]
    by_cases hb : b ∈ [atH (pkB s x k) l a]
    · rw [if_pos hb]; simp
    · rw [if_neg hb]
      show 1 ≤ _
      rcases Nat.eq_zero_or_pos (m.filter (ovR s x k)).length with h0 | h0
      · exfalso
        have h1 := h x (inB_self x k)
        rw [go_shallow hl dl hA.1 hd a (inB_self x k), goB, List.eq_nil_of_length_eq_zero h0] at h1
        exact hb (by rw [h1]; simp)
      · exact h0
  intro k
  induction k with
  | zero => intro x a b hA h; exact leaf 0 x a b hA (deep_zero hl) h
  | succ k ih =>
    intro x a b hA h
    by_cases hd : deepR s x (k + 1) l = true
    · have g := dvT_good s l (k + 1) x a
      have e0 : dvT s l (k + 1) x a = .node (pkB s x (k + 1)) (bestL (dvT s l k x (atH (pkB s x (k + 1)) l a)).hs (dvT s l k (x + 2 ^ k) (atH (pkB s x (k + 1)) l a)).hs) (dvT s l k x (atH (pkB s x (k + 1)) l a)) (dvT s l k (x + 2 ^ k) (atH (pkB s x (k + 1)) l a)) := by rw [dvT, if_pos hd]
      rw [e0] at g ⊢
      have i1 := ih x (atH (pkB s x (k + 1)) l a) (atH (pkB s x (k + 1)) m b) hA.low fun y hy => by
        rw [← go_half hl dl hA hA.low (.inl rfl) a hy, ← go_half hm dm hA hA.low (.inl rfl) b hy]; exact h y (inB_low hy)
      have i2 := ih (x + 2 ^ k) (atH (pkB s x (k + 1)) l a) (atH (pkB s x (k + 1)) m b) hA.high fun y hy => by
        rw [← go_half hl dl hA hA.high (.inr rfl) a hy, ← go_half hm dm hA hA.high (.inr rfl) b hy]; exact h y (inB_high hy)
      have c := cost_node g b (atH (pkB s x (k + 1)) m b)
      have t := ov_two hm (x := x) hA.1
      have v := lng_ov hm (x := x) hA.1
      rcases atH_or (p := pkB s x (k + 1)) dm b with ⟨e, hno⟩ | ⟨r, hr, ek, e⟩
      · rw [e] at i1 i2
        have := c.1
        have := v.1
        omega
      · have := c.2
        have := v.2 ⟨r, hr, ek⟩
        omega
    · exact leaf (k + 1) x a b hA (by simpa using hd) h
end Go.Proofs.Ytgajepmnklbmpaa
/-
  fewest.divide.
-/
namespace Go.Proofs.Ytgajepmnklbmpaa
open Go.RowKit
set_option linter.unusedVariables false
set_option linter.unusedSimpArgs false
theorem cvM_calls {x k : Nat} (hA : AL false x k) (r : RT) (hc : chkE r.1.1 r.1.2.1 r.1.2.2 = 0) (h6 : r.1.1 = false) (w : World) :
    Calls Try.prog 45 #[.agg #[.bool false, .int .u64 (aH x), .int .u64 (aL x), .int .i64 ((wideN false - k : Nat) : Int)], .agg #[.bool r.1.1, .int .u64 (aH r.1.2.1), .int .u64 (aL r.1.2.1), .int .i64 r.1.2.2]] w fun e w' => e = .returned (.tuple #[.bool (ovR false x k r), .int .i64 0]) ∧ Below w.heap.size w w' := by
  obtain ⟨hB, e⟩ := al_of hc
  have ho : ovR false x k r = cov x k r.1.2.1 (kR r) := by rw [ovR, decide_eq_true h6, Bool.true_and]
  rw [ho, e]
  rw [h6] at hB ⊢
  exact covers_al hA hB _ rfl w
theorem part_at (W : World) (p : PK) (hv v1 v2 : Value) (t : TypeId) : RecAt (W.alloc (.cells (tcs p hv v1 v2).toArray t)) W.heap.size 0 (tcs p hv v1 v2) := fun j u hj => by
  have := cell_new W (tcs p hv v1 v2) t j u hj
  simpa using this
theorem leaf_at (W : World) (lo : Nat) (p : PK) (z : Int) (hl : lo ≤ W.heap.size) :
    TreeAt ((W.alloc (.cells #[.int .i64 z] 3)).alloc (.cells #[.bool p.1, .int .u64 (aH p.2.1), .int .u64 (aL p.2.1), .int .i64 p.2.2, .slice (some ⟨W.heap.size, 0, none⟩) 1 1, .pointer none, .pointer none] 80)) lo (.leaf p [z]) (.pointer (some ⟨W.heap.size + 1, 0, none⟩)) := by
  have H : HopAt (W.alloc (.cells #[.int .i64 z] 3)) lo (.slice (some ⟨W.heap.size, 0, none⟩) 1 1) [z] := ⟨W.heap.size, 0, 1, rfl, hl, by simp, by simp, fun i hi j u hj => by
    have hi0 : i = 0 := by simp at hi; omega
    subst hi0
    have := cell_new W [Value.int .i64 z] 3 j u hj
    simpa using this⟩
  have P := part_at (W.alloc (.cells #[.int .i64 z] 3)) p (.slice (some ⟨W.heap.size, 0, none⟩) 1 1) (.pointer none) (.pointer none) 80
  have hs : (W.alloc (.cells #[.int .i64 z] 3)).heap.size = W.heap.size + 1 := by simp
  rw [hs] at P
  have b := (Below.refl (W.alloc (.cells #[.int .i64 z] 3)).heap.size (W.alloc (.cells #[.int .i64 z] 3))).alloc (Nat.le_refl _) (.cells #[.bool p.1, .int .u64 (aH p.2.1), .int .u64 (aL p.2.1), .int .i64 p.2.2, .slice (some ⟨W.heap.size, 0, none⟩) 1 1, .pointer none, .pointer none] 80)
  exact ⟨W.heap.size + 1, _, rfl, by omega, by simp, P, H.same b.size fun k _ hk => b.block k hk⟩
theorem node_at (W : World) (lo : Nat) (p : PK) (hv v1 v2 : Value) (hs : List Int) (T1 T2 : FT) (hl : lo ≤ W.heap.size) (H : HopAt W lo hv hs) (t1 : TreeAt W lo T1 v1) (t2 : TreeAt W lo T2 v2) :
    TreeAt (W.alloc (.cells #[.bool p.1, .int .u64 (aH p.2.1), .int .u64 (aL p.2.1), .int .i64 p.2.2, hv, v1, v2] 80)) lo (.node p hs T1 T2) (.pointer (some ⟨W.heap.size, 0, none⟩)) := by
  have b := (Below.refl W.heap.size W).alloc (Nat.le_refl _) (.cells #[.bool p.1, .int .u64 (aH p.2.1), .int .u64 (aL p.2.1), .int .i64 p.2.2, hv, v1, v2] 80)
  exact ⟨W.heap.size, hv, v1, v2, rfl, hl, by simp, part_at W p hv v1 v2 80, H.same b.size fun k _ hk => b.block k hk, t1.keep b, t2.keep b⟩
theorem dvT_leaf {s : Bool} {l : List RT} (k x : Nat) (a : Int) (h : deepR s x k l = false) : dvT s l k x a = .leaf (pkB s x k) [atH (pkB s x k) l a] := by
  cases k with
  | zero => rw [dvT]
  | succ k => rw [dvT, h]; rfl
theorem dvT_node {s : Bool} {l : List RT} (k x : Nat) (a : Int) (h : deepR s x (k + 1) l = true) : dvT s l (k + 1) x a = .node (pkB s x (k + 1)) (bestL (dvT s l k x (atH (pkB s x (k + 1)) l a)).hs (dvT s l k (x + 2 ^ k) (atH (pkB s x (k + 1)) l a)).hs) (dvT s l k x (atH (pkB s x (k + 1)) l a)) (dvT s l k (x + 2 ^ k) (atH (pkB s x (k + 1)) l a)) := by
  rw [dvT, if_pos h]
set_option maxHeartbeats 8000000 in
set_option maxRecDepth 100000 in
theorem divide_calls : ∀ (k x : Nat) (a : Int) (l : List RT) (v : Value) (w : World), ValR l → (∀ r ∈ l, r.1.1 = false) → l.length ≤ 60 → AL false x k → RowR w v l →
    Calls Try.prog 30 #[.agg #[.bool false, .int .u64 (aH x), .int .u64 (aL x), .int .i64 ((wideN false - k : Nat) : Int)], .int .i64 a, v] w fun e w' => ∃ u, e = .returned u ∧ TreeAt w' w.heap.size (dvT false l k x a) u ∧ Below w.heap.size w w' := by
  intro k
  induction k using Nat.strongRecOn with
  | _ k ih =>
    intro x a l v w hv h6 hl hA row
    have IH := Lib.hid ih
    have HA := Lib.hid hA
    have CV := Lib.hid (fun (r : RT) (hc : chkE r.1.1 r.1.2.1 r.1.2.2 = 0) (h : r.1.1 = false) (W : World) => cvM_calls hA r hc h W)
    have HV := Lib.hid (And.intro hv h6)
    obtain ⟨i0, hii, hz0, hz1, hz2⟩ := info_parts info_route
    have IN := Lib.hid (And.intro hii (And.intro hz0 (And.intro hz1 hz2)))
    obtain ⟨p1, q1, rfl, _, at1⟩ := row.at
    have AT := Lib.hid at1
    obtain ⟨n, hn⟩ : ∃ n, l.length = n := ⟨_, rfl⟩
    have HN := Lib.hid hn
    rw [hn] at hl ⊢
    obtain ⟨q, hq⟩ : ∃ q : Nat, wideN false - k = q := ⟨_, rfl⟩
    rw [hq] at CV ⊢
    have HQ := Lib.hid hq
    have PB := PreAt.new w false (aH x) (aL x) (q : Int) 63
    have bB := (Below.refl w.heap.size w).alloc (Nat.le_refl _) (.cells #[.bool false, .int .u64 (aH x), .int .u64 (aL x), .int .i64 (q : Int)] 63)
    have hp : pkB false x k = (false, x, (q : Int)) := by rw [pkB, hq]
    have HP := Lib.hid hp
    obtain ⟨T, hT⟩ : ∃ T, dvT false l k x a = T := ⟨_, rfl⟩
    have HT := Lib.hid hT
    rw [hT]
    clear ih hA row at1 hn hq hp hv h6 hT hii hz0 hz1 hz2
    go_enter Try.func30, Try.ntmps30
    go_wp2_with fail
    have hYs : w.heap.size < (w.alloc (.cells #[.bool false, .int .u64 (aH x), .int .u64 (aL x), .int .i64 (q : Int)] 63)).heap.size := by simp
    revert PB bB hYs
    generalize w.alloc (.cells #[.bool false, .int .u64 (aH x), .int .u64 (aL x), .int .i64 (q : Int)] 63) = Y
    intro PY bY hYs
    obtain ⟨bp, hbp⟩ : ∃ b, w.heap.size = b := ⟨_, rfl⟩
    rw [hbp] at PY hYs ⊢
    have HBP := Lib.hid hbp
    clear hbp
    go_loopw [1, 7, 19] (fun hp u i wr => ∃ j : Nat, j ≤ n ∧ hp = .int .i64 (atH (pkB false x k) (l.take j) a) ∧ i = .int .i64 j ∧ Below Y.heap.size Y wr ∧ Hid (OwnR wr Y.heap.size u (lngR false x k (l.take j)))) (fun _ _ i _ => n - (intOf i).toNat)
    case atStart => exact ⟨0, by omega, rfl, rfl, Below.refl _ _, Lib.hid (World.ownsRow_nil _ _ _ _)⟩
    case round =>
      obtain ⟨j, hj, rfl, rfl, BJ, OW⟩ := hrel
      by_cases hlt : j < n
      · have hjl : j < l.length := by rw [HN.out]; exact hlt
        obtain ⟨g, o, rfl, hg, hrec⟩ := AT.out j hjl
        obtain ⟨x0, x1, x2, x3, x4⟩ := routeCells (hrec.keep (thenBelow bY BJ) hg)
        obtain ⟨y0, y1, y2, y3, yl⟩ := PY.keep BJ
        have HTA := Lib.hid (atH_take (p := pkB false x k) (a := a) hjl)
        have HTD := Lib.hid (lng_take (s := false) (x := x) (k := k) hjl)
        have hc := HV.out.1 _ (List.getElem_mem hjl)
        have hc6 := HV.out.2 _ (List.getElem_mem hjl)
        have hcll : (lngR false x k (l.take j)).length ≤ 1000 := by have := lng_len false x k (l.take j); rw [List.length_take] at this; omega
        generalize l[j] = r at x0 x1 x2 x3 x4 HTA HTD hc hc6
        have OVr := Lib.hid (fun (W : World) => CV.out r hc hc6 W)
        have hltj : (j : Int) < (n : Int) := by omega
        have hne : ¬ bp = wr.heap.size := by omega
        obtain ⟨cl, hcl⟩ : ∃ cl, lngR false x k (l.take j) = cl := ⟨_, rfl⟩
        rw [hcl] at OW HTD hcll
        have hnJ := BJ.alloc BJ.size (.cells #[.bool r.1.1, .int .u64 (aH r.1.2.1), .int .u64 (aL r.1.2.1), .int .i64 r.1.2.2, .int .i64 r.2] 66)
        have ODJ := Lib.hid (OW.out.alloc (.cells #[.bool r.1.1, .int .u64 (aH r.1.2.1), .int .u64 (aL r.1.2.1), .int .i64 r.1.2.2, .int .i64 r.2] 66))
        clear hrec hc hc6 hcl
        rcases pk_cases r.1 (false, x, (q : Int)) with e | e | ⟨e1, e⟩ | ⟨e1, e2, e⟩ | ⟨e1, e2, e3, e⟩
        · have ek : r.1 = pkB false x k := e.trans HP.out.symm
          rw [if_pos ek] at HTA
          have HT2 : Hid (lngR false x k (l.take (j + 1)) = cl) := Lib.hid (by rw [HTD.out, decide_eq_true ek]; simp)
          have e0 : r.1.1 = false := by rw [e]
          have e1 : r.1.2.1 = x := by rw [e]
          have e2 : r.1.2.2 = (q : Int) := by rw [e]
          rw [e0, e1, e2] at hnJ ODJ
          rw [e0] at x0
          rw [e1] at x1 x2
          rw [e2] at x3
          clear e ek OVr HTD OW
          go_wp2_with fail
          go_roundw
          case rel => exact ⟨j + 1, by omega, by rw [HTA.out], by go_num, hnJ, Lib.hid (by rw [HT2.out]; exact ODJ.out)⟩
          case measure => simp [intOf]; omega
        all_goals
          have ek : ¬ r.1 = pkB false x k := fun h => by rw [h, HP.out] at e; simp at e
          rw [if_neg ek] at HTA
          rw [decide_eq_false ek, Bool.not_false, Bool.true_and] at HTD
          clear ek
          simp only at e
          try (have e1b : (r.1.1 == false) = true := (by rw [e1]; rfl))
          try (have e2b : (aH r.1.2.1 == aH x) = true := (by rw [e2]; exact beq_self_eq_true (aH x)))
          try (have e3b : (aL r.1.2.1 == aL x) = true := (by rw [e3]; exact beq_self_eq_true (aL x)))
          try clear e1
          try clear e2
          try clear e3
          have CN := cell_new wr (rcs r) 66
          have z0 : (wr.alloc (.cells #[.bool r.1.1, .int .u64 (aH r.1.2.1), .int .u64 (aL r.1.2.1), .int .i64 r.1.2.2, .int .i64 r.2] 66)).cell? ⟨wr.heap.size, 0, none⟩ = some (.bool r.1.1) := CN 0 _ rfl
          have z1 : (wr.alloc (.cells #[.bool r.1.1, .int .u64 (aH r.1.2.1), .int .u64 (aL r.1.2.1), .int .i64 r.1.2.2, .int .i64 r.2] 66)).cell? ⟨wr.heap.size, 1, none⟩ = some (.int .u64 (aH r.1.2.1)) := CN 1 _ rfl
          have z2 : (wr.alloc (.cells #[.bool r.1.1, .int .u64 (aH r.1.2.1), .int .u64 (aL r.1.2.1), .int .i64 r.1.2.2, .int .i64 r.2] 66)).cell? ⟨wr.heap.size, 2, none⟩ = some (.int .u64 (aL r.1.2.1)) := CN 2 _ rfl
          have z3 : (wr.alloc (.cells #[.bool r.1.1, .int .u64 (aH r.1.2.1), .int .u64 (aL r.1.2.1), .int .i64 r.1.2.2, .int .i64 r.2] 66)).cell? ⟨wr.heap.size, 3, none⟩ = some (.int .i64 r.1.2.2) := CN 3 _ rfl
          have z4 : (wr.alloc (.cells #[.bool r.1.1, .int .u64 (aH r.1.2.1), .int .u64 (aL r.1.2.1), .int .i64 r.1.2.2, .int .i64 r.2] 66)).cell? ⟨wr.heap.size, 4, none⟩ = some (.int .i64 r.2) := CN 4 _ rfl
          clear CN
          have hb0 : wr.heap.size < (wr.alloc (.cells #[.bool r.1.1, .int .u64 (aH r.1.2.1), .int .u64 (aL r.1.2.1), .int .i64 r.1.2.2, .int .i64 r.2] 66)).heap.size := by simp
          go_wp2_with fail
          refine (OVr.out _).mono ?_
          rintro e' w5 ⟨rfl, hb5⟩
          have hn5 := thenBelow hnJ hb5
          have OD5 := Lib.hid (ownsKeep ODJ.out hb5)
          have k0 := (hb5.cell (p := ⟨wr.heap.size, 0, none⟩) hb0).trans z0
          have k1 := (hb5.cell (p := ⟨wr.heap.size, 1, none⟩) hb0).trans z1
          have k2 := (hb5.cell (p := ⟨wr.heap.size, 2, none⟩) hb0).trans z2
          have k3 := (hb5.cell (p := ⟨wr.heap.size, 3, none⟩) hb0).trans z3
          have k4 := (hb5.cell (p := ⟨wr.heap.size, 4, none⟩) hb0).trans z4
          generalize ovR false x k r = ov at HTD
          clear OVr hb5 hnJ x0 x1 x2 x3 x4 y0 y1 y2 y3 hne z0 z1 z2 z3 z4 hb0 ODJ OW
          cases ov
          · have HT2 : Hid (lngR false x k (l.take (j + 1)) = cl) := Lib.hid (by rw [HTD.out]; simp)
            clear HTD
            go_wp2_with fail
            go_roundw
            case rel => exact ⟨j + 1, by omega, by rw [HTA.out], by go_num, hn5, Lib.hid (by rw [HT2.out]; exact OD5.out)⟩
            case measure => simp [intOf]; omega
          · have HT2 : Hid (lngR false x k (l.take (j + 1)) = cl ++ [r]) := Lib.hid (by rw [HTD.out]; simp)
            have OD3 := Lib.hid (OD5.out.alloc (.cells #[.bool r.1.1, .int .u64 (aH r.1.2.1), .int .u64 (aL r.1.2.1), .int .i64 r.1.2.2, .int .i64 r.2] 66))
            have hCN := Lib.hid (cell_new w5 (rcs r) 66)
            have hnA := hn5.alloc hn5.size (.cells #[.bool r.1.1, .int .u64 (aH r.1.2.1), .int .u64 (aL r.1.2.1), .int .i64 r.1.2.2, .int .i64 r.2] 66)
            have hsz5 := hn5.size
            clear HTD OD5 hn5
            obtain ⟨hii, hz0, hz1, hz2⟩ := IN.out
            go_wp2_with (at_builtin; refine wpList_append_one rfl _ _ 33 rfl Y.heap.size 66 i0 _ 40 Try.underlying33 hii hz0 hz1 hz2 rfl (by decide) rcs_len rcs_one cl ⟨_, rfl, OD3.out⟩ r w5.heap.size 1 rfl hCN.out (by omega) (by decide) (by simp; omega) ?_; intro v8 w8 ho8 hg8 hb8)
            have hn8 := hnA.trans hb8
            have OD8 := Lib.hid ho8
            clear ho8 hg8 hb8 hnA OD3 hCN
            go_roundw
            case rel => exact ⟨j + 1, by omega, by rw [HTA.out], by go_num, hn8, Lib.hid (by rw [HT2.out]; exact OD8.out)⟩
            case measure => simp [intOf]; omega
      · obtain rfl : j = n := by omega
        have e1 : l.take j = l := by rw [← HN.out]; exact List.take_length
        rw [e1] at OW
        rw [e1]
        obtain ⟨A1, hA1⟩ : ∃ z, atH (pkB false x k) l a = z := ⟨_, rfl⟩
        have HA1 := Lib.hid hA1
        rw [hA1]
        obtain ⟨y0, y1, y2, y3, yl⟩ := PY.keep BJ
        have hnR := thenBelow bY BJ
        obtain ⟨op, oc, rfl⟩ := OW.out.row.form
        clear e1 hA1 AT CV PY bY hlt
        by_cases hd : lngR false x k l = []
        · have hdp : deepR false x k l = false := (lng_deep false x k l).1 hd
          have HT2 : Hid (T = .leaf (pkB false x k) [A1]) := Lib.hid (by rw [← HT.out, dvT_leaf k x a hdp, HA1.out])
          rw [hd] at OW ⊢
          simp only [List.length_nil]
          clear hd hdp IH HV
          have hs0 := hnR.size
          have TL := leaf_at wr w.heap.size (pkB false x k) A1 hs0
          have hbZ := (hnR.alloc hnR.size (.cells #[.int .i64 A1] 3)).alloc (by simp; omega) (.cells #[.bool false, .int .u64 (aH x), .int .u64 (aL x), .int .i64 (q : Int), .slice (some ⟨wr.heap.size, 0, none⟩) 1 1, .pointer none, .pointer none] 80)
          rw [HP.out] at TL HT2
          have HTL := Lib.hid TL
          clear TL
          go_wp2_with fail
          go_ret
          exact ⟨_, rfl, by rw [HT2.out]; exact HTL.out, hbZ⟩
        · have hdp : deepR false x k l = true := by
            rw [← Bool.not_eq_false]; exact fun h => hd ((lng_deep false x k l).2 h)
          have hk0 : k ≠ 0 := fun h0 => by
            subst h0
            rw [deep_zero HV.out.1] at hdp; cases hdp
          obtain ⟨k', hk'⟩ : ∃ k', k = k' + 1 := ⟨k - 1, by omega⟩
          subst hk'
          have hpos : (lngR false x (k' + 1) l).length ≠ 0 := fun h => hd (List.eq_nil_of_length_eq_zero h)
          have hlg := lng_len false x (k' + 1) l
          rw [HN.out] at hlg
          have LV := Lib.hid (lng_val (s := false) (x := x) (k := k' + 1) HV.out.1)
          have L6 := Lib.hid (show ∀ r ∈ lngR false x (k' + 1) l, r.1.1 = false from fun r hr => HV.out.2 r (List.mem_filter.1 hr).1)
          have PHC := Lib.hid (fun (W : World) => halves_al HA.out W)
          rw [HQ.out] at PHC
          have IHl := Lib.hid (fun (v : Value) (W : World) (r : RowR W v (lngR false x (k' + 1) l)) => IH.out k' (by omega) x A1 (lngR false x (k' + 1) l) v W LV.out L6.out (by omega) HA.out.low r)
          have IHh := Lib.hid (fun (v : Value) (W : World) (r : RowR W v (lngR false x (k' + 1) l)) => IH.out k' (by omega) (x + 2 ^ k') A1 (lngR false x (k' + 1) l) v W LV.out L6.out (by omega) HA.out.high r)
          rw [dvT_low HV.out.1 HA.out.1 (.inl rfl)] at IHl
          rw [dvT_low HV.out.1 HA.out.1 (.inr rfl)] at IHh
          have HT2 : Hid (T = .node (pkB false x (k' + 1)) (bestL (dvT false l k' x A1).hs (dvT false l k' (x + 2 ^ k') A1).hs) (dvT false l k' x A1) (dvT false l k' (x + 2 ^ k') A1)) := Lib.hid (by rw [← HT.out, dvT_node k' x a hdp, HA1.out])
          have BC := Lib.hid (fun (v1 v2 : Value) (W : World) (r1 : RowN W v1 (dvT false l k' x A1).hs) (r2 : RowN W v2 (dvT false l k' (x + 2 ^ k') A1).hs) => best_calls _ _ v1 v2 (by have := dvT_len false l k' x A1; rw [HN.out] at this; omega) (by have := dvT_len false l k' (x + 2 ^ k') A1; rw [HN.out] at this; omega) (dvT_ne false l k' x A1) (dvT_ne false l k' (x + 2 ^ k') A1) W r1 r2)
          have NE := Lib.hid (bestL_ne (b := (dvT false l k' (x + 2 ^ k') A1).hs) (dvT_ne false l k' x A1))
          obtain ⟨q2', hq2'⟩ : ∃ z : Nat, wideN false - k' = z := ⟨_, rfl⟩
          rw [hq2'] at PHC IHl IHh
          generalize dvT false l k' x A1 = T1 at IHl HT2 BC NE
          generalize dvT false l k' (x + 2 ^ k') A1 = T2 at IHh HT2 BC NE
          obtain ⟨xh, hxh⟩ : ∃ z, x + 2 ^ k' = z := ⟨_, rfl⟩
          rw [hxh] at PHC IHh
          have RL := Lib.hid OW.out.row
          obtain ⟨m, hm⟩ : ∃ m, (lngR false x (k' + 1) l).length = m := ⟨_, rfl⟩
          rw [hm] at hpos hlg RL ⊢
          have hm0 : ((m : Int) == 0) = false := by simp; omega
          clear hd hdp IH HV HA HQ hk0 hq2' hxh OW LV L6 HT hm
          go_wp2_with fail
          refine (PHC.out _).mono ?_
          rintro e w5 ⟨rfl, hb5⟩
          have hn5 := thenBelow hnR hb5
          have b5 := (hb5.alloc hb5.size (.cells #[.bool false, .int .u64 (aH x), .int .u64 (aL x), .int .i64 (q2' : Int)] 63)).alloc (by have := hb5.size; simp; omega) (.cells #[.bool false, .int .u64 (aH xh), .int .u64 (aL xh), .int .i64 (q2' : Int)] 63)
          have n5 := (hn5.alloc hn5.size (.cells #[.bool false, .int .u64 (aH x), .int .u64 (aL x), .int .i64 (q2' : Int)] 63)).alloc (by have := hn5.size; simp; omega) (.cells #[.bool false, .int .u64 (aH xh), .int .u64 (aL xh), .int .i64 (q2' : Int)] 63)
          have CL0 : ∀ (t : Nat) u, ([.bool false, .int .u64 (aH x), .int .u64 (aL x), .int .i64 (q2' : Int)] : List Value)[t]? = some u → ((w5.alloc (.cells #[.bool false, .int .u64 (aH x), .int .u64 (aL x), .int .i64 (q2' : Int)] 63)).alloc (.cells #[.bool false, .int .u64 (aH xh), .int .u64 (aL xh), .int .i64 (q2' : Int)] 63)).cell? ⟨w5.heap.size, t, none⟩ = some u := fun t u hu =>
            ((((Below.refl (w5.alloc (.cells #[.bool false, .int .u64 (aH x), .int .u64 (aL x), .int .i64 (q2' : Int)] 63)).heap.size _).alloc (Nat.le_refl _) (.cells #[.bool false, .int .u64 (aH xh), .int .u64 (aL xh), .int .i64 (q2' : Int)] 63)).cell (p := ⟨w5.heap.size, t, none⟩) (by simp)).trans (cell_new w5 [.bool false, .int .u64 (aH x), .int .u64 (aL x), .int .i64 (q2' : Int)] 63 t u hu))
          have CH0 : ∀ (t : Nat) u, ([.bool false, .int .u64 (aH xh), .int .u64 (aL xh), .int .i64 (q2' : Int)] : List Value)[t]? = some u → ((w5.alloc (.cells #[.bool false, .int .u64 (aH x), .int .u64 (aL x), .int .i64 (q2' : Int)] 63)).alloc (.cells #[.bool false, .int .u64 (aH xh), .int .u64 (aL xh), .int .i64 (q2' : Int)] 63)).cell? ⟨w5.heap.size + 1, t, none⟩ = some u := fun t u hu => by
            have := cell_new (w5.alloc (.cells #[.bool false, .int .u64 (aH x), .int .u64 (aL x), .int .i64 (q2' : Int)] 63)) [.bool false, .int .u64 (aH xh), .int .u64 (aL xh), .int .i64 (q2' : Int)] 63 t u hu
            simpa using this
          have hsY : w5.heap.size + 2 = ((w5.alloc (.cells #[.bool false, .int .u64 (aH x), .int .u64 (aL x), .int .i64 (q2' : Int)] 63)).alloc (.cells #[.bool false, .int .u64 (aH xh), .int .u64 (aL xh), .int .i64 (q2' : Int)] 63)).heap.size := by simp
          go_upto_region 14 with fail
          revert b5 n5 CL0 CH0 hsY
          generalize (w5.alloc (.cells #[.bool false, .int .u64 (aH x), .int .u64 (aL x), .int .i64 (q2' : Int)] 63)).alloc (.cells #[.bool false, .int .u64 (aH xh), .int .u64 (aL xh), .int .i64 (q2' : Int)] 63) = Z
          intro b5 n5 CL0 CH0 hsY
          have HBB := Lib.hid (show ∀ W, Below Z.heap.size Z W → W.cell? ⟨w5.heap.size, 0, none⟩ = some (.bool false) ∧ W.cell? ⟨w5.heap.size, 1, none⟩ = some (.int .u64 (aH x)) ∧ W.cell? ⟨w5.heap.size, 2, none⟩ = some (.int .u64 (aL x)) ∧ W.cell? ⟨w5.heap.size, 3, none⟩ = some (.int .i64 (q2' : Int)) ∧ W.cell? ⟨w5.heap.size + 1, 0, none⟩ = some (.bool false) ∧ W.cell? ⟨w5.heap.size + 1, 1, none⟩ = some (.int .u64 (aH xh)) ∧ W.cell? ⟨w5.heap.size + 1, 2, none⟩ = some (.int .u64 (aL xh)) ∧ W.cell? ⟨w5.heap.size + 1, 3, none⟩ = some (.int .i64 (q2' : Int)) from fun W hW =>
            ⟨(hW.cell (p := ⟨w5.heap.size, 0, none⟩) (by show w5.heap.size < Z.heap.size; omega)).trans (CL0 0 _ rfl), (hW.cell (p := ⟨w5.heap.size, 1, none⟩) (by show w5.heap.size < Z.heap.size; omega)).trans (CL0 1 _ rfl), (hW.cell (p := ⟨w5.heap.size, 2, none⟩) (by show w5.heap.size < Z.heap.size; omega)).trans (CL0 2 _ rfl), (hW.cell (p := ⟨w5.heap.size, 3, none⟩) (by show w5.heap.size < Z.heap.size; omega)).trans (CL0 3 _ rfl), (hW.cell (p := ⟨w5.heap.size + 1, 0, none⟩) (by show w5.heap.size + 1 < Z.heap.size; omega)).trans (CH0 0 _ rfl), (hW.cell (p := ⟨w5.heap.size + 1, 1, none⟩) (by show w5.heap.size + 1 < Z.heap.size; omega)).trans (CH0 1 _ rfl), (hW.cell (p := ⟨w5.heap.size + 1, 2, none⟩) (by show w5.heap.size + 1 < Z.heap.size; omega)).trans (CH0 2 _ rfl), (hW.cell (p := ⟨w5.heap.size + 1, 3, none⟩) (by show w5.heap.size + 1 < Z.heap.size; omega)).trans (CH0 3 _ rfl)⟩)
          have RZ := Lib.hid (RL.out.keep b5)
          have hZs : w.heap.size ≤ Z.heap.size := n5.size
          have BZ := Lib.hid b5
          clear CL0 CH0 hsY hb5 hn5 RL b5 PHC
          have tokd : True := trivial
          go_region_held3 (fun w' => w'.cell? ⟨w5.heap.size, 0, none⟩ = some (.bool false) ∧ w'.cell? ⟨w5.heap.size, 1, none⟩ = some (.int .u64 (aH x)) ∧ w'.cell? ⟨w5.heap.size, 2, none⟩ = some (.int .u64 (aL x)) ∧ w'.cell? ⟨w5.heap.size, 3, none⟩ = some (.int .i64 (q2' : Int)) ∧ w'.cell? ⟨w5.heap.size + 1, 0, none⟩ = some (.bool false) ∧ w'.cell? ⟨w5.heap.size + 1, 1, none⟩ = some (.int .u64 (aH xh)) ∧ w'.cell? ⟨w5.heap.size + 1, 2, none⟩ = some (.int .u64 (aL xh)) ∧ w'.cell? ⟨w5.heap.size + 1, 3, none⟩ = some (.int .i64 (q2' : Int)))
            (first
              | exact HBB.out _ ((Below.refl _ Z).drew)
              | exact HBB.out _ B8
              | exact HBB.out _ B7
              | fail)
            (first
              | (have _t := tokd; go_at_call 30; refine (IHl.out _ _ (RZ.out.keep ((Below.refl _ Z).drew))).mono ?_; rintro e w7 ⟨u7, rfl, t7, hb7⟩; have B7 : Below Z.heap.size Z w7 := thenBelow ((Below.refl _ Z).drew) hb7; obtain ⟨b7, hv7, rfl, hlo7, hlt7, hc7, hh7⟩ := t7.hops; clear tokd)
              | (go_at_call 30; refine (IHh.out _ _ (RZ.out.keep B7)).mono ?_; rintro e w8 ⟨u8, rfl, t8, hb8⟩; have B8 : Below Z.heap.size Z w8 := thenBelow B7 hb8; obtain ⟨b8, hv8, rfl, hlo8, hlt8, hc8, hh8⟩ := t8.hops)
              | fail)
          all_goals
            have b8_ : Below wr.heap.size wr w8 := BZ.out.trans (B8.mono BZ.out.size)
            have H2 := Lib.hid (show ∀ W, Below w8.heap.size w8 W → W.cell? ⟨bp, 0, none⟩ = some (.bool false) ∧ W.cell? ⟨bp, 1, none⟩ = some (.int .u64 (aH x)) ∧ W.cell? ⟨bp, 2, none⟩ = some (.int .u64 (aL x)) ∧ W.cell? ⟨bp, 3, none⟩ = some (.int .i64 (q : Int)) ∧ W.cell? ⟨b7, 4, none⟩ = some hv7 ∧ W.cell? ⟨b8, 4, none⟩ = some hv8 from fun W hW =>
              have g := b8_.trans (hW.mono b8_.size)
              ⟨(g.cell (p := ⟨bp, 0, none⟩) yl).trans y0, (g.cell (p := ⟨bp, 1, none⟩) yl).trans y1, (g.cell (p := ⟨bp, 2, none⟩) yl).trans y2, (g.cell (p := ⟨bp, 3, none⟩) yl).trans y3, ((thenBelow hb8 hW).cell (p := ⟨b7, 4, none⟩) hlt7).trans hc7, (hW.cell (p := ⟨b8, 4, none⟩) hlt8).trans hc8⟩)
            have T7 := Lib.hid (TreeAt.low (Nat.le_trans hZs (Below.refl Z.heap.size Z).drew.size) _ _ (t7.keep hb8))
            have T8 := Lib.hid (TreeAt.low (Nat.le_trans hZs B7.size) _ _ t8)
            have R7 := Lib.hid ((hh7.same hb8.size fun b _ hb => hb8.block b hb).row)
            have R8 := Lib.hid hh8.row
            have n8 : Below w.heap.size w w8 := n5.trans (B8.mono hZs)
            have hs8 : w.heap.size ≤ w8.heap.size := n8.size
            clear t7 t8 hh7 hh8 hb7 hb8 hc7 hc8 hlo7 hlo8 B7 B8 HBB RZ y0 y1 y2 y3 b8_ n5 BZ IHl IHh
            go_upto_region 15 with fail
            go_region_held3 (fun w' => w'.cell? ⟨bp, 0, none⟩ = some (.bool false) ∧ w'.cell? ⟨bp, 1, none⟩ = some (.int .u64 (aH x)) ∧ w'.cell? ⟨bp, 2, none⟩ = some (.int .u64 (aL x)) ∧ w'.cell? ⟨bp, 3, none⟩ = some (.int .i64 (q : Int)) ∧ w'.cell? ⟨b7, 4, none⟩ = some hv7 ∧ w'.cell? ⟨b8, 4, none⟩ = some hv8)
              (first
                | exact H2.out _ ((Below.refl _ w8).drew)
                | exact H2.out _ B9
                | exact H2.out _ (B9.alloc B9.size _)
                | fail)
              (first
                | (go_at_call 47; refine (BC.out _ _ _ (R7.out.keep ((Below.refl _ w8).drew)) (R8.out.keep ((Below.refl _ w8).drew))).mono ?_; rintro e w9 ⟨u9, rfl, o9, hb9⟩; obtain ⟨p9, c9, rfl⟩ := (OwnN.row o9).form; have B9 : Below w8.heap.size w8 w9 := thenBelow ((Below.refl _ w8).drew) hb9)
                | fail)
            all_goals
              have H9 : HopAt w9 w.heap.size (.slice p9 (bestL T1.hs T2.hs).length c9) (bestL T1.hs T2.hs) := (HopAt.owned o9 NE.out).low hs8
              have hs9 : w.heap.size ≤ w9.heap.size := Nat.le_trans hs8 B9.size
              have TN := node_at w9 w.heap.size (pkB false x (k' + 1)) (.slice p9 (bestL T1.hs T2.hs).length c9) _ _ _ T1 T2 hs9 H9 (T7.out.keep B9) (T8.out.keep B9)
              have n9 := thenBelow n8 B9
              rw [HP.out] at TN HT2
              have HTN := Lib.hid TN
              have nZ := n9.alloc hs9 (.cells #[.bool false, .int .u64 (aH x), .int .u64 (aL x), .int .i64 (q : Int), .slice p9 (bestL T1.hs T2.hs).length c9, .pointer (some ⟨b7, 0, none⟩), .pointer (some ⟨b8, 0, none⟩)] 80)
              clear TN H9 o9 hb9 B9 T7 T8 R7 R8 H2 BC
              go_wp2_with fail
              go_ret
              exact ⟨_, rfl, by rw [HT2.out]; exact HTN.out, nZ⟩
end Go.Proofs.Ytgajepmnklbmpaa
/-
  fewest.Fewest.
-/
namespace Go.Proofs.Ytgajepmnklbmpaa
open Go.RowKit
set_option linter.unusedVariables false
set_option linter.unusedSimpArgs false
set_option maxHeartbeats 4000000 in
set_option maxRecDepth 100000 in
theorem fcheck_calls (l : List RT) (v : Value) (hlen : l.length ≤ 9223372036854775807) (hw : WordsR l) (w : World) (row : RowR w v l) :
    Calls Try.prog 29 #[v] w fun e w' => e = .returned (.int .i64 (fwE l)) ∧ Below w.heap.size w w' := by
  have C1 := Lib.hid (tableCheck_calls l v hlen hw w row)
  have R := Lib.hid row
  obtain ⟨p, c, rfl⟩ := row.form
  clear row
  by_cases h0 : tabE l = 0
  · have ll := (tabE_val h0).2.2
    have K1 := Lib.hid (fun (W : World) (r : RowR W (.slice p l.length c) l) => containsR_calls l _ 43 #[] (fun r => r.1.1) (by omega) W r (enters_of Try.func43 (by kernel_rfl) rfl) (Lib.hid fun c _ W _ => fck1_calls c W))
    have K2 := Lib.hid (fun (W : World) (r : RowR W (.slice p l.length c) l) => containsR_calls l _ 44 #[] (fun r => decide (r.1 = (false, 0, 0))) (by omega) W r (enters_of Try.func44 (by kernel_rfl) rfl) (Lib.hid fun c _ W _ => fck2_calls c W))
    have HE := Lib.hid (show fwE l = if (l.any fun r => r.1.1) = true then 6 else if (l.any fun r => decide (r.1 = (false, 0, 0))) = true then 0 else 7 by rw [fwE, if_pos h0])
    obtain ⟨E, hE⟩ : ∃ E, fwE l = E := ⟨_, rfl⟩
    rw [hE] at HE ⊢
    rw [h0] at C1
    generalize l.any (fun r => r.1.1) = a1 at K1 HE
    generalize l.any (fun r => decide (r.1 = (false, 0, 0))) = a2 at K2 HE
    clear hE h0
    cases a1 with
    | true =>
      have hE6 := Lib.hid (show E = 6 from HE.out)
      clear HE K2
      go_enter Try.func29, Try.ntmps29
      go_wp2_with fail
      refine C1.out.mono ?_
      rintro e w1 ⟨rfl, hb1⟩
      have R1 := Lib.hid (R.out.keep hb1)
      go_wp2_with fail
      refine (K1.out _ R1.out).mono ?_
      rintro e w2 ⟨rfl, hb2⟩
      have b2 := thenBelow hb1 hb2
      clear C1 K1 hb1 hb2
      go_wp2
      go_ret
      exact ⟨by rw [hE6.out]; (first | done | rfl), b2⟩
    | false =>
      cases a2 with
      | true =>
        have hE6 := Lib.hid (show E = 0 from HE.out)
        clear HE
        go_enter Try.func29, Try.ntmps29
        go_wp2_with fail
        refine C1.out.mono ?_
        rintro e w1 ⟨rfl, hb1⟩
        have R1 := Lib.hid (R.out.keep hb1)
        go_wp2_with fail
        refine (K1.out _ R1.out).mono ?_
        rintro e w2 ⟨rfl, hb2⟩
        have b2 := thenBelow hb1 hb2
        have R2 := Lib.hid (R1.out.keep hb2)
        clear C1 K1 hb1 hb2
        go_wp2_with fail
        refine (K2.out _ R2.out).mono ?_
        rintro e w3 ⟨rfl, hb3⟩
        have b3 := thenBelow b2 hb3
        clear K2 hb3
        go_wp2
        go_ret
        exact ⟨by rw [hE6.out]; (first | done | rfl), b3⟩
      | false =>
        have hE6 := Lib.hid (show E = 7 from HE.out)
        clear HE
        go_enter Try.func29, Try.ntmps29
        go_wp2_with fail
        refine C1.out.mono ?_
        rintro e w1 ⟨rfl, hb1⟩
        have R1 := Lib.hid (R.out.keep hb1)
        go_wp2_with fail
        refine (K1.out _ R1.out).mono ?_
        rintro e w2 ⟨rfl, hb2⟩
        have b2 := thenBelow hb1 hb2
        have R2 := Lib.hid (R1.out.keep hb2)
        clear C1 K1 hb1 hb2
        go_wp2_with fail
        refine (K2.out _ R2.out).mono ?_
        rintro e w3 ⟨rfl, hb3⟩
        have b3 := thenBelow b2 hb3
        clear K2 hb3
        go_wp2
        go_ret
        exact ⟨by rw [hE6.out]; (first | done | rfl), b3⟩
  · have HE := Lib.hid (show fwE l = tabE l by rw [fwE, if_neg h0])
    obtain ⟨E, hE⟩ : ∃ E, fwE l = E := ⟨_, rfl⟩
    rw [hE] at HE ⊢
    generalize tabE l = t at C1 h0 HE
    have hz1 : (t == 0) = false := by simpa using h0
    have hz2 : (t != 0) = true := by simp [bne, hz1]
    clear hE
    go_enter Try.func29, Try.ntmps29
    go_wp2_with fail
    refine C1.out.mono ?_
    rintro e w1 ⟨rfl, hb1⟩
    clear C1
    go_wp2
    go_ret
    exact ⟨by rw [HE.out]; (first | done | rfl), hb1⟩
theorem AL.top32 : AL false 0 32 := ⟨by decide, by decide, 0, by decide⟩
set_option maxHeartbeats 4000000 in
set_option maxRecDepth 100000 in
theorem fewest_ok (l : List RT) (v : Value) (h0 : fwE l = 0) (hw : WordsR l) (w : World) (row : RowR w v l) :
    Calls Try.prog 17 #[v] w fun e w' => ∃ u, e = .returned (.tuple #[u, .int .i64 0]) ∧ OwnR w' w.heap.size u (fwL l) ∧ Below w.heap.size w w' := by
  have ht : tabE l = 0 := by
    unfold fwE at h0
    split at h0
    · assumption
    · rename_i h; exact absurd h0 h
  have hv := (tabE_val ht).1
  have ll := (tabE_val ht).2.2
  have h6 : ∀ r ∈ l, r.1.1 = false := fun r hr => by
    unfold fwE at h0
    rw [if_pos ht] at h0
    split at h0
    · cases h0
    · rename_i h
      cases hs : r.1.1 with
      | false => rfl
      | true => exact absurd (List.any_eq_true.2 ⟨r, hr, hs⟩) h
  have bA := (Below.refl w.heap.size w).alloc (Nat.le_refl _) (.cells #[.slice none 0 0] 33)
  have C1 := Lib.hid (fun (W : World) (r : RowR W v l) => fcheck_calls l v (by omega) hw W r)
  rw [h0] at C1
  have DV := Lib.hid (fun (W : World) (r : RowR W v l) => divide_calls 32 0 0 l v W hv h6 ll AL.top32 r)
  rw [show ((wideN false - 32 : Nat) : Int) = 0 by decide, show aH 0 = 0 by unfold aH; simp, show aL 0 = 0 by unfold aL; simp] at DV
  have FT0 := Lib.hid (FTok_dvT false (by omega : l.length ≤ 900) 32 0 0)
  have FL := Lib.hid (fw_len hv ll)
  have HF := Lib.hid (show fwL l = ecT (dvT false l 32 0 0) 0 from rfl)
  obtain ⟨Z, hZ⟩ : ∃ Z, fwL l = Z := ⟨_, rfl⟩
  rw [hZ] at FL HF ⊢
  generalize dvT false l 32 0 0 = T at DV FT0 HF
  have EC := Lib.hid (fun (B lo M : Nat) (W0 : World) a b c => each_calls B lo M W0 a b c T)
  have R := Lib.hid row
  obtain ⟨p, c, rfl⟩ := row.form
  clear row hZ
  go_enter Try.func17, Try.ntmps17
  go_wp2_with fail
  refine (C1.out _ R.out).mono ?_
  rintro e w1 ⟨rfl, hb1⟩
  have bX := (Below.refl w1.heap.size w1).alloc (Nat.le_refl _) (.cells #[.slice none 0 0] 33)
  have R1 := Lib.hid (R.out.keep (thenBelow hb1 bX))
  have BX := Box.new w1 (.slice none 0 0) 33
  have hsz : (w1.alloc (.cells #[.slice none 0 0] 33)).heap.size = w1.heap.size + 1 := by simp
  clear C1 R bA
  go_wp2_with fail
  refine (DV.out _ R1.out).mono ?_
  rintro e w2 ⟨u2, rfl, tr, hb2⟩
  have b2 : Below w.heap.size w w2 := thenBelow hb1 (thenBelow bX hb2)
  have B2 := Lib.hid (BX.keep hb2 (by rw [hsz]; omega))
  have hs2 : w1.heap.size + 1 ≤ w2.heap.size := by have := hb2.size; omega
  rw [hsz] at tr
  obtain ⟨b7, _, rfl, _⟩ := tr.hops
  have E2 := Lib.hid (EC.out w1.heap.size (w1.heap.size + 1) w2.heap.size w2 (by omega) hs2 rfl _ 0 [] (.slice none 0 0) w2 tr FT0.out (Nat.le_refl _) (fun k _ _ => rfl) B2.out (World.ownsRow_nil _ _ _ _) (by rw [← HF.out]; have := FL.out; simpa using this))
  have hs1 : w.heap.size ≤ w1.heap.size := hb1.size
  clear DV EC R1 BX bX tr hb2 hb1 hsz
  go_wp2_with fail
  refine E2.out.mono ?_
  rintro e w3 ⟨rfl, ⟨sv3, bx3, ow3⟩, hb3, hs3⟩
  have O3 : Hid (OwnR w3 w.heap.size sv3 Z) := Lib.hid (by rw [HF.out]; exact ownsLow ow3 (by omega))
  have b3 := b2.trans (hb3.mono hs1)
  obtain ⟨x0, xf, xl⟩ := bx3
  obtain ⟨sp, sc, rfl⟩ := O3.out.row.form
  clear E2 ow3 hb3 hs3 B2 b2
  go_wp2_with fail
  go_ret2
  exact ⟨_, rfl, O3.out, b3⟩
/-- What Fewest answers. -/
def fwR (l : List RT) : List RT := if fwE l = 0 then fwL l else []
set_option maxHeartbeats 2000000 in
theorem fewest_calls (l : List RT) (v : Value) (hlen : l.length ≤ 9223372036854775807) (hw : WordsR l) (w : World) (row : RowR w v l) :
    Calls Try.prog 17 #[v] w fun e w' => ∃ u, e = .returned (.tuple #[u, .int .i64 (fwE l)]) ∧ OwnR w' w.heap.size u (fwR l) ∧ Below w.heap.size w w' := by
  by_cases h0 : fwE l = 0
  · rw [fwR, if_pos h0, h0]
    exact fewest_ok l v h0 hw w row
  · rw [fwR, if_neg h0]
    have C1 := Lib.hid (fcheck_calls l v hlen hw w row)
    obtain ⟨p, c, rfl⟩ := row.form
    generalize fwE l = t at C1 h0 ⊢
    have hz1 : (t == 0) = false := by simpa using h0
    have hz2 : (t != 0) = true := by simp [bne, hz1]
    clear row
    go_enter Try.func17, Try.ntmps17
    go_wp2_with fail
    refine C1.out.mono ?_
    rintro e w1 ⟨rfl, hb1⟩
    clear C1
    go_wp2
    go_ret2
    exact ⟨.slice none 0 0, by simp, World.ownsRow_nil _ _ _ _, hb1⟩
end Go.Proofs.Ytgajepmnklbmpaa
/-
  Plain mathematics: the routes that Fewest makes are a table, and it goes the same ways.
-/
namespace Go.Proofs.Ytgajepmnklbmpaa
open Go.RowKit
set_option linter.unusedVariables false
set_option linter.unusedSimpArgs false
theorem dist_nodup : ∀ {l : List RT}, (l.map Prod.fst).Nodup → DistR l
  | [], _ => fun a h => by cases h
  | r :: t, h => by
    rw [List.map_cons, List.nodup_cons] at h
    intro a ha b hb e
    rcases List.mem_cons.1 ha with ea | ha
    · rcases List.mem_cons.1 hb with eb | hb
      · rw [ea, eb]
      · exact absurd (List.mem_map.2 ⟨b, hb, by rw [← e, ea]⟩) h.1
    · rcases List.mem_cons.1 hb with eb | hb
      · exact absurd (List.mem_map.2 ⟨a, ha, by rw [e, eb]⟩) h.1
      · exact dist_nodup h.2 a ha b hb e
theorem ovR_key {s : Bool} {x k : Nat} {r q : RT} (h : r.1 = q.1) : ovR s x k r = ovR s x k q := by unfold ovR kR; rw [h]
theorem ov_apart {s : Bool} {x k : Nat} {r : RT} (h1 : ovR s x k r = true) (h2 : ovR s (x + 2 ^ k) k r = true) : False := by
  rw [ovR_iff] at h1 h2
  have hp : 0 < 2 ^ kR r := Nat.two_pow_pos _
  omega
theorem ec_mem (s : Bool) {l : List RT} : ∀ (k x : Nat) (a h : Int), AL s x k → ∀ r ∈ ecT (dvT s l k x a) h, chkE r.1.1 r.1.2.1 r.1.2.2 = 0 ∧ ovR s x k r = true ∧ (r.2 = a ∨ r.2 ∈ l.map Prod.snd) := by
  have one : ∀ (k x : Nat) (a : Int) (hA : AL s x k) (z : Int), z ∈ (dvT s l k x a).hs → chkE (pkB s x k).1 (pkB s x k).2.1 (pkB s x k).2.2 = 0 ∧ ovR s x k (pkB s x k, z) = true ∧ (z = a ∨ z ∈ l.map Prod.snd) := fun k x a hA z hz =>
    ⟨hA.chk, ov_self (r := (pkB s x k, z)) hA.1 hA.chk rfl, dvT_in s l k x a z hz⟩
  have hd : ∀ (k x : Nat) (a : Int), (dvT s l k x a).hs.headD 0 ∈ (dvT s l k x a).hs := fun k x a => headD_mem (dvT_ne s l k x a)
  have lf : ∀ (k x : Nat) (a h : Int), AL s x k → dvT s l k x a = .leaf (pkB s x k) [atH (pkB s x k) l a] → ∀ r ∈ ecT (dvT s l k x a) h, chkE r.1.1 r.1.2.1 r.1.2.2 = 0 ∧ ovR s x k r = true ∧ (r.2 = a ∨ r.2 ∈ l.map Prod.snd) := fun k x a h hA e r hr => by
    have h1 := one k x a hA _ (hd k x a)
    rw [e] at h1 hr
    rw [ecT] at hr
    split at hr
    · cases hr
    · rw [List.mem_singleton] at hr
      rw [hr]; exact h1
  intro k
  induction k with
  | zero => intro x a h hA; exact lf 0 x a h hA (by rw [dvT])
  | succ k ih =>
    intro x a h hA r hr
    by_cases hdp : deepR s x (k + 1) l = true
    · have e0 : dvT s l (k + 1) x a = .node (pkB s x (k + 1)) (bestL (dvT s l k x (atH (pkB s x (k + 1)) l a)).hs (dvT s l k (x + 2 ^ k) (atH (pkB s x (k + 1)) l a)).hs) (dvT s l k x (atH (pkB s x (k + 1)) l a)) (dvT s l k (x + 2 ^ k) (atH (pkB s x (k + 1)) l a)) := by rw [dvT, if_pos hdp]
      have h1 := one (k + 1) x a hA _ (hd (k + 1) x a)
      rw [e0] at h1 hr
      rw [ecT] at hr
      have up : ∀ z : Int, (z = atH (pkB s x (k + 1)) l a ∨ z ∈ l.map Prod.snd) → z = a ∨ z ∈ l.map Prod.snd := fun z hz => by
        rcases hz with hz | hz
        · rw [hz]; exact atH_in _ l a
        · exact .inr hz
      rcases List.mem_append.1 hr with hr | hr
      · split at hr
        · cases hr
        · rw [List.mem_singleton] at hr
          rw [hr]; exact h1
      · rcases List.mem_append.1 hr with hr | hr
        · obtain ⟨a1, a2, a3⟩ := ih x _ _ hA.low r hr
          exact ⟨a1, (ov_child hA.1 (.inl rfl) a1 a2).1, up _ a3⟩
        · obtain ⟨a1, a2, a3⟩ := ih (x + 2 ^ k) _ _ hA.high r hr
          exact ⟨a1, (ov_child hA.1 (.inr rfl) a1 a2).1, up _ a3⟩
    · exact lf (k + 1) x a h hA (by rw [dvT, if_neg hdp]) r hr
theorem ec_nodup (s : Bool) {l : List RT} : ∀ (k x : Nat) (a h : Int), AL s x k → ((ecT (dvT s l k x a) h).map Prod.fst).Nodup := by
  have lf : ∀ (k x : Nat) (a h : Int), dvT s l k x a = .leaf (pkB s x k) [atH (pkB s x k) l a] → ((ecT (dvT s l k x a) h).map Prod.fst).Nodup := fun k x a h e => by
    rw [e, ecT]
    split <;> simp
  intro k
  induction k with
  | zero => intro x a h hA; exact lf 0 x a h (by rw [dvT])
  | succ k ih =>
    intro x a h hA
    by_cases hdp : deepR s x (k + 1) l = true
    · rw [dvT, if_pos hdp, ecT, List.map_append, List.map_append, List.nodup_append]
      have m1 := fun z => ec_mem s (l := l) k x (atH (pkB s x (k + 1)) l a) z hA.low
      have m2 := fun z => ec_mem s (l := l) k (x + 2 ^ k) (atH (pkB s x (k + 1)) l a) z hA.high
      refine ⟨by split <;> simp, ?_, ?_⟩
      · rw [List.nodup_append]
        refine ⟨ih x _ _ hA.low, ih (x + 2 ^ k) _ _ hA.high, ?_⟩
        rintro p hp q hq e
        subst e
        obtain ⟨r, hr, e1⟩ := List.mem_map.1 hp
        obtain ⟨r', hr', e2⟩ := List.mem_map.1 hq
        exact ov_apart (m1 _ r hr).2.1 (by rw [ovR_key (e1.trans e2.symm)]; exact (m2 _ r' hr').2.1)
      · rintro p hp q hq e
        subst e
        have hpk : p = pkB s x (k + 1) := by
          obtain ⟨r, hr, e1⟩ := List.mem_map.1 hp
          split at hr
          · cases hr
          · rw [List.mem_singleton] at hr; rw [← e1, hr]
        rcases List.mem_append.1 hq with hq | hq
        · obtain ⟨r, hr, e1⟩ := List.mem_map.1 hq
          have a := m1 _ r hr
          exact (ov_child hA.1 (.inl rfl) a.1 a.2.1).2 (e1.trans hpk)
        · obtain ⟨r, hr, e1⟩ := List.mem_map.1 hq
          have a := m2 _ r hr
          exact (ov_child hA.1 (.inr rfl) a.1 a.2.1).2 (e1.trans hpk)
    · exact lf (k + 1) x a h (by rw [dvT, if_neg hdp])
theorem go_filter {s : Bool} {x k : Nat} {l m : List RT} (h : l.filter (ovR s x k) = m.filter (ovR s x k)) (a : Int) (y : Nat) : goB s x k l a y = goB s x k m a y := by unfold goB; rw [h]
theorem filter_none {α : Type} {P : α → Bool} {l : List α} (h : ∀ x ∈ l, P x = false) : l.filter P = [] := List.filter_eq_nil_iff.2 fun x hx => by rw [h x hx]; decide
theorem ec_go {s : Bool} {l : List RT} (hl : ValR l) (dl : DistR l) : ∀ (k x : Nat) (a h : Int), AL s x k → ∀ y, inB x k y → goB s x k (ecT (dvT s l k x a) h) h y = goB s x k l a y := by
  have lf : ∀ (k x : Nat) (a h : Int), AL s x k → deepR s x k l = false → ∀ y, inB x k y → goB s x k (ecT (dvT s l k x a) h) h y = goB s x k l a y := fun k x a h hA hd y hy => by
    have hv : ValR (ecT (dvT s l k x a) h) := fun r hr => (ec_mem s k x a h hA r hr).1
    have hdd := dist_nodup (ec_nodup s (l := l) k x a h hA)
    have e0 : dvT s l k x a = .leaf (pkB s x k) [atH (pkB s x k) l a] := by
      cases k with
      | zero => rw [dvT]
      | succ k => rw [dvT, hd]; rfl
    rw [go_shallow hl dl hA.1 hd a hy]
    rw [e0, ecT] at hv hdd ⊢
    by_cases hb : h ∈ [atH (pkB s x k) l a]
    · rw [if_pos hb]
      rw [List.mem_singleton] at hb
      rw [← hb]; rfl
    · rw [if_neg hb] at hv hdd ⊢
      rw [go_shallow hv hdd hA.1 (by simp [deepR]) h hy]
      simp [atH]
  intro k
  induction k with
  | zero => intro x a h hA y hy; exact lf 0 x a h hA (deep_zero hl) y hy
  | succ k ih =>
    intro x a h hA y hy
    by_cases hdp : deepR s x (k + 1) l = true
    · obtain ⟨E, hE⟩ : ∃ E, ecT (dvT s l (k + 1) x a) h = E := ⟨_, rfl⟩
      have hv : ValR E := fun r hr => (ec_mem s (k + 1) x a h hA r (by rw [hE]; exact hr)).1
      have hdd : DistR E := by rw [← hE]; exact dist_nodup (ec_nodup s (k + 1) x a h hA)
      rw [hE]
      rw [dvT, if_pos hdp, ecT] at hE
      obtain ⟨A1, hA1⟩ : ∃ z, atH (pkB s x (k + 1)) l a = z := ⟨_, rfl⟩
      rw [hA1] at hE
      obtain ⟨hs, hhs⟩ : ∃ z, bestL (dvT s l k x A1).hs (dvT s l k (x + 2 ^ k) A1).hs = z := ⟨_, rfl⟩
      rw [hhs] at hE
      obtain ⟨h', hh'⟩ : ∃ z, (if h ∈ hs then h else hs.headD 0) = z := ⟨_, rfl⟩
      rw [hh'] at hE
      have m1 := ec_mem s (l := l) k x A1 h' hA.low
      have m2 := ec_mem s (l := l) k (x + 2 ^ k) A1 h' hA.high
      have i1 := ih x A1 h' hA.low
      have i2 := ih (x + 2 ^ k) A1 h' hA.high
      generalize ecT (dvT s l k x A1) h' = E1 at hE m1 i1
      generalize ecT (dvT s l k (x + 2 ^ k) A1) h' = E2 at hE m2 i2
      have n1 : ∀ r ∈ E1, r.1 ≠ pkB s x (k + 1) := fun r hr => (ov_child hA.1 (.inl rfl) (m1 r hr).1 (m1 r hr).2.1).2
      have n2 : ∀ r ∈ E2, r.1 ≠ pkB s x (k + 1) := fun r hr => (ov_child hA.1 (.inr rfl) (m2 r hr).1 (m2 r hr).2.1).2
      have at1 : atH (pkB s x (k + 1)) E h = h' := by
        rcases atH_or (p := pkB s x (k + 1)) hdd h with ⟨e, hno⟩ | ⟨r, hr, ek, e⟩
        · rw [e, ← hh']
          by_cases hin : h ∈ hs
          · rw [if_pos hin]
          · rw [if_neg hin] at hE
            exact absurd rfl (hno (pkB s x (k + 1), hs.headD 0) (by rw [← hE]; simp))
        · rw [← hE] at hr
          rcases List.mem_append.1 hr with hr | hr
          · rw [e, ← hh']
            by_cases hin : h ∈ hs
            · rw [if_pos hin] at hr; cases hr
            · rw [if_neg hin, List.mem_singleton] at hr
              rw [if_neg hin, hr]
          · rcases List.mem_append.1 hr with hr | hr
            · exact absurd ek (n1 r hr)
            · exact absurd ek (n2 r hr)
      have top : ∀ x', (x' = x ∨ x' = x + 2 ^ k) → ((if h ∈ hs then ([] : List RT) else [(pkB s x (k + 1), hs.headD 0)]).filter (ovR s x' k)) = [] := fun x' hx => filter_none fun r hr => by
        split at hr
        · cases hr
        · rw [List.mem_singleton] at hr
          rw [← Bool.not_eq_true]
          intro c
          exact (ov_child hA.1 hx (by rw [hr]; exact hA.chk) c).2 (by rw [hr])
      rcases inB_up.1 hy with c | c
      · rw [go_half hv hdd hA hA.low (.inl rfl) h c, at1, go_half hl dl hA hA.low (.inl rfl) a c, hA1, ← i1 y c]
        refine go_filter ?_ h' y
        rw [← hE, List.filter_append, List.filter_append, top x (.inl rfl), filter_none (l := E2) fun r hr => ?_]
        · simp
        · rw [← Bool.not_eq_true]; exact fun c => ov_apart c (m2 r hr).2.1
      · rw [go_half hv hdd hA hA.high (.inr rfl) h c, at1, go_half hl dl hA hA.high (.inr rfl) a c, hA1, ← i2 y c]
        refine go_filter ?_ h' y
        rw [← hE, List.filter_append, List.filter_append, top (x + 2 ^ k) (.inr rfl), filter_none (l := E1) fun r hr => ?_]
        · simp
        · rw [← Bool.not_eq_true]; exact fun c => ov_apart (m1 r hr).2.1 c
    · exact lf (k + 1) x a h hA (by simpa using hdp) y hy
end Go.Proofs.Ytgajepmnklbmpaa
/-
  Plain mathematics: what Fewest makes, in words of whole tables.
-/
namespace Go.Proofs.Ytgajepmnklbmpaa
open Go.RowKit
set_option linter.unusedVariables false
set_option linter.unusedSimpArgs false
theorem behF : ∀ (t S : List RT), (∀ r ∈ t, rtE r = 0) → (t.map Prod.fst).Nodup → (∀ r ∈ t, hasR S r.1 = false) → behE S t = 0
  | [], _, _, _, _ => rfl
  | r :: t, S, h1, h2, h3 => by
    rw [List.map_cons, List.nodup_cons] at h2
    rw [behE, if_pos (h1 r (by simp)), h3 r (by simp)]
    refine behF t _ (fun x hx => h1 x (by simp [hx])) h2.2 fun x hx => ?_
    have g := h3 x (by simp [hx])
    rw [hasR, List.any_eq_false] at g ⊢
    intro y hy
    rcases insR_mem.1 hy with rfl | hy
    · simp only [decide_eq_true_eq]
      intro e
      exact h2.1 (List.mem_map.2 ⟨x, hx, e.symm⟩)
    · exact g y hy
theorem tab_ofF {t : List RT} (h1 : ∀ r ∈ t, rtE r = 0) (h2 : (t.map Prod.fst).Nodup) (h3 : t.length ≤ 60) : tabE t = 0 := by
  unfold tabE; rw [if_neg (by omega)]; exact behF t [] h1 h2 fun r _ => rfl
theorem fwE_0 {l : List RT} (h : fwE l = 0) : tabE l = 0 ∧ (∀ r ∈ l, r.1.1 = false) ∧ ∃ r ∈ l, r.1 = (false, 0, 0) := by
  unfold fwE at h
  split at h
  · rename_i h0
    refine ⟨h0, ?_⟩
    split at h
    · cases h
    · rename_i h6
      split at h
      · rename_i h7
        refine ⟨fun r hr => ?_, ?_⟩
        · cases hs : r.1.1 with
          | false => rfl
          | true => exact absurd (List.any_eq_true.2 ⟨r, hr, hs⟩) h6
        · obtain ⟨r, hr, e⟩ := List.any_eq_true.1 h7
          exact ⟨r, hr, of_decide_eq_true e⟩
      · cases h
  · rename_i h0; exact absurd h h0
theorem fwE_mk {l : List RT} (h0 : tabE l = 0) (h6 : ∀ r ∈ l, r.1.1 = false) (hd : ∃ r ∈ l, r.1 = (false, 0, 0)) : fwE l = 0 := by
  obtain ⟨r, hr, e⟩ := hd
  rw [fwE, if_pos h0, if_neg, if_pos (List.any_eq_true.2 ⟨r, hr, decide_eq_true e⟩)]
  intro c
  obtain ⟨q, hq, e2⟩ := List.any_eq_true.1 c
  rw [h6 q hq] at e2; cases e2
theorem pk_top : pkB false 0 32 = (false, 0, 0) := by decide
theorem dvT_key {s : Bool} {l : List RT} {k x : Nat} {a b : Int} (h : atH (pkB s x k) l a = atH (pkB s x k) l b) : dvT s l k x a = dvT s l k x b := by
  cases k with
  | zero => rw [dvT, dvT, h]
  | succ k => rw [dvT, dvT, h]
theorem fw_dv {l : List RT} (h : fwE l = 0) : ∃ z, z ∈ l.map Prod.snd ∧ dvT false l 32 0 0 = dvT false l 32 0 z := by
  obtain ⟨h0, _, r, hr, e⟩ := fwE_0 h
  refine ⟨r.2, List.mem_map.2 ⟨r, hr, rfl⟩, ?_⟩
  have key : ∀ a, atH (pkB false 0 32) l a = r.2 := fun a => by
    rcases atH_or (p := pkB false 0 32) (dist_tab h0) a with ⟨_, hno⟩ | ⟨q, hq, ek, e2⟩
    · exact absurd (e.trans pk_top.symm) (hno r hr)
    · rw [e2, dist_tab h0 q hq r hr (ek.trans (pk_top.trans e.symm))]
  exact dvT_key ((key 0).trans (key r.2).symm)
theorem fw_fine {l : List RT} (h : fwE l = 0) : ∀ r ∈ fwL l, rtE r = 0 ∧ r.1.1 = false := fun r hr => by
  obtain ⟨h0, _, _⟩ := fwE_0 h
  obtain ⟨z, hz, e⟩ := fw_dv h
  unfold fwL at hr
  rw [e] at hr
  obtain ⟨a, b, c⟩ := ec_mem false (l := l) 32 0 z 0 AL.top32 r hr
  have hin : r.2 ∈ l.map Prod.snd := by
    rcases c with c | c
    · rw [c]; exact hz
    · exact c
  obtain ⟨q, hq, e2⟩ := List.mem_map.1 hin
  have g := (tabE_val h0).2.1 q hq
  rw [e2] at g
  obtain ⟨p, v⟩ := r
  exact ⟨by rw [rtE, if_pos a, if_pos ⟨g.1, g.2⟩], (ovR_iff.1 b).1⟩
theorem fw_same {l : List RT} (h : fwE l = 0) : SameW (fwL l) l := by
  obtain ⟨h0, h6, _⟩ := fwE_0 h
  have hv : ValR (fwL l) := fun r hr => (ec_mem false 32 0 0 0 AL.top32 r hr).1
  have dd : DistR (fwL l) := dist_nodup (ec_nodup false 32 0 0 0 AL.top32)
  intro s y hy
  cases s with
  | false =>
    have g := ec_go (tabE_val h0).1 (dist_tab h0) 32 0 0 0 AL.top32 y ⟨Nat.zero_le _, by rw [Nat.zero_add]; exact hy⟩
    have t1 := go_top (s := false) hv dd (y := y)
    have t2 := go_top (s := false) (tabE_val h0).1 (dist_tab h0) (y := y)
    rw [← t1, ← t2]
    exact g
  | true =>
    have n1 : (bestA true y (fwL l)).1 = 0 := bestA_none hv fun r hr => by
      rw [← Bool.not_eq_true]
      intro c
      have := ((mB_blk (hv r hr) true y).1 c).1
      rw [(fw_fine h r hr).2] at this; cases this
    have n2 : (bestA true y l).1 = 0 := bestA_none (tabE_val h0).1 fun r hr => by
      rw [← Bool.not_eq_true]
      intro c
      have := ((mB_blk ((tabE_val h0).1 r hr) true y).1 c).1
      rw [h6 r hr] at this; cases this
    rw [n1, n2]
/-- No table that goes the same ways has fewer routes. -/
theorem fw_least {l m : List RT} (h : fwE l = 0) (hm : tabE m = 0) (hs : SameW l m) : (fwL l).length ≤ m.length := by
  obtain ⟨h0, _, _⟩ := fwE_0 h
  refine Nat.le_trans (fw_min (s := false) (tabE_val h0).1 (dist_tab h0) (tabE_val hm).1 (dist_tab hm) 32 0 0 0 AL.top32 fun y hy => ?_) (List.length_filter_le ..)
  have t1 := go_top (s := false) (tabE_val h0).1 (dist_tab h0) (y := y)
  have t2 := go_top (s := false) (tabE_val hm).1 (dist_tab hm) (y := y)
  exact t1.trans ((hs false y (by have := hy.2; rw [Nat.zero_add] at this; exact this)).trans t2.symm)
theorem SameW.refl (l : List RT) : SameW l l := fun _ _ _ => rfl
theorem SameW.symm {l m : List RT} (h : SameW l m) : SameW m l := fun s y hy => (h s y hy).symm
theorem SameW.trans {a b c : List RT} (h : SameW a b) (k : SameW b c) : SameW a c := fun s y hy => (h s y hy).trans (k s y hy)
theorem fw_size {l : List RT} (h : fwE l = 0) : (fwL l).length ≤ l.length := fw_least h (fwE_0 h).1 (SameW.refl l)
theorem fw_tab {l : List RT} (h : fwE l = 0) : tabE (fwL l) = 0 :=
  tab_ofF (fun r hr => (fw_fine h r hr).1) (ec_nodup false 32 0 0 0 AL.top32) (Nat.le_trans (fw_size h) (tabE_val (fwE_0 h).1).2.2)
/-- It has a route of the prefix of no bits. -/
theorem fw_def {l : List RT} (h : fwE l = 0) : ∃ r ∈ fwL l, r.1 = (false, 0, 0) := by
  obtain ⟨z, hz, e⟩ := fw_dv h
  obtain ⟨q, hq, e2⟩ := List.mem_map.1 hz
  have g := (tabE_val (fwE_0 h).1).2.1
  have hpos : ∀ w, w ∈ l.map Prod.snd → w ≠ 0 := fun w hw => by
    obtain ⟨q, hq, e⟩ := List.mem_map.1 hw
    have := (g q hq).1
    rw [e] at this; omega
  have h0 : (0 : Int) ∉ (dvT false l 32 0 z).hs := fun c => by
    rcases dvT_in false l 32 0 z 0 c with c | c
    · exact hpos z hz c.symm
    · exact hpos 0 c rfl
  unfold fwL
  rw [e]
  have e3 : ∃ p hs a b, dvT false l 32 0 z = .node p hs a b ∧ p = pkB false 0 32 ∨ dvT false l 32 0 z = .leaf p hs ∧ p = pkB false 0 32 := by
    show ∃ p hs a b, dvT false l (31 + 1) 0 z = .node p hs a b ∧ p = pkB false 0 32 ∨ dvT false l (31 + 1) 0 z = .leaf p hs ∧ p = pkB false 0 32
    rw [dvT]
    split
    · exact ⟨_, _, _, _, .inl ⟨rfl, rfl⟩⟩
    · exact ⟨_, _, .leaf (false, 0, 0) [], .leaf (false, 0, 0) [], .inr ⟨rfl, rfl⟩⟩
  obtain ⟨p, hs, a, b, ⟨e4, e5⟩ | ⟨e4, e5⟩⟩ := e3
  · rw [e4] at h0 ⊢
    rw [ecT]
    have h0' : (0 : Int) ∉ hs := h0
    exact ⟨(p, hs.headD 0), by simp [h0'], by rw [e5]; exact pk_top⟩
  · rw [e4] at h0 ⊢
    rw [ecT]
    have h0' : (0 : Int) ∉ hs := h0
    exact ⟨(p, hs.headD 0), by simp [h0'], by rw [e5]; exact pk_top⟩
theorem fw_again {l : List RT} (h : fwE l = 0) : fwE (fwL l) = 0 ∧ (fwL (fwL l)).length = (fwL l).length := by
  have h1 : fwE (fwL l) = 0 := fwE_mk (fw_tab h) (fun r hr => (fw_fine h r hr).2) (fw_def h)
  refine ⟨h1, Nat.le_antisymm (fw_size h1) (fw_least h (fw_tab h1) ((fw_same h).symm.trans (fw_same h1).symm))⟩
/-- Tables that go the same ways need as few. -/
theorem fw_equal {l m : List RT} (h : fwE l = 0) (k : fwE m = 0) (hs : SameW l m) : (fwL l).length = (fwL m).length :=
  Nat.le_antisymm (fw_least h (fw_tab k) (hs.trans (fw_same k).symm)) (fw_least k (fw_tab h) (hs.symm.trans (fw_same h).symm))
end Go.Proofs.Ytgajepmnklbmpaa
