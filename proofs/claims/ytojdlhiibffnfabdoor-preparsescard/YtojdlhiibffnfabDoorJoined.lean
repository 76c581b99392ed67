/-
  addr.joined: eight groups make an address.
-/
import Derived.Test.YtojdlhiibffnfabDoorProg
import Derived.Test.YtojdlhiibffnfabDoorBase
import Derived.Test.YtojdlhiibffnfabDoorAddrAt
import Derived.Laws.BitsAllLaws
namespace Go.Proofs.YtojdlhiibffnfabDoor
open Go.RowKit Go.Sort
set_option linter.unusedVariables false
set_option linter.unusedSimpArgs false

theorem or_up (x g m : Nat) (k : Nat) (hm : 2 ^ k = m) (hx : x * m < 18446744073709551616) (hg : g < m) (hm2 : m ≤ 65536) : bits .or .u64 ((x : Int) * (m : Int)) (g : Int) = (x : Int) * (m : Int) + g := by
  have h := u64_or_nat (x * m) g hx (by omega)
  have h2 := Nat.shiftLeft_add_eq_or_of_lt (show g < 2 ^ k by rw [hm]; exact hg) x
  rw [Nat.shiftLeft_eq, hm] at h2
  rw [← h2] at h
  rw [← Int.natCast_mul, h]
  simp

theorem or16 (x g : Int) (x0 : 0 ≤ x) (x1 : x < 281474976710656) (g0 : 0 ≤ g) (g1 : g < 65536) : bits .or .u64 (x * 65536) g = x * 65536 + g := by
  obtain ⟨a, rfl⟩ := Int.eq_ofNat_of_zero_le x0
  obtain ⟨b, rfl⟩ := Int.eq_ofNat_of_zero_le g0
  exact or_up a b 65536 16 rfl (by omega) (by omega) (Nat.le_refl _)
theorem or8 (x g : Int) (x0 : 0 ≤ x) (x1 : x < 16777216) (g0 : 0 ≤ g) (g1 : g < 256) : bits .or .u64 (x * 256) g = x * 256 + g := by
  obtain ⟨a, rfl⟩ := Int.eq_ofNat_of_zero_le x0
  obtain ⟨b, rfl⟩ := Int.eq_ofNat_of_zero_le g0
  exact or_up a b 256 8 rfl (by omega) (by omega) (by omega)

/-- Groups spelt out, most significant first. -/
def hor (l : List Nat) : Nat := l.foldl (fun a x => a * 65536 + x) 0
theorem hor_snoc (l : List Nat) (x : Nat) : hor (l ++ [x]) = hor l * 65536 + x := by simp [hor]
theorem horF_lt (l : List Nat) (h : ∀ x ∈ l, x < 65536) : ∀ a, l.foldl (fun a x => a * 65536 + x) a < (a + 1) * 65536 ^ l.length := by
  induction l with
  | nil => intro a; simp
  | cons x l ih =>
    intro a
    have h1 := ih (fun y hy => h y (.tail _ hy)) (a * 65536 + x)
    have h2 := h x (.head _)
    have h3 : (a * 65536 + x + 1) * 65536 ^ l.length ≤ ((a + 1) * 65536) * 65536 ^ l.length := Nat.mul_le_mul_right _ (by omega)
    rw [List.foldl_cons, List.length_cons, Nat.pow_succ, Nat.mul_comm (65536 ^ l.length), ← Nat.mul_assoc]
    exact Nat.lt_of_lt_of_le h1 h3
theorem hor_lt (l : List Nat) (h : ∀ x ∈ l, x < 65536) : hor l < 65536 ^ l.length := by
  have := horF_lt l h 0
  simpa [hor] using this
theorem hor_take (l : List Nat) (k : Nat) (h : k < l.length) : hor (l.take (k + 1)) = hor (l.take k) * 65536 + l[k] := by
  rw [List.take_succ_eq_append_getElem h, hor_snoc]
theorem hor_take_lt (l : List Nat) (hl : ∀ x ∈ l, x < 65536) (k : Nat) (hk : k < 4) : hor (l.take k) < 281474976710656 := by
  have h := hor_lt (l.take k) (fun x hx => hl x (List.mem_of_mem_take hx))
  have h2 : 65536 ^ (l.take k).length ≤ 65536 ^ 3 := Nat.pow_le_pow_right (by omega) (by rw [List.length_take]; omega)
  have h3 : (65536 : Nat) ^ 3 = 281474976710656 := by decide
  omega
/-- Block b holds these numbers. -/
def NumsAt (w : World) (b : Nat) (gs : List Nat) : Prop := (∀ (j u : Nat), gs[j]? = some u → w.cell? ⟨b, j, none⟩ = some (.int .u64 (u : Int))) ∧ b < w.heap.size
theorem NumsAt.far {w : World} {b : Nat} {gs : List Nat} (a : NumsAt w b gs) {p : Addr} (hp : b ≠ p.block) (u : Value) : NumsAt (w.setCell p u) b gs := by
  have ne : ∀ o, p ≠ ⟨b, o, none⟩ := fun o e => hp (by rw [e])
  exact ⟨fun j x h => (World.cell?_setCell_other w p _ u (ne j)).trans (a.1 j x h), by simpa using a.2⟩
theorem NumsAt.keep {w w' : World} {b : Nat} {gs : List Nat} (a : NumsAt w b gs) (hb : Below w.heap.size w w') : NumsAt w' b gs :=
  ⟨fun j x h => (hb.cell (p := ⟨b, j, none⟩) a.2).trans (a.1 j x h), Nat.lt_of_lt_of_le a.2 hb.size⟩
/-- Block b holds this address, and it may be written. -/
def AddrW (w : World) (b : Nat) (s : Bool) (h l : Int) : Prop := AddrAt w b s h l ∧ ∀ o, w.frozen? ⟨b, o, none⟩ = false
theorem AddrW.far {w : World} {b : Nat} {s : Bool} {h l : Int} (a : AddrW w b s h l) {p : Addr} (hp : b ≠ p.block) (u : Value) : AddrW (w.setCell p u) b s h l := by
  have ne : ∀ o, p ≠ ⟨b, o, none⟩ := fun o e => hp (by rw [e])
  exact ⟨⟨(World.cell?_setCell_other w p _ u (ne 0)).trans a.1.1, (World.cell?_setCell_other w p _ u (ne 1)).trans a.1.2.1, (World.cell?_setCell_other w p _ u (ne 2)).trans a.1.2.2.1, by simpa using a.1.2.2.2⟩, fun o => by rw [World.frozen?_setCell]; exact a.2 o⟩
theorem AddrW.set1 {w : World} {b : Nat} {s : Bool} {h l : Int} (a : AddrW w b s h l) (h2 : Int) : AddrW (w.setCell ⟨b, 1, none⟩ (.int .u64 h2)) b s h2 l := by
  obtain ⟨⟨a0, a1, a2, az⟩, af⟩ := a
  exact ⟨⟨by simp [go_sem, a0, a1, a2], by simp [go_sem, a0, a1, a2], by simp [go_sem, a0, a1, a2], by simpa using az⟩, fun o => by rw [World.frozen?_setCell]; exact af o⟩
theorem AddrW.set2 {w : World} {b : Nat} {s : Bool} {h l : Int} (a : AddrW w b s h l) (l2 : Int) : AddrW (w.setCell ⟨b, 2, none⟩ (.int .u64 l2)) b s h l2 := by
  obtain ⟨⟨a0, a1, a2, az⟩, af⟩ := a
  exact ⟨⟨by simp [go_sem, a0, a1, a2], by simp [go_sem, a0, a1, a2], by simp [go_sem, a0, a1, a2], by simpa using az⟩, fun o => by rw [World.frozen?_setCell]; exact af o⟩

theorem AddrW.store {w : World} {b : Nat} {s : Bool} {h l : Int} (a : AddrW w b s h l) (s2 : Bool) (h2 l2 : Int) :
    AddrW (((w.setCell ⟨b, 0, none⟩ (.bool s2)).setCell ⟨b, 1, none⟩ (.int .u64 h2)).setCell ⟨b, 2, none⟩ (.int .u64 l2)) b s2 h2 l2 := by
  obtain ⟨⟨a0, a1, a2, az⟩, af⟩ := a
  exact ⟨⟨by simp [go_sem, a0, a1, a2], by simp [go_sem, a0, a1, a2], by simp [go_sem, a0, a1, a2], by simpa using az⟩, fun o => by simp only [World.frozen?_setCell]; exact af o⟩

set_option maxHeartbeats 4000000 in
set_option maxRecDepth 100000 in
theorem joined_calls (g0 g1 g2 g3 g4 g5 g6 g7 : Nat) (gs : List Nat) (hgs : [g0, g1, g2, g3, g4, g5, g6, g7] = gs) (hlt : ∀ x ∈ gs, x < 65536) (w : World) :
    Calls Tryd.prog 34 #[.agg #[.int .u64 (g0 : Int), .int .u64 (g1 : Int), .int .u64 (g2 : Int), .int .u64 (g3 : Int), .int .u64 (g4 : Int), .int .u64 (g5 : Int), .int .u64 (g6 : Int), .int .u64 (g7 : Int)]] w
      fun r w' => r = .returned (.agg #[.bool true, .int .u64 (hor (gs.take 4) : Int), .int .u64 (hor (gs.drop 4) : Int)]) ∧ Below w.heap.size w w' := by
  have hlen : gs.length = 8 := by rw [← hgs]; rfl
  have hd4 : (gs.drop 4).length = 4 := by rw [List.length_drop, hlen]
  have N0 : NumsAt ((w.alloc (.cells #[.int .u64 (g0 : Int), .int .u64 (g1 : Int), .int .u64 (g2 : Int), .int .u64 (g3 : Int), .int .u64 (g4 : Int), .int .u64 (g5 : Int), .int .u64 (g6 : Int), .int .u64 (g7 : Int)] 62))) w.heap.size gs := by
    refine ⟨fun j u h => ?_, by simp⟩
    rw [← hgs] at h
    match j, h with
    | 0, h => simp at h; subst h; simp
    | 1, h => simp at h; subst h; simp
    | 2, h => simp at h; subst h; simp
    | 3, h => simp at h; subst h; simp
    | 4, h => simp at h; subst h; simp
    | 5, h => simp at h; subst h; simp
    | 6, h => simp at h; subst h; simp
    | 7, h => simp at h; subst h; simp
    | j + 8, h => simp at h
  have N1 := Lib.hid N0
  have HGS := Lib.hid hgs
  have HLT := Lib.hid hlt
  clear N0 hgs hlt
  go_enter Tryd.func34, Tryd.ntmps34
  go_wp2
  have N2 : NumsAt _ w.heap.size gs := (N1.out.keep ((Below.refl _ _).alloc (Nat.le_refl _) (.cells #[.bool false, .int .u64 0, .int .u64 0] 24))).keep ((Below.refl _ _).alloc (Nat.le_refl _) (.cells #[.bool true, .int .u64 0, .int .u64 0] 24))
  obtain ⟨W1, hW1⟩ : ∃ W1, w.alloc (.cells #[.int .u64 (g0 : Int), .int .u64 (g1 : Int), .int .u64 (g2 : Int), .int .u64 (g3 : Int), .int .u64 (g4 : Int), .int .u64 (g5 : Int), .int .u64 (g6 : Int), .int .u64 (g7 : Int)] 62) = W1 := ⟨_, rfl⟩
  have b1 : Below w.heap.size w W1 := by rw [← hW1]; exact (Below.refl _ _).alloc (Nat.le_refl _) _
  have s1 : W1.heap.size = w.heap.size + 1 := by rw [← hW1]; simp
  rw [hW1] at N2 ⊢
  have A1 : AddrW ((W1.alloc (.cells #[.bool false, .int .u64 0, .int .u64 0] 24)).alloc (.cells #[.bool true, .int .u64 0, .int .u64 0] 24)) (w.heap.size + 1) false 0 0 := by
    rw [← s1]
    exact ⟨(AddrAt.new W1 false 0 0 24).alloc _, fun o => by simp [go_sem]⟩
  have A2 : AddrW ((W1.alloc (.cells #[.bool false, .int .u64 0, .int .u64 0] 24)).alloc (.cells #[.bool true, .int .u64 0, .int .u64 0] 24)) (w.heap.size + 1 + 1) true 0 0 := by
    have := AddrAt.new (W1.alloc (.cells #[.bool false, .int .u64 0, .int .u64 0] 24)) true 0 0 24
    rw [World.size_alloc, s1] at this
    exact ⟨this, fun o => by rw [← s1]; simp [go_sem]⟩
  have b3 : Below w.heap.size w ((W1.alloc (.cells #[.bool false, .int .u64 0, .int .u64 0] 24)).alloc (.cells #[.bool true, .int .u64 0, .int .u64 0] 24)) := (b1.alloc (by omega) _).alloc (by simp; omega) _
  clear N1 hW1 HGS
  go_loopw [6] (fun i wr => ∃ k : Nat, k ≤ 4 ∧ i = .int .i64 k ∧ NumsAt wr w.heap.size gs ∧ AddrW wr (w.heap.size + 1) false 0 0 ∧ AddrW wr (w.heap.size + 1 + 1) true (hor (gs.take k) : Int) (hor ((gs.drop 4).take k) : Int) ∧ Below w.heap.size w wr)
    (fun i _ => 4 - (intOf i).toNat)
  case atStart => exact ⟨0, by omega, rfl, N2, A1, A2, b3⟩
  case round =>
    clear N2 A1 A2 b3 b1 s1
    obtain ⟨k, hk, rfl, N, A, B, b⟩ := hrel
    by_cases hlt : k < 4
    · have c1 := N.1 k _ (List.getElem?_eq_getElem (by omega : k < gs.length))
      have c2 := N.1 (k + 4) _ (List.getElem?_eq_getElem (by omega : k + 4 < gs.length))
      have e1 := hor_take gs k (by omega)
      have e2 := hor_take (gs.drop 4) k (by omega)
      have eg : (gs.drop 4)[k]'(by omega) = gs[k + 4]'(by omega) := by rw [List.getElem_drop]; congr 1; omega
      rw [eg] at e2
      have l1 := hor_take_lt gs HLT.out k hlt
      have l2 := hor_take_lt (gs.drop 4) (fun x hx => HLT.out x (List.mem_of_mem_drop hx)) k hlt
      have x1 := HLT.out _ (List.getElem_mem (by omega : k < gs.length))
      have x2 := HLT.out _ (List.getElem_mem (by omega : k + 4 < gs.length))
      generalize gs[k]'(by omega) = g at c1 e1 x1
      generalize gs[k + 4]'(by omega) = g' at c2 e2 x2
      generalize hor (gs.take k) = h at B e1 l1
      generalize hor ((gs.drop 4).take k) = l at B e2 l2
      have o1 := or16 h g (by omega) (by omega) (by omega) (by omega)
      have o2 := or16 l g' (by omega) (by omega) (by omega) (by omega)
      obtain ⟨h', eh⟩ : ∃ h', h * 65536 + g = h' := ⟨_, rfl⟩
      obtain ⟨l', el⟩ : ∃ l', l * 65536 + g' = l' := ⟨_, rfl⟩
      rw [show (h : Int) * 65536 + g = (h' : Int) by omega] at o1
      rw [show (l : Int) * 65536 + g' = (l' : Int) by omega] at o2
      rw [eh] at e1
      rw [el] at e2
      have h2 : h' < 18446744073709551616 := by omega
      have l3 : l' < 18446744073709551616 := by omega
      have E1 := Lib.hid e1; have E2 := Lib.hid e2
      clear e1 e2 eh el eg
      have ⟨⟨t0, t1, t2, tz⟩, tf⟩ := B
      have f1 := tf 1; have f2 := tf 2
      clear tf
      have hi2 : (k : Int) + 4 < 8 := by omega
      have hk8 : (k : Int) < 8 := by omega
      go_wp2
      go_region
      go_wp2
      go_region
      go_wp2
      go_roundw
      case rel => exact ⟨k + 1, by omega, by go_num, (N.far (by show w.heap.size ≠ w.heap.size + 1 + 1; omega) _).far (by show w.heap.size ≠ w.heap.size + 1 + 1; omega) _, (A.far (by simp) _).far (by simp) _, by rw [E1.out, E2.out]; exact (B.set1 _).set2 _, ((b.setCell (by show w.heap.size ≤ w.heap.size + 1 + 1; omega) _).setCell (by show w.heap.size ≤ w.heap.size + 1 + 1; omega) _).drew.drew⟩
      case measure => simp [intOf]; omega
    · obtain rfl : k = 4 := by omega
      rw [show (gs.drop 4).take 4 = gs.drop 4 from List.take_of_length_le (by omega)] at B
      obtain ⟨h, hh⟩ : ∃ h, hor (gs.take 4) = h := ⟨_, rfl⟩
      obtain ⟨l, hl⟩ : ∃ l, hor (gs.drop 4) = l := ⟨_, rfl⟩
      rw [hh, hl] at B
      have HH := Lib.hid hh; have HL := Lib.hid hl
      clear hh hl
      have ⟨⟨t0, t1, t2, tz⟩, tf⟩ := B
      have ⟨⟨s0, s1, s2, sz⟩, sf⟩ := A
      have f0 := sf 0; have f1 := sf 1; have f2 := sf 2
      clear tf sf
      go_wp2
      try simp only [Exit.inBlock, Exit.then]
      refine bodyPost_ret (by simp [results, Tryd.results34, go_sem, s0, s1, s2]; try rfl) rfl ?_
      exact ⟨by rw [HH.out, HL.out], ((b.setCell (by simp) _).setCell (by simp) _).setCell (by simp) _⟩
end Go.Proofs.YtojdlhiibffnfabDoor
