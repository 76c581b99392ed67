/-
  Laid together: PParse, PParseAll, PParseEnd.
-/
import Derived.Test.YtojdlhiibffnfabDoorG1
import Derived.Test.YtojdlhiibffnfabDoorG3
import Derived.Test.YtojdlhiibffnfabDoorShelfD
import Derived.Lib.AtoiErrMem
import Derived.WalkSmall
/-
  The text of a prefix is read back as that prefix: pre.read and pre.Parse at such a text.
-/
namespace Go.Proofs.YtojdlhiibffnfabDoor
open Go.RowKit Go.Sort
set_option linter.unusedVariables false
set_option linter.unusedSimpArgs false

theorem dig_not47 (d : Nat) : dig d ≠ 47 := by
  by_cases h : d < 16
  · have : ∀ k : Fin 16, dig k ≠ 47 := by decide +kernel
    exact this ⟨d, h⟩
  · unfold dig
    rw [List.getD_eq_getElem?_getD, List.getElem?_eq_none (by simp [digs]; omega)]
    decide
theorem numText_no47 (base f n : Nat) : (numText base f n).count 47 = 0 := by
  induction f generalizing n with
  | zero => simp [numText]
  | succ f ih =>
    unfold numText
    split
    · simp [List.count_cons, dig_not47]
    · rw [List.count_append, ih]; simp [List.count_cons, dig_not47]
theorem hexT_no47 (gs : List Nat) : ∀ t ∈ hexT gs, t.count 47 = 0 := fun t ht => by
  simp only [hexT, List.mem_map] at ht
  obtain ⟨p, _, rfl⟩ := ht
  exact numText_no47 _ _ _
theorem textL_no47 (six : Bool) (H L : Nat) : (textL six H L).count 47 = 0 := by
  unfold textL
  split
  · unfold sixT
    simp only
    split
    · rw [join_count 58 47 _ (hexT_no47 _)]; rfl
    · simp only [List.count_append]
      rw [join_count 58 47 _ (hexT_no47 _), join_count 58 47 _ (hexT_no47 _)]
      rfl
  · split
    · rw [join_count 46 47 _ (fun t ht => by
        simp only [fourT, List.mem_map] at ht
        obtain ⟨p, _, rfl⟩ := ht
        exact numText_no47 _ _ _)]
      rfl
    · rfl
theorem index47 (N : List UInt8) : ∀ T : List UInt8, T.count 47 = 0 → Lib.index (T ++ 47 :: N) [47] = T.length
  | [], _ => by simp [Lib.index]
  | c :: T, h => by
    have hc : ¬ c = 47 := fun e => by rw [e, List.count_cons_self] at h; omega
    have ih := index47 N T (by rw [List.count_cons] at h; omega)
    have hp : ([47] : List UInt8).isPrefixOf (c :: (T ++ 47 :: N)) = false := by
      have : ((47 : UInt8) == c) = false := by simpa using fun e => hc e.symm
      simp [List.isPrefixOf, this]
    show (if ([47] : List UInt8).isPrefixOf (c :: (T ++ 47 :: N)) then 0 else if Lib.index (T ++ 47 :: N) [47] == -1 then -1 else Lib.index (T ++ 47 :: N) [47] + 1) = _
    rw [hp, if_neg (by decide), ih, if_neg (by simp)]
    simp
theorem cut47 (T N : List UInt8) (h : T.count 47 = 0) : Lib.cut (T ++ [47] ++ N) [47] = (T, N, true) := by
  unfold Lib.cut
  rw [show T ++ [47] ++ N = T ++ 47 :: N from by simp, index47 N T h, if_pos (by omega), Int.toNat_natCast]
  simp
def atoiB (l : List UInt8) (n : Int) : Bool := match Lib.atoiAll l with
  | .ok v => v == n
  | _ => false
theorem atoiB_ok {l : List UInt8} {n : Int} (h : atoiB l n = true) : Lib.atoiAll l = .ok n := by
  unfold atoiB at h
  split at h
  · rename_i v hv; rw [hv]; simp at h; rw [h]
  · cases h
theorem atoi_num : ∀ n : Fin 129, atoiB (numText 10 3 n.val) (n.val : Int) = true := by decide +kernel
theorem preT_len (six : Bool) (x n : Nat) : (preT six x n).length ≤ 43 := by
  unfold preT
  have a := textL_le six (x / 18446744073709551616) (x % 18446744073709551616)
  have b := numText_le 10 3 n
  simp only [List.length_append, List.length_cons, List.length_nil]
  omega

theorem cut_pre (six : Bool) (x n : Nat) (W : World) (h : RTabs W) :
    Calls Tryd.prog 27 #[.string ⟨(preT six x n).toArray⟩, .string ⟨#[47]⟩] W fun e w' => e = .returned (.tuple #[.string ⟨(textL six (x / 18446744073709551616) (x % 18446744073709551616)).toArray⟩, .string ⟨(numText 10 3 n).toArray⟩, .bool true]) ∧ Below W.heap.size W w' := by
  obtain ⟨m, hm⟩ := h.2.1
  have hl := preT_len six x n
  have hsz : (⟨(preT six x n).toArray⟩ : ByteArray).size = (preT six x n).length := by simp [ByteArray.size]
  have c := Tryd.strings_Cut ⟨(preT six x n).toArray⟩ ⟨#[47]⟩ m W (by omega) hm
  have e : Lib.cut (⟨(preT six x n).toArray⟩ : ByteArray).data.toList (⟨#[47]⟩ : ByteArray).data.toList = (textL six (x / 18446744073709551616) (x % 18446744073709551616), numText 10 3 n, true) := by
    show Lib.cut (preT six x n) [47] = _
    exact cut47 _ _ (textL_no47 _ _ _)
  rw [e] at c
  refine c.mono ?_
  rintro e w' ⟨rfl, q, rfl⟩
  exact ⟨rfl, below_drewN (Below.refl _ _) q⟩
theorem addr_pre (six : Bool) (x : Nat) (hx : x < 2 ^ wideN six) (W : World) (h : RTabs W) :
    Calls Tryd.prog 5 #[.string ⟨(textL six (x / 18446744073709551616) (x % 18446744073709551616)).toArray⟩] W fun e w' => e = .returned (.tuple #[.agg #[.bool six, .int .u64 (aH x), .int .u64 (aL x)], .int .i64 0]) ∧ Below W.heap.size W w' := by
  have hx' := lt128 hx
  have c := parse_calls (textL six (x / 18446744073709551616) (x % 18446744073709551616)) (by have := textL_le six (x / 18446744073709551616) (x % 18446744073709551616); omega) W h
  rw [parse_back six _ _ (by omega) (by omega) (textE0 six x hx)] at c
  exact c
theorem atoi_pre (n : Nat) (hn : n ≤ 128) (W : World) :
    Calls Tryd.prog 28 #[.string ⟨(numText 10 3 n).toArray⟩] W fun e w' => e = .returned (.tuple #[.int .i64 (n : Int), .nilIface]) ∧ Below W.heap.size W w' := by
  have hl := numText_le 10 3 n
  have hsz : (⟨(numText 10 3 n).toArray⟩ : ByteArray).size = (numText 10 3 n).length := by simp [ByteArray.size]
  have ha : Lib.atoiAll (⟨(numText 10 3 n).toArray⟩ : ByteArray).data.toList = .ok (n : Int) := by
    show Lib.atoiAll (numText 10 3 n) = _
    exact atoiB_ok (atoi_num ⟨n, by omega⟩)
  refine (Tryd.strconv_Atoi_ok ⟨(numText 10 3 n).toArray⟩ (by omega) (n : Int) ha W).mono ?_
  rintro e w' ⟨rfl, rfl | ⟨t, rfl⟩⟩
  · exact ⟨rfl, Below.refl _ _⟩
  · exact ⟨rfl, Lib.bytesWorld_below _ _ _⟩

set_option maxHeartbeats 1000000 in
theorem read_pre (six : Bool) (x n : Nat) (hx : x < 2 ^ wideN six) (hn : n ≤ wideN six) (w : World) (hr : RTabs w) :
    Calls Tryd.prog 15 #[.string ⟨(preT six x n).toArray⟩] w fun e w' => e = .returned (.tuple #[.agg #[.bool six, .int .u64 (aH x), .int .u64 (aL x), .int .i64 n], .bool true]) ∧ Below w.heap.size w w' := by
  have hW := wideN_le six
  have K1 := Lib.hid (fun (W : World) (h : RTabs W) => cut_pre six x n W h)
  have K2 := Lib.hid (fun (W : World) (h : RTabs W) => addr_pre six x hx W h)
  have K3 := Lib.hid (fun (W : World) => atoi_pre n (by omega) W)
  have HR := Lib.hid hr
  clear hr
  generalize textL six (x / 18446744073709551616) (x % 18446744073709551616) = T at *
  generalize numText 10 3 n = N at *
  generalize preT six x n = R at *
  go_enter Tryd.func15, Tryd.ntmps15
  go_wp2_with fail
  refine (K1.out _ (HR.out.alloc _)).mono ?_
  rintro e w1 ⟨rfl, hb1⟩
  have b1 := thenBelow ((Below.refl _ w).alloc (Nat.le_refl _) _) hb1
  have HR1 := Lib.hid ((HR.out.alloc _).keep hb1)
  have HT1 := Lib.hid ((PreV.new w false 0 0 0 30).keep hb1)
  clear hb1 HR
  go_wp2_with fail
  refine (K2.out _ HR1.out).mono ?_
  rintro e w2 ⟨rfl, hb2⟩
  have b2 := thenBelow b1 hb2
  have HT2 := Lib.hid (HT1.out.keep hb2)
  clear hb2 b1 HR1 HT1
  go_wp2_with fail
  refine (K3.out _).mono ?_
  rintro e w3 ⟨rfl, hb3⟩
  have b3 := thenBelow (b2.alloc b2.size _) hb3
  have T3 := (HT2.out.alloc _).keep hb3
  have A3 := (AddrAt.new w2 six (aH x) (aL x) 24).keep hb3
  obtain ⟨⟨t0, t1, t2, t3, tl⟩, tf⟩ := T3
  have g0 := tf 0; have g1 := tf 1; have g2 := tf 2; have g3 := tf 3
  obtain ⟨a0, a1, a2, al⟩ := A3
  clear hb3 b2 HT2 tf
  go_wp2
  try simp only [Exit.inBlock, Exit.then]
  refine bodyPost_ret (v := .tuple #[.agg #[.bool six, .int .u64 (aH x), .int .u64 (aL x), .int .i64 n], .bool true]) (by simp [results, Tryd.results15, go_sem, t0, t1, t2, t3]) rfl ?_
  exact ⟨rfl, (((b3.setCell (by simp) _).setCell (by simp) _).setCell (by simp) _).setCell (by simp) _⟩
set_option maxHeartbeats 1000000 in
theorem parse_pre (six : Bool) (x n : Nat) (hx : x < 2 ^ wideN six) (hn : n ≤ wideN six) (hc : chkE six x n = 0) (w : World) (hr : RTabs w) :
    Calls Tryd.prog 7 #[.string ⟨(preT six x n).toArray⟩] w fun e w' => e = .returned (.tuple #[.agg #[.bool six, .int .u64 (aH x), .int .u64 (aL x), .int .i64 n], .int .i64 0]) ∧ Below w.heap.size w w' := by
  have K1 := Lib.hid (fun (W : World) (h : RTabs W) => read_pre six x n hx hn W h)
  have K2 := Lib.hid (fun (W : World) (h : Tabs W) => pText_ok six x n hx hn hc W h)
  have HR := Lib.hid hr
  have hl := preT_len six x n
  clear hr hc
  generalize preT six x n = R at *
  have hsz : (⟨R.toArray⟩ : ByteArray).size = R.length := by simp [ByteArray.size]
  go_enter Tryd.func7, Tryd.ntmps7
  go_wp2_with fail
  refine (K1.out _ (HR.out.alloc _)).mono ?_
  rintro e w1 ⟨rfl, hb1⟩
  have b1 := thenBelow ((Below.refl _ w).alloc (Nat.le_refl _) _) hb1
  have HR1 := Lib.hid ((HR.out.alloc _).keep hb1)
  have HT1 := Lib.hid ((PreV.new w false 0 0 0 30).keep hb1)
  clear hb1 HR
  go_wp2_with fail
  refine (K2.out _ (HR1.out.1.alloc _)).mono ?_
  rintro e w2 ⟨rfl, hb2⟩
  have b2 := thenBelow (b1.alloc b1.size _) hb2
  have T2 := (HT1.out.alloc _).keep hb2
  have P2 := (PreAt.new w1 six (aH x) (aL x) n 30).keep hb2
  obtain ⟨⟨t0, t1, t2, t3, tl⟩, tf⟩ := T2
  have g0 := tf 0; have g1 := tf 1; have g2 := tf 2; have g3 := tf 3
  obtain ⟨p0, p1, p2, p3, pl⟩ := P2
  clear hb2 b1 HT1 tf HR1
  go_wp2
  try simp only [Exit.inBlock, Exit.then]
  refine bodyPost_ret (v := .tuple #[.agg #[.bool six, .int .u64 (aH x), .int .u64 (aL x), .int .i64 n], .int .i64 0]) (by simp [results, Tryd.results7, go_sem, t0, t1, t2, t3]) rfl ?_
  exact ⟨rfl, (((b2.setCell (by simp) _).setCell (by simp) _).setCell (by simp) _).setCell (by simp) _⟩
end Go.Proofs.YtojdlhiibffnfabDoor
/-
  pre.read and pre.Parse at any text.
-/
namespace Go.Proofs.YtojdlhiibffnfabDoor
open Go.RowKit Go.Sort
set_option linter.unusedVariables false
set_option linter.unusedSimpArgs false

/-- An answer that bears an error. -/
def BadNum (e : Ending) : Prop := ∃ v t p, e = .returned (.tuple #[.int .i64 v, .iface t p])
theorem atoi_bad (l : List UInt8) (hl : l.length ≤ 600) (hA : ∀ v, Lib.atoiAll l ≠ .ok v) (W : World) (h : RTabs W) :
    Calls Tryd.prog 28 #[.string ⟨l.toArray⟩] W fun e w' => BadNum e ∧ Below W.heap.size W w' := by
  have hsz : (⟨l.toArray⟩ : ByteArray).size = l.length := by simp [ByteArray.size]
  obtain ⟨e1, c1, d1⟩ := h.2.2.1
  obtain ⟨e2, c2, d2⟩ := h.2.2.2
  cases hB : Lib.atoiAll l with
  | ok v => exact absurd hB (hA v)
  | _ =>
    first
      | (refine (Any.strconv_Atoi_syntax Tryd.laysC172 ⟨l.toArray⟩ (by omega) (by exact hB) e1 W c1 d1).mono ?_
         rintro e w' ⟨N, rfl, _, _, hb⟩
         exact ⟨⟨_, _, _, rfl⟩, hb⟩)
      | (refine (Any.strconv_Atoi_range Tryd.laysC172 ⟨l.toArray⟩ (by omega) (by exact hB) e2 W c2 d2).mono ?_
         rintro e w' ⟨N, rfl, _, _, hb⟩
         exact ⟨⟨_, _, _, rfl⟩, hb⟩)
theorem atoi_good (l : List UInt8) (hl : l.length ≤ 600) (v : Int) (hA : Lib.atoiAll l = .ok v) (W : World) :
    Calls Tryd.prog 28 #[.string ⟨l.toArray⟩] W fun e w' => e = .returned (.tuple #[.int .i64 v, .nilIface]) ∧ Below W.heap.size W w' := by
  have hsz : (⟨l.toArray⟩ : ByteArray).size = l.length := by simp [ByteArray.size]
  refine (Tryd.strconv_Atoi_ok ⟨l.toArray⟩ (by omega) v hA W).mono ?_
  rintro e w' ⟨rfl, rfl | ⟨t, rfl⟩⟩
  · exact ⟨rfl, Below.refl _ _⟩
  · exact ⟨rfl, Lib.bytesWorld_below _ _ _⟩
theorem cut_any (s : List UInt8) (hl : s.length ≤ 600) (W : World) (h : RTabs W) :
    Calls Tryd.prog 27 #[.string ⟨s.toArray⟩, .string ⟨#[47]⟩] W fun e w' => e = .returned (.tuple #[.string ⟨(Lib.cut s [47]).1.toArray⟩, .string ⟨(Lib.cut s [47]).2.1.toArray⟩, .bool (Lib.cut s [47]).2.2]) ∧ Below W.heap.size W w' := by
  obtain ⟨m, hm⟩ := h.2.1
  have hsz : (⟨s.toArray⟩ : ByteArray).size = s.length := by simp [ByteArray.size]
  refine (Tryd.strings_Cut ⟨s.toArray⟩ ⟨#[47]⟩ m W (by omega) hm).mono ?_
  rintro e w' ⟨rfl, q, rfl⟩
  exact ⟨rfl, below_drewN (Below.refl _ _) q⟩
set_option maxHeartbeats 1000000 in
theorem read_no1 (R T N : List UInt8) (fd : Bool) (er : Int) (he : (er == 0) = false)
    (K1 : Hid (∀ W : World, RTabs W → Calls Tryd.prog 27 #[.string ⟨R.toArray⟩, .string ⟨#[47]⟩] W fun e w' => e = .returned (.tuple #[.string ⟨T.toArray⟩, .string ⟨N.toArray⟩, .bool fd]) ∧ Below W.heap.size W w'))
    (K2 : Hid (∀ W : World, RTabs W → Calls Tryd.prog 5 #[.string ⟨T.toArray⟩] W fun e w' => e = .returned (.tuple #[.agg #[.bool false, .int .u64 0, .int .u64 0], .int .i64 er]) ∧ Below W.heap.size W w')) (w : World) (hr : RTabs w) :
    Calls Tryd.prog 15 #[.string ⟨R.toArray⟩] w fun e w' => e = .returned (.tuple #[.agg #[.bool false, .int .u64 0, .int .u64 0, .int .i64 0], .bool false]) ∧ Below w.heap.size w w' := by
  have HR := Lib.hid hr
  clear hr
  go_enter Tryd.func15, Tryd.ntmps15
  go_wp2_with fail
  refine (K1.out _ (HR.out.alloc _)).mono ?_
  rintro e w1 ⟨rfl, hb1⟩
  have b1 := thenBelow ((Below.refl _ w).alloc (Nat.le_refl _) _) hb1
  have HR1 := Lib.hid ((HR.out.alloc _).keep hb1)
  have HT1 := Lib.hid ((PreV.new w false 0 0 0 30).keep hb1)
  clear hb1 HR
  go_wp2_with fail
  refine (K2.out _ HR1.out).mono ?_
  rintro e w2 ⟨rfl, hb2⟩
  have b2 := thenBelow b1 hb2
  have HR2 := Lib.hid (HR1.out.keep hb2)
  have HT2 := Lib.hid (HT1.out.keep hb2)
  clear hb2 b1 HR1 HT1
  have T3 := HT2.out
  have hs2 := b2.size
  obtain ⟨⟨t0, t1, t2, t3, tl⟩, tf⟩ := T3
  have g0 := tf 0; have g1 := tf 1; have g2 := tf 2; have g3 := tf 3
  clear tf
  go_wp2
  try simp only [Exit.inBlock, Exit.then]
  have T4 := (HT2.out.store false 0 0 0).alloc (.cells #[.bool false, .int .u64 0, .int .u64 0] 24)
  have B4 := ((((b2.setCell (p := ⟨w.heap.size, 0, none⟩) (by simp) (.bool false)).setCell (p := ⟨w.heap.size, 1, none⟩) (by simp) (.int .u64 0)).setCell (p := ⟨w.heap.size, 2, none⟩) (by simp) (.int .u64 0)).setCell (p := ⟨w.heap.size, 3, none⟩) (by simp) (.int .i64 0)).alloc (by simp; omega) (.cells #[.bool false, .int .u64 0, .int .u64 0] 24)
  revert T4 B4
  generalize World.alloc _ _ = W7
  intro T4 B4
  obtain ⟨⟨k0, k1, k2, k3, _⟩, _⟩ := T4
  exact bodyPost_ret (v := .tuple #[.agg #[.bool false, .int .u64 0, .int .u64 0, .int .i64 0], .bool false]) (by simp [results, Tryd.results15, go_sem, k0, k1, k2, k3]) rfl ⟨rfl, B4⟩

set_option maxHeartbeats 1000000 in
theorem read_no2 (R T N : List UInt8) (fd : Bool) (six : Bool) (x : Nat)
    (K1 : Hid (∀ W : World, RTabs W → Calls Tryd.prog 27 #[.string ⟨R.toArray⟩, .string ⟨#[47]⟩] W fun e w' => e = .returned (.tuple #[.string ⟨T.toArray⟩, .string ⟨N.toArray⟩, .bool fd]) ∧ Below W.heap.size W w'))
    (K2 : Hid (∀ W : World, RTabs W → Calls Tryd.prog 5 #[.string ⟨T.toArray⟩] W fun e w' => e = .returned (.tuple #[.agg #[.bool six, .int .u64 (aH x), .int .u64 (aL x)], .int .i64 0]) ∧ Below W.heap.size W w'))
    (K3 : Hid (∀ W : World, RTabs W → Calls Tryd.prog 28 #[.string ⟨N.toArray⟩] W fun e w' => BadNum e ∧ Below W.heap.size W w')) (w : World) (hr : RTabs w) :
    Calls Tryd.prog 15 #[.string ⟨R.toArray⟩] w fun e w' => e = .returned (.tuple #[.agg #[.bool false, .int .u64 0, .int .u64 0, .int .i64 0], .bool false]) ∧ Below w.heap.size w w' := by
  have HR := Lib.hid hr
  clear hr
  go_enter Tryd.func15, Tryd.ntmps15
  go_wp2_with fail
  refine (K1.out _ (HR.out.alloc _)).mono ?_
  rintro e w1 ⟨rfl, hb1⟩
  have b1 := thenBelow ((Below.refl _ w).alloc (Nat.le_refl _) _) hb1
  have HR1 := Lib.hid ((HR.out.alloc _).keep hb1)
  have HT1 := Lib.hid ((PreV.new w false 0 0 0 30).keep hb1)
  clear hb1 HR
  go_wp2_with fail
  refine (K2.out _ HR1.out).mono ?_
  rintro e w2 ⟨rfl, hb2⟩
  have b2 := thenBelow b1 hb2
  have HR2 := Lib.hid (HR1.out.keep hb2)
  have HT2 := Lib.hid (HT1.out.keep hb2)
  clear hb2 b1 HR1 HT1
  go_wp2_with fail
  refine (K3.out _ (HR2.out.alloc _)).mono ?_
  rintro e w3 ⟨⟨v, tt, pp, rfl⟩, hb3⟩
  have b3 := thenBelow (b2.alloc b2.size _) hb3
  have T3 := (HT2.out.alloc _).keep hb3
  clear hb3
  obtain ⟨⟨t0, t1, t2, t3, tl⟩, tf⟩ := T3
  have g0 := tf 0; have g1 := tf 1; have g2 := tf 2; have g3 := tf 3
  clear tf
  go_wp2
  try simp only [Exit.inBlock, Exit.then]
  refine bodyPost_ret (v := .tuple #[.agg #[.bool false, .int .u64 0, .int .u64 0, .int .i64 0], .bool false]) (by simp [results, Tryd.results15, go_sem, t0, t1, t2, t3]) rfl ?_
  exact ⟨rfl, (((b3.setCell (by simp) _).setCell (by simp) _).setCell (by simp) _).setCell (by simp) _⟩

set_option maxHeartbeats 1000000 in
theorem read_yes (R T N : List UInt8) (fd : Bool) (six : Bool) (x : Nat) (v : Int)
    (K1 : Hid (∀ W : World, RTabs W → Calls Tryd.prog 27 #[.string ⟨R.toArray⟩, .string ⟨#[47]⟩] W fun e w' => e = .returned (.tuple #[.string ⟨T.toArray⟩, .string ⟨N.toArray⟩, .bool fd]) ∧ Below W.heap.size W w'))
    (K2 : Hid (∀ W : World, RTabs W → Calls Tryd.prog 5 #[.string ⟨T.toArray⟩] W fun e w' => e = .returned (.tuple #[.agg #[.bool six, .int .u64 (aH x), .int .u64 (aL x)], .int .i64 0]) ∧ Below W.heap.size W w'))
    (K3 : Hid (∀ W : World, Calls Tryd.prog 28 #[.string ⟨N.toArray⟩] W fun e w' => e = .returned (.tuple #[.int .i64 v, .nilIface]) ∧ Below W.heap.size W w')) (w : World) (hr : RTabs w) :
    Calls Tryd.prog 15 #[.string ⟨R.toArray⟩] w fun e w' => e = .returned (.tuple #[.agg #[.bool six, .int .u64 (aH x), .int .u64 (aL x), .int .i64 v], .bool true]) ∧ Below w.heap.size w w' := by
  have HR := Lib.hid hr
  clear hr
  go_enter Tryd.func15, Tryd.ntmps15
  go_wp2_with fail
  refine (K1.out _ (HR.out.alloc _)).mono ?_
  rintro e w1 ⟨rfl, hb1⟩
  have b1 := thenBelow ((Below.refl _ w).alloc (Nat.le_refl _) _) hb1
  have HR1 := Lib.hid ((HR.out.alloc _).keep hb1)
  have HT1 := Lib.hid ((PreV.new w false 0 0 0 30).keep hb1)
  clear hb1 HR
  go_wp2_with fail
  refine (K2.out _ HR1.out).mono ?_
  rintro e w2 ⟨rfl, hb2⟩
  have b2 := thenBelow b1 hb2
  have HR2 := Lib.hid (HR1.out.keep hb2)
  have HT2 := Lib.hid (HT1.out.keep hb2)
  clear hb2 b1 HR1 HT1
  go_wp2_with fail
  refine (K3.out _).mono ?_
  rintro e w3 ⟨rfl, hb3⟩
  have b3 := thenBelow (b2.alloc b2.size _) hb3
  have T3 := (HT2.out.alloc _).keep hb3
  obtain ⟨a0, a1, a2, al⟩ := (AddrAt.new w2 six (aH x) (aL x) 24).keep hb3
  clear hb3
  obtain ⟨⟨t0, t1, t2, t3, tl⟩, tf⟩ := T3
  have g0 := tf 0; have g1 := tf 1; have g2 := tf 2; have g3 := tf 3
  clear tf
  go_wp2
  try simp only [Exit.inBlock, Exit.then]
  refine bodyPost_ret (v := .tuple #[.agg #[.bool six, .int .u64 (aH x), .int .u64 (aL x), .int .i64 v], .bool true]) (by simp [results, Tryd.results15, go_sem, t0, t1, t2, t3]) rfl ?_
  exact ⟨rfl, (((b3.setCell (by simp) _).setCell (by simp) _).setCell (by simp) _).setCell (by simp) _⟩

set_option maxHeartbeats 1000000 in
theorem pp_noread (R : List UInt8) (hl : R.length ≤ 600)
    (K1 : Hid (∀ W : World, RTabs W → Calls Tryd.prog 15 #[.string ⟨R.toArray⟩] W fun e w' => e = .returned (.tuple #[.agg #[.bool false, .int .u64 0, .int .u64 0, .int .i64 0], .bool false]) ∧ Below W.heap.size W w')) (w : World) (hr : RTabs w) :
    Calls Tryd.prog 7 #[.string ⟨R.toArray⟩] w fun e w' => e = .returned (.tuple #[.agg #[.bool false, .int .u64 0, .int .u64 0, .int .i64 0], .int .i64 4]) ∧ Below w.heap.size w w' := by
  have HR := Lib.hid hr
  clear hr
  have hsz : (⟨R.toArray⟩ : ByteArray).size = R.length := by simp [ByteArray.size]
  go_enter Tryd.func7, Tryd.ntmps7
  go_wp2_with fail
  refine (K1.out _ (HR.out.alloc _)).mono ?_
  rintro e w1 ⟨rfl, hb1⟩
  have b1 := thenBelow ((Below.refl _ w).alloc (Nat.le_refl _) _) hb1
  have HR1 := Lib.hid ((HR.out.alloc _).keep hb1)
  have HT1 := Lib.hid ((PreV.new w false 0 0 0 30).keep hb1)
  clear hb1 HR
  have hs1 := b1.size
  have T3 := HT1.out
  obtain ⟨⟨t0, t1, t2, t3, tl⟩, tf⟩ := T3
  have g0 := tf 0; have g1 := tf 1; have g2 := tf 2; have g3 := tf 3
  clear tf
  go_wp2
  try simp only [Exit.inBlock, Exit.then]
  have T4 := (HT1.out.store false 0 0 0).alloc (.cells #[.bool false, .int .u64 0, .int .u64 0, .int .i64 0] 30)
  have B4 := ((((b1.setCell (p := ⟨w.heap.size, 0, none⟩) (by simp) (.bool false)).setCell (p := ⟨w.heap.size, 1, none⟩) (by simp) (.int .u64 0)).setCell (p := ⟨w.heap.size, 2, none⟩) (by simp) (.int .u64 0)).setCell (p := ⟨w.heap.size, 3, none⟩) (by simp) (.int .i64 0)).alloc (by simp; omega) (.cells #[.bool false, .int .u64 0, .int .u64 0, .int .i64 0] 30)
  revert T4 B4
  generalize World.alloc _ _ = W7
  intro T4 B4
  obtain ⟨⟨k0, k1, k2, k3, _⟩, _⟩ := T4
  exact bodyPost_ret (v := .tuple #[.agg #[.bool false, .int .u64 0, .int .u64 0, .int .i64 0], .int .i64 4]) (by simp [results, Tryd.results7, go_sem, k0, k1, k2, k3]) rfl ⟨rfl, B4⟩

set_option maxHeartbeats 1000000 in
theorem pp_err (R : List UInt8) (six : Bool) (x : Nat) (v er : Int) (T : ByteArray) (he : (er == 0) = false) (hl : R.length ≤ 600)
    (K1 : Hid (∀ W : World, RTabs W → Calls Tryd.prog 15 #[.string ⟨R.toArray⟩] W fun e w' => e = .returned (.tuple #[.agg #[.bool six, .int .u64 (aH x), .int .u64 (aL x), .int .i64 v], .bool true]) ∧ Below W.heap.size W w'))
    (K2 : Hid (∀ W : World, Tabs W → Calls Tryd.prog 16 #[.agg #[.bool six, .int .u64 (aH x), .int .u64 (aL x), .int .i64 v]] W fun e w' => e = .returned (.tuple #[.string T, .int .i64 er]) ∧ Below W.heap.size W w')) (w : World) (hr : RTabs w) :
    Calls Tryd.prog 7 #[.string ⟨R.toArray⟩] w fun e w' => e = .returned (.tuple #[.agg #[.bool false, .int .u64 0, .int .u64 0, .int .i64 0], .int .i64 4]) ∧ Below w.heap.size w w' := by
  have HR := Lib.hid hr
  clear hr
  have hsz : (⟨R.toArray⟩ : ByteArray).size = R.length := by simp [ByteArray.size]
  have he1 : ¬ er = 0 := (by simpa using he)
  have he2 : (er != 0) = true := (by simpa using he1)
  go_enter Tryd.func7, Tryd.ntmps7
  go_wp2_with fail
  refine (K1.out _ (HR.out.alloc _)).mono ?_
  rintro e w1 ⟨rfl, hb1⟩
  have b1 := thenBelow ((Below.refl _ w).alloc (Nat.le_refl _) _) hb1
  have HR1 := Lib.hid ((HR.out.alloc _).keep hb1)
  have HT1 := Lib.hid ((PreV.new w false 0 0 0 30).keep hb1)
  clear hb1 HR
  go_wp2_with fail
  refine (K2.out _ (HR1.out.1.alloc _)).mono ?_
  rintro e w2 ⟨rfl, hb2⟩
  have b2 := thenBelow (b1.alloc b1.size _) hb2
  have T2 := (HT1.out.alloc _).keep hb2
  obtain ⟨p0, p1, p2, p3, pl⟩ := (PreAt.new w1 six (aH x) (aL x) v 30).keep hb2
  obtain ⟨⟨t0, t1, t2, t3, tl⟩, tf⟩ := T2
  have g0 := tf 0; have g1 := tf 1; have g2 := tf 2; have g3 := tf 3
  clear hb2 tf
  go_wp2
  try simp only [Exit.inBlock, Exit.then]
  refine bodyPost_ret (v := .tuple #[.agg #[.bool false, .int .u64 0, .int .u64 0, .int .i64 0], .int .i64 4]) (by simp [results, Tryd.results7, go_sem, t0, t1, t2, t3]) rfl ?_
  exact ⟨rfl, (((b2.setCell (by simp) _).setCell (by simp) _).setCell (by simp) _).setCell (by simp) _⟩

set_option maxHeartbeats 1000000 in
theorem pp_ne (R : List UInt8) (six : Bool) (x : Nat) (v : Int) (T : List UInt8) (hne : (T == R) = false) (hl : R.length ≤ 600)
    (K1 : Hid (∀ W : World, RTabs W → Calls Tryd.prog 15 #[.string ⟨R.toArray⟩] W fun e w' => e = .returned (.tuple #[.agg #[.bool six, .int .u64 (aH x), .int .u64 (aL x), .int .i64 v], .bool true]) ∧ Below W.heap.size W w'))
    (K2 : Hid (∀ W : World, Tabs W → Calls Tryd.prog 16 #[.agg #[.bool six, .int .u64 (aH x), .int .u64 (aL x), .int .i64 v]] W fun e w' => e = .returned (.tuple #[.string ⟨T.toArray⟩, .int .i64 0]) ∧ Below W.heap.size W w')) (w : World) (hr : RTabs w) :
    Calls Tryd.prog 7 #[.string ⟨R.toArray⟩] w fun e w' => e = .returned (.tuple #[.agg #[.bool false, .int .u64 0, .int .u64 0, .int .i64 0], .int .i64 4]) ∧ Below w.heap.size w w' := by
  have HR := Lib.hid hr
  clear hr
  have hsz : (⟨R.toArray⟩ : ByteArray).size = R.length := by simp [ByteArray.size]
  go_enter Tryd.func7, Tryd.ntmps7
  go_wp2_with fail
  refine (K1.out _ (HR.out.alloc _)).mono ?_
  rintro e w1 ⟨rfl, hb1⟩
  have b1 := thenBelow ((Below.refl _ w).alloc (Nat.le_refl _) _) hb1
  have HR1 := Lib.hid ((HR.out.alloc _).keep hb1)
  have HT1 := Lib.hid ((PreV.new w false 0 0 0 30).keep hb1)
  clear hb1 HR
  go_wp2_with fail
  refine (K2.out _ (HR1.out.1.alloc _)).mono ?_
  rintro e w2 ⟨rfl, hb2⟩
  have b2 := thenBelow (b1.alloc b1.size _) hb2
  have T2 := (HT1.out.alloc _).keep hb2
  obtain ⟨p0, p1, p2, p3, pl⟩ := (PreAt.new w1 six (aH x) (aL x) v 30).keep hb2
  obtain ⟨⟨t0, t1, t2, t3, tl⟩, tf⟩ := T2
  have g0 := tf 0; have g1 := tf 1; have g2 := tf 2; have g3 := tf 3
  clear hb2 tf
  go_wp2
  try simp only [Exit.inBlock, Exit.then]
  refine bodyPost_ret (v := .tuple #[.agg #[.bool false, .int .u64 0, .int .u64 0, .int .i64 0], .int .i64 4]) (by simp [results, Tryd.results7, go_sem, t0, t1, t2, t3]) rfl ?_
  exact ⟨rfl, (((b2.setCell (by simp) _).setCell (by simp) _).setCell (by simp) _).setCell (by simp) _⟩

set_option maxHeartbeats 1000000 in
theorem pp_yes (R : List UInt8) (six : Bool) (x : Nat) (v : Int) (hl : R.length ≤ 600)
    (K1 : Hid (∀ W : World, RTabs W → Calls Tryd.prog 15 #[.string ⟨R.toArray⟩] W fun e w' => e = .returned (.tuple #[.agg #[.bool six, .int .u64 (aH x), .int .u64 (aL x), .int .i64 v], .bool true]) ∧ Below W.heap.size W w'))
    (K2 : Hid (∀ W : World, Tabs W → Calls Tryd.prog 16 #[.agg #[.bool six, .int .u64 (aH x), .int .u64 (aL x), .int .i64 v]] W fun e w' => e = .returned (.tuple #[.string ⟨R.toArray⟩, .int .i64 0]) ∧ Below W.heap.size W w')) (w : World) (hr : RTabs w) :
    Calls Tryd.prog 7 #[.string ⟨R.toArray⟩] w fun e w' => e = .returned (.tuple #[.agg #[.bool six, .int .u64 (aH x), .int .u64 (aL x), .int .i64 v], .int .i64 0]) ∧ Below w.heap.size w w' := by
  have HR := Lib.hid hr
  clear hr
  have hsz : (⟨R.toArray⟩ : ByteArray).size = R.length := by simp [ByteArray.size]
  go_enter Tryd.func7, Tryd.ntmps7
  go_wp2_with fail
  refine (K1.out _ (HR.out.alloc _)).mono ?_
  rintro e w1 ⟨rfl, hb1⟩
  have b1 := thenBelow ((Below.refl _ w).alloc (Nat.le_refl _) _) hb1
  have HR1 := Lib.hid ((HR.out.alloc _).keep hb1)
  have HT1 := Lib.hid ((PreV.new w false 0 0 0 30).keep hb1)
  clear hb1 HR
  go_wp2_with fail
  refine (K2.out _ (HR1.out.1.alloc _)).mono ?_
  rintro e w2 ⟨rfl, hb2⟩
  have b2 := thenBelow (b1.alloc b1.size _) hb2
  have T2 := (HT1.out.alloc _).keep hb2
  obtain ⟨p0, p1, p2, p3, pl⟩ := (PreAt.new w1 six (aH x) (aL x) v 30).keep hb2
  obtain ⟨⟨t0, t1, t2, t3, tl⟩, tf⟩ := T2
  have g0 := tf 0; have g1 := tf 1; have g2 := tf 2; have g3 := tf 3
  clear hb2 tf
  go_wp2
  try simp only [Exit.inBlock, Exit.then]
  refine bodyPost_ret (v := .tuple #[.agg #[.bool six, .int .u64 (aH x), .int .u64 (aL x), .int .i64 v], .int .i64 0]) (by simp [results, Tryd.results7, go_sem, t0, t1, t2, t3]) rfl ?_
  exact ⟨rfl, (((b2.setCell (by simp) _).setCell (by simp) _).setCell (by simp) _).setCell (by simp) _⟩

set_option maxHeartbeats 400000 in
theorem pp_long (s : List UInt8) (hl : 600 < s.length) (hm : s.length ≤ 9223372036854775807) (w : World) :
    Calls Tryd.prog 7 #[.string ⟨s.toArray⟩] w fun e w' => e = .returned (.tuple #[.agg #[.bool false, .int .u64 0, .int .u64 0, .int .i64 0], .int .i64 1]) ∧ Below w.heap.size w w' := by
  have hsz : (⟨s.toArray⟩ : ByteArray).size = s.length := by simp [ByteArray.size]
  have hli : 600 < (s.length : Int) := by omega
  go_enter Tryd.func7, Tryd.ntmps7
  go_wp2
  go_returns
  exact ⟨rfl, by go_grown⟩
end Go.Proofs.YtojdlhiibffnfabDoor
/-
  pre.Parse at any text of 600 bytes or fewer: it is the text of a valid prefix, and that prefix comes out; or of none, and ErrForm comes out.
-/
namespace Go.Proofs.YtojdlhiibffnfabDoor
open Go.RowKit Go.Sort
set_option linter.unusedVariables false
set_option linter.unusedSimpArgs false

/-- s is the text of this valid prefix. -/
def IsPre (s : List UInt8) (six : Bool) (x n : Nat) : Prop := x < 2 ^ wideN six ∧ n ≤ wideN six ∧ chkE six x n = 0 ∧ preT six x n = s
theorem parseOf_some {s : List UInt8} {six : Bool} {H L : Nat} (h : parseOf s = some (six, H, L)) : H < 18446744073709551616 ∧ L < 18446744073709551616 := by
  unfold parseOf at h
  split at h
  · rename_i six2 H2 L2 hr
    split at h
    · simp only [Option.some.injEq, Prod.mk.injEq] at h
      obtain ⟨rfl, rfl, rfl⟩ := h
      exact readOf_lt hr
    · cases h
  · cases h
theorem pp_none (s : List UInt8) (hl : s.length ≤ 600) (hno : ∀ six x n, ¬ IsPre s six x n) (w : World) (hr : RTabs w) :
    Calls Tryd.prog 7 #[.string ⟨s.toArray⟩] w fun e w' => e = .returned (.tuple #[.agg #[.bool false, .int .u64 0, .int .u64 0, .int .i64 0], .int .i64 4]) ∧ Below w.heap.size w w' := by
  have hcl := cut_len s [47]
  have k1 := fun (W : World) (h : RTabs W) => cut_any s hl W h
  have k2 := fun (W : World) (h : RTabs W) => parse_calls (Lib.cut s [47]).1 (by omega) W h
  cases hp : parseOf (Lib.cut s [47]).1 with
  | none =>
    rw [hp] at k2
    exact pp_noread s hl (Lib.hid (fun W h => read_no1 s _ _ _ 4 rfl (Lib.hid k1) (Lib.hid k2) W h)) w hr
  | some t =>
    obtain ⟨six, H, L⟩ := t
    rw [hp] at k2
    obtain ⟨hH, hL⟩ := parseOf_some hp
    have eH : (H : Int) = aH (H * 18446744073709551616 + L) := by unfold aH; omega
    have eL : (L : Int) = aL (H * 18446744073709551616 + L) := by unfold aL; omega
    have k2' : ∀ W : World, RTabs W → Calls Tryd.prog 5 #[.string ⟨(Lib.cut s [47]).1.toArray⟩] W fun e w' => e = .returned (.tuple #[.agg #[.bool six, .int .u64 (aH (H * 18446744073709551616 + L)), .int .u64 (aL (H * 18446744073709551616 + L))], .int .i64 0]) ∧ Below W.heap.size W w' := by
      rw [← eH, ← eL]
      exact k2
    have hx : H * 18446744073709551616 + L < 2 ^ 128 := by omega
    generalize H * 18446744073709551616 + L = x at *
    by_cases hA : ∃ v, Lib.atoiAll (Lib.cut s [47]).2.1 = .ok v
    · obtain ⟨v, hv⟩ := hA
      have rd := fun (W : World) (h : RTabs W) => read_yes s _ _ _ six x v (Lib.hid k1) (Lib.hid k2') (Lib.hid (fun W => atoi_good _ (by omega) v hv W)) W h
      by_cases hc : chkE six x v = 0
      · obtain ⟨hxv, n, rfl, hn, hlow⟩ := chk0 hc
        have hne : (preT six x n == s) = false := by
          have : preT six x n ≠ s := fun e => hno six x n ⟨hxv, hn, hc, e⟩
          simpa using this
        exact pp_ne s six x n (preT six x n) hne hl (Lib.hid rd) (Lib.hid (fun W h => pText_ok six x n hxv hn hc W h)) w hr
      · exact pp_err s six x v _ _ (by simpa using hc) hl (Lib.hid rd) (Lib.hid (fun W _ => pText_err six x v _ hx rfl (by simpa using hc) W)) w hr
    · have rd := fun (W : World) (h : RTabs W) => read_no2 s _ _ _ six x (Lib.hid k1) (Lib.hid k2') (Lib.hid (fun W h => atoi_bad _ (by omega) (fun v hv => hA ⟨v, hv⟩) W h)) W h
      exact pp_noread s hl (Lib.hid rd) w hr
theorem pp_some (s : List UInt8) (six : Bool) (x n : Nat) (h : IsPre s six x n) (w : World) (hr : RTabs w) :
    Calls Tryd.prog 7 #[.string ⟨s.toArray⟩] w fun e w' => e = .returned (.tuple #[.agg #[.bool six, .int .u64 (aH x), .int .u64 (aL x), .int .i64 n], .int .i64 0]) ∧ Below w.heap.size w w' := by
  obtain ⟨h1, h2, h3, rfl⟩ := h
  exact parse_pre six x n h1 h2 h3 w hr
/-- A text is that of one prefix alone. -/
theorem isPre_inj {s : List UInt8} {six six2 : Bool} {x x2 n n2 : Nat} (h : IsPre s six x n) (k : IsPre s six2 x2 n2) : six = six2 ∧ x = x2 ∧ n = n2 := by
  obtain ⟨a1, a2, a3, rfl⟩ := h
  obtain ⟨b1, b2, b3, e⟩ := k
  have ha := lt128 a1
  have hb := lt128 b1
  have c1 := cut47 (textL six (x / 18446744073709551616) (x % 18446744073709551616)) (numText 10 3 n) (textL_no47 _ _ _)
  have c2 := cut47 (textL six2 (x2 / 18446744073709551616) (x2 % 18446744073709551616)) (numText 10 3 n2) (textL_no47 _ _ _)
  have e' : textL six2 (x2 / 18446744073709551616) (x2 % 18446744073709551616) ++ [47] ++ numText 10 3 n2 = textL six (x / 18446744073709551616) (x % 18446744073709551616) ++ [47] ++ numText 10 3 n := e
  rw [e', c1] at c2
  simp only [Prod.mk.injEq, and_true] at c2
  obtain ⟨t1, t2⟩ := c2
  obtain ⟨r1, r2, r3⟩ := text_inj (by omega) (by omega) (textE0 six x a1) (by omega) (by omega) (textE0 six2 x2 b1) t1
  have w1 := wideN_le six
  have w2 := wideN_le six2
  have q1 := atoiB_ok (atoi_num ⟨n, by omega⟩)
  have q2 := atoiB_ok (atoi_num ⟨n2, by omega⟩)
  simp only at q1 q2
  rw [t2, q2] at q1
  injection q1 with q
  exact ⟨r1, by omega, by omega⟩
end Go.Proofs.YtojdlhiibffnfabDoor
