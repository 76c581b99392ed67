/-
  The text of a prefix is read back as that prefix: pre.read and pre.Parse at such a text.
-/
import Derived.Test.YthlkofbdfjpfpabDoorPText
import Derived.Test.YthlkofbdfjpfpabDoorBackB
import Derived.Test.YthlkofbdfjpfpabDoorShelfD
import Derived.Lib.AtoiErrMem
import Derived.WalkSmall
namespace Go.Proofs.YthlkofbdfjpfpabDoor
open Go.RowKit Go.Sort
set_option linter.unusedVariables false
set_option linter.unusedSimpArgs false

theorem dig_not47 (d : Nat) : dig d ≠ 47 := by
  by_cases h : d < 16
  · have : ∀ k : Fin 16, dig k ≠ 47 := by decide +kernel
    exact this ⟨d, h⟩
  · unfold dig
    rw [List.getD_eq_getElem?_getD, List.getElem?_eq_none (by simp [digs]; omega)]
    decide
theorem numText_no47 (base f n : Nat) : (numText base f n).count 47 = 0 := by
  induction f generalizing n with
  | zero => simp [numText]
  | succ f ih =>
    unfold numText
    split
    · simp [List.count_cons, dig_not47]
    · rw [List.count_append, ih]; simp [List.count_cons, dig_not47]
theorem hexT_no47 (gs : List Nat) : ∀ t ∈ hexT gs, t.count 47 = 0 := fun t ht => by
  simp only [hexT, List.mem_map] at ht
  obtain ⟨p, _, rfl⟩ := ht
  exact numText_no47 _ _ _
theorem textL_no47 (six : Bool) (H L : Nat) : (textL six H L).count 47 = 0 := by
  unfold textL
  split
  · unfold sixT
    simp only
    split
    · rw [join_count 58 47 _ (hexT_no47 _)]; rfl
    · simp only [List.count_append]
      rw [join_count 58 47 _ (hexT_no47 _), join_count 58 47 _ (hexT_no47 _)]
      rfl
  · split
    · rw [join_count 46 47 _ (fun t ht => by
        simp only [fourT, List.mem_map] at ht
        obtain ⟨p, _, rfl⟩ := ht
        exact numText_no47 _ _ _)]
      rfl
    · rfl
theorem index47 (N : List UInt8) : ∀ T : List UInt8, T.count 47 = 0 → Lib.index (T ++ 47 :: N) [47] = T.length
  | [], _ => by simp [Lib.index]
  | c :: T, h => by
    have hc : ¬ c = 47 := fun e => by rw [e, List.count_cons_self] at h; omega
    have ih := index47 N T (by rw [List.count_cons] at h; omega)
    have hp : ([47] : List UInt8).isPrefixOf (c :: (T ++ 47 :: N)) = false := by
      have : ((47 : UInt8) == c) = false := by simpa using fun e => hc e.symm
      simp [List.isPrefixOf, this]
    show (if ([47] : List UInt8).isPrefixOf (c :: (T ++ 47 :: N)) then 0 else if Lib.index (T ++ 47 :: N) [47] == -1 then -1 else Lib.index (T ++ 47 :: N) [47] + 1) = _
    rw [hp, if_neg (by decide), ih, if_neg (by simp)]
    simp
theorem cut47 (T N : List UInt8) (h : T.count 47 = 0) : Lib.cut (T ++ [47] ++ N) [47] = (T, N, true) := by
  unfold Lib.cut
  rw [show T ++ [47] ++ N = T ++ 47 :: N from by simp, index47 N T h, if_pos (by omega), Int.toNat_natCast]
  simp
def atoiB (l : List UInt8) (n : Int) : Bool := match Lib.atoiAll l with
  | .ok v => v == n
  | _ => false
theorem atoiB_ok {l : List UInt8} {n : Int} (h : atoiB l n = true) : Lib.atoiAll l = .ok n := by
  unfold atoiB at h
  split at h
  · rename_i v hv; rw [hv]; simp at h; rw [h]
  · cases h
theorem atoi_num : ∀ n : Fin 129, atoiB (numText 10 3 n.val) (n.val : Int) = true := by decide +kernel
theorem preT_len (six : Bool) (x n : Nat) : (preT six x n).length ≤ 43 := by
  unfold preT
  have a := textL_le six (x / 18446744073709551616) (x % 18446744073709551616)
  have b := numText_le 10 3 n
  simp only [List.length_append, List.length_cons, List.length_nil]
  omega

theorem cut_pre (six : Bool) (x n : Nat) (W : World) (h : RTabs W) :
    Calls Tryd.prog 47 #[.string ⟨(preT six x n).toArray⟩, .string ⟨#[47]⟩] W fun e w' => e = .returned (.tuple #[.string ⟨(textL six (x / 18446744073709551616) (x % 18446744073709551616)).toArray⟩, .string ⟨(numText 10 3 n).toArray⟩, .bool true]) ∧ Below W.heap.size W w' := by
  obtain ⟨m, hm⟩ := h.2.1
  have hl := preT_len six x n
  have hsz : (⟨(preT six x n).toArray⟩ : ByteArray).size = (preT six x n).length := by simp [ByteArray.size]
  have c := Tryd.strings_Cut ⟨(preT six x n).toArray⟩ ⟨#[47]⟩ m W (by omega) hm
  have e : Lib.cut (⟨(preT six x n).toArray⟩ : ByteArray).data.toList (⟨#[47]⟩ : ByteArray).data.toList = (textL six (x / 18446744073709551616) (x % 18446744073709551616), numText 10 3 n, true) := by
    show Lib.cut (preT six x n) [47] = _
    exact cut47 _ _ (textL_no47 _ _ _)
  rw [e] at c
  refine c.mono ?_
  rintro e w' ⟨rfl, q, rfl⟩
  exact ⟨rfl, below_drewN (Below.refl _ _) q⟩
theorem addr_pre (six : Bool) (x : Nat) (hx : x < 2 ^ wideN six) (W : World) (h : RTabs W) :
    Calls Tryd.prog 7 #[.string ⟨(textL six (x / 18446744073709551616) (x % 18446744073709551616)).toArray⟩] W fun e w' => e = .returned (.tuple #[.agg #[.bool six, .int .u64 (aH x), .int .u64 (aL x)], .int .i64 0]) ∧ Below W.heap.size W w' := by
  have hx' := lt128 hx
  have c := parse_calls (textL six (x / 18446744073709551616) (x % 18446744073709551616)) (by have := textL_le six (x / 18446744073709551616) (x % 18446744073709551616); omega) W h
  rw [parse_back six _ _ (by omega) (by omega) (textE0 six x hx)] at c
  exact c
theorem atoi_pre (n : Nat) (hn : n ≤ 128) (W : World) :
    Calls Tryd.prog 48 #[.string ⟨(numText 10 3 n).toArray⟩] W fun e w' => e = .returned (.tuple #[.int .i64 (n : Int), .nilIface]) ∧ Below W.heap.size W w' := by
  have hl := numText_le 10 3 n
  have hsz : (⟨(numText 10 3 n).toArray⟩ : ByteArray).size = (numText 10 3 n).length := by simp [ByteArray.size]
  have ha : Lib.atoiAll (⟨(numText 10 3 n).toArray⟩ : ByteArray).data.toList = .ok (n : Int) := by
    show Lib.atoiAll (numText 10 3 n) = _
    exact atoiB_ok (atoi_num ⟨n, by omega⟩)
  refine (Tryd.strconv_Atoi_ok ⟨(numText 10 3 n).toArray⟩ (by omega) (n : Int) ha W).mono ?_
  rintro e w' ⟨rfl, rfl | ⟨t, rfl⟩⟩
  · exact ⟨rfl, Below.refl _ _⟩
  · exact ⟨rfl, Lib.bytesWorld_below _ _ _⟩

set_option maxHeartbeats 1000000 in
theorem read_pre (six : Bool) (x n : Nat) (hx : x < 2 ^ wideN six) (hn : n ≤ wideN six) (w : World) (hr : RTabs w) :
    Calls Tryd.prog 29 #[.string ⟨(preT six x n).toArray⟩] w fun e w' => e = .returned (.tuple #[.agg #[.bool six, .int .u64 (aH x), .int .u64 (aL x), .int .i64 n], .bool true]) ∧ Below w.heap.size w w' := by
  have hW := wideN_le six
  have K1 := Lib.hid (fun (W : World) (h : RTabs W) => cut_pre six x n W h)
  have K2 := Lib.hid (fun (W : World) (h : RTabs W) => addr_pre six x hx W h)
  have K3 := Lib.hid (fun (W : World) => atoi_pre n (by omega) W)
  have HR := Lib.hid hr
  clear hr
  generalize textL six (x / 18446744073709551616) (x % 18446744073709551616) = T at *
  generalize numText 10 3 n = N at *
  generalize preT six x n = R at *
  go_enter Tryd.func29, Tryd.ntmps29
  go_wp2_with fail
  refine (K1.out _ (HR.out.alloc _)).mono ?_
  rintro e w1 ⟨rfl, hb1⟩
  have b1 := thenBelow ((Below.refl _ w).alloc (Nat.le_refl _) _) hb1
  have HR1 := Lib.hid ((HR.out.alloc _).keep hb1)
  have HT1 := Lib.hid ((PreV.new w false 0 0 0 30).keep hb1)
  clear hb1 HR
  go_wp2_with fail
  refine (K2.out _ HR1.out).mono ?_
  rintro e w2 ⟨rfl, hb2⟩
  have b2 := thenBelow b1 hb2
  have HT2 := Lib.hid (HT1.out.keep hb2)
  clear hb2 b1 HR1 HT1
  go_wp2_with fail
  refine (K3.out _).mono ?_
  rintro e w3 ⟨rfl, hb3⟩
  have b3 := thenBelow (b2.alloc b2.size _) hb3
  have T3 := (HT2.out.alloc _).keep hb3
  have A3 := (AddrAt.new w2 six (aH x) (aL x) 24).keep hb3
  obtain ⟨⟨t0, t1, t2, t3, tl⟩, tf⟩ := T3
  have g0 := tf 0; have g1 := tf 1; have g2 := tf 2; have g3 := tf 3
  obtain ⟨a0, a1, a2, al⟩ := A3
  clear hb3 b2 HT2 tf
  go_wp2
  try simp only [Exit.inBlock, Exit.then]
  refine bodyPost_ret (v := .tuple #[.agg #[.bool six, .int .u64 (aH x), .int .u64 (aL x), .int .i64 n], .bool true]) (by simp [results, Tryd.results29, go_sem, t0, t1, t2, t3]) rfl ?_
  exact ⟨rfl, (((b3.setCell (by simp) _).setCell (by simp) _).setCell (by simp) _).setCell (by simp) _⟩
set_option maxHeartbeats 1000000 in
theorem parse_pre (six : Bool) (x n : Nat) (hx : x < 2 ^ wideN six) (hn : n ≤ wideN six) (hc : chkE six x n = 0) (w : World) (hr : RTabs w) :
    Calls Tryd.prog 11 #[.string ⟨(preT six x n).toArray⟩] w fun e w' => e = .returned (.tuple #[.agg #[.bool six, .int .u64 (aH x), .int .u64 (aL x), .int .i64 n], .int .i64 0]) ∧ Below w.heap.size w w' := by
  have K1 := Lib.hid (fun (W : World) (h : RTabs W) => read_pre six x n hx hn W h)
  have K2 := Lib.hid (fun (W : World) (h : Tabs W) => pText_ok six x n hx hn hc W h)
  have HR := Lib.hid hr
  have hl := preT_len six x n
  clear hr hc
  generalize preT six x n = R at *
  have hsz : (⟨R.toArray⟩ : ByteArray).size = R.length := by simp [ByteArray.size]
  go_enter Tryd.func11, Tryd.ntmps11
  go_wp2_with fail
  refine (K1.out _ (HR.out.alloc _)).mono ?_
  rintro e w1 ⟨rfl, hb1⟩
  have b1 := thenBelow ((Below.refl _ w).alloc (Nat.le_refl _) _) hb1
  have HR1 := Lib.hid ((HR.out.alloc _).keep hb1)
  have HT1 := Lib.hid ((PreV.new w false 0 0 0 30).keep hb1)
  clear hb1 HR
  go_wp2_with fail
  refine (K2.out _ (HR1.out.1.alloc _)).mono ?_
  rintro e w2 ⟨rfl, hb2⟩
  have b2 := thenBelow (b1.alloc b1.size _) hb2
  have T2 := (HT1.out.alloc _).keep hb2
  have P2 := (PreAt.new w1 six (aH x) (aL x) n 30).keep hb2
  obtain ⟨⟨t0, t1, t2, t3, tl⟩, tf⟩ := T2
  have g0 := tf 0; have g1 := tf 1; have g2 := tf 2; have g3 := tf 3
  obtain ⟨p0, p1, p2, p3, pl⟩ := P2
  clear hb2 b1 HT1 tf HR1
  go_wp2
  try simp only [Exit.inBlock, Exit.then]
  refine bodyPost_ret (v := .tuple #[.agg #[.bool six, .int .u64 (aH x), .int .u64 (aL x), .int .i64 n], .int .i64 0]) (by simp [results, Tryd.results11, go_sem, t0, t1, t2, t3]) rfl ?_
  exact ⟨rfl, (((b2.setCell (by simp) _).setCell (by simp) _).setCell (by simp) _).setCell (by simp) _⟩
end Go.Proofs.YthlkofbdfjpfpabDoor
