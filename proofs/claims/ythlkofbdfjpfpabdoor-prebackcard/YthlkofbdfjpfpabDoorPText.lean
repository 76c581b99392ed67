/-
  Contracts of pre.Text.
-/
import Derived.Test.YthlkofbdfjpfpabDoorText
import Derived.Test.YthlkofbdfjpfpabDoorChars
import Derived.Test.YthlkofbdfjpfpabDoorShelfC
import Derived.Test.YthlkofbdfjpfpabDoorPreC
namespace Go.Proofs.YthlkofbdfjpfpabDoor
open Go.RowKit Go.Sort
set_option linter.unusedVariables false
set_option linter.unusedSimpArgs false

/-- The text of a prefix that is valid. -/
def preT (six : Bool) (x n : Nat) : List UInt8 := textL six (x / 18446744073709551616) (x % 18446744073709551616) ++ [47] ++ numText 10 3 n
theorem cat2 (a b : List UInt8) : (⟨a.toArray⟩ : ByteArray) ++ ⟨b.toArray⟩ = ⟨(a ++ b).toArray⟩ := by
  apply ByteArray.ext
  simp
theorem cat3 (a b c : List UInt8) : (⟨a.toArray⟩ : ByteArray) ++ ⟨b.toArray⟩ ++ ⟨c.toArray⟩ = ⟨(a ++ b ++ c).toArray⟩ := by rw [cat2, cat2]
theorem textL_le (six : Bool) (H L : Nat) : (textL six H L).length ≤ 39 := by
  unfold textL
  split
  · exact (six_facts _ rfl).2.2.2
  · split
    · have := (four_facts L).2.2.1; omega
    · simp
theorem itoa_small (n : Nat) (h : n < 256) : Lib.itoa (n : Int) = numText 10 3 n := by
  have := dec_small ⟨n, h⟩
  simp only at this
  rw [← this]
  simp [Lib.itoa]
theorem itoa_calls (n : Nat) (h : n < 256) (w : World) (ht : Tabs w) :
    Calls Tryd.prog 26 #[.int .i64 (n : Int)] w fun e w' => e = .returned (.string ⟨(numText 10 3 n).toArray⟩) ∧ Below w.heap.size w w' := by
  refine (Tryd.strconv_Itoa (n : Int) (by omega) (by omega) w ht.2.1).mono ?_
  rintro e w' ⟨rfl, k, os, rfl⟩
  exact ⟨by rw [itoa_small n h], grow_below w os k⟩
theorem textE0 (six : Bool) (x : Nat) (hx : x < 2 ^ wideN six) : textE six (x / 18446744073709551616) (x % 18446744073709551616) = 0 := by
  cases six
  · have hx' : x < 4294967296 := hx
    unfold textE; rw [if_neg (by decide), if_pos ⟨by omega, by omega⟩]
  · rfl

set_option maxHeartbeats 400000 in
theorem pText_err (six : Bool) (x : Nat) (n e0 : Int) (hx : x < 2 ^ 128) (hc : chkE six x n = e0) (he : (e0 == 0) = false) (w : World) :
    Calls Tryd.prog 9 #[.agg #[.bool six, .int .u64 (aH x), .int .u64 (aL x), .int .i64 n]] w fun e w' => e = .returned (.tuple #[.string ⟨#[]⟩, .int .i64 e0]) ∧ Below w.heap.size w w' := by
  have C := Lib.hid hc
  clear hc
  go_enter Tryd.func9, Tryd.ntmps9
  go_wp2_with fail
  refine (check_calls six x n hx _).mono ?_
  rw [C.out]
  rintro e w1 ⟨rfl, hb1⟩
  have b1 := thenBelow ((Below.refl _ w).alloc (Nat.le_refl _) _) hb1
  clear hb1
  go_wp2
  go_ret2
  exact ⟨rfl, b1⟩
set_option maxHeartbeats 1000000 in
theorem pText_ok (six : Bool) (x n : Nat) (hx : x < 2 ^ wideN six) (hn : n ≤ wideN six) (hc : chkE six x n = 0) (w : World) (ht : Tabs w) :
    Calls Tryd.prog 9 #[.agg #[.bool six, .int .u64 (aH x), .int .u64 (aL x), .int .i64 n]] w fun e w' => e = .returned (.tuple #[.string ⟨(preT six x n).toArray⟩, .int .i64 0]) ∧ Below w.heap.size w w' := by
  have hW := wideN_le six
  have hx' := lt128 hx
  have T1 := Lib.hid (fun (W : World) (h : Tabs W) => text_calls six (x / 18446744073709551616) (x % 18446744073709551616) (by omega) (by omega) W h)
  rw [textE0 six x hx] at T1
  have I1 := Lib.hid (fun (W : World) (h : Tabs W) => itoa_calls n (by omega) W h)
  have HT := Lib.hid ht
  have C := Lib.hid hc
  have hdef : preT six x n = textL six (x / 18446744073709551616) (x % 18446744073709551616) ++ [47] ++ numText 10 3 n := rfl
  have HD := Lib.hid hdef
  clear ht hc hdef
  have lT := textL_le six (x / 18446744073709551616) (x % 18446744073709551616)
  have lN := numText_le 10 3 n
  generalize textL six (x / 18446744073709551616) (x % 18446744073709551616) = T at *
  generalize numText 10 3 n = N at *
  generalize preT six x n = R at *
  go_enter Tryd.func9, Tryd.ntmps9
  go_wp2_with fail
  refine (check_calls six x n hx' _).mono ?_
  rw [C.out]
  rintro e w1 ⟨rfl, hb1⟩
  have b1 := thenBelow ((Below.refl _ w).alloc (Nat.le_refl _) _) hb1
  have HT1 := Lib.hid ((HT.out.alloc _).keep hb1)
  have P1 := (PreAt.new w six (aH x) (aL x) n 30).keep hb1
  have HP1 := Lib.hid P1
  obtain ⟨p0, p1, p2, p3, pl⟩ := P1
  clear hb1
  go_wp2_with fail
  refine (T1.out _ HT1.out).mono ?_
  rintro e w2 ⟨rfl, hb2⟩
  have b2 := thenBelow b1 hb2
  have HT2 := Lib.hid (HT1.out.keep hb2)
  clear p0 p1 p2 p3 pl
  obtain ⟨p0, p1, p2, p3, pl⟩ := HP1.out.keep hb2
  clear hb2 b1 HT1 HP1
  go_wp2_with fail
  refine (I1.out _ HT2.out).mono ?_
  rintro e w3 ⟨rfl, hb3⟩
  go_wp2
  go_ret2
  refine ⟨?_, thenBelow b2 hb3⟩
  rw [HD.out, ← cat3]
  rfl

end Go.Proofs.YthlkofbdfjpfpabDoor
