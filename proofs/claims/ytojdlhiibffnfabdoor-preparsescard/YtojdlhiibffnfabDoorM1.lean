/-
  Texts that the proof rests on, laid together: Shelf, Base, Hex, Dec, TextBase, Laid, Pu, Pu10, Pu16, ShelfB, ReadBase, Laid7, FourText, GroupsText, SixText, May, Text, Num, Plain, BitsOf, RefText, Owns, Index, RefNums, Chars, RnFacts, RefAddrOf, AddrAt, PreAt, RefFour, RefSix, RefSixW, RefTextAll.
-/
import Derived.Shelf.Strings.Builder1
import Derived.Shelf.Strings.Builder2
import Derived.Shelf.Strings.OnBuilder
import Derived.Shelf.Utf8.RuneCount
import Derived.Shelf.Strconv.Atoi
import Derived.Shelf.Strconv.Itoa0
import Derived.Shelf.Strconv.Itoa1
import Derived.Shelf.LaysM
import Derived.Shelf.Strconv.Itoa2
import Derived.Shelf.Strconv.Itoa3
import Derived.Shelf.Strconv.AtoiErrFast
import Derived.Shelf.Strconv.ParseIntEmpty
import Derived.Shelf.Strconv.AtoiFail
import Derived.Shelf.Strconv.Clone
import Derived.Shelf.Strconv.SyntaxError
import Derived.Shelf.LaysC
import Derived.Shelf.Strconv.ToError
import Derived.Shelf.Strconv.Lower
import Derived.Shelf.Strconv.ParseUint10
import Derived.Shelf.Strconv.ParseUint10Empty
import Derived.Shelf.Strconv.ParseUint10Any
import Derived.Shelf.Strconv.ParseInt10
import Derived.Shelf.Strconv.AtoiLong
import Derived.Shelf.Strconv.AtoiInnerAll
import Derived.Shelf.Strconv.RangeError
import Derived.Shelf.Strconv.ToErrorRange
import Derived.Shelf.Strconv.AtoiAll
import Derived.Shelf.Strconv.ErrVarAll
import Derived.Shelf.Strconv.ParseUintEmpty
import Derived.Shelf.Strconv.ParseUint10b8
import Derived.Ground.MpProg
import Derived.Shelf.Pu.ParseUintPublic10
import Derived.Shelf.Pu.ErrVarParseUint
import Derived.Shelf.Strings.Search1
import Derived.Shelf.Strings.Search2
import Derived.Shelf.Strings.Search3
import Derived.Shelf.Strings.Cut
import Derived.Shelf.Strings.Count
import Derived.Shelf.Strings.Shaped
import Derived.Shelf.Strings.Split
import Derived.Shelf.Strings.SplitShaped
import Derived.Shelf.Unicode.Decode
import Derived.Shelf.Strings.RuneCount
import Derived.Shelf.Strings.Explode
import Derived.Shelf.Unicode.DecodeSlow
import Derived.Shelf.Unicode.DecodeAny
import Derived.Test.YtojdlhiibffnfabDoorProg
import Derived.WalkKit
import Derived.WalkSpells
import Derived.WalkLawsBesides
import Derived.ProofKit
import Derived.OpenShut
import Derived.Handy
import Derived.Lib.Hide
import Derived.Lib.SmallJoins
import Derived.Deep.AppendLies
import Derived.Deep.RegionHeld3
import Derived.Deep.QuietTactic
import Derived.BigQuiet
import Derived.Deep.LoopGhost
import Derived.Lib.LaidTab
import Derived.Lib.Strings
import Derived.Lib.ItoaMem
import Derived.WalkSmall
import Derived.Test.YtojdlhiibffnfabDoorCards
import Derived.Test.YtojdlhiibffnfabDoorTie
import Derived.ChangeSame
import Derived.ChangeVars
import Derived.JoinedOf
import Derived.RowKit
import Derived.LaidLaws
import Derived.LaidHandle
import Derived.MakeChecks
import Derived.Stop.Joined
import Derived.Stop.LaidErr
import Derived.Lib.ConvBytes
import Derived.HandedShaped
import Derived.Shelf.Vars

/-
  The library's contracts that this seat's proofs use, laid at this program (by the kit's own command, in plain words, cut to what is used).
-/
namespace Go.Proofs
open Go.Shelf
def Tryd.lays156_ren : Go.Shelf.Ren := ⟨fun | 156 => 40 | 165 => 52 | 166 => 53 | 169 => 54 | 240 => 72 | 241 => 73 | 276 => 87 | 277 => 88 | n => n, fun | 31 => 70 | 9 => 9 | 3 => 3 | 4 => 4 | 0 => 0 | 20 => 20 | 72 => 83 | 76 => 54 | 70 => 80 | 37 => 81 | 75 => 53 | 127 => 103 | 164 => 118 | 5 => 5 | 80 => 85 | n => n, fun | n => n⟩
theorem Tryd.lays156 : Go.Proofs.Lays.n156 Tryd.prog Tryd.lays156_ren := {
  mixed := by kernel_rfl
  f156 := Tryd.func40.trans (congrArg some (by kernel_rfl))
  f165 := Tryd.func52.trans (congrArg some (by kernel_rfl))
  f166 := Tryd.func53.trans (congrArg some (by kernel_rfl))
  f169 := Tryd.func54.trans (congrArg some (by kernel_rfl))
  f240 := Tryd.func72.trans (congrArg some (by kernel_rfl))
  f241 := Tryd.func73.trans (congrArg some (by kernel_rfl))
  f276 := Tryd.func87.trans (congrArg some (by kernel_rfl))
  f277 := Tryd.func88.trans (congrArg some (by kernel_rfl))
  t0 := Tryd.underlying0
  a0 := Tryd.isAgg0
  z0 := Tryd.sizeOf0
  v0 := Tryd.zeroValue0
  t3 := Tryd.underlying3
  a3 := Tryd.isAgg3
  z3 := Tryd.sizeOf3
  v3 := Tryd.zeroValue3
  t4 := Tryd.underlying4
  a4 := Tryd.isAgg4
  z4 := Tryd.sizeOf4
  v4 := Tryd.zeroValue4
  t9 := Tryd.underlying9
  a9 := Tryd.isAgg9
  z9 := Tryd.sizeOf9
  v9 := Tryd.zeroValue9
  t20 := Tryd.underlying20
  a20 := Tryd.isAgg20
  z20 := Tryd.sizeOf20
  v20 := Tryd.zeroValue20
  t31 := Tryd.underlying70
  a31 := Tryd.isAgg70
  z31 := Tryd.sizeOf70
  v31 := Tryd.zeroValue70
  t37 := Tryd.underlying81
  a37 := Tryd.isAgg81
  z37 := Tryd.sizeOf81
  v37 := Tryd.zeroValue81
  t70 := Tryd.underlying80
  a70 := Tryd.isAgg80
  z70 := Tryd.sizeOf80
  v70 := Tryd.zeroValue80
  t72 := Tryd.underlying83
  a72 := Tryd.isAgg83
  z72 := Tryd.sizeOf83
  v72 := Tryd.zeroValue83
  t75 := Tryd.underlying53
  a75 := Tryd.isAgg53
  z75 := Tryd.sizeOf53
  v75 := Tryd.zeroValue53
  t76 := Tryd.underlying54
  a76 := Tryd.isAgg54
  z76 := Tryd.sizeOf54
  v76 := Tryd.zeroValue54
  t127 := Tryd.underlying103
  a127 := Tryd.isAgg103
  z127 := Tryd.sizeOf103
  v127 := Tryd.zeroValue103
  t164 := Tryd.underlying118
  a164 := Tryd.isAgg118
  z164 := Tryd.sizeOf118
  v164 := Tryd.zeroValue118 }
theorem Tryd.Builder_Extra_156 : Builder.Extra Tryd.prog Tryd.lays156_ren := {
  sizeBuilder := by kernel_rfl
  liesBuilder := by kernel_rfl
  t5 := Tryd.underlying5
  a5 := Tryd.isAgg5
  z5 := Tryd.sizeOf5
  v5 := Tryd.zeroValue5
  infoByte := by kernel_rfl
  cellsByte := by kernel_rfl
  sizeByte := by kernel_rfl
  neB5 := by decide }
open Go.RowKit in
theorem Tryd.strings_Join_none (a : Option Addr) (c : Nat) (sep : ByteArray) (w : World) :
    Calls Tryd.prog 40 #[.slice a 0 c, .string sep] w fun e w' => e = .returned (.string ⟨#[]⟩) ∧ w' = w := Any.strings_Join_none Tryd.lays156 Tryd.Builder_Extra_156 a c sep w
open Go.RowKit in
theorem Tryd.strings_Join (bk o c : Nat) (xs : List ByteArray) (sep : ByteArray) (w : World) (hcells : ∀ (j : Nat) x, xs[j]? = some x → w.cell? ⟨bk, o + j, none⟩ = some (.string x)) (hbk : bk < w.heap.size) (hN : xs.length ≤ 140737488355328) (hcap : xs.length ≤ c) (hlen : (Lib.join (xs.map (·.data.toList)) sep.data.toList).length ≤ 140737488355328) :
    Calls Tryd.prog 40 #[.slice (some ⟨bk, o, none⟩) xs.length c, .string sep] w fun e w' => e = .returned (.string ⟨(Lib.join (xs.map (·.data.toList)) sep.data.toList).toArray⟩) ∧ Below w.heap.size w w' := Any.strings_Join Tryd.lays156 Tryd.Builder_Extra_156 bk o c xs sep w hcells hbk hN hcap hlen
def Tryd.lays283_ren : Go.Shelf.Ren := ⟨fun | 283 => 68 | n => n, fun | 3 => 3 | 9 => 9 | 4 => 4 | n => n, fun | n => n⟩
theorem Tryd.lays283 : Go.Proofs.Lays.n283 Tryd.prog Tryd.lays283_ren := {
  mixed := by kernel_rfl
  f283 := Tryd.func68.trans (congrArg some (by kernel_rfl))
  t3 := Tryd.underlying3
  a3 := Tryd.isAgg3
  z3 := Tryd.sizeOf3
  v3 := Tryd.zeroValue3
  t4 := Tryd.underlying4
  a4 := Tryd.isAgg4
  z4 := Tryd.sizeOf4
  v4 := Tryd.zeroValue4
  t9 := Tryd.underlying9
  a9 := Tryd.isAgg9
  z9 := Tryd.sizeOf9
  v9 := Tryd.zeroValue9 }
open Go.Lib in
theorem Tryd.internal_strconv_small (i : Nat) (h : i < 100) (w : World) :
    Calls Tryd.prog 68 #[.int .i64 i] w fun e w' => e = .returned (.string ⟨(Lib.decDigits i).toArray⟩) ∧ w' = w := Any.internal_strconv_small Tryd.lays283 i h w
def Tryd.laysM284_ren : Go.Shelf.Ren := ⟨fun | 284 => 69 | 129 => 83 | 317 => 82 | 318 => 84 | n => n, fun | 53 => 22 | 3 => 3 | 212 => 114 | 0 => 0 | 4 => 4 | 46 => 65 | 5 => 5 | 9 => 9 | n => n, fun | 17 => 3 | n => n⟩
theorem Tryd.laysM284 : Go.Proofs.LaysM.n284 Tryd.prog Tryd.laysM284_ren := {
  mixed := by kernel_rfl
  f129 := Tryd.func83.trans (congrArg some (by kernel_rfl))
  f284 := Tryd.func69.trans (congrArg some (by kernel_rfl))
  f317 := Tryd.func82.trans (congrArg some (by kernel_rfl))
  f318 := Tryd.func84.trans (congrArg some (by kernel_rfl))
  t0 := Tryd.underlying0
  a0 := Tryd.isAgg0
  z0 := Tryd.sizeOf0
  v0 := Tryd.zeroValue0
  t3 := Tryd.underlying3
  a3 := Tryd.isAgg3
  z3 := Tryd.sizeOf3
  v3 := Tryd.zeroValue3
  t4 := Tryd.underlying4
  a4 := Tryd.isAgg4
  z4 := Tryd.sizeOf4
  v4 := Tryd.zeroValue4
  t5 := Tryd.underlying5
  a5 := Tryd.isAgg5
  z5 := Tryd.sizeOf5
  v5 := Tryd.zeroValue5
  t9 := Tryd.underlying9
  a9 := Tryd.isAgg9
  z9 := Tryd.sizeOf9
  v9 := Tryd.zeroValue9
  t46 := Tryd.underlying65
  a46 := Tryd.isAgg65
  z46 := Tryd.sizeOf65
  v46 := Tryd.zeroValue65
  t53 := Tryd.underlying22
  a53 := Tryd.isAgg22
  z53 := Tryd.sizeOf22
  v53 := Tryd.zeroValue22
  t212 := Tryd.underlying114
  a212 := Tryd.isAgg114
  z212 := Tryd.sizeOf114
  v212 := Tryd.zeroValue114
  g17 := by kernel_rfl
  i0 := by kernel_rfl
  i3 := by kernel_rfl
  i4 := by kernel_rfl
  i5 := by kernel_rfl
  i9 := by kernel_rfl
  i46 := by kernel_rfl
  i53 := by kernel_rfl
  i212 := by kernel_rfl
  m17 := by kernel_rfl }
open Go.Lib in
theorem Tryd.internal_strconv_numDigits (u : Nat) (h1 : 1 ≤ u) (h2 : u < 18446744073709551616) (w : World) (htab : Lib.TabIs Tryd.prog w "internal/strconv.uint64pow10" .u64 Lib.pow10Tab) :
    Calls Tryd.prog 69 #[.int .u64 u] w fun e w' => e = .returned (.int .i64 (Lib.nDigits u)) ∧ w' = w := Any.internal_strconv_numDigits Tryd.laysM284 u h1 h2 w htab
def Tryd.lays285_ren : Go.Shelf.Ren := ⟨fun | 285 => 70 | n => n, fun | 37 => 81 | 53 => 22 | 3 => 3 | 4 => 4 | 51 => 108 | 9 => 9 | 5 => 5 | 0 => 0 | n => n, fun | n => n⟩
theorem Tryd.lays285 : Go.Proofs.Lays.n285 Tryd.prog Tryd.lays285_ren := {
  mixed := by kernel_rfl
  f285 := Tryd.func70.trans (congrArg some (by kernel_rfl))
  t0 := Tryd.underlying0
  a0 := Tryd.isAgg0
  z0 := Tryd.sizeOf0
  v0 := Tryd.zeroValue0
  t3 := Tryd.underlying3
  a3 := Tryd.isAgg3
  z3 := Tryd.sizeOf3
  v3 := Tryd.zeroValue3
  t4 := Tryd.underlying4
  a4 := Tryd.isAgg4
  z4 := Tryd.sizeOf4
  v4 := Tryd.zeroValue4
  t5 := Tryd.underlying5
  a5 := Tryd.isAgg5
  z5 := Tryd.sizeOf5
  v5 := Tryd.zeroValue5
  t9 := Tryd.underlying9
  a9 := Tryd.isAgg9
  z9 := Tryd.sizeOf9
  v9 := Tryd.zeroValue9
  t37 := Tryd.underlying81
  a37 := Tryd.isAgg81
  z37 := Tryd.sizeOf81
  v37 := Tryd.zeroValue81
  t51 := Tryd.underlying108
  a51 := Tryd.isAgg108
  z51 := Tryd.sizeOf108
  v51 := Tryd.zeroValue108
  t53 := Tryd.underlying22
  a53 := Tryd.isAgg22
  z53 := Tryd.sizeOf22
  v53 := Tryd.zeroValue22 }
open Go.RowKit Go.Sort Go.Lib in
theorem Tryd.internal_strconv_formatBase10 (blk off cap : Nat) (u : Nat) (d : Array UInt8) (w : World) (hH : Holds (fun (b : UInt8) => Value.int .u8 (b.toNat : Int)) w blk off d) (hu : u < 10 ^ d.size) (hu64 : u < 18446744073709551616) (hsz : d.size < 4611686018427387904) :
    Calls Tryd.prog 70 #[.slice (some ⟨blk, off, none⟩) d.size cap, .int .u64 u] w fun e w' =>
      e = .returned (.tuple #[]) ∧ ∃ (n v' : Nat) (dk : Array UInt8), w' = (putRow (fun (b : UInt8) => Value.int .u8 (b.toNat : Int)) w blk off dk).drewN n ∧ FmtInv d.size u 0 v' dk := Any.internal_strconv_formatBase10 Tryd.lays285 blk off cap u d w hH hu hu64 hsz
end Go.Proofs

/-
  Plain lemmas for the proofs of this seat (no program in sight): a callee that only makes memory keeps what was there; the row's last step for a law that returns true and of whose world 'Below' alone is known.
-/
namespace Go.Proofs.YtojdlhiibffnfabDoor
open Go.ChangeShapes Go.WideShapes Go.ChangeAt Go.RowKit Go.Joins

/-- Cells and marks of blocks that were there. -/
theorem bcell {W w1 : World} (hb : Below W.heap.size W w1) : (∀ b o, b < W.heap.size → w1.cell? ⟨b, o, none⟩ = W.cell? ⟨b, o, none⟩) ∧ (∀ b o, b < W.heap.size → w1.frozen? ⟨b, o, none⟩ = W.frozen? ⟨b, o, none⟩) :=
  ⟨fun b o h => hb.cell (p := ⟨b, o, none⟩) h, fun b o h => hb.frozen (p := ⟨b, o, none⟩) h⟩

/-- Two calls behind one another. -/
theorem thenBelow {W w1 w2 : World} (h : Below W.heap.size W w1) (k : Below w1.heap.size w1 w2) : Below W.heap.size W w2 :=
  h.trans (k.mono h.size)

section
variable {H : Type} {enc : TypeId × Value → H} {P : Program}
/-- The last step of a law's row, where the law made memory and left all else: asked of the world behind it is 'Below' alone. -/
theorem postBelow {f : Func} {s : ChangeSpec} {apart fresh handsOn : Bool} {W W' : World} {args : Array Value} {v : Value} {ds gs : List (DataW H)} {before pa pv : List MemPlace}
    (hW : DataW.Whole enc P f.params.toList s.vars apart W args.toList ds gs before) (hb : Below W.heap.size W W')
    (hres : ∀ (b : Nat) (sp : Nat → Bool) (hd : Bool), DataW.TrodAll enc P W' b sp hd f.resultTypes.toList (v.resultList f.resultTypes.size) (s.fn H (ds ++ gs)).results [])
    (hargs : ∀ sp : Nat → Bool, (∀ p ∈ before, sp p.block = true) → DataW.TrodAll enc P W' 0 sp true f.params.toList args.toList (s.fn H (ds ++ gs)).args pa)
    (hvars : ∀ sp : Nat → Bool, (∀ p ∈ before, sp p.block = true) → DataW.TrodVars enc P W' sp s.vars (s.fn H (ds ++ gs)).vars pv)
    (hps : before = pa ++ pv) : s.post enc P f apart fresh handsOn false W args v W' := by
  have seen : ∀ p ∈ before, (fun b => decide (b < W.heap.size)) p.block = true := fun p hp => decide_eq_true (hW.lt p hp)
  exact ⟨ds, gs, before, [], pa, pv, hW, hres _ _ _, hargs _ seen, hvars _ seen, World.keptBut_mono (fun p hp => ⟨hp, Or.inr (List.mem_append.1 (hps ▸ hp))⟩) (hb.frame (· ∈ before)), fun h => by cases h⟩
end

/-- What 'open_int' hands over of a uint64. -/
theorem u64_of_wf {x : Int} (h : (Lit.int .u64 x).wf = true) : 0 ≤ x ∧ x ≤ 18446744073709551615 := by
  simp [Lit.wf, IntKind.min, IntKind.max, IntKind.signed, IntKind.bits] at h
  omega
/-- .. and of an int. -/
theorem i64_of_wf {x : Int} (h : (Lit.int .i64 x).wf = true) : -9223372036854775808 ≤ x ∧ x ≤ 9223372036854775807 := by
  simp [Lit.wf, IntKind.min, IntKind.max, IntKind.signed, IntKind.bits] at h
  omega
end Go.Proofs.YtojdlhiibffnfabDoor

/-
  strconv.FormatUint of a number below 65536 to the base 16.
-/
namespace Go.Proofs.YtojdlhiibffnfabDoor
open Go.RowKit
set_option linter.unusedVariables false
set_option linter.unusedSimpArgs false

/-- The digits. -/
def digs : List UInt8 := [48, 49, 50, 51, 52, 53, 54, 55, 56, 57, 97, 98, 99, 100, 101, 102]
def dig (d : Nat) : UInt8 := digs.getD d 0
/-- A number's text to a base, without a needless 0. -/
def numText (base : Nat) : Nat → Nat → List UInt8
  | 0, _ => []
  | f + 1, n => if n < base then [dig n] else numText base f (n / base) ++ [dig (n % base)]

theorem deBruijn_at : Tryd.prog.globalNamed "math/bits.deBruijn64tab" = some 5 := by kernel_rfl

set_option maxHeartbeats 400000 in
theorem tz16 (w : World) (hc : w.cell? ⟨5, 15, none⟩ = some (.int .u8 4)) :
    Calls Tryd.prog 86 #[.int .u64 16] w fun e w' => e = .returned (.int .i64 4) ∧ w = w' := by
  have ha : bits .and .u64 16 (IntKind.u64.wrap (-16)) = 16 := by decide
  go_enter Tryd.func86, Tryd.ntmps86
  go_wp2
  go_ret
  exact ⟨rfl, rfl⟩

theorem and15 (x : Nat) (h : x < 18446744073709551616) : bits .and .u64 (x : Int) 15 = ((x % 16 : Nat) : Int) := by
  have h2 := bits_and_u64_nat x 15 (by omega) (by omega)
  rw [show (15 : Nat) = 2 ^ 4 - 1 from rfl, Nat.and_two_pow_sub_one_eq_mod] at h2
  exact h2

theorem dig_eq (r : Nat) (h : r < 16) (h' : r < (⟨#[48, 49, 50, 51, 52, 53, 54, 55, 56, 57, 97, 98, 99, 100, 101, 102, 103, 104, 105, 106, 107, 108, 109, 110, 111, 112, 113, 114, 115, 116, 117, 118, 119, 120, 121, 122]⟩ : ByteArray).size) : (⟨#[48, 49, 50, 51, 52, 53, 54, 55, 56, 57, 97, 98, 99, 100, 101, 102, 103, 104, 105, 106, 107, 108, 109, 110, 111, 112, 113, 114, 115, 116, 117, 118, 119, 120, 121, 122]⟩ : ByteArray)[r] = dig r := by
  match r, h with
  | 0, _ => rfl
  | 1, _ => rfl
  | 2, _ => rfl
  | 3, _ => rfl
  | 4, _ => rfl
  | 5, _ => rfl
  | 6, _ => rfl
  | 7, _ => rfl
  | 8, _ => rfl
  | 9, _ => rfl
  | 10, _ => rfl
  | 11, _ => rfl
  | 12, _ => rfl
  | 13, _ => rfl
  | 14, _ => rfl
  | 15, _ => rfl
  | n + 16, h => exact absurd h (by omega)

theorem addPlain (b o j : Nat) : (⟨b, o, none⟩ : Addr).add j = ⟨b, o + j, none⟩ := by
  unfold Addr.add
  split <;> simp_all

/-- After k rounds: the last k places hold digits; each place holds something; nothing is frozen. -/
def HexInv (w wr : World) (u k : Nat) : Prop :=
  (∀ j, j < 65 → ∃ v, wr.cell? ⟨w.heap.size, j, none⟩ = some v) ∧ (∀ t, t < k → wr.cell? ⟨w.heap.size, 64 - t, none⟩ = some (.int .u8 ((dig (u / 16 ^ t % 16)).toNat : Int))) ∧ (∀ o, wr.frozen? ⟨w.heap.size, o, none⟩ = false) ∧ Below w.heap.size w wr ∧ w.heap.size < wr.heap.size

/-- One more place. -/
theorem HexInv.step {w wr : World} {u k : Nat} (h : HexInv w wr u k) (hk : k < 65) : HexInv w (wr.setCell ⟨w.heap.size, 65 - k - 1, none⟩ (.int .u8 ((dig (u / 16 ^ k % 16)).toNat : Int))) u (k + 1) := by
  obtain ⟨h1, h2, h3, h4, h5⟩ := h
  refine ⟨fun j hj => ?_, fun t ht => ?_, fun o => by simpa using h3 o, h4.setCell (by simp) _, by simpa using h5⟩
  · by_cases e : j = 65 - k - 1
    · obtain ⟨v, hv⟩ := h1 j hj
      subst e
      exact ⟨_, World.cell?_setCell_same _ _ _ hv⟩
    · obtain ⟨v, hv⟩ := h1 j hj
      exact ⟨v, (World.cell?_setCell_other _ _ _ _ (by simp <;> omega)).trans hv⟩
  · by_cases e : t = k
    · subst e
      obtain ⟨v, hv⟩ := h1 (64 - t) (by omega)
      rw [show 65 - t - 1 = 64 - t from by omega]
      exact World.cell?_setCell_same _ _ _ hv
    · exact (World.cell?_setCell_other _ _ _ _ (by simp <;> omega)).trans (h2 t (by omega))

/-- The digits of a number that has k + 1 of them. -/
def hexTo (u k : Nat) : List UInt8 := (List.range (k + 1)).map fun j => dig (u / 16 ^ (k - j) % 16)
theorem hexTo_eq (u k : Nat) (hk : k ≤ 3) (hbig : ∀ t, t < k → 16 ≤ u / 16 ^ t) (hs : u / 16 ^ k < 16) : hexTo u k = numText 16 4 u := by
  match k, hk with
  | 0, _ => simp at hs; simp [hexTo, List.range_succ, numText, hs, Nat.mod_eq_of_lt hs]
  | 1, _ =>
    have a0 := hbig 0 (by omega)
    simp at hs a0
    simp [hexTo, List.range_succ, numText, show ¬ u < 16 from by omega, hs, Nat.mod_eq_of_lt hs]
  | 2, _ =>
    have a0 := hbig 0 (by omega); have a1 := hbig 1 (by omega)
    simp at hs a0 a1
    simp [hexTo, List.range_succ, numText, show ¬ u < 16 from by omega, show ¬ u / 16 < 16 from by omega, Nat.div_div_eq_div_mul, hs, Nat.mod_eq_of_lt hs]
  | 3, _ =>
    have a0 := hbig 0 (by omega); have a1 := hbig 1 (by omega); have a2 := hbig 2 (by omega)
    simp at hs a0 a1 a2
    simp [hexTo, List.range_succ, numText, show ¬ u < 16 from by omega, show ¬ u / 16 < 16 from by omega, Nat.div_div_eq_div_mul, show ¬ u / 256 < 16 from by omega, hs, Nat.mod_eq_of_lt hs]

theorem zero89_at (j : Nat) (h : j < 65) : ∃ v, Tryd.zeroCells115[j]? = some v := by
  have e : Tryd.zeroCells115.size = 65 := by kernel_rfl
  exact ⟨_, Array.getElem?_eq_getElem (by omega)⟩

set_option maxHeartbeats 1000000 in
set_option maxRecDepth 100000 in
theorem fb16 (u : Nat) (h1 : u < 65536) (w : World) (hc : w.cell? ⟨5, 15, none⟩ = some (.int .u8 4)) (hz : 5 < w.heap.size) :
    Calls Tryd.prog 71 #[.slice none 0 0, .int .u64 (u : Int), .int .i64 16, .bool false, .bool false] w fun e w' => e = .returned (.tuple #[.slice none 0 0, .string ⟨(numText 16 4 u).toArray⟩]) ∧ Below w.heap.size w w' := by
  have hp : bits .and .i64 16 15 = 0 := by decide
  go_enter Tryd.func71, Tryd.ntmps71
  go_wp2_with (first
    | (go_at_call 86; refine (tz16 _ (by simp [go_sem, *])).mono ?_; rintro e w1 ⟨rfl, rfl⟩)
    | go_in)
  clear hp hc
  go_loopw [1, 13] (fun v i wr => ∃ k : Nat, k ≤ 3 ∧ v = .int .u64 ((u / 16 ^ k : Nat) : Int) ∧ i = .int .i64 (65 - (k : Int)) ∧ (∀ t, t < k → 16 ≤ u / 16 ^ t) ∧ HexInv w wr u k)
    (fun _ i _ => (intOf i).toNat)
  case atStart =>
    refine ⟨0, by omega, by simp, rfl, fun t ht => absurd ht (by omega), ?_, fun t ht => absurd ht (by omega), fun o => by simp [go_sem], (Below.refl _ _).alloc (Nat.le_refl _) _, by simp⟩
    intro j hj
    simpa using zero89_at j hj
  case round =>
    obtain ⟨k, hk, rfl, rfl, hbig, hinv⟩ := hrel
    have HB := Lib.hid hbig; have HI := Lib.hid hinv
    clear hbig hinv
    obtain ⟨q, hq⟩ : ∃ q, u / 16 ^ k = q := ⟨_, rfl⟩
    have HQ := Lib.hid hq
    rw [hq]
    have hqu : q ≤ u := by rw [← hq]; exact Nat.div_le_self _ _
    clear hq
    obtain ⟨v0, hv0⟩ := HI.out.1 (65 - k - 1) (by omega)
    have hf0 := HI.out.2.2.1 (65 - k - 1)
    have hm : q % 16 < 16 := by omega
    have ha := and15 q (by omega)
    obtain ⟨r, hr⟩ : ∃ r, q % 16 = r := ⟨_, rfl⟩
    have HR := Lib.hid hr
    rw [hr] at ha hm
    clear hr
    have hd := dig_eq r hm (by show r < 36; omega)
    have hst := HI.out.step (by omega)
    rw [HQ.out, HR.out] at hst
    have HST := Lib.hid hst
    clear hst
    by_cases hlt : 16 ≤ q
    · have hk3 : k < 3 := by
        rcases Nat.lt_or_ge k 3 with h | h
        · exact h
        · obtain rfl : k = 3 := by omega
          have := HQ.out
          omega
      go_wp2
      go_roundw
      case rel =>
        refine ⟨k + 1, by omega, ?_, by go_num, fun t ht => ?_, HST.out⟩
        · rw [Nat.pow_succ, ← Nat.div_div_eq_div_mul, HQ.out]; simp
        · by_cases e : t = k
          · subst e; rw [HQ.out]; exact hlt
          · exact HB.out t (by omega)
      case measure => simp [intOf]; omega
    · obtain rfl : q = r := by have := HR.out; omega
      have hal : Tryd.prog.arrayLen 115 = 65 := by kernel_rfl
      have hsl : ∀ W, (Instr.sliceAt 115 (.pointer (some ⟨w.heap.size, 0, none⟩)) (some (.int .i64 (65 - (k : Int) - 1))) none none).run Tryd.prog W = .ok (.slice (some ⟨w.heap.size, 65 - k - 1, none⟩) (k + 1) (k + 1)) W := fun W => by
        rw [run_sliceAt_array_l W 115 ⟨w.heap.size, 0, none⟩ (by kernel_rfl) .i64 (65 - (k : Int) - 1) (by omega) (by rw [hal]; omega), hal]
        go_simp
        omega
      have hcv : (convert 81 9 (.slice (some ⟨w.heap.size, 65 - k - 1, none⟩) (k + 1) (k + 1))).run Tryd.prog (wr.setCell ⟨w.heap.size, 65 - k - 1, none⟩ (.int .u8 ((dig q).toNat : Int))) = .ok (.string ⟨(hexTo u k).toArray⟩) (wr.setCell ⟨w.heap.size, 65 - k - 1, none⟩ (.int .u8 ((dig q).toNat : Int))) := by
        have h := run_convert_bytes_back (P := Tryd.prog) (wr.setCell ⟨w.heap.size, 65 - k - 1, none⟩ (.int .u8 ((dig q).toNat : Int))) 81 9 5 ⟨w.heap.size, 65 - k - 1, none⟩ (k + 1) (hexTo u k) Tryd.underlying81 Tryd.underlying5 Tryd.underlying9 (fun j hj => by
          have hj' : j < k + 1 := by simpa [hexTo] using hj
          have h2 := HST.out.2.1 (k - j) (by omega)
          rw [show 64 - (k - j) = 65 - k - 1 + j from by omega] at h2
          simp only [hexTo, List.getElem_map, List.getElem_range]
          rw [addPlain]
          exact h2)
        rw [show (hexTo u k).length = k + 1 from by simp [hexTo]] at h
        exact h
      clear hal
      have hfin := hexTo_eq u k hk HB.out (by rw [HQ.out]; omega)
      have HF := Lib.hid hfin
      clear hfin
      go_wp2
      go_ret2
      exact ⟨by show Ending.returned (.tuple #[.slice none 0 0, .string ⟨(hexTo u k).toArray⟩]) = _; rw [HF.out], HST.out.2.2.2.1⟩

set_option maxHeartbeats 400000 in
/-- strconv.FormatUint to the base 16. -/
theorem format16 (u : Nat) (h1 : u < 65536) (w : World) (hc : w.cell? ⟨5, 15, none⟩ = some (.int .u8 4)) (hz : 5 < w.heap.size) :
    Calls Tryd.prog 39 #[.int .u64 (u : Int), .int .i64 16] w fun e w' => e = .returned (.string ⟨(numText 16 4 u).toArray⟩) ∧ Below w.heap.size w w' := by
  go_enter Tryd.func39, Tryd.ntmps39
  go_wp2_with (first
    | (go_at_call 71; refine (fb16 u h1 _ (by assumption) (by assumption)).mono ?_; rintro e w1 ⟨rfl, hb⟩)
    | go_in)
  go_ret
  exact ⟨rfl, hb⟩
end Go.Proofs.YtojdlhiibffnfabDoor

/-
  strconv.FormatUint of a number below 256 to the base 10.
-/
namespace Go.Proofs.YtojdlhiibffnfabDoor
open Go.RowKit Go.Sort
set_option linter.unusedVariables false
set_option linter.unusedSimpArgs false

theorem dec_small : ∀ u : Fin 256, Lib.decDigits u.val = numText 10 3 u.val := by decide +kernel
theorem nd_three : ∀ u : Fin 256, 100 ≤ u.val → Lib.nDigits u.val = 3 := by decide +kernel

theorem grow_below (w : World) (os : Array Obj) (n : Nat) : Below w.heap.size w (grow (w.drewN n) os) := by
  refine ⟨rfl, rfl, rfl, by simp [grow], fun k hk => ?_⟩
  show (w.heap ++ os)[k]? = _
  rw [Array.getElem?_append_left hk]

set_option maxHeartbeats 1000000 in
set_option maxRecDepth 100000 in
theorem format10_big (u : Nat) (h0 : 100 ≤ u) (h1 : u < 256) (w : World) (htab : Lib.TabIs Tryd.prog w "internal/strconv.uint64pow10" .u64 Lib.pow10Tab) :
    Calls Tryd.prog 39 #[.int .u64 (u : Int), .int .i64 10] w fun e w' => e = .returned (.string ⟨(numText 10 3 u).toArray⟩) ∧ Below w.heap.size w w' := by
  have hnd := nd_three ⟨u, h1⟩ h0
  have hdd := dec_small ⟨u, h1⟩
  simp only at hnd hdd
  have HND := Lib.hid hnd; have HDD := Lib.hid hdd; have HT := Lib.hid htab
  clear hnd hdd htab
  go_enter Tryd.func39, Tryd.ntmps39
  go_wp2_with (first
    | (go_at_call 69; refine (Tryd.internal_strconv_numDigits u (by omega) (by omega) _ (Lib.tabIs_alloc HT.out _)).mono ?_; rw [HND.out]; rintro e w1 ⟨rfl, rfl⟩)
    | (go_at_call 70; fail)
    | (go_at_call 51; go_in))
  have hH0 : Holds (fun (b : UInt8) => Value.int .u8 (b.toNat : Int)) (w.alloc (.cells Lib.zeros24 98)) w.heap.size 0 (Array.replicate 3 (0 : UInt8)) := fun j hj => by
    have hj' : j < 3 := by simpa using hj
    refine ⟨?_, World.frozen?_alloc_new _ _ _ _⟩
    rw [World.cell?_alloc_new, Nat.zero_add, Lib.zeros24_at _ (by omega), getElem!_pos _ j hj]
    simp
  have hfmt := Tryd.internal_strconv_formatBase10 w.heap.size 0 24 u (Array.replicate 3 0) (w.alloc (.cells Lib.zeros24 98)) hH0 (by rw [Array.size_replicate]; omega) (by omega) (by rw [Array.size_replicate]; omega)
  rw [Array.size_replicate] at hfmt
  have HH0 := Lib.hid hH0
  clear hH0
  refine hfmt.mono ?_
  rintro e w' ⟨rfl, n, v', dk, rfl, hF⟩
  have HF := Lib.hid hF
  clear hF hfmt
  have hcv : (convert 81 9 (.slice (some ⟨w.heap.size, 0, none⟩) 3 24)).run Tryd.prog ((putRow (fun (b : UInt8) => Value.int .u8 (b.toNat : Int)) (w.alloc (.cells Lib.zeros24 98)) w.heap.size 0 dk).drewN n) = .ok (.string ⟨(numText 10 3 u).toArray⟩) ((putRow (fun (b : UInt8) => Value.int .u8 (b.toNat : Int)) (w.alloc (.cells Lib.zeros24 98)) w.heap.size 0 dk).drewN n) := by
    have hl : (Lib.decDigits u).length = 3 := by rw [Lib.decDigits_length, HND.out]
    have hF := HF.out
    rw [← HND.out] at hF
    have h := run_convert_bytes_back (P := Tryd.prog) ((putRow (fun (b : UInt8) => Value.int .u8 (b.toNat : Int)) (w.alloc (.cells Lib.zeros24 98)) w.heap.size 0 dk).drewN n) 81 9 5 ⟨w.heap.size, 0, none⟩ 24 (Lib.decDigits u) Tryd.underlying81 Tryd.underlying5 Tryd.underlying9 (fun j hj => by
      rw [Lib.row_is_numeral hF j hj, Lib.add_plain, World.cell?_drewN]
      exact cell?_putRow (fun (b : UInt8) => Value.int .u8 (b.toNat : Int)) _ w.heap.size 0 _ dk HH0.out (by rw [hF.size, Array.size_replicate, HND.out]) j (by rw [hF.size, HND.out]; omega))
    rw [hl, HDD.out] at h
    exact h
  go_wp2
  go_ret
  rw [alloc_eq_grow]
  obtain ⟨os', _, e⟩ := putRow_grow_new (fun (b : UInt8) => Value.int .u8 (b.toNat : Int)) w #[.cells Lib.zeros24 98] w.heap.size 0 dk (Nat.le_refl _)
  rw [e]
  exact ⟨rfl, grow_below w os' n⟩

set_option maxHeartbeats 400000 in
/-- strconv.FormatUint to the base 10. -/
theorem format10 (u : Nat) (h1 : u < 256) (w : World) (htab : Lib.TabIs Tryd.prog w "internal/strconv.uint64pow10" .u64 Lib.pow10Tab) :
    Calls Tryd.prog 39 #[.int .u64 (u : Int), .int .i64 10] w fun e w' => e = .returned (.string ⟨(numText 10 3 u).toArray⟩) ∧ Below w.heap.size w w' := by
  by_cases h0 : u < 100
  · have hdd := dec_small ⟨u, h1⟩
    simp only at hdd
    have HDD := Lib.hid hdd
    clear hdd htab
    go_enter Tryd.func39, Tryd.ntmps39
    go_wp2_with (first
      | (go_at_call 68; refine (Tryd.internal_strconv_small u h0 _).mono ?_; rw [HDD.out]; rintro e w1 ⟨rfl, rfl⟩)
      | (go_at_call 51; go_in))
    go_ret
    exact ⟨rfl, Below.refl _ _⟩
  · exact format10_big u (by omega) h1 w htab
end Go.Proofs.YtojdlhiibffnfabDoor

/-
  What the texts of addresses rest on: the two tables of the library, kept; a row of strings that a call has made.
-/
namespace Go.Proofs.YtojdlhiibffnfabDoor
open Go.RowKit Go.Sort
set_option linter.unusedVariables false
set_option linter.unusedSimpArgs false

/-- The two tables that FormatUint reads. -/
def tab64 : List Int := [0, 1, 56, 2, 57, 49, 28, 3, 61, 58, 42, 50, 38, 29, 17, 4, 62, 47, 59, 36, 45, 43, 51, 22, 53, 39, 33, 30, 24, 18, 12, 5, 63, 55, 48, 27, 60, 41, 37, 16, 46, 35, 44, 21, 52, 32, 23, 11, 54, 26, 40, 15, 34, 20, 31, 10, 25, 14, 19, 9, 13, 8, 7, 6]
def Tabs (w : World) : Prop := Lib.TabIs Tryd.prog w "math/bits.deBruijn64tab" .u8 tab64 ∧ Lib.TabIs Tryd.prog w "internal/strconv.uint64pow10" .u64 Lib.pow10Tab ∧ 5 < w.heap.size ∧ 3 < w.heap.size
theorem pow10_at : Tryd.prog.globalNamed "internal/strconv.uint64pow10" = some 3 := by kernel_rfl
theorem Tabs.keep {w w' : World} (h : Tabs w) (hb : Below w.heap.size w w') : Tabs w' :=
  ⟨var?_below hb deBruijn_at h.2.2.1 h.1, var?_below hb pow10_at h.2.2.2 h.2.1, Nat.lt_of_lt_of_le h.2.2.1 hb.size, Nat.lt_of_lt_of_le h.2.2.2 hb.size⟩
theorem Tabs.alloc {w : World} (h : Tabs w) (o : Obj) : Tabs (w.alloc o) := h.keep ((Below.refl _ _).alloc (Nat.le_refl _) o)
theorem Tabs.at15 {w : World} (h : Tabs w) : w.cell? ⟨5, 15, none⟩ = some (.int .u8 4) := by
  rw [h.1.cell deBruijn_at 15 (by decide)]; rfl
theorem Tabs.setCell {w : World} (h : Tabs w) {p : Addr} (hp : 5 ≠ p.block) (hq : 3 ≠ p.block) (u : Value) : Tabs (w.setCell p u) := by
  have e : ∀ g, g ≠ p.block → (w.setCell p u).heap[g]? = w.heap[g]? := fun g hg => Below.heap_setCell w p u g hg
  have v : ∀ n g cs, Tryd.prog.globalNamed n = some g → g ≠ p.block → w.var? Tryd.prog n = some cs → (w.setCell p u).var? Tryd.prog n = some cs := fun n g cs hg hne hv => by
    unfold World.var? at hv ⊢
    simp only [hg, Option.bind_some] at hv ⊢
    rw [e g hne]; exact hv
  exact ⟨v _ _ _ deBruijn_at hp h.1, v _ _ _ pow10_at hq h.2.1, by simpa using h.2.2.1, by simpa using h.2.2.2⟩

/-- Block g holds these strings. -/
def StrRow (w : World) (g : Nat) (xs : List ByteArray) : Prop := (∀ (j : Nat) x, xs[j]? = some x → w.cell? ⟨g, 0 + j, none⟩ = some (.string x)) ∧ (∀ o, w.frozen? ⟨g, o, none⟩ = false) ∧ g < w.heap.size
theorem StrRow.keep {w w' : World} {g : Nat} {xs : List ByteArray} (h : StrRow w g xs) (hb : Below w.heap.size w w') : StrRow w' g xs :=
  ⟨fun j x hx => (hb.cell (p := ⟨g, 0 + j, none⟩) h.2.2).trans (h.1 j x hx), fun o => (hb.frozen (p := ⟨g, o, none⟩) h.2.2).trans (h.2.1 o), Nat.lt_of_lt_of_le h.2.2 hb.size⟩
theorem StrRow.set {w : World} {g k : Nat} {xs : List ByteArray} (h : StrRow w g xs) (hk : k < xs.length) (y : ByteArray) : StrRow (w.setCell ⟨g, k, none⟩ (.string y)) g (xs.set k y) := by
  refine ⟨fun j x hx => ?_, fun o => by simpa using h.2.1 o, by simpa using h.2.2⟩
  by_cases e : j = k
  · subst e
    rw [List.getElem?_set_self hk] at hx
    obtain rfl := Option.some.inj hx
    have h0 := h.1 j _ (List.getElem?_eq_getElem hk)
    rw [Nat.zero_add] at h0 ⊢
    exact World.cell?_setCell_same _ _ _ h0
  · rw [List.getElem?_set_ne (by omega)] at hx
    exact (World.cell?_setCell_other _ _ _ _ (by simp <;> omega)).trans (h.1 j x hx)
theorem StrRow.ex {w : World} {g k : Nat} {xs : List ByteArray} (h : StrRow w g xs) (hk : k < xs.length) : ∃ y, w.cell? ⟨g, k, none⟩ = some (.string y) :=
  ⟨xs[k], by have := h.1 k _ (List.getElem?_eq_getElem hk); rwa [Nat.zero_add] at this⟩
/-- The first k texts, then empty strings. -/
def mixTo (ts : List (List UInt8)) (k : Nat) : List ByteArray := (ts.take k).map (fun t => ⟨t.toArray⟩) ++ List.replicate (ts.length - k) ByteArray.empty
theorem mixTo_length (ts : List (List UInt8)) (k : Nat) (hk : k ≤ ts.length) : (mixTo ts k).length = ts.length := by simp [mixTo]; omega
theorem mixTo_succ (ts : List (List UInt8)) (k : Nat) (hk : k < ts.length) : (mixTo ts k).set k ⟨ts[k].toArray⟩ = mixTo ts (k + 1) := by
  unfold mixTo
  rw [List.set_append_right _ _ (by simp; omega), List.take_succ_eq_append_getElem hk]
  simp only [List.length_map, List.length_take, Nat.min_eq_left (Nat.le_of_lt hk), Nat.sub_self, List.map_append, List.map_cons, List.map_nil, List.append_assoc]
  rw [show ts.length - k = (ts.length - (k + 1)) + 1 from by omega, List.replicate_succ]
  rfl
theorem mixTo_full (ts : List (List UInt8)) : (mixTo ts ts.length).map (·.data.toList) = ts := by
  simp [mixTo, List.map_map, Function.comp_def]
theorem mixTo_zero (n : Nat) (ts : List (List UInt8)) (h : ts.length = n) : mixTo ts 0 = List.replicate n ByteArray.empty := by simp [mixTo, h]
end Go.Proofs.YtojdlhiibffnfabDoor

/-
  A world in which the listed tables lie as the rows list them, and what a walk has of the rows' condition.
-/
namespace Go.Proofs.YtojdlhiibffnfabDoor
open Go.RowKit

/-- The cells of a table that is listed as integers. -/
def cellsIn : DataW Unit → Array Value
  | .agg ds => (ds.map fun | .lit (.int k z) => Value.int k z | _ => .bool false).toArray
  | _ => #[]
def putCells (h : Array Obj) (g : Nat) (cs : Array Value) : Array Obj := h.modify g fun
  | .cells _ t frozen => .cells cs t frozen
  | o => o

theorem Tabs.of_laid {rest : List (String × DataW Unit)} {x : String × DataW Unit} {W : World}
    (h : laidMet Tryd.prog (x :: ("math/bits.deBruijn64tab", Rows.laid_math_bits_deBruijn64tab) :: ("internal/strconv.uint64pow10", Rows.laid_internal_strconv_uint64pow10) :: rest) W) : Tabs W := by
  have a : Lib.TabIs Tryd.prog W "math/bits.deBruijn64tab" .u8 tab64 := Lib.tabIs_of_head (g := 5) (t := 129) (e := 5) (n := 64) (by kernel_rfl) (by kernel_rfl) (by kernel_rfl) (by kernel_rfl) (by kernel_rfl) (by kernel_rfl) h.tail
  have b : Lib.TabIs Tryd.prog W "internal/strconv.uint64pow10" .u64 Lib.pow10Tab := Lib.tabIs_of_head (g := 3) (t := 114) (e := 22) (n := 20) (by kernel_rfl) (by kernel_rfl) (by kernel_rfl) (by kernel_rfl) (by kernel_rfl) (by kernel_rfl) h.tail.tail
  have sz : ∀ n g cs, Tryd.prog.globalNamed n = some g → W.var? Tryd.prog n = some cs → g < W.heap.size := fun n g cs hg hv => by
    unfold World.var? at hv
    simp only [hg, Option.bind_some] at hv
    by_cases hlt : g < W.heap.size
    · exact hlt
    · simp [Array.getElem?_eq_none (Nat.le_of_not_lt hlt)] at hv
  exact ⟨a, b, sz _ _ _ deBruijn_at a, sz _ _ _ pow10_at b⟩
end Go.Proofs.YtojdlhiibffnfabDoor

/-
  internal/strconv.ParseUint to base 10 at 8 bits and to base 16 at 16 bits.
-/
namespace Go.Proofs.YtojdlhiibffnfabDoor
open Go.RowKit Go.Sort
set_option linter.unusedVariables false
set_option linter.unusedSimpArgs false

/-- A letter made small. -/
def low (c : UInt8) : Nat := (c ||| 32).toNat
theorem low_bits (c : UInt8) : bits .or .u8 (c.toNat : Int) 32 = (low c : Int) := by
  have h : ∀ n : Fin 256, bits .or .u8 (((UInt8.ofNat n.1).toNat : Nat) : Int) 32 = (low (UInt8.ofNat n.1) : Int) := by decide +kernel
  have := h ⟨c.toNat, c.toNat_lt⟩
  simpa using this
theorem low_lt (c : UInt8) : low c < 256 := (c ||| 32).toNat_lt
/-- A digit's worth. -/
def dv (B : Nat) (c : UInt8) : Option Nat :=
  if 48 ≤ c.toNat ∧ c.toNat ≤ 57 then (if c.toNat - 48 < B then some (c.toNat - 48) else none)
  else if 97 ≤ low c ∧ low c ≤ 122 then (if low c - 87 < B then some (low c - 87) else none) else none
/-- A number read on. -/
def pu (B M : Nat) : Nat → List UInt8 → Option Nat
  | acc, [] => some acc
  | acc, c :: cs => match dv B c with
    | none => none
    | some d => if acc * B + d ≤ M then pu B M (acc * B + d) cs else none
theorem pu_none {B M acc : Nat} {c : UInt8} {cs : List UInt8} (h : dv B c = none) : pu B M acc (c :: cs) = none := by simp [pu, h]
theorem pu_over {B M acc d : Nat} {c : UInt8} {cs : List UInt8} (h : dv B c = some d) (hd : ¬ acc * B + d ≤ M) : pu B M acc (c :: cs) = none := by simp [pu, h, hd]
theorem pu_step {B M acc d : Nat} {c : UInt8} {cs : List UInt8} (h : dv B c = some d) (hd : acc * B + d ≤ M) : pu B M acc (c :: cs) = pu B M (acc * B + d) cs := by simp [pu, h, hd]

set_option maxHeartbeats 400000 in
theorem lower_calls (c : UInt8) (w : World) : Calls Tryd.prog 80 #[.int .u8 (c.toNat : Int)] w fun e w' => e = .returned (.int .u8 (low c : Int)) ∧ w' = w := by
  have h := low_bits c
  go_enter Tryd.func80, Tryd.ntmps80
  go_wp2
  go_ret
  exact ⟨by rw [← h]; rfl, rfl⟩

/-- What internal/strconv.ParseUint answers. -/
def PuIs (r : Option Nat) (e : Ending) : Prop := match r with
  | some u => e = .returned (.tuple #[.int .u64 (u : Int), .nilIface])
  | none => ∃ m k : Int, e = .returned (.tuple #[.int .u64 m, .iface 86 (.int .i64 k)]) ∧ (k = 1 ∨ k = 2)

end Go.Proofs.YtojdlhiibffnfabDoor

/-
  internal/strconv.ParseUint to base 10 at 8 bits.
-/
namespace Go.Proofs.YtojdlhiibffnfabDoor
open Go.RowKit Go.Sort
set_option linter.unusedVariables false
set_option linter.unusedSimpArgs false

set_option maxHeartbeats 4000000 in
set_option maxRecDepth 100000 in
theorem pu10_calls (t : ByteArray) (bs : List UInt8) (hbs : t.data.toList = bs) (hne : bs ≠ []) (hmax : bs.length ≤ 9223372036854775806) (w : World) :
    Calls Tryd.prog 67 #[.string t, .int .i64 10, .int .i64 8] w fun e w' => PuIs (pu 10 255 0 bs) e ∧ w' = Lib.bytesWorld w 5 t := by
  have hsz : t.size = bs.length := by rw [← hbs, Lib.size_eq]
  have hcv := Lib.run_convert_string_bytes (P := Tryd.prog) w 9 81 5 t (u := .string) Tryd.underlying9 Tryd.underlying81 Tryd.underlying5
  have hB : ∀ j, j < bs.length → (Lib.bytesWorld w 5 t).cell? ⟨w.heap.size, j, none⟩ = some (.int .u8 (bs.getD j 0).toNat) := fun j hj => by rw [← hbs]; exact Lib.bytesWorld_cell w 5 t j (by rw [hsz]; exact hj)
  obtain ⟨W1, hW1⟩ : ∃ W1, W1 = Lib.bytesWorld w 5 t := ⟨_, rfl⟩
  rw [← hW1] at hcv hB ⊢
  clear hW1
  obtain ⟨R, hR⟩ : ∃ R, pu 10 255 0 bs = R := ⟨_, rfl⟩
  rw [hR]
  have hemp : t.toList.isEmpty = false := by
    rw [← decide_eq_emptyBytes]
    exact decide_eq_false (fun h => by have := congrArg ByteArray.size h; rw [hsz] at this; exact hne (List.eq_nil_of_length_eq_zero (by simpa using this)))
  clear hne hbs
  have hmv : IntKind.u64.wrap (IntKind.u64.wrap 256 - 1) = 255 := by
    rw [IntKind.wrap_u64, IntKind.wrap_u64]
    decide
  have HB := Lib.hid hB
  have HR0 := Lib.hid hR
  clear hB hR
  go_enter Tryd.func67, Tryd.ntmps67
  go_wp2
  go_loop [12, 13, 101] (fun vu vn vi => ∃ (k acc : Nat) (a : Int), vu = .bool false ∧ vn = .int .u64 a ∧ vi = .int .i64 k ∧ k ≤ t.size ∧ Hid (a = (acc : Int) ∧ acc ≤ 255 ∧ pu 10 255 acc (bs.drop k) = R))
    (fun _ _ vi => t.size - (intOf vi).toNat)
  case atStart => exact ⟨0, 0, 0, rfl, rfl, rfl, by omega, rfl, by omega, HR0.out⟩
  case round =>
    obtain ⟨k, acc, a, rfl, rfl, rfl, hk, hh⟩ := hrel
    obtain ⟨ha, hacc, hdec⟩ := hh.out
    clear hh
    have a0 : 0 ≤ a := by omega
    have a1 : a ≤ 255 := by omega
    by_cases hkn : k < t.size
    · have hc := HB.out k (hsz ▸ hkn)
      have hdrop : bs.drop k = bs[k]'(hsz ▸ hkn) :: bs.drop (k + 1) := List.drop_eq_getElem_cons (hsz ▸ hkn)
      have hget : bs.getD k 0 = bs[k]'(hsz ▸ hkn) := by simp [List.getD, List.getElem?_eq_getElem (hsz ▸ hkn : k < bs.length)]
      rw [hdrop] at hdec
      rw [hget] at hc
      generalize bs[k]'(hsz ▸ hkn) = c at hc hdec
      have hc256 : c.toNat < 256 := c.toNat_lt
      have hl256 := low_lt c
      clear hdrop hget
      have CL := Lib.hid (lower_calls c)
      by_cases hdig : 48 ≤ c.toNat ∧ c.toNat ≤ 57
      · obtain ⟨hd0, hd1⟩ := hdig
        have hd : dv 10 c = some (c.toNat - 48) := by unfold dv; rw [if_pos ⟨hd0, hd1⟩, if_pos (by omega)]
        by_cases hov : acc * 10 + (c.toNat - 48) ≤ 255
        · rw [pu_step hd hov] at hdec
          have HN : Hid (a * 10 + ((c.toNat : Int) - 48) = ((acc * 10 + (c.toNat - 48) : Nat) : Int) ∧ acc * 10 + (c.toNat - 48) ≤ 255 ∧ pu 10 255 (acc * 10 + (c.toNat - 48)) (bs.drop (k + 1)) = R) := Lib.hid ⟨by omega, hov, hdec⟩
          have iov : a * 10 + ((c.toNat : Int) - 48) ≤ 255 := by omega
          clear hdec hd hov CL hl256 ha hacc
          go_wp2
          refine ⟨⟨k + 1, acc * 10 + (c.toNat - 48), a * 10 + ((c.toNat : Int) - 48), rfl, (by first | rfl | (congr 1; omega)), (by first | rfl | (congr 1; omega)), by omega, HN⟩, by simp [intOf]; omega⟩
        · rw [pu_over hd hov] at hdec
          have iov : 255 < a * 10 + ((c.toNat : Int) - 48) := by omega
          clear hd hov CL hl256 ha hacc
          subst hdec
          go_wp2
          go_ret2
          exact ⟨⟨_, _, rfl, by simp⟩, rfl⟩
      · by_cases hlet : 97 ≤ low c ∧ low c ≤ 122
        · obtain ⟨hl0, hl1⟩ := hlet
          have h95 : ¬ ((c.toNat : Int) = 95) := fun h => by
            have : c = 95 := UInt8.toNat_inj.1 (by show c.toNat = 95; omega)
            rw [this] at hl1
            exact absurd hl1 (by decide)
          have b95 : ((c.toNat : Int) == 95) = false := by simpa using h95
          have hd2 : dv 10 c = if low c - 87 < 10 then some (low c - 87) else none := by unfold dv; rw [if_neg hdig, if_pos ⟨hl0, hl1⟩]
          rw [if_neg (by omega)] at hd2
          rw [pu_none hd2] at hdec
          subst hdec
          clear hd2
          generalize low c = lc at CL hl256 hl0 hl1
          go_wp2_with (go_at_call 80; refine (CL.out _).mono ?_; rintro e w' ⟨rfl, rfl⟩)
          all_goals go_ret2
          all_goals exact ⟨⟨_, _, rfl, by simp⟩, rfl⟩
        · have hd : dv 10 c = none := by unfold dv; rw [if_neg hdig, if_neg hlet]
          rw [pu_none hd] at hdec
          subst hdec
          clear hd
          by_cases h95 : c = 95
          · subst h95
            have C95 : Hid (∀ w : World, Calls Tryd.prog 80 #[.int .u8 95] w fun e w' => e = .returned (.int .u8 127) ∧ w' = w) := CL
            clear CL hl256 hlet hdig hc256 ha hacc
            go_wp2_with (go_at_call 80; refine (C95.out _).mono ?_; rintro e w' ⟨rfl, rfl⟩)
            all_goals go_ret2
            all_goals exact ⟨⟨_, _, rfl, by simp⟩, rfl⟩
          have h95' : ¬ ((c.toNat : Int) = 95) := fun h => h95 (UInt8.toNat_inj.1 (by show c.toNat = 95; omega))
          have b95 : ((c.toNat : Int) == 95) = false := by simpa using h95'
          clear h95 ha hacc
          generalize low c = lc at CL hl256 hlet
          go_wp2_with (go_at_call 80; refine (CL.out _).mono ?_; rintro e w' ⟨rfl, rfl⟩)
          all_goals go_ret2
          all_goals exact ⟨⟨_, _, rfl, by simp⟩, rfl⟩
    · obtain rfl : k = t.size := by omega
      rw [List.drop_of_length_le (by omega)] at hdec
      have h2 : some acc = R := hdec
      subst h2
      subst ha
      clear hdec
      go_wp2
      go_ret2
      exact ⟨rfl, rfl⟩
end Go.Proofs.YtojdlhiibffnfabDoor

/-
  internal/strconv.ParseUint to base 16 at 16 bits.
-/
namespace Go.Proofs.YtojdlhiibffnfabDoor
open Go.RowKit Go.Sort
set_option linter.unusedVariables false
set_option linter.unusedSimpArgs false

set_option maxHeartbeats 4000000 in
set_option maxRecDepth 100000 in
theorem pu16_calls (t : ByteArray) (bs : List UInt8) (hbs : t.data.toList = bs) (hne : bs ≠ []) (hmax : bs.length ≤ 9223372036854775806) (w : World) :
    Calls Tryd.prog 67 #[.string t, .int .i64 16, .int .i64 16] w fun e w' => PuIs (pu 16 65535 0 bs) e ∧ w' = Lib.bytesWorld w 5 t := by
  have hsz : t.size = bs.length := by rw [← hbs, Lib.size_eq]
  have hcv := Lib.run_convert_string_bytes (P := Tryd.prog) w 9 81 5 t (u := .string) Tryd.underlying9 Tryd.underlying81 Tryd.underlying5
  have hB : ∀ j, j < bs.length → (Lib.bytesWorld w 5 t).cell? ⟨w.heap.size, j, none⟩ = some (.int .u8 (bs.getD j 0).toNat) := fun j hj => by rw [← hbs]; exact Lib.bytesWorld_cell w 5 t j (by rw [hsz]; exact hj)
  obtain ⟨W1, hW1⟩ : ∃ W1, W1 = Lib.bytesWorld w 5 t := ⟨_, rfl⟩
  rw [← hW1] at hcv hB ⊢
  clear hW1
  obtain ⟨R, hR⟩ : ∃ R, pu 16 65535 0 bs = R := ⟨_, rfl⟩
  rw [hR]
  have hemp : t.toList.isEmpty = false := by
    rw [← decide_eq_emptyBytes]
    exact decide_eq_false (fun h => by have := congrArg ByteArray.size h; rw [hsz] at this; exact hne (List.eq_nil_of_length_eq_zero (by simpa using this)))
  clear hne hbs
  have hmv : IntKind.u64.wrap (IntKind.u64.wrap 65536 - 1) = 65535 := by
    rw [IntKind.wrap_u64, IntKind.wrap_u64]
    decide
  have HB := Lib.hid hB
  have HR0 := Lib.hid hR
  clear hB hR
  go_enter Tryd.func67, Tryd.ntmps67
  go_wp2
  go_loop [12, 13, 101] (fun vu vn vi => ∃ (k acc : Nat) (a : Int), vu = .bool false ∧ vn = .int .u64 a ∧ vi = .int .i64 k ∧ k ≤ t.size ∧ Hid (a = (acc : Int) ∧ acc ≤ 65535 ∧ pu 16 65535 acc (bs.drop k) = R))
    (fun _ _ vi => t.size - (intOf vi).toNat)
  case atStart => exact ⟨0, 0, 0, rfl, rfl, rfl, by omega, rfl, by omega, HR0.out⟩
  case round =>
    obtain ⟨k, acc, a, rfl, rfl, rfl, hk, hh⟩ := hrel
    obtain ⟨ha, hacc, hdec⟩ := hh.out
    clear hh
    have a0 : 0 ≤ a := by omega
    have a1 : a ≤ 65535 := by omega
    by_cases hkn : k < t.size
    · have hc := HB.out k (hsz ▸ hkn)
      have hdrop : bs.drop k = bs[k]'(hsz ▸ hkn) :: bs.drop (k + 1) := List.drop_eq_getElem_cons (hsz ▸ hkn)
      have hget : bs.getD k 0 = bs[k]'(hsz ▸ hkn) := by simp [List.getD, List.getElem?_eq_getElem (hsz ▸ hkn : k < bs.length)]
      rw [hdrop] at hdec
      rw [hget] at hc
      generalize bs[k]'(hsz ▸ hkn) = c at hc hdec
      have hc256 : c.toNat < 256 := c.toNat_lt
      have hl256 := low_lt c
      clear hdrop hget
      have CL := Lib.hid (lower_calls c)
      by_cases hdig : 48 ≤ c.toNat ∧ c.toNat ≤ 57
      · obtain ⟨hd0, hd1⟩ := hdig
        have hd : dv 16 c = some (c.toNat - 48) := by unfold dv; rw [if_pos ⟨hd0, hd1⟩, if_pos (by omega)]
        by_cases hov : acc * 16 + (c.toNat - 48) ≤ 65535
        · rw [pu_step hd hov] at hdec
          have HN : Hid (a * 16 + ((c.toNat : Int) - 48) = ((acc * 16 + (c.toNat - 48) : Nat) : Int) ∧ acc * 16 + (c.toNat - 48) ≤ 65535 ∧ pu 16 65535 (acc * 16 + (c.toNat - 48)) (bs.drop (k + 1)) = R) := Lib.hid ⟨by omega, hov, hdec⟩
          have iov : a * 16 + ((c.toNat : Int) - 48) ≤ 65535 := by omega
          clear hdec hd hov CL hl256 ha hacc
          go_wp2
          refine ⟨⟨k + 1, acc * 16 + (c.toNat - 48), a * 16 + ((c.toNat : Int) - 48), rfl, (by first | rfl | (congr 1; omega)), (by first | rfl | (congr 1; omega)), by omega, HN⟩, by simp [intOf]; omega⟩
        · rw [pu_over hd hov] at hdec
          have iov : 65535 < a * 16 + ((c.toNat : Int) - 48) := by omega
          clear hd hov CL hl256 ha hacc
          subst hdec
          go_wp2
          go_ret2
          exact ⟨⟨_, _, rfl, by simp⟩, rfl⟩
      · by_cases hlet : 97 ≤ low c ∧ low c ≤ 122
        · obtain ⟨hl0, hl1⟩ := hlet
          have h95 : ¬ ((c.toNat : Int) = 95) := fun h => by
            have : c = 95 := UInt8.toNat_inj.1 (by show c.toNat = 95; omega)
            rw [this] at hl1
            exact absurd hl1 (by decide)
          have b95 : ((c.toNat : Int) == 95) = false := by simpa using h95
          have hd2 : dv 16 c = if low c - 87 < 16 then some (low c - 87) else none := by unfold dv; rw [if_neg hdig, if_pos ⟨hl0, hl1⟩]
          generalize low c = lc at CL hl256 hl0 hl1 hd2
          by_cases hl2 : lc ≤ 102
          · rw [if_pos (by omega)] at hd2
            by_cases hov : acc * 16 + (lc - 87) ≤ 65535
            · rw [pu_step hd2 hov] at hdec
              have HN : Hid (a * 16 + ((lc : Int) - 97 + 10) = ((acc * 16 + (lc - 87) : Nat) : Int) ∧ acc * 16 + (lc - 87) ≤ 65535 ∧ pu 16 65535 (acc * 16 + (lc - 87)) (bs.drop (k + 1)) = R) := Lib.hid ⟨by omega, hov, hdec⟩
              have iov : a * 16 + ((lc : Int) - 97 + 10) ≤ 65535 := by omega
              clear hdec hd2 hov ha hacc
              go_wp2_with (go_at_call 80; refine (CL.out _).mono ?_; rintro e w' ⟨rfl, rfl⟩)
              all_goals refine ⟨⟨k + 1, acc * 16 + (lc - 87), a * 16 + ((lc : Int) - 97 + 10), rfl, (by first | rfl | (congr 1; omega)), (by first | rfl | (congr 1; omega)), by omega, HN⟩, by simp [intOf]; omega⟩
            · rw [pu_over hd2 hov] at hdec
              have iov : 65535 < a * 16 + ((lc : Int) - 97 + 10) := by omega
              clear hd2 hov ha hacc
              subst hdec
              go_wp2_with (go_at_call 80; refine (CL.out _).mono ?_; rintro e w' ⟨rfl, rfl⟩)
              all_goals go_ret2
              all_goals exact ⟨⟨_, _, rfl, by simp⟩, rfl⟩
          · rw [if_neg (by omega)] at hd2
            rw [pu_none hd2] at hdec
            subst hdec
            clear hd2
            go_wp2_with (go_at_call 80; refine (CL.out _).mono ?_; rintro e w' ⟨rfl, rfl⟩)
            all_goals go_ret2
            all_goals exact ⟨⟨_, _, rfl, by simp⟩, rfl⟩
        · have hd : dv 16 c = none := by unfold dv; rw [if_neg hdig, if_neg hlet]
          rw [pu_none hd] at hdec
          subst hdec
          clear hd
          by_cases h95 : c = 95
          · subst h95
            have C95 : Hid (∀ w : World, Calls Tryd.prog 80 #[.int .u8 95] w fun e w' => e = .returned (.int .u8 127) ∧ w' = w) := CL
            clear CL hl256 hlet hdig hc256 ha hacc
            go_wp2_with (go_at_call 80; refine (C95.out _).mono ?_; rintro e w' ⟨rfl, rfl⟩)
            all_goals go_ret2
            all_goals exact ⟨⟨_, _, rfl, by simp⟩, rfl⟩
          have h95' : ¬ ((c.toNat : Int) = 95) := fun h => h95 (UInt8.toNat_inj.1 (by show c.toNat = 95; omega))
          have b95 : ((c.toNat : Int) == 95) = false := by simpa using h95'
          clear h95 ha hacc
          generalize low c = lc at CL hl256 hlet
          go_wp2_with (go_at_call 80; refine (CL.out _).mono ?_; rintro e w' ⟨rfl, rfl⟩)
          all_goals go_ret2
          all_goals exact ⟨⟨_, _, rfl, by simp⟩, rfl⟩
    · obtain rfl : k = t.size := by omega
      rw [List.drop_of_length_le (by omega)] at hdec
      have h2 : some acc = R := hdec
      subst h2
      subst ha
      clear hdec
      go_wp2
      go_ret2
      exact ⟨rfl, rfl⟩
end Go.Proofs.YtojdlhiibffnfabDoor

/-
  The library's contracts that this seat's proofs use, laid at this program (by the kit's own command, in plain words, cut to what is used).
-/
namespace Go.Proofs
open Go.Shelf
def Tryd.laysC245_ren : Go.Shelf.Ren := ⟨fun | 245 => 44 | 279 => 56 | 280 => 57 | 281 => 58 | 282 => 59 | 316 => 74 | 171 => 30 | 205 => 75 | 243 => 47 | 246 => 61 | 283 => 68 | 284 => 69 | 285 => 70 | 286 => 71 | 129 => 83 | 317 => 82 | 318 => 84 | 319 => 85 | 320 => 86 | 337 => 92 | 338 => 93 | n => n, fun | 9 => 9 | 3 => 3 | 75 => 53 | 167 => 86 | 4 => 4 | 168 => 89 | 210 => 106 | 37 => 81 | 0 => 0 | 127 => 103 | 145 => 123 | 143 => 121 | 2 => 2 | 171 => 98 | 53 => 22 | 5 => 5 | 173 => 101 | 212 => 114 | 51 => 108 | 20 => 20 | 213 => 115 | 46 => 65 | 232 => 128 | 233 => 129 | 80 => 85 | n => n, fun | 15 => 1 | 16 => 2 | 17 => 3 | 18 => 4 | 19 => 5 | n => n⟩
theorem Tryd.laysC245 : Go.Proofs.LaysC.n245 Tryd.prog Tryd.laysC245_ren := {
  mixed := by kernel_rfl
  f129 := Tryd.func83.trans (congrArg some (by kernel_rfl))
  f171 := Tryd.func30.trans (congrArg some (by kernel_rfl))
  f205 := Tryd.func75.trans (congrArg some (by kernel_rfl))
  f243 := Tryd.func47.trans (congrArg some (by kernel_rfl))
  f245 := Tryd.func44.trans (congrArg some (by kernel_rfl))
  f246 := Tryd.func61.trans (congrArg some (by kernel_rfl))
  f279 := Tryd.func56.trans (congrArg some (by kernel_rfl))
  f280 := Tryd.func57.trans (congrArg some (by kernel_rfl))
  f281 := Tryd.func58.trans (congrArg some (by kernel_rfl))
  f282 := Tryd.func59.trans (congrArg some (by kernel_rfl))
  f283 := Tryd.func68.trans (congrArg some (by kernel_rfl))
  f284 := Tryd.func69.trans (congrArg some (by kernel_rfl))
  f285 := Tryd.func70.trans (congrArg some (by kernel_rfl))
  f286 := Tryd.func71.trans (congrArg some (by kernel_rfl))
  f316 := Tryd.func74.trans (congrArg some (by kernel_rfl))
  f317 := Tryd.func82.trans (congrArg some (by kernel_rfl))
  f318 := Tryd.func84.trans (congrArg some (by kernel_rfl))
  f319 := Tryd.func85.trans (congrArg some (by kernel_rfl))
  f320 := Tryd.func86.trans (congrArg some (by kernel_rfl))
  f337 := Tryd.func92.trans (congrArg some (by kernel_rfl))
  f338 := Tryd.func93.trans (congrArg some (by kernel_rfl))
  t0 := Tryd.underlying0
  a0 := Tryd.isAgg0
  z0 := Tryd.sizeOf0
  v0 := Tryd.zeroValue0
  t2 := Tryd.underlying2
  a2 := Tryd.isAgg2
  z2 := Tryd.sizeOf2
  v2 := Tryd.zeroValue2
  t3 := Tryd.underlying3
  a3 := Tryd.isAgg3
  z3 := Tryd.sizeOf3
  v3 := Tryd.zeroValue3
  t4 := Tryd.underlying4
  a4 := Tryd.isAgg4
  z4 := Tryd.sizeOf4
  v4 := Tryd.zeroValue4
  t5 := Tryd.underlying5
  a5 := Tryd.isAgg5
  z5 := Tryd.sizeOf5
  v5 := Tryd.zeroValue5
  t9 := Tryd.underlying9
  a9 := Tryd.isAgg9
  z9 := Tryd.sizeOf9
  v9 := Tryd.zeroValue9
  t20 := Tryd.underlying20
  a20 := Tryd.isAgg20
  z20 := Tryd.sizeOf20
  v20 := Tryd.zeroValue20
  t37 := Tryd.underlying81
  a37 := Tryd.isAgg81
  z37 := Tryd.sizeOf81
  v37 := Tryd.zeroValue81
  t46 := Tryd.underlying65
  a46 := Tryd.isAgg65
  z46 := Tryd.sizeOf65
  v46 := Tryd.zeroValue65
  t51 := Tryd.underlying108
  a51 := Tryd.isAgg108
  z51 := Tryd.sizeOf108
  v51 := Tryd.zeroValue108
  t53 := Tryd.underlying22
  a53 := Tryd.isAgg22
  z53 := Tryd.sizeOf22
  v53 := Tryd.zeroValue22
  t75 := Tryd.underlying53
  a75 := Tryd.isAgg53
  z75 := Tryd.sizeOf53
  v75 := Tryd.zeroValue53
  t127 := Tryd.underlying103
  a127 := Tryd.isAgg103
  z127 := Tryd.sizeOf103
  v127 := Tryd.zeroValue103
  t143 := Tryd.underlying121
  a143 := Tryd.isAgg121
  z143 := Tryd.sizeOf121
  v143 := Tryd.zeroValue121
  t145 := Tryd.underlying123
  a145 := Tryd.isAgg123
  z145 := Tryd.sizeOf123
  v145 := Tryd.zeroValue123
  t167 := Tryd.underlying86
  a167 := Tryd.isAgg86
  z167 := Tryd.sizeOf86
  v167 := Tryd.zeroValue86
  t168 := Tryd.underlying89
  a168 := Tryd.isAgg89
  z168 := Tryd.sizeOf89
  v168 := Tryd.zeroValue89
  t171 := Tryd.underlying98
  a171 := Tryd.isAgg98
  z171 := Tryd.sizeOf98
  v171 := Tryd.zeroValue98
  t173 := Tryd.underlying101
  a173 := Tryd.isAgg101
  z173 := Tryd.sizeOf101
  v173 := Tryd.zeroValue101
  t210 := Tryd.underlying106
  a210 := Tryd.isAgg106
  z210 := Tryd.sizeOf106
  v210 := Tryd.zeroValue106
  t212 := Tryd.underlying114
  a212 := Tryd.isAgg114
  z212 := Tryd.sizeOf114
  v212 := Tryd.zeroValue114
  t213 := Tryd.underlying115
  a213 := Tryd.isAgg115
  z213 := Tryd.sizeOf115
  t232 := Tryd.underlying128
  a232 := Tryd.isAgg128
  z232 := Tryd.sizeOf128
  v232 := Tryd.zeroValue128
  t233 := Tryd.underlying129
  a233 := Tryd.isAgg129
  z233 := Tryd.sizeOf129
  v233 := Tryd.zeroValue129
  g15 := by kernel_rfl
  g16 := by kernel_rfl
  g17 := by kernel_rfl
  g18 := by kernel_rfl
  g19 := by kernel_rfl
  t80 := Tryd.underlying85
  a80 := Tryd.isAgg85
  z80 := Tryd.sizeOf85
  v80 := Tryd.zeroValue85
  i0 := by kernel_rfl
  i2 := by kernel_rfl
  i3 := by kernel_rfl
  i4 := by kernel_rfl
  i5 := by kernel_rfl
  i9 := by kernel_rfl
  i20 := by kernel_rfl
  i37 := by kernel_rfl
  i46 := by kernel_rfl
  i51 := by kernel_rfl
  i53 := by kernel_rfl
  i75 := by kernel_rfl
  i80 := by kernel_rfl
  i127 := by kernel_rfl
  i143 := by kernel_rfl
  i145 := by kernel_rfl
  i167 := by kernel_rfl
  i168 := by kernel_rfl
  i171 := by kernel_rfl
  i173 := by kernel_rfl
  i210 := by kernel_rfl
  i212 := by kernel_rfl
  i232 := by kernel_rfl
  i233 := by kernel_rfl
  m15 := by kernel_rfl
  m16 := by kernel_rfl
  m17 := by kernel_rfl
  m18 := by kernel_rfl
  m19 := by kernel_rfl
  c0 := by kernel_rfl
  c2 := by kernel_rfl
  c3 := by kernel_rfl
  c4 := by kernel_rfl
  c5 := by kernel_rfl
  c9 := by kernel_rfl
  c20 := by kernel_rfl
  c37 := by kernel_rfl
  c46 := by kernel_rfl
  c51 := by kernel_rfl
  c53 := by kernel_rfl
  c75 := by kernel_rfl
  c80 := by kernel_rfl
  c127 := by kernel_rfl
  c143 := by kernel_rfl
  c145 := by kernel_rfl
  c167 := by kernel_rfl
  c168 := by kernel_rfl
  c171 := by kernel_rfl
  c173 := by kernel_rfl
  c210 := by kernel_rfl
  c212 := by kernel_rfl
  c213 := by kernel_rfl
  c232 := by kernel_rfl
  c233 := by kernel_rfl }
open Go.RowKit in
theorem Tryd.strconv_toError_syntax (fn s : ByteArray) (base bits : Int) (ev : Value) (w : World) (hlim : s.size ≤ 281474976710656) (hv : w.cell? ⟨1, 0, none⟩ = some ev) (hev : ev = .nilIface ∨ ∃ te pe, ev = .iface te pe) :
    Calls Tryd.prog 44 #[.string fn, .string s, .int .i64 base, .int .i64 bits, .iface 86 (.int .i64 2)] w fun e w' => ∃ N, e = .returned (.iface 89 (.pointer (some ⟨N, 0, none⟩))) ∧ w.heap.size ≤ N ∧ w'.heap[N]? = some (.cells #[.string fn, .string s, ev] 106 (0, 0)) ∧ Below w.heap.size w w' := Any.strconv_toError_syntax Tryd.laysC245 fn s base bits ev w hlim hv hev
open Go.RowKit in
theorem Tryd.strconv_toError_range (fn s : ByteArray) (base bits : Int) (ev : Value) (w : World) (hlim : s.size ≤ 281474976710656) (hv : w.cell? ⟨2, 0, none⟩ = some ev) (hev : ev = .nilIface ∨ ∃ te pe, ev = .iface te pe) :
    Calls Tryd.prog 44 #[.string fn, .string s, .int .i64 base, .int .i64 bits, .iface 86 (.int .i64 1)] w fun e w' => ∃ N, e = .returned (.iface 89 (.pointer (some ⟨N, 0, none⟩))) ∧ w.heap.size ≤ N ∧ w'.heap[N]? = some (.cells #[.string fn, .string s, ev] 106 (0, 0)) ∧ Below w.heap.size w w' := Any.strconv_toError_range Tryd.laysC245 fn s base bits ev w hlim hv hev
def Tryd.lays144_ren : Go.Shelf.Ren := ⟨fun | 144 => 18 | 143 => 32 | 219 => 48 | 217 => 62 | 225 => 63 | 224 => 64 | 267 => 65 | 266 => 76 | 314 => 77 | n => n, fun | 9 => 9 | 4 => 4 | 3 => 3 | 5 => 5 | 46 => 65 | 146 => 109 | 51 => 108 | n => n, fun | 1 => 0 | n => n⟩
theorem Tryd.lays144 : Go.Proofs.Lays.n144 Tryd.prog Tryd.lays144_ren := {
  mixed := by kernel_rfl
  f143 := Tryd.func32.trans (congrArg some (by kernel_rfl))
  f144 := Tryd.func18.trans (congrArg some (by kernel_rfl))
  f217 := Tryd.func62.trans (congrArg some (by kernel_rfl))
  f219 := Tryd.func48.trans (congrArg some (by kernel_rfl))
  f224 := Tryd.func64.trans (congrArg some (by kernel_rfl))
  f225 := Tryd.func63.trans (congrArg some (by kernel_rfl))
  f266 := Tryd.func76.trans (congrArg some (by kernel_rfl))
  f267 := Tryd.func65.trans (congrArg some (by kernel_rfl))
  f314 := Tryd.func77.trans (congrArg some (by kernel_rfl))
  t3 := Tryd.underlying3
  a3 := Tryd.isAgg3
  z3 := Tryd.sizeOf3
  v3 := Tryd.zeroValue3
  t4 := Tryd.underlying4
  a4 := Tryd.isAgg4
  z4 := Tryd.sizeOf4
  v4 := Tryd.zeroValue4
  t5 := Tryd.underlying5
  a5 := Tryd.isAgg5
  z5 := Tryd.sizeOf5
  v5 := Tryd.zeroValue5
  t9 := Tryd.underlying9
  a9 := Tryd.isAgg9
  z9 := Tryd.sizeOf9
  v9 := Tryd.zeroValue9
  t46 := Tryd.underlying65
  a46 := Tryd.isAgg65
  z46 := Tryd.sizeOf65
  v46 := Tryd.zeroValue65
  t51 := Tryd.underlying108
  a51 := Tryd.isAgg108
  z51 := Tryd.sizeOf108
  v51 := Tryd.zeroValue108
  t146 := Tryd.underlying109
  a146 := Tryd.isAgg109
  z146 := Tryd.sizeOf109
  v146 := Tryd.zeroValue109
  g1 := by kernel_rfl }
open Go.RowKit Go.Lib in
theorem Tryd.strings_Contains_one (s : ByteArray) (c : UInt8) (w : World) :
    Calls Tryd.prog 18 #[.string s, .string ⟨#[c]⟩] w fun e w' => e = .returned (.bool (decide (0 ≤ Lib.indexByte s.data.toList c))) ∧ w' = w := Any.strings_Contains_one Tryd.lays144 s c w
def Tryd.lays145_ren : Go.Shelf.Ren := ⟨fun | 145 => 27 | 220 => 42 | 219 => 48 | 217 => 62 | 225 => 63 | 224 => 64 | 267 => 65 | 266 => 76 | 314 => 77 | n => n, fun | 9 => 9 | 4 => 4 | 59 => 50 | 3 => 3 | 5 => 5 | 46 => 65 | 146 => 109 | 51 => 108 | n => n, fun | 1 => 0 | n => n⟩
theorem Tryd.lays145 : Go.Proofs.Lays.n145 Tryd.prog Tryd.lays145_ren := {
  mixed := by kernel_rfl
  f145 := Tryd.func27.trans (congrArg some (by kernel_rfl))
  f217 := Tryd.func62.trans (congrArg some (by kernel_rfl))
  f219 := Tryd.func48.trans (congrArg some (by kernel_rfl))
  f220 := Tryd.func42.trans (congrArg some (by kernel_rfl))
  f224 := Tryd.func64.trans (congrArg some (by kernel_rfl))
  f225 := Tryd.func63.trans (congrArg some (by kernel_rfl))
  f266 := Tryd.func76.trans (congrArg some (by kernel_rfl))
  f267 := Tryd.func65.trans (congrArg some (by kernel_rfl))
  f314 := Tryd.func77.trans (congrArg some (by kernel_rfl))
  t3 := Tryd.underlying3
  a3 := Tryd.isAgg3
  z3 := Tryd.sizeOf3
  v3 := Tryd.zeroValue3
  t4 := Tryd.underlying4
  a4 := Tryd.isAgg4
  z4 := Tryd.sizeOf4
  v4 := Tryd.zeroValue4
  t5 := Tryd.underlying5
  a5 := Tryd.isAgg5
  z5 := Tryd.sizeOf5
  v5 := Tryd.zeroValue5
  t9 := Tryd.underlying9
  a9 := Tryd.isAgg9
  z9 := Tryd.sizeOf9
  v9 := Tryd.zeroValue9
  t46 := Tryd.underlying65
  a46 := Tryd.isAgg65
  z46 := Tryd.sizeOf65
  v46 := Tryd.zeroValue65
  t51 := Tryd.underlying108
  a51 := Tryd.isAgg108
  z51 := Tryd.sizeOf108
  v51 := Tryd.zeroValue108
  t59 := Tryd.underlying50
  a59 := Tryd.isAgg50
  z59 := Tryd.sizeOf50
  v59 := Tryd.zeroValue50
  t146 := Tryd.underlying109
  a146 := Tryd.isAgg109
  z146 := Tryd.sizeOf109
  v146 := Tryd.zeroValue109
  g1 := by kernel_rfl }
open Go.RowKit Go.Lib in
theorem Tryd.strings_Cut (s sep : ByteArray) (m : Int) (w : World) (hs : s.size < 4294967281) (hm : w.cell? ⟨0, 0, none⟩ = some (.int .i64 m)) :
    Calls Tryd.prog 27 #[.string s, .string sep] w fun e w' => e = .returned (.tuple #[.string ⟨(Lib.cut s.data.toList sep.data.toList).1.toArray⟩, .string ⟨(Lib.cut s.data.toList sep.data.toList).2.1.toArray⟩, .bool (Lib.cut s.data.toList sep.data.toList).2.2]) ∧ ∃ n, w' = w.drewN n := Any.strings_Cut Tryd.lays145 s sep m w hs hm
def Tryd.lays146_ren : Go.Shelf.Ren := ⟨fun | 146 => 49 | 221 => 66 | 268 => 78 | 138 => 79 | 143 => 32 | 195 => 89 | 197 => 90 | 218 => 91 | 219 => 48 | 260 => 94 | 217 => 62 | 225 => 63 | 224 => 64 | 267 => 65 | 266 => 76 | 314 => 77 | n => n, fun | 9 => 9 | 31 => 70 | 3 => 3 | 4 => 4 | 0 => 0 | 105 => 125 | 21 => 21 | 5 => 5 | 46 => 65 | 119 => 130 | 139 => 133 | 138 => 132 | 146 => 109 | 51 => 108 | n => n, fun | 1 => 0 | 3 => 6 | 4 => 7 | n => n⟩
theorem Tryd.lays146 : Go.Proofs.Lays.n146 Tryd.prog Tryd.lays146_ren := {
  mixed := by kernel_rfl
  f138 := Tryd.func79.trans (congrArg some (by kernel_rfl))
  f143 := Tryd.func32.trans (congrArg some (by kernel_rfl))
  f146 := Tryd.func49.trans (congrArg some (by kernel_rfl))
  f195 := Tryd.func89.trans (congrArg some (by kernel_rfl))
  f197 := Tryd.func90.trans (congrArg some (by kernel_rfl))
  f217 := Tryd.func62.trans (congrArg some (by kernel_rfl))
  f218 := Tryd.func91.trans (congrArg some (by kernel_rfl))
  f219 := Tryd.func48.trans (congrArg some (by kernel_rfl))
  f221 := Tryd.func66.trans (congrArg some (by kernel_rfl))
  f224 := Tryd.func64.trans (congrArg some (by kernel_rfl))
  f225 := Tryd.func63.trans (congrArg some (by kernel_rfl))
  f260 := Tryd.func94.trans (congrArg some (by kernel_rfl))
  f266 := Tryd.func76.trans (congrArg some (by kernel_rfl))
  f267 := Tryd.func65.trans (congrArg some (by kernel_rfl))
  f268 := Tryd.func78.trans (congrArg some (by kernel_rfl))
  f314 := Tryd.func77.trans (congrArg some (by kernel_rfl))
  t0 := Tryd.underlying0
  a0 := Tryd.isAgg0
  z0 := Tryd.sizeOf0
  v0 := Tryd.zeroValue0
  t3 := Tryd.underlying3
  a3 := Tryd.isAgg3
  z3 := Tryd.sizeOf3
  v3 := Tryd.zeroValue3
  t4 := Tryd.underlying4
  a4 := Tryd.isAgg4
  z4 := Tryd.sizeOf4
  v4 := Tryd.zeroValue4
  t5 := Tryd.underlying5
  a5 := Tryd.isAgg5
  z5 := Tryd.sizeOf5
  v5 := Tryd.zeroValue5
  t9 := Tryd.underlying9
  a9 := Tryd.isAgg9
  z9 := Tryd.sizeOf9
  v9 := Tryd.zeroValue9
  t21 := Tryd.underlying21
  a21 := Tryd.isAgg21
  z21 := Tryd.sizeOf21
  v21 := Tryd.zeroValue21
  t31 := Tryd.underlying70
  a31 := Tryd.isAgg70
  z31 := Tryd.sizeOf70
  v31 := Tryd.zeroValue70
  t46 := Tryd.underlying65
  a46 := Tryd.isAgg65
  z46 := Tryd.sizeOf65
  v46 := Tryd.zeroValue65
  t51 := Tryd.underlying108
  a51 := Tryd.isAgg108
  z51 := Tryd.sizeOf108
  v51 := Tryd.zeroValue108
  t105 := Tryd.underlying125
  a105 := Tryd.isAgg125
  z105 := Tryd.sizeOf125
  v105 := Tryd.zeroValue125
  t119 := Tryd.underlying130
  a119 := Tryd.isAgg130
  z119 := Tryd.sizeOf130
  t138 := Tryd.underlying132
  a138 := Tryd.isAgg132
  z138 := Tryd.sizeOf132
  v138 := Tryd.zeroValue132
  t139 := Tryd.underlying133
  a139 := Tryd.isAgg133
  z139 := Tryd.sizeOf133
  v139 := Tryd.zeroValue133
  t146 := Tryd.underlying109
  a146 := Tryd.isAgg109
  z146 := Tryd.sizeOf109
  v146 := Tryd.zeroValue109
  g1 := by kernel_rfl
  g3 := by kernel_rfl
  g4 := by kernel_rfl }
open Go.RowKit Go.Lib in
theorem Tryd.strings_Split (s sep : ByteArray) (m : Int) (w : World) (hs : s.size < 4294967281) (hm : w.cell? ⟨0, 0, none⟩ = some (.int .i64 m)) (h1 : 1 ≤ sep.size) :
    Calls Tryd.prog 49 #[.string s, .string sep] w fun e w' =>
      e = .returned (.slice (some ⟨w.heap.size, 0, none⟩) (Lib.countB s sep + 1) (Lib.countB s sep + 1)) ∧ w' = w.alloc (.cells ((Lib.splitB sep 0 (Lib.countB s sep) s).map Value.string).toArray 9) := Any.strings_Split Tryd.lays146 (by kernel_rfl) s sep m w hs hm h1
end Go.Proofs

/-
  strconv.ParseUint to base 10 at 8 bits and to base 16 at 16 bits; what lies in memory for it.
-/
namespace Go.Proofs.YtojdlhiibffnfabDoor
open Go.RowKit Go.Sort
set_option linter.unusedVariables false
set_option linter.unusedSimpArgs false

/-- A cell that holds an error. -/
def ErrAt (w : World) (g : Nat) : Prop := ∃ ev, w.cell? ⟨g, 0, none⟩ = some ev ∧ (ev = .nilIface ∨ ∃ te pe, ev = .iface te pe)
theorem cell_lt {w : World} {p : Addr} {v : Value} (h : w.cell? p = some v) : p.block < w.heap.size := by
  by_cases hl : p.block < w.heap.size
  · exact hl
  · unfold World.cell? at h
    simp [Array.getElem?_eq_none (Nat.le_of_not_lt hl)] at h
theorem ErrAt.keep {w w' : World} {g : Nat} (h : ErrAt w g) (hb : Below w.heap.size w w') : ErrAt w' g := by
  obtain ⟨ev, h1, h2⟩ := h
  exact ⟨ev, (hb.cell (p := ⟨g, 0, none⟩) (cell_lt h1)).trans h1, h2⟩
/-- What the readers read of memory. -/
def RTabs (w : World) : Prop := Tabs w ∧ (∃ m : Int, w.cell? ⟨0, 0, none⟩ = some (.int .i64 m)) ∧ ErrAt w 1 ∧ ErrAt w 2
theorem RTabs.keep {w w' : World} (h : RTabs w) (hb : Below w.heap.size w w') : RTabs w' := by
  obtain ⟨h1, ⟨m, hm⟩, h3, h4⟩ := h
  exact ⟨h1.keep hb, ⟨m, (hb.cell (p := ⟨0, 0, none⟩) (cell_lt hm)).trans hm⟩, h3.keep hb, h4.keep hb⟩
theorem RTabs.alloc {w : World} (h : RTabs w) (o : Obj) : RTabs (w.alloc o) := h.keep ((Below.refl _ _).alloc (Nat.le_refl _) o)

def puE (B M : Nat) (bs : List UInt8) : Option Nat := if bs = [] then none else pu B M 0 bs
/-- The two ways in which numbers are read. -/
def Way (B Z M : Nat) : Prop := (B = 10 ∧ Z = 8 ∧ M = 255) ∨ (B = 16 ∧ Z = 16 ∧ M = 65535)

set_option maxHeartbeats 400000 in
set_option maxRecDepth 100000 in
theorem puEmpty_calls (B Z : Int) (t : ByteArray) (ht : t = ⟨#[]⟩) (w : World) :
    Calls Tryd.prog 67 #[.string t, .int .i64 B, .int .i64 Z] w fun e w' => e = .returned (.tuple #[.int .u64 0, .iface 86 (.int .i64 2)]) ∧ w' = w := by
  subst ht
  go_enter Tryd.func67, Tryd.ntmps67
  go_wp2
  go_ret2
  exact ⟨rfl, rfl⟩

theorem puIn_calls (B Z M : Nat) (h : Way B Z M) (t : ByteArray) (bs : List UInt8) (hbs : t.data.toList = bs) (hmax : bs.length ≤ 1000) (w : World) :
    Calls Tryd.prog 67 #[.string t, .int .i64 B, .int .i64 Z] w fun e w' => PuIs (puE B M bs) e ∧ Below w.heap.size w w' := by
  by_cases hne : bs = []
  · have ht : t = ⟨#[]⟩ := by
      apply ByteArray.ext
      have : t.data.toList = [] := by rw [hbs, hne]
      simpa using this
    refine (puEmpty_calls B Z t ht w).mono ?_
    rintro e w' ⟨rfl, rfl⟩
    rw [puE, if_pos hne]
    exact ⟨⟨_, _, rfl, .inr rfl⟩, Below.refl _ _⟩
  · rw [puE, if_neg hne]
    rcases h with ⟨rfl, rfl, rfl⟩ | ⟨rfl, rfl, rfl⟩
    · refine (pu10_calls t bs hbs hne (by omega) w).mono ?_
      rintro e w' ⟨he, rfl⟩
      exact ⟨he, Lib.bytesWorld_below _ _ _⟩
    · refine (pu16_calls t bs hbs hne (by omega) w).mono ?_
      rintro e w' ⟨he, rfl⟩
      exact ⟨he, Lib.bytesWorld_below _ _ _⟩

/-- What strconv.ParseUint answers. -/
def PuOut (r : Option Nat) (e : Ending) : Prop := match r with
  | some u => e = .returned (.tuple #[.int .u64 (u : Int), .nilIface])
  | none => ∃ (m : Int) (t : TypeId) (v : Value), e = .returned (.tuple #[.int .u64 m, .iface t v])

set_option maxHeartbeats 400000 in
theorem parseUint_calls (B Z M : Nat) (h : Way B Z M) (t : ByteArray) (bs : List UInt8) (hbs : t.data.toList = bs) (hmax : bs.length ≤ 1000) (w : World) (hr : RTabs w) :
    Calls Tryd.prog 50 #[.string t, .int .i64 B, .int .i64 Z] w fun e w' => PuOut (puE B M bs) e ∧ Below w.heap.size w w' := by
  have hts : t.size ≤ 281474976710656 := by rw [Lib.size_eq, hbs]; omega
  have C := Lib.hid (puIn_calls B Z M h t bs hbs hmax)
  obtain ⟨R, hR⟩ : ∃ R, puE B M bs = R := ⟨_, rfl⟩
  rw [hR] at C ⊢
  have HR := Lib.hid hr
  have HTS := Lib.hid hts
  clear hR hr hbs hmax h hts
  go_enter Tryd.func50, Tryd.ntmps50
  go_wp2_with fail
  refine (C.out _).mono ?_
  rintro e w1 ⟨he, hb⟩
  have R1 := HR.out.keep hb
  clear C HR
  cases R with
  | some u =>
    obtain rfl : e = _ := he
    go_wp2
    go_ret2
    exact ⟨rfl, hb⟩
  | none =>
    obtain ⟨m, k, rfl, hk⟩ := he
    obtain ⟨_, _, ⟨ev, e1, e2⟩, ⟨ew, e3, e4⟩⟩ := R1
    rcases hk with rfl | rfl
    · have C2 := Lib.hid (fun W h => Tryd.strconv_toError_range ⟨#[80, 97, 114, 115, 101, 85, 105, 110, 116]⟩ t B Z ew W HTS.out h e4)
      clear e1 e2
      go_wp2_with (go_at_call 44; refine (C2.out _ e3).mono ?_; rintro e w2 ⟨N, rfl, _, _, hb2⟩)
      go_ret2
      exact ⟨⟨_, _, _, rfl⟩, thenBelow hb hb2⟩
    · have C2 := Lib.hid (fun W h => Tryd.strconv_toError_syntax ⟨#[80, 97, 114, 115, 101, 85, 105, 110, 116]⟩ t B Z ev W HTS.out h e2)
      clear e3 e4
      go_wp2_with (go_at_call 44; refine (C2.out _ e1).mono ?_; rintro e w2 ⟨N, rfl, _, _, hb2⟩)
      go_ret2
      exact ⟨⟨_, _, _, rfl⟩, thenBelow hb hb2⟩
end Go.Proofs.YtojdlhiibffnfabDoor

/-
  The rows that list seven variables: a world in which they lie as listed, and what a walk has of the rows' condition and of the world's shape.
-/
namespace Go.Proofs.YtojdlhiibffnfabDoor
open Go.RowKit

theorem star116 : "*" ++ "errors.errorString" = "*errors.errorString" := by decide
theorem row116 (u : TypeId) (h : Tryd.prog.typeName? 3 u = some "*errors.errorString") : u = 121 :=
  typeName_ptr_named (nm := "errors.errorString") (by rw [star116]; kernel_rfl) (by kernel_rfl) (by decide) u (by rw [star116]; exact h)

theorem errAt_of_laid {n : String} {g : Nat} {text : List UInt8} {r : List (String × DataW Unit)} {W : World} (h : laidMet Tryd.prog ((n, .iface "*errors.errorString" (.ptr (.agg [.lit (.string text)]))) :: r) W)
    (hg : Tryd.prog.globalNamed n = some g) (ht : (Tryd.prog.globals[g]?).map (·.type) = some 53) : ErrAt W g := by
  obtain ⟨a, s, hv, _⟩ := laid_sentinel (te := 123) (ts := 9) h hg ht Tryd.underlying53 row116 (by kernel_rfl) Tryd.underlying123 rfl rfl Tryd.underlying9 (by kernel_rfl) (by kernel_rfl)
  refine ⟨.iface 121 (.pointer (some a)), ?_, .inr ⟨_, _, rfl⟩⟩
  simpa using World.var?_cell hg hv 0

/-- The wrap, with what the row lists and the world's shape. -/
theorem handed_and_shaped {H : Type} {enc : TypeId × Value → H} {a : Assume} {C : Checked} {os : Os} {f : FuncId} {fn : Func} {s : ChangeSpec} {conds : List PathCond} {apart fresh handsOn again : Bool} {X : World → Array Value → Prop}
    (hX : ∀ (w w' : World) (args : Array Value), w.heap = w'.heap → X w args → X w' args)
    (own : ownKnob C.prog.godebug = none) (started : os.Started) (noInit : C.prog.inits.idxOf? f = none) (hfn : C.prog.funcs[f]? = some fn)
    (witness : ∃ (w : World) (tape : Tape) (i : Input), w.os = os ∧ (w.forCall tape i).Shaped C.prog ∧ i.vars = [] ∧ Input.okWide C.prog (w.forCall tape i) .any w.heap.size f i ∧
      ((s.pre enc C.prog fn conds apart (w.forCall tape i).memory i.args ∧ X (w.forCall tape i).memory i.args) ∧ sizedMet enc C.prog fn (OpenSpec.ofChange s) apart (w.forCall tape i).memory i.args) ∧ a.holds C.prog (lone (Frame.enter C.prog f i.args .normal) [] (w.forCall tape i)))
    (contract : ∀ (W : World) (base : Nat) (args : Array Value) (ds gs : List (DataW H)) (before : List MemPlace),
      (∀ (j : Nat) t v, fn.params[j]? = some t → args[j]? = some v → Value.okWide C.prog W .any base t v) →
      DataW.Whole enc C.prog fn.params.toList s.vars apart W args.toList ds gs before →
      conds.all (PathCond.test C.prog ⟨fn.params.toList, ds, s.plain.varTypes C.prog, gs⟩) = true →
      (DataW.weightsEach C.prog (fn.params.toList ++ s.plain.varTypes C.prog) (ds ++ gs)).all (· ≤ reachBytes) = true → X W args → W.ShapedOpen C.prog →
      Calls C.prog f args W fun e W' => ∃ v, e = .returned v ∧ s.post enc C.prog fn apart fresh handsOn again W args v W') :
    ReturnsInHanded a C os f .any (fun w args => (s.pre enc C.prog fn conds apart w args ∧ X w args) ∧ sizedMet enc C.prog fn (OpenSpec.ofChange s) apart w args) (s.post enc C.prog fn apart fresh handsOn again) := by
  refine returnsInHanded_of_calls own started noInit witness ?_
  intro w tape i _ hsh _ hok hpre _
  obtain ⟨_, _, _, fn', hfn', _, _, _, _, hval⟩ := hok
  have e : fn' = fn := Option.some.inj (hfn'.symm.trans hfn)
  subst e
  obtain ⟨⟨⟨ds, gs, before, hw, hc⟩, hx⟩, hz⟩ := hpre
  have hw' := DataW.Whole.of_heap (w' := w.forCall tape i) (by rfl) hw
  refine (contract (w.forCall tape i) w.heap.size i.args ds gs before hval hw' hc (hz.weights hw) (hX _ _ _ (by rfl) hx) hsh).mono fun e W' ⟨v, he, hp⟩ => ?_
  subst he
  exact ChangeSpec.post_blind hp

theorem maxLen_of_shape {W : World} (h : W.ShapedOpen Tryd.prog) : ∃ m : Int, W.cell? ⟨0, 0, none⟩ = some (.int .i64 m) :=
  cell_of_shapedOpen_int (t := 3) (zero := #[.int .i64 0]) h (of_decide_eq_true (by kernel_rfl)) (by kernel_rfl) rfl (by kernel_rfl) (by kernel_rfl) Tryd.underlying3

def pairsIn : DataW Unit → Array Value
  | .agg ds => (ds.flatMap fun | .agg [.lit (.int k z), .lit (.int k2 z2)] => [Value.int k z, Value.int k2 z2] | _ => []).toArray
  | _ => #[]
def Laid7.Tabs (w : World) : Prop := RTabs w
noncomputable def Laid7.world (os : Os) : World :=
  let N := (World.settled Tryd.prog os).heap.size
  let w0 := World.holding Tryd.prog os ⟨#[.cells #[.string ⟨#[118, 97, 108, 117, 101, 32, 111, 117, 116, 32, 111, 102, 32, 114, 97, 110, 103, 101]⟩] 123, .cells #[.string ⟨#[105, 110, 118, 97, 108, 105, 100, 32, 115, 121, 110, 116, 97, 120]⟩] 123], #[], []⟩
  let h1 := putCells (putCells (putCells w0.heap 4 (cellsIn Rows.laid_math_bits_deBruijn32tab)) 5 (cellsIn Rows.laid_math_bits_deBruijn64tab)) 3 (cellsIn Rows.laid_internal_strconv_uint64pow10)
  let h2 := putCells (putCells h1 7 (pairsIn Rows.laid_unicode_utf8_acceptRanges)) 6 (cellsIn Rows.laid_unicode_utf8_first)
  let h3 := putCells (putCells h2 2 #[.iface 121 (.pointer (some ⟨N, 0, none⟩))]) 1 #[.iface 121 (.pointer (some ⟨N + 1, 0, none⟩))]
  { w0 with heap := h3 }
theorem Laid7.met (os : Os) (args : Array Value) : laidMetH Tryd.prog Rows.addrParsesRow.laid ((Laid7.world os).forCall (fun _ _ => 0) ⟨#[], args, []⟩).memory := by
  rw [Go.MakeChecks.laidMetH_plain _ _ _ (by kernel_rfl)]
  exact laidMet_of_run' 8 (by kernel_rfl) (by kernel_rfl)
theorem Laid7.of {W : World} (h : laidMetH Tryd.prog Rows.addrParsesRow.laid W) (hs : W.ShapedOpen Tryd.prog) : Laid7.Tabs W := by
  rw [Go.MakeChecks.laidMetH_plain _ _ _ (by kernel_rfl)] at h
  exact ⟨Tabs.of_laid h, maxLen_of_shape hs, errAt_of_laid (g := 1) h.tail.tail.tail.tail.tail (by kernel_rfl) (by kernel_rfl), errAt_of_laid (g := 2) h.tail.tail.tail.tail (by kernel_rfl) (by kernel_rfl)⟩
end Go.Proofs.YtojdlhiibffnfabDoor

/-
  The contract of addr.fourText.
-/
namespace Go.Proofs.YtojdlhiibffnfabDoor
open Go.RowKit Go.Sort
set_option linter.unusedVariables false
set_option linter.unusedSimpArgs false

/-- The four bytes, the most significant one first. -/
def fourP (L : Nat) : List Nat := (List.range 4).map fun j => L / 2 ^ (8 * (3 - j)) % 256
def fourT (L : Nat) : List (List UInt8) := (fourP L).map (numText 10 3)
theorem fourT_length (L : Nat) : (fourT L).length = 4 := by simp [fourT, fourP]
theorem fourT_get (L k : Nat) (h : k < (fourT L).length) : (fourT L)[k] = numText 10 3 (L / 2 ^ (8 * (3 - k)) % 256) := by simp [fourT, fourP]

theorem and255 (x : Nat) (h : x < 18446744073709551616) : bits .and .u64 (x : Int) 255 = ((x % 256 : Nat) : Int) := by
  have h2 := bits_and_u64_nat x 255 (by omega) (by omega)
  rw [show (255 : Nat) = 2 ^ 8 - 1 from rfl, Nat.and_two_pow_sub_one_eq_mod] at h2
  exact h2
theorem numText10_len : ∀ u : Fin 256, (numText 10 3 u.val).length ≤ 3 := by decide +kernel
theorem join_len_le (ts : List (List UInt8)) (sep : List UInt8) (m : Nat) (h : ∀ t ∈ ts, t.length ≤ m) : (Lib.join ts sep).length ≤ ts.length * (m + sep.length) := by
  induction ts with
  | nil => simp [Lib.join_nil]
  | cons t r ih =>
    have ht := h t (by simp)
    have hr := ih (fun x hx => h x (by simp [hx]))
    cases r with
    | nil => rw [Lib.join_one]; simp; omega
    | cons y r =>
      have e : Lib.join (t :: y :: r) sep = t ++ (sep ++ Lib.join (y :: r) sep) := by
        simp [Lib.join, List.intercalate]
      rw [e, List.length_append, List.length_append, List.length_cons, Nat.succ_mul]
      omega

set_option maxHeartbeats 1000000 in
set_option maxRecDepth 100000 in
theorem fourText_calls (hi : Int) (L : Nat) (h1 : L < 18446744073709551616) (w : World) (ht : Tabs w) :
    Calls Tryd.prog 23 #[.agg #[.bool false, .int .u64 hi, .int .u64 (L : Int)]] w fun e w' => e = .returned (.string ⟨(Lib.join (fourT L) [46]).toArray⟩) ∧ Below w.heap.size w w' := by
  have HT := Lib.hid ht
  clear ht
  have hmk : ∀ W, (Instr.makeSlice 70 (.int .i64 4) (.int .i64 4)).run Tryd.prog W = .ok (.slice (some ⟨W.heap.size, 0, none⟩) 4 4) (W.alloc (.cells #[.string ByteArray.empty, .string ByteArray.empty, .string ByteArray.empty, .string ByteArray.empty] 9)) := fun _ => by kernel_rfl
  go_enter Tryd.func23, Tryd.ntmps23
  go_wp2
  clear hmk
  go_loopw [9] (fun i wr => ∃ k : Nat, k ≤ 4 ∧ i = .int .i64 k ∧ StrRow wr (w.heap.size + 1) (mixTo (fourT L) k) ∧ wr.cell? ⟨w.heap.size, 2, none⟩ = some (.int .u64 (L : Int)) ∧ Below w.heap.size w wr)
    (fun i _ => 4 - (intOf i).toNat)
  case atStart =>
    refine ⟨0, by omega, rfl, ?_, by simp [go_sem], by go_grown⟩
    rw [mixTo_zero 4 _ (fourT_length L)]
    refine ⟨fun j x hx => ?_, fun o => by simp [go_sem], by simp⟩
    have hj : j < 4 := by have := (List.getElem?_eq_some_iff.1 hx).1; simpa using this
    rw [List.getElem?_replicate, if_pos hj] at hx
    obtain rfl := Option.some.inj hx
    match j, hj with
    | 0, _ => simp [go_sem]
    | 1, _ => simp [go_sem]
    | 2, _ => simp [go_sem]
    | 3, _ => simp [go_sem]
  case round =>
    obtain ⟨k, hk, rfl, hrow, hlo, hb⟩ := hrel
    have HR := Lib.hid hrow
    have hz := hrow.2.2
    have hs := hb.size
    clear hrow
    by_cases hlt : k < 4
    · have hkl : k < (fourT L).length := by rw [fourT_length]; exact hlt
      have hq : L / 2 ^ (8 * (3 - k)) % 256 < 256 := Nat.mod_lt _ (by omega)
      have ha : bits .and .u64 ((L : Int) / 2 ^ (8 * (3 - k))) 255 = ((L / 2 ^ (8 * (3 - k)) % 256 : Nat) : Int) := by
        have := and255 (L / 2 ^ (8 * (3 - k))) (Nat.lt_of_le_of_lt (Nat.div_le_self _ _) h1)
        simpa using this
      obtain ⟨p, hp⟩ : ∃ p, L / 2 ^ (8 * (3 - k)) % 256 = p := ⟨_, rfl⟩
      have hst : (fourT L)[k] = numText 10 3 p := by rw [fourT_get, hp]
      rw [hp] at ha hq
      have HST := Lib.hid hst
      have HA := Lib.hid ha
      clear hst hp
      go_wp2_with fail
      refine (format10 p hq _ (HT.out.keep hb).2.1).mono ?_
      rintro e w2 ⟨rfl, hb2⟩
      have R2 := HR.out.keep hb2
      have b2 := thenBelow hb hb2
      have lo2 := (hb2.cell (p := ⟨w.heap.size, 2, none⟩) (by show w.heap.size < wr.heap.size; omega)).trans hlo
      have hs2 := b2.size
      have hset := R2.set (k := k) (by rw [mixTo_length _ _ (by omega)]; exact hkl) ⟨(numText 10 3 p).toArray⟩
      rw [← HST.out, mixTo_succ _ _ hkl, HST.out] at hset
      have HS := Lib.hid hset
      obtain ⟨y, hcell⟩ := R2.ex (k := k) (by rw [mixTo_length _ _ (by omega)]; exact hkl)
      have hfr := R2.2.1 k
      have z2 := R2.2.2
      clear hset R2 ha hb hb2 hlo hz hs
      go_wp2
      go_roundw
      case rel => exact ⟨k + 1, by omega, by go_num, HS.out, (World.cell?_setCell_other _ _ _ _ (by simp)).trans lo2, b2.setCell (by simp) _⟩
      case measure => simp [intOf]; omega
    · obtain rfl : k = 4 := by omega
      have hfull : (mixTo (fourT L) 4).map (·.data.toList) = fourT L := by have := mixTo_full (fourT L); rwa [fourT_length] at this
      have hl4 : (mixTo (fourT L) 4).length = 4 := by rw [mixTo_length _ _ (by rw [fourT_length]; omega), fourT_length]
      have c := Tryd.strings_Join (w.heap.size + 1) 0 4 (mixTo (fourT L) 4) ⟨#[46]⟩ wr HR.out.1 hz (by omega) (by omega) (by
        rw [hfull]
        have hj := join_len_le (fourT L) [46] 3 (fun t ht => by
          simp only [fourT, List.mem_map] at ht
          obtain ⟨p, hp, rfl⟩ := ht
          simp only [fourP, List.mem_map] at hp
          obtain ⟨j, _, rfl⟩ := hp
          exact numText10_len ⟨_, Nat.mod_lt _ (by omega)⟩)
        rw [fourT_length] at hj
        simp at hj
        show (Lib.join (fourT L) [46]).length ≤ _
        omega)
      rw [hl4, hfull] at c
      have C := Lib.hid c
      clear c hfull hl4 hlo
      go_wp2_with fail
      refine C.out.mono ?_
      rintro e w2 ⟨rfl, hb2⟩
      have b2 := thenBelow hb hb2
      go_wp2
      go_ret
      exact ⟨rfl, b2⟩
end Go.Proofs.YtojdlhiibffnfabDoor

/-
  The contract of addr.groupsText.
-/
namespace Go.Proofs.YtojdlhiibffnfabDoor
open Go.RowKit Go.Sort
set_option linter.unusedVariables false
set_option linter.unusedSimpArgs false

def hexT (gs : List Nat) : List (List UInt8) := gs.map (numText 16 4)
theorem numText16_len (u : Nat) : (numText 16 4 u).length ≤ 4 := by
  simp only [numText]
  repeat' split
  all_goals simp

theorem mkStrs0 (W : World) : (Instr.makeSlice 70 (.int .i64 ((0 : Nat) : Int)) (.int .i64 ((0 : Nat) : Int))).run Tryd.prog W = .ok (.slice (some ⟨W.heap.size, 0, none⟩) 0 0) (W.alloc (.cells (Array.replicate 0 (.string ByteArray.empty)) 9)) := by kernel_rfl
theorem mkStrs1 (W : World) : (Instr.makeSlice 70 (.int .i64 ((1 : Nat) : Int)) (.int .i64 ((1 : Nat) : Int))).run Tryd.prog W = .ok (.slice (some ⟨W.heap.size, 0, none⟩) 1 1) (W.alloc (.cells (Array.replicate 1 (.string ByteArray.empty)) 9)) := by kernel_rfl
theorem mkStrs2 (W : World) : (Instr.makeSlice 70 (.int .i64 ((2 : Nat) : Int)) (.int .i64 ((2 : Nat) : Int))).run Tryd.prog W = .ok (.slice (some ⟨W.heap.size, 0, none⟩) 2 2) (W.alloc (.cells (Array.replicate 2 (.string ByteArray.empty)) 9)) := by kernel_rfl
theorem mkStrs3 (W : World) : (Instr.makeSlice 70 (.int .i64 ((3 : Nat) : Int)) (.int .i64 ((3 : Nat) : Int))).run Tryd.prog W = .ok (.slice (some ⟨W.heap.size, 0, none⟩) 3 3) (W.alloc (.cells (Array.replicate 3 (.string ByteArray.empty)) 9)) := by kernel_rfl
theorem mkStrs4 (W : World) : (Instr.makeSlice 70 (.int .i64 ((4 : Nat) : Int)) (.int .i64 ((4 : Nat) : Int))).run Tryd.prog W = .ok (.slice (some ⟨W.heap.size, 0, none⟩) 4 4) (W.alloc (.cells (Array.replicate 4 (.string ByteArray.empty)) 9)) := by kernel_rfl
theorem mkStrs5 (W : World) : (Instr.makeSlice 70 (.int .i64 ((5 : Nat) : Int)) (.int .i64 ((5 : Nat) : Int))).run Tryd.prog W = .ok (.slice (some ⟨W.heap.size, 0, none⟩) 5 5) (W.alloc (.cells (Array.replicate 5 (.string ByteArray.empty)) 9)) := by kernel_rfl
theorem mkStrs6 (W : World) : (Instr.makeSlice 70 (.int .i64 ((6 : Nat) : Int)) (.int .i64 ((6 : Nat) : Int))).run Tryd.prog W = .ok (.slice (some ⟨W.heap.size, 0, none⟩) 6 6) (W.alloc (.cells (Array.replicate 6 (.string ByteArray.empty)) 9)) := by kernel_rfl
theorem mkStrs7 (W : World) : (Instr.makeSlice 70 (.int .i64 ((7 : Nat) : Int)) (.int .i64 ((7 : Nat) : Int))).run Tryd.prog W = .ok (.slice (some ⟨W.heap.size, 0, none⟩) 7 7) (W.alloc (.cells (Array.replicate 7 (.string ByteArray.empty)) 9)) := by kernel_rfl
theorem mkStrs8 (W : World) : (Instr.makeSlice 70 (.int .i64 ((8 : Nat) : Int)) (.int .i64 ((8 : Nat) : Int))).run Tryd.prog W = .ok (.slice (some ⟨W.heap.size, 0, none⟩) 8 8) (W.alloc (.cells (Array.replicate 8 (.string ByteArray.empty)) 9)) := by kernel_rfl
theorem mkStrs (n : Nat) (h : n ≤ 8) (W : World) : (Instr.makeSlice 70 (.int .i64 ((n : Nat) : Int)) (.int .i64 ((n : Nat) : Int))).run Tryd.prog W = .ok (.slice (some ⟨W.heap.size, 0, none⟩) n n) (W.alloc (.cells (Array.replicate n (.string ByteArray.empty)) 9)) := by
  have hn : n = 0 ∨ n = 1 ∨ n = 2 ∨ n = 3 ∨ n = 4 ∨ n = 5 ∨ n = 6 ∨ n = 7 ∨ n = 8 := by omega
  rcases hn with rfl | rfl | rfl | rfl | rfl | rfl | rfl | rfl | rfl
  · exact mkStrs0 W
  · exact mkStrs1 W
  · exact mkStrs2 W
  · exact mkStrs3 W
  · exact mkStrs4 W
  · exact mkStrs5 W
  · exact mkStrs6 W
  · exact mkStrs7 W
  · exact mkStrs8 W

set_option maxHeartbeats 1000000 in
set_option maxRecDepth 100000 in
theorem groupsText_calls (gs : List Nat) (n : Nat) (hn : gs.length = n) (h8 : n ≤ 8) (hg : ∀ u ∈ gs, u < 65536) (g o cap : Nat) (w : World) (hgw : g < w.heap.size) (hc : ∀ (j u : Nat), gs[j]? = some u → w.cell? ⟨g, o + j, none⟩ = some (.int .u64 (u : Int))) (ht : Tabs w) :
    Calls Tryd.prog 38 #[.slice (some ⟨g, o, none⟩) n cap] w fun e w' => e = .returned (.string ⟨(Lib.join (hexT gs) [58]).toArray⟩) ∧ Below w.heap.size w w' := by
  have HT := Lib.hid ht; have HN := Lib.hid hn; have HG := Lib.hid hg; have HC := Lib.hid hc
  have hT : (hexT gs).length = n := by simp [hexT, hn]
  have HTN := Lib.hid hT
  clear ht hn hg hc hT
  have hmk := mkStrs n h8
  go_enter Tryd.func38, Tryd.ntmps38
  go_wp2
  clear hmk
  go_loopw [11] (fun i wr => ∃ k : Nat, k ≤ n ∧ i = .int .i64 k ∧ StrRow wr w.heap.size (mixTo (hexT gs) k) ∧ Below w.heap.size w wr)
    (fun i _ => n - (intOf i).toNat)
  case atStart =>
    refine ⟨0, by omega, rfl, ?_, by go_grown⟩
    rw [mixTo_zero n _ HTN.out]
    refine ⟨fun j x hx => ?_, fun o => by simp [go_sem], by simp⟩
    have hj : j < n := by have := (List.getElem?_eq_some_iff.1 hx).1; simpa using this
    rw [List.getElem?_replicate, if_pos hj] at hx
    obtain rfl := Option.some.inj hx
    rw [Nat.zero_add, World.cell?_alloc_new]
    simp [hj]
  case round =>
    obtain ⟨k, hk, rfl, hrow, hb⟩ := hrel
    have HR := Lib.hid hrow
    have hz := hrow.2.2
    have hs := hb.size
    clear hrow
    by_cases hlt : k < n
    · have hkg : k < gs.length := by rw [HN.out]; exact hlt
      have hkl : k < (hexT gs).length := by rw [HTN.out]; exact hlt
      obtain ⟨p, hp⟩ : ∃ p, gs[k] = p := ⟨_, rfl⟩
      have hst : (hexT gs)[k] = numText 16 4 p := by simp [hexT, hp]
      have hq : p < 65536 := by rw [← hp]; exact HG.out _ (List.getElem_mem hkg)
      have hcell0 : wr.cell? ⟨g, o + k, none⟩ = some (.int .u64 (p : Int)) := (hb.cell (p := ⟨g, o + k, none⟩) hgw).trans (HC.out k p (by rw [List.getElem?_eq_getElem hkg, hp]))
      have HST := Lib.hid hst
      clear hst hp
      go_wp2_with fail
      refine (format16 p hq _ (HT.out.keep hb).at15 (HT.out.keep hb).2.2.1).mono ?_
      rintro e w2 ⟨rfl, hb2⟩
      have R2 := HR.out.keep hb2
      have b2 := thenBelow hb hb2
      have hs2 := b2.size
      have hset := R2.set (k := k) (by rw [mixTo_length _ _ (by omega)]; exact hkl) ⟨(numText 16 4 p).toArray⟩
      rw [← HST.out, mixTo_succ _ _ hkl, HST.out] at hset
      have HS := Lib.hid hset
      obtain ⟨y, hcell⟩ := R2.ex (k := k) (by rw [mixTo_length _ _ (by omega)]; exact hkl)
      have hfr := R2.2.1 k
      have z2 := R2.2.2
      clear hset R2 hb hb2 hz hs hcell0
      go_wp2
      go_roundw
      case rel => exact ⟨k + 1, by omega, by go_num, HS.out, b2.setCell (by simp) _⟩
      case measure => simp [intOf]; omega
    · obtain rfl : k = n := by omega
      have hfull : (mixTo (hexT gs) k).map (·.data.toList) = hexT gs := by have := mixTo_full (hexT gs); rwa [HTN.out] at this
      have hl4 : (mixTo (hexT gs) k).length = k := by rw [mixTo_length _ _ (by rw [HTN.out]; omega), HTN.out]
      have c := Tryd.strings_Join w.heap.size 0 k (mixTo (hexT gs) k) ⟨#[58]⟩ wr HR.out.1 hz (by omega) (by omega) (by
        rw [hfull]
        have hj := join_len_le (hexT gs) [58] 4 (fun t ht => by
          simp only [hexT, List.mem_map] at ht
          obtain ⟨p, _, rfl⟩ := ht
          exact numText16_len p)
        rw [HTN.out] at hj
        simp at hj
        show (Lib.join (hexT gs) [58]).length ≤ _
        omega)
      rw [hl4, hfull] at c
      have C := Lib.hid c
      clear c hfull hl4
      go_wp2_with fail
      refine C.out.mono ?_
      rintro e w2 ⟨rfl, hb2⟩
      have b2 := thenBelow hb hb2
      go_wp2
      go_ret
      exact ⟨rfl, b2⟩
end Go.Proofs.YtojdlhiibffnfabDoor

/-
  The contracts of addr.split, addr.longestZeros, addr.sixText.
-/
namespace Go.Proofs.YtojdlhiibffnfabDoor
open Go.RowKit Go.Sort
set_option linter.unusedVariables false
set_option linter.unusedSimpArgs false

theorem and65535 (x : Nat) (h : x < 18446744073709551616) : bits .and .u64 (x : Int) 65535 = ((x % 65536 : Nat) : Int) := by
  have h2 := bits_and_u64_nat x 65535 (by omega) (by omega)
  rw [show (65535 : Nat) = 2 ^ 16 - 1 from rfl, Nat.and_two_pow_sub_one_eq_mod] at h2
  exact h2

set_option maxHeartbeats 2000000 in
set_option maxRecDepth 100000 in
theorem split_calls (six : Bool) (H L g0 g1 g2 g3 g4 g5 g6 g7 : Nat) (h1 : H < 18446744073709551616) (l1 : L < 18446744073709551616) (e0 : H / 281474976710656 % 65536 = g0) (e1 : H / 4294967296 % 65536 = g1) (e2 : H / 65536 % 65536 = g2) (e3 : H % 65536 = g3) (e4 : L / 281474976710656 % 65536 = g4) (e5 : L / 4294967296 % 65536 = g5) (e6 : L / 65536 % 65536 = g6) (e7 : L % 65536 = g7) (w : World) :
    Calls Tryd.prog 36 #[.agg #[.bool six, .int .u64 (H : Int), .int .u64 (L : Int)]] w fun e w' => e = .returned (.agg #[.int .u64 (g0 : Int), .int .u64 (g1 : Int), .int .u64 (g2 : Int), .int .u64 (g3 : Int), .int .u64 (g4 : Int), .int .u64 (g5 : Int), .int .u64 (g6 : Int), .int .u64 (g7 : Int)]) ∧ Below w.heap.size w w' := by
  have a0 : bits .and .u64 (((H : Nat) : Int) / 281474976710656) 65535 = (g0 : Int) := by rw [← e0]; have := and65535 (H / 281474976710656) (by omega); simpa using this
  have a1 : bits .and .u64 (((H : Nat) : Int) / 4294967296) 65535 = (g1 : Int) := by rw [← e1]; have := and65535 (H / 4294967296) (by omega); simpa using this
  have a2 : bits .and .u64 (((H : Nat) : Int) / 65536) 65535 = (g2 : Int) := by rw [← e2]; have := and65535 (H / 65536) (by omega); simpa using this
  have a3 : bits .and .u64 (((H : Nat) : Int)) 65535 = (g3 : Int) := by rw [← e3]; have := and65535 (H) (by omega); simpa using this
  have a4 : bits .and .u64 (((L : Nat) : Int) / 281474976710656) 65535 = (g4 : Int) := by rw [← e4]; have := and65535 (L / 281474976710656) (by omega); simpa using this
  have a5 : bits .and .u64 (((L : Nat) : Int) / 4294967296) 65535 = (g5 : Int) := by rw [← e5]; have := and65535 (L / 4294967296) (by omega); simpa using this
  have a6 : bits .and .u64 (((L : Nat) : Int) / 65536) 65535 = (g6 : Int) := by rw [← e6]; have := and65535 (L / 65536) (by omega); simpa using this
  have a7 : bits .and .u64 (((L : Nat) : Int)) 65535 = (g7 : Int) := by rw [← e7]; have := and65535 (L) (by omega); simpa using this
  clear e0 e1 e2 e3 e4 e5 e6 e7
  go_enter Tryd.func36, Tryd.ntmps36
  go_wp2
  go_rounds 9
  go_returns
  exact ⟨rfl, by go_grown⟩

theorem getD_zero (l : List Nat) (k : Nat) (h : k < l.length) : (l.map (· == 0)).getD k false = (l.getD k 0 == 0) := by
  simp [List.getD_eq_getElem?_getD, h]

/-- One group more: where the run of zeros began; where the longest one begins and has ended. -/
def lzStep (s : Int × Int × Int) (i : Int) (z : Bool) : Int × Int × Int :=
  if z then (if s.2.2 - s.2.1 < i + 1 - s.1 then (s.1, s.1, i + 1) else s) else (i + 1, s.2.1, s.2.2)
def lzTo (zs : List Bool) : Nat → Int × Int × Int
  | 0 => (0, 0, 0)
  | k + 1 => lzStep (lzTo zs k) k (zs.getD k false)
theorem lzTo_bd (zs : List Bool) (k : Nat) : 0 ≤ (lzTo zs k).1 ∧ (lzTo zs k).1 ≤ k ∧ 0 ≤ (lzTo zs k).2.1 ∧ (lzTo zs k).2.1 ≤ (lzTo zs k).2.2 ∧ (lzTo zs k).2.2 ≤ k := by
  induction k with
  | zero => simp [lzTo]
  | succ k ih =>
    simp only [lzTo, lzStep]
    split
    · split
      · simp only; omega
      · omega
    · simp only; omega

theorem index8 (k : Nat) (hk : k < 8) (g0 g1 g2 g3 g4 g5 g6 g7 : Nat) (W : World) : (Instr.index 62 (.agg #[.int .u64 (g0 : Int), .int .u64 (g1 : Int), .int .u64 (g2 : Int), .int .u64 (g3 : Int), .int .u64 (g4 : Int), .int .u64 (g5 : Int), .int .u64 (g6 : Int), .int .u64 (g7 : Int)]) (.int .i64 (k : Int))).run Tryd.prog W = .ok (.int .u64 ((([g0, g1, g2, g3, g4, g5, g6, g7] : List Nat).getD k 0 : Nat) : Int)) W := by
  have hn : k = 0 ∨ k = 1 ∨ k = 2 ∨ k = 3 ∨ k = 4 ∨ k = 5 ∨ k = 6 ∨ k = 7 := by omega
  have i0 : (Instr.index 62 (.agg #[.int .u64 (g0 : Int), .int .u64 (g1 : Int), .int .u64 (g2 : Int), .int .u64 (g3 : Int), .int .u64 (g4 : Int), .int .u64 (g5 : Int), .int .u64 (g6 : Int), .int .u64 (g7 : Int)]) (.int .i64 0)).run Tryd.prog W = .ok (.int .u64 (g0 : Int)) W := by kernel_rfl
  have i1 : (Instr.index 62 (.agg #[.int .u64 (g0 : Int), .int .u64 (g1 : Int), .int .u64 (g2 : Int), .int .u64 (g3 : Int), .int .u64 (g4 : Int), .int .u64 (g5 : Int), .int .u64 (g6 : Int), .int .u64 (g7 : Int)]) (.int .i64 1)).run Tryd.prog W = .ok (.int .u64 (g1 : Int)) W := by kernel_rfl
  have i2 : (Instr.index 62 (.agg #[.int .u64 (g0 : Int), .int .u64 (g1 : Int), .int .u64 (g2 : Int), .int .u64 (g3 : Int), .int .u64 (g4 : Int), .int .u64 (g5 : Int), .int .u64 (g6 : Int), .int .u64 (g7 : Int)]) (.int .i64 2)).run Tryd.prog W = .ok (.int .u64 (g2 : Int)) W := by kernel_rfl
  have i3 : (Instr.index 62 (.agg #[.int .u64 (g0 : Int), .int .u64 (g1 : Int), .int .u64 (g2 : Int), .int .u64 (g3 : Int), .int .u64 (g4 : Int), .int .u64 (g5 : Int), .int .u64 (g6 : Int), .int .u64 (g7 : Int)]) (.int .i64 3)).run Tryd.prog W = .ok (.int .u64 (g3 : Int)) W := by kernel_rfl
  have i4 : (Instr.index 62 (.agg #[.int .u64 (g0 : Int), .int .u64 (g1 : Int), .int .u64 (g2 : Int), .int .u64 (g3 : Int), .int .u64 (g4 : Int), .int .u64 (g5 : Int), .int .u64 (g6 : Int), .int .u64 (g7 : Int)]) (.int .i64 4)).run Tryd.prog W = .ok (.int .u64 (g4 : Int)) W := by kernel_rfl
  have i5 : (Instr.index 62 (.agg #[.int .u64 (g0 : Int), .int .u64 (g1 : Int), .int .u64 (g2 : Int), .int .u64 (g3 : Int), .int .u64 (g4 : Int), .int .u64 (g5 : Int), .int .u64 (g6 : Int), .int .u64 (g7 : Int)]) (.int .i64 5)).run Tryd.prog W = .ok (.int .u64 (g5 : Int)) W := by kernel_rfl
  have i6 : (Instr.index 62 (.agg #[.int .u64 (g0 : Int), .int .u64 (g1 : Int), .int .u64 (g2 : Int), .int .u64 (g3 : Int), .int .u64 (g4 : Int), .int .u64 (g5 : Int), .int .u64 (g6 : Int), .int .u64 (g7 : Int)]) (.int .i64 6)).run Tryd.prog W = .ok (.int .u64 (g6 : Int)) W := by kernel_rfl
  have i7 : (Instr.index 62 (.agg #[.int .u64 (g0 : Int), .int .u64 (g1 : Int), .int .u64 (g2 : Int), .int .u64 (g3 : Int), .int .u64 (g4 : Int), .int .u64 (g5 : Int), .int .u64 (g6 : Int), .int .u64 (g7 : Int)]) (.int .i64 7)).run Tryd.prog W = .ok (.int .u64 (g7 : Int)) W := by kernel_rfl
  rcases hn with rfl | rfl | rfl | rfl | rfl | rfl | rfl | rfl
  · exact i0
  · exact i1
  · exact i2
  · exact i3
  · exact i4
  · exact i5
  · exact i6
  · exact i7

set_option maxHeartbeats 2000000 in
set_option maxRecDepth 100000 in
theorem longestZeros_calls (g0 g1 g2 g3 g4 g5 g6 g7 : Nat) (zs : List Bool) (hz : zs = ([g0, g1, g2, g3, g4, g5, g6, g7] : List Nat).map (· == 0)) (w : World) :
    Calls Tryd.prog 37 #[.agg #[.int .u64 (g0 : Int), .int .u64 (g1 : Int), .int .u64 (g2 : Int), .int .u64 (g3 : Int), .int .u64 (g4 : Int), .int .u64 (g5 : Int), .int .u64 (g6 : Int), .int .u64 (g7 : Int)]] w fun e w' => e = .returned (.tuple #[.int .i64 (lzTo zs 8).2.1, .int .i64 (lzTo zs 8).2.2]) ∧ Below w.heap.size w w' := by
  have HZ := Lib.hid hz
  clear hz
  go_enter Tryd.func37, Tryd.ntmps37
  go_wp2
  go_loop [2, 3, 4, 8] (fun f t s i => ∃ k : Nat, k ≤ 8 ∧ i = .int .i64 k ∧ s = .int .i64 (lzTo zs k).1 ∧ f = .int .i64 (lzTo zs k).2.1 ∧ t = .int .i64 (lzTo zs k).2.2)
    (fun _ _ _ i => 8 - (intOf i).toNat)
  case atStart => exact ⟨0, by omega, rfl, rfl, rfl, rfl⟩
  case round =>
    obtain ⟨k, hk, rfl, rfl, rfl, rfl⟩ := hrel
    obtain ⟨b1, b2, b3, b4, b5⟩ := lzTo_bd zs k
    by_cases hlt : k < 8
    · have hix := index8 k hlt g0 g1 g2 g3 g4 g5 g6 g7
      obtain ⟨p, hp⟩ : ∃ p, ([g0, g1, g2, g3, g4, g5, g6, g7] : List Nat).getD k 0 = p := ⟨_, rfl⟩
      have hzk : zs.getD k false = (p == 0) := by
        rw [HZ.out, ← hp]
        exact getD_zero _ k hlt
      rw [hp] at hix
      have HS : Hid (lzTo zs (k + 1) = lzStep (lzTo zs k) k (p == 0)) := by show lzTo zs (k + 1) = _; rw [← hzk]; rfl
      clear hp hzk
      obtain ⟨s, hs⟩ : ∃ s, (lzTo zs k).1 = s := ⟨_, rfl⟩
      obtain ⟨f, hf⟩ : ∃ f, (lzTo zs k).2.1 = f := ⟨_, rfl⟩
      obtain ⟨t, ht⟩ : ∃ t, (lzTo zs k).2.2 = t := ⟨_, rfl⟩
      have he : lzTo zs k = (s, f, t) := by rw [← hs, ← hf, ← ht]
      rw [hs, hf, ht]
      rw [hs] at b1 b2; rw [hf] at b3 b4; rw [ht] at b4 b5
      have HE := Lib.hid he
      clear he hs hf ht
      by_cases h0 : p = 0
      · subst h0
        by_cases hl : t - f < k + 1 - s
        · have hfin : Hid (lzTo zs (k + 1) = (s, s, (k : Int) + 1)) := by show _ = _; rw [HS.out, HE.out]; simp [lzStep, hl]
          go_wp2
          go_round
          case rel => exact ⟨k + 1, by omega, by go_num, by rw [hfin.out], by rw [hfin.out], by rw [hfin.out]⟩
          case measure => simp [intOf]; omega
        · have hfin : Hid (lzTo zs (k + 1) = (s, f, t)) := by show _ = _; rw [HS.out, HE.out]; simp [lzStep, hl]
          go_wp2
          go_round
          case rel => exact ⟨k + 1, by omega, by go_num, by rw [hfin.out], by rw [hfin.out], by rw [hfin.out]⟩
          case measure => simp [intOf]; omega
      · have hne : ((p : Int) != 0) = true := by simp; omega
        have hfin : Hid (lzTo zs (k + 1) = ((k : Int) + 1, f, t)) := by show _ = _; rw [HS.out, HE.out]; simp [lzStep, h0]
        clear h0
        go_wp2
        go_round
        case rel => exact ⟨k + 1, by omega, by go_num, by rw [hfin.out], by rw [hfin.out], by rw [hfin.out]⟩
        case measure => simp [intOf]; omega
    · obtain rfl : k = 8 := by omega
      go_wp2
      go_ret2
      exact ⟨rfl, by go_grown⟩

/-- The eight groups. -/
def grpP (H L : Nat) : List Nat := [H / 281474976710656 % 65536, H / 4294967296 % 65536, H / 65536 % 65536, H % 65536, L / 281474976710656 % 65536, L / 4294967296 % 65536, L / 65536 % 65536, L % 65536]
def zeroP (gs : List Nat) : List Bool := gs.map (· == 0)
/-- The text of an IPv6 address with these groups. -/
def sixT (gs : List Nat) : List UInt8 :=
  let f := (lzTo (zeroP gs) 8).2.1
  let t := (lzTo (zeroP gs) 8).2.2
  if t - f < 2 then Lib.join (hexT gs) [58] else Lib.join (hexT (gs.take f.toNat)) [58] ++ [58, 58] ++ Lib.join (hexT (gs.drop t.toNat)) [58]

theorem hexJoin_len (gs : List Nat) (h : gs.length ≤ 8) : (Lib.join (hexT gs) [58]).length ≤ 40 := by
  have hj := join_len_le (hexT gs) [58] 4 (fun t ht => by
    simp only [hexT, List.mem_map] at ht
    obtain ⟨p, _, rfl⟩ := ht
    exact numText16_len p)
  have : (hexT gs).length = gs.length := by simp [hexT]
  rw [this] at hj
  simp at hj
  omega
/-- The groups lie in block b, and the tables are there. -/
def GrpAt (w : World) (b : Nat) (gs : List Nat) : Prop := (∀ (j u : Nat), gs[j]? = some u → w.cell? ⟨b, j, none⟩ = some (.int .u64 (u : Int))) ∧ b < w.heap.size ∧ Tabs w
theorem GrpAt.keep {w w' : World} {b : Nat} {gs : List Nat} (h : GrpAt w b gs) (hb : Below w.heap.size w w') : GrpAt w' b gs :=
  ⟨fun j u hj => (hb.cell (p := ⟨b, j, none⟩) h.2.1).trans (h.1 j u hj), Nat.lt_of_lt_of_le h.2.1 hb.size, h.2.2.keep hb⟩
theorem gt_head {w : World} {b : Nat} {gs : List Nat} (h : GrpAt w b gs) (hl : gs.length = 8) (hg : ∀ u ∈ gs, u < 65536) (f cap : Nat) (hf : f ≤ 8) :
    Calls Tryd.prog 38 #[.slice (some ⟨b, 0, none⟩) f cap] w fun e w' => e = .returned (.string ⟨(Lib.join (hexT (gs.take f)) [58]).toArray⟩) ∧ Below w.heap.size w w' :=
  groupsText_calls (gs.take f) f (by rw [List.length_take]; omega) hf (fun u hu => hg u (List.mem_of_mem_take hu)) b 0 cap w h.2.1 (fun j u hj => by
    have hjf : j < f := by have := (List.getElem?_eq_some_iff.1 hj).1; rw [List.length_take] at this; omega
    rw [List.getElem?_take_of_lt hjf] at hj
    rw [Nat.zero_add]; exact h.1 j u hj) h.2.2
theorem gt_tail {w : World} {b : Nat} {gs : List Nat} (h : GrpAt w b gs) (hl : gs.length = 8) (hg : ∀ u ∈ gs, u < 65536) (t o n cap : Nat) (ht : t ≤ 8) (hn : n = 8 - t) (ho : t < 8 → o = t) :
    Calls Tryd.prog 38 #[.slice (some ⟨b, o, none⟩) n cap] w fun e w' => e = .returned (.string ⟨(Lib.join (hexT (gs.drop t)) [58]).toArray⟩) ∧ Below w.heap.size w w' :=
  groupsText_calls (gs.drop t) n (by rw [List.length_drop]; omega) (by omega) (fun u hu => hg u (List.mem_of_mem_drop hu)) b o cap w h.2.1 (fun j u hj => by
    have hjl : j < 8 - t := by have := (List.getElem?_eq_some_iff.1 hj).1; rw [List.length_drop] at this; omega
    rw [List.getElem?_drop] at hj
    rw [ho (by omega)]; exact h.1 (t + j) u hj) h.2.2

set_option maxHeartbeats 2000000 in
set_option maxRecDepth 100000 in
theorem sixText_calls (six : Bool) (H L : Nat) (h1 : H < 18446744073709551616) (l1 : L < 18446744073709551616) (w : World) (ht : Tabs w) :
    Calls Tryd.prog 22 #[.agg #[.bool six, .int .u64 (H : Int), .int .u64 (L : Int)]] w fun e w' => e = .returned (.string ⟨(sixT (grpP H L)).toArray⟩) ∧ Below w.heap.size w w' := by
  have HT := Lib.hid ht
  clear ht
  obtain ⟨g0, e0⟩ : ∃ g, H / 281474976710656 % 65536 = g := ⟨_, rfl⟩
  obtain ⟨g1, e1⟩ : ∃ g, H / 4294967296 % 65536 = g := ⟨_, rfl⟩
  obtain ⟨g2, e2⟩ : ∃ g, H / 65536 % 65536 = g := ⟨_, rfl⟩
  obtain ⟨g3, e3⟩ : ∃ g, H % 65536 = g := ⟨_, rfl⟩
  obtain ⟨g4, e4⟩ : ∃ g, L / 281474976710656 % 65536 = g := ⟨_, rfl⟩
  obtain ⟨g5, e5⟩ : ∃ g, L / 4294967296 % 65536 = g := ⟨_, rfl⟩
  obtain ⟨g6, e6⟩ : ∃ g, L / 65536 % 65536 = g := ⟨_, rfl⟩
  obtain ⟨g7, e7⟩ : ∃ g, L % 65536 = g := ⟨_, rfl⟩
  have hG : grpP H L = [g0, g1, g2, g3, g4, g5, g6, g7] := by unfold grpP; rw [e0, e1, e2, e3, e4, e5, e6, e7]
  have hlt : ∀ u ∈ [g0, g1, g2, g3, g4, g5, g6, g7], u < 65536 := by
    intro u hu
    simp only [List.mem_cons, List.mem_nil_iff, or_false] at hu
    omega
  rw [hG]
  have C1 := Lib.hid (fun W => split_calls six H L g0 g1 g2 g3 g4 g5 g6 g7 h1 l1 e0 e1 e2 e3 e4 e5 e6 e7 W)
  have C2 := Lib.hid (fun W => longestZeros_calls g0 g1 g2 g3 g4 g5 g6 g7 _ rfl W)
  have HLT := Lib.hid hlt
  clear hG hlt e0 e1 e2 e3 e4 e5 e6 e7
  obtain ⟨zs, hzs⟩ : ∃ zs, ([g0, g1, g2, g3, g4, g5, g6, g7] : List Nat).map (· == 0) = zs := ⟨_, rfl⟩
  rw [hzs] at C2
  have hsix : sixT [g0, g1, g2, g3, g4, g5, g6, g7] = if (lzTo zs 8).2.2 - (lzTo zs 8).2.1 < 2 then Lib.join (hexT [g0, g1, g2, g3, g4, g5, g6, g7]) [58] else Lib.join (hexT (([g0, g1, g2, g3, g4, g5, g6, g7] : List Nat).take (lzTo zs 8).2.1.toNat)) [58] ++ [58, 58] ++ Lib.join (hexT (([g0, g1, g2, g3, g4, g5, g6, g7] : List Nat).drop (lzTo zs 8).2.2.toNat)) [58] := by rw [← hzs]; rfl
  obtain ⟨b1, b2, b3, b4, b5⟩ := lzTo_bd zs 8
  obtain ⟨f, hf⟩ := Int.eq_ofNat_of_zero_le b3
  obtain ⟨t, ht⟩ := Int.eq_ofNat_of_zero_le (Int.le_trans b3 b4)
  rw [hf, ht] at hsix C2
  rw [hf] at b3 b4; rw [ht] at b4 b5
  simp only [Int.toNat_natCast] at hsix
  have HSX := Lib.hid hsix
  clear hsix hf ht b1 b2 b3 hzs
  obtain ⟨T, hT⟩ : ∃ T, sixT [g0, g1, g2, g3, g4, g5, g6, g7] = T := ⟨_, rfl⟩
  rw [hT]
  rw [hT] at HSX
  clear hT
  go_enter Tryd.func22, Tryd.ntmps22
  go_wp2_with fail
  refine (C1.out _).mono ?_
  rintro e w1 ⟨rfl, hb1⟩
  have bb1 := thenBelow ((Below.refl _ w).alloc (Nat.le_refl _) _) hb1
  clear hb1
  go_wp2_with fail
  refine (C2.out _).mono ?_
  rintro e w2 ⟨rfl, hb2⟩
  have bb2 := thenBelow (bb1.alloc bb1.size _) hb2
  have row : ∀ (j u : Nat), ([g0, g1, g2, g3, g4, g5, g6, g7] : List Nat)[j]? = some u → w2.cell? ⟨w1.heap.size, j, none⟩ = some (.int .u64 (u : Int)) := by
    intro j u hj
    have hj8 : j < 8 := (List.getElem?_eq_some_iff.1 hj).1
    rw [hb2.cell (p := ⟨w1.heap.size, j, none⟩) (by simp), World.cell?_alloc_new]
    match j, hj8 with
    | 0, _ => simp at hj; subst hj; rfl
    | 1, _ => simp at hj; subst hj; rfl
    | 2, _ => simp at hj; subst hj; rfl
    | 3, _ => simp at hj; subst hj; rfl
    | 4, _ => simp at hj; subst hj; rfl
    | 5, _ => simp at hj; subst hj; rfl
    | 6, _ => simp at hj; subst hj; rfl
    | 7, _ => simp at hj; subst hj; rfl
  have G2 : GrpAt w2 w1.heap.size [g0, g1, g2, g3, g4, g5, g6, g7] := ⟨row, by have := hb2.size; simp at this; omega, HT.out.keep bb2⟩
  clear row hb2
  by_cases hs : (t : Int) - f < 2
  · have hx := HSX.out
    rw [if_pos hs] at hx
    have HX := Lib.hid hx
    have c := gt_head G2 rfl HLT.out 8 8 (by omega)
    have C := Lib.hid c
    clear c hx
    go_wp2_with (go_at_call 38; refine C.out.mono ?_; rintro e w3 ⟨rfl, hb3⟩)
    go_ret
    exact ⟨by rw [HX.out]; rfl, thenBelow bb2 hb3⟩
  · have hx := HSX.out
    rw [if_neg hs] at hx
    have HX := Lib.hid hx
    clear hx
    have hal : Tryd.prog.arrayLen 62 = 8 := by kernel_rfl
    have hsl1 : ∀ W, (Instr.sliceAt 62 (.pointer (some ⟨w1.heap.size, 0, none⟩)) none (some (.int .i64 (f : Int))) none).run Tryd.prog W = .ok (.slice (some ⟨w1.heap.size, 0, none⟩) f 8) W := fun W => by
      rw [run_sliceAt_array_h W 62 ⟨w1.heap.size, 0, none⟩ (by kernel_rfl) .i64 (f : Int) (by omega) (by rw [hal]; omega), hal]
      go_simp
    have hsl2 : ∀ W, (Instr.sliceAt 62 (.pointer (some ⟨w1.heap.size, 0, none⟩)) (some (.int .i64 (t : Int))) none none).run Tryd.prog W = .ok (.slice (some ⟨w1.heap.size, if t < 8 then t else 0, none⟩) (8 - t) (8 - t)) W := fun W => by
      rw [run_sliceAt_array_l W 62 ⟨w1.heap.size, 0, none⟩ (by kernel_rfl) .i64 (t : Int) (by omega) (by rw [hal]; omega), hal]
      by_cases h8 : t < 8
      · rw [if_pos h8]
        have : ¬ 8 = t := by omega
        go_simp
      · obtain rfl : t = 8 := by omega
        go_simp
    clear hal
    obtain ⟨o, ho⟩ : ∃ o, (if t < 8 then t else 0) = o := ⟨_, rfl⟩
    have HO : Hid (t < 8 → o = t) := fun h => by rw [← ho, if_pos h]
    rw [ho] at hsl2
    clear ho
    obtain ⟨A, hA⟩ : ∃ A, Lib.join (hexT (([g0, g1, g2, g3, g4, g5, g6, g7] : List Nat).take f)) [58] = A := ⟨_, rfl⟩
    obtain ⟨B, hB⟩ : ∃ B, Lib.join (hexT (([g0, g1, g2, g3, g4, g5, g6, g7] : List Nat).drop t)) [58] = B := ⟨_, rfl⟩
    have lA : A.length ≤ 40 := by rw [← hA]; exact hexJoin_len _ (by rw [List.length_take]; exact Nat.min_le_right _ _)
    have lB : B.length ≤ 40 := by rw [← hB]; exact hexJoin_len _ (by rw [List.length_drop]; simp)
    have ha1 : ∀ W, (Op.stringOp .add ⟨A.toArray⟩ ⟨#[58, 58]⟩).run Tryd.prog W = .ok (.string ⟨(A ++ [58, 58]).toArray⟩) W := fun W => run_string_add_lists W A [58, 58] (by omega) (by simp)
    have ha2 : ∀ W, (Op.stringOp .add ⟨(A ++ [58, 58]).toArray⟩ ⟨B.toArray⟩).run Tryd.prog W = .ok (.string ⟨(A ++ [58, 58] ++ B).toArray⟩) W := fun W => run_string_add_lists W (A ++ [58, 58]) B (by simp; omega) (by omega)
    obtain ⟨AC, hAC⟩ : ∃ AC, A ++ [58, 58] = AC := ⟨_, rfl⟩
    obtain ⟨D, hD⟩ : ∃ D, AC ++ B = D := ⟨_, rfl⟩
    rw [hAC] at ha1 ha2
    rw [hD] at ha2
    have HX2 : Hid (T = D) := by show T = D; rw [HX.out, hA, hB, hAC, hD]
    have K1 : Hid (∀ W, GrpAt W w1.heap.size [g0, g1, g2, g3, g4, g5, g6, g7] → Calls Tryd.prog 38 #[.slice (some ⟨w1.heap.size, 0, none⟩) f 8] W fun e w' => e = .returned (.string ⟨A.toArray⟩) ∧ Below W.heap.size W w') := fun W hW => by rw [← hA]; exact gt_head hW rfl HLT.out f 8 (by omega)
    have K2 : Hid (∀ W, GrpAt W w1.heap.size [g0, g1, g2, g3, g4, g5, g6, g7] → Calls Tryd.prog 38 #[.slice (some ⟨w1.heap.size, o, none⟩) (8 - t) (8 - t)] W fun e w' => e = .returned (.string ⟨B.toArray⟩) ∧ Below W.heap.size W w') := fun W hW => by rw [← hB]; exact gt_tail hW rfl HLT.out t o (8 - t) (8 - t) (by omega) rfl HO.out
    clear hA hB hAC hD HX lA lB
    go_wp2
    go_region_held3 (fun w' => GrpAt w' w1.heap.size [g0, g1, g2, g3, g4, g5, g6, g7]) (first | assumption | exact G3 | exact G4)
      (first
        | (go_at_call 38; (with_reducible refine (K1.out _ ?_).mono ?_); (focus assumption); rintro e w3 ⟨rfl, hb3⟩; have G3 := GrpAt.keep (by assumption) hb3)
        | (go_at_call 38; (with_reducible refine (K2.out _ ?_).mono ?_); (focus assumption); rintro e w4 ⟨rfl, hb4⟩; have G4 := GrpAt.keep (by assumption) hb4))
    go_wp2
    go_ret
    exact ⟨by rw [HX2.out]; rfl, thenBelow (thenBelow (show Below w.heap.size w w2.drew from bb2.drew) hb3) hb4⟩
end Go.Proofs.YtojdlhiibffnfabDoor

/-
  Contracts of addr.May and of the document's AddrMay.
-/
namespace Go.Proofs.YtojdlhiibffnfabDoor
open Go.RowKit
set_option linter.unusedVariables false
set_option linter.unusedSimpArgs false

/-- Is an address valid? -/
def mayB (six : Bool) (hi lo : Int) : Bool := six || (decide (hi = 0) && decide (lo < 4294967296))

set_option maxHeartbeats 400000 in
theorem may_calls (six : Bool) (hi lo : Int) (h0 : 0 ≤ hi) (l0 : 0 ≤ lo) (w : World) :
    Calls Tryd.prog 21 #[.agg #[.bool six, .int .u64 hi, .int .u64 lo]] w fun e w' => e = .returned (.bool (mayB six hi lo)) ∧ w.alloc (.cells #[.bool six, .int .u64 hi, .int .u64 lo] 24) = w' := by
  cases six
  · by_cases hz : hi = 0
    · subst hz
      by_cases hl : lo < 4294967296
      · go_enter Tryd.func21, Tryd.ntmps21
        go_wp2
        go_ret
        exact ⟨by simp [mayB, hl], rfl⟩
      · go_enter Tryd.func21, Tryd.ntmps21
        go_wp2
        go_ret
        exact ⟨by simp [mayB, hl], rfl⟩
    · have hz' : (hi == 0) = false := by simpa using hz
      go_enter Tryd.func21, Tryd.ntmps21
      go_wp2
      go_ret
      exact ⟨by simp [mayB, hz], rfl⟩
  · go_enter Tryd.func21, Tryd.ntmps21
    go_wp2
    go_ret
    exact ⟨by simp [mayB], rfl⟩

set_option maxHeartbeats 400000 in
theorem refMay_calls (six : Bool) (hi lo : Int) (h0 : 0 ≤ hi) (l0 : 0 ≤ lo) (w : World) :
    Calls Tryd.prog 24 #[.agg #[.bool six, .int .u64 hi, .int .u64 lo]] w fun e w' => e = .returned (.bool (mayB six hi lo)) ∧ w.alloc (.cells #[.bool six, .int .u64 hi, .int .u64 lo] 24) = w' := by
  cases six
  · by_cases hz : hi = 0
    · subst hz
      by_cases hl : lo < 4294967296
      · have hl' : lo ≤ 4294967295 := by omega
        go_enter Tryd.func24, Tryd.ntmps24
        go_wp2
        go_ret
        exact ⟨by simp [mayB, hl], rfl⟩
      · have hl' : ¬ lo ≤ 4294967295 := by omega
        go_enter Tryd.func24, Tryd.ntmps24
        go_wp2
        go_ret
        exact ⟨by simp [mayB, hl], rfl⟩
    · have hz' : (hi == 0) = false := by simpa using hz
      go_enter Tryd.func24, Tryd.ntmps24
      go_wp2
      go_ret
      exact ⟨by simp [mayB, hz], rfl⟩
  · go_enter Tryd.func24, Tryd.ntmps24
    go_wp2
    go_ret
    exact ⟨by simp [mayB], rfl⟩
end Go.Proofs.YtojdlhiibffnfabDoor

/-
  The contract of addr.Text.
-/
namespace Go.Proofs.YtojdlhiibffnfabDoor
open Go.RowKit Go.Sort
set_option linter.unusedVariables false
set_option linter.unusedSimpArgs false

/-- The text of an address; its code. -/
def textL (six : Bool) (H L : Nat) : List UInt8 := if six then sixT (grpP H L) else if H = 0 ∧ L < 4294967296 then Lib.join (fourT L) [46] else []
def textE (six : Bool) (H L : Nat) : Int := if six then 0 else if H = 0 ∧ L < 4294967296 then 0 else 4

set_option maxHeartbeats 400000 in
theorem text_six (H L : Nat) (h1 : H < 18446744073709551616) (l1 : L < 18446744073709551616) (w : World) (ht : Tabs w) :
    Calls Tryd.prog 10 #[.agg #[.bool true, .int .u64 (H : Int), .int .u64 (L : Int)]] w fun e w' => e = .returned (.tuple #[.string ⟨(sixT (grpP H L)).toArray⟩, .int .i64 0]) ∧ Below w.heap.size w w' := by
  have HT := Lib.hid ht
  clear ht
  go_enter Tryd.func10, Tryd.ntmps10
  go_wp2_with (first
    | (go_at_call 22; refine (sixText_calls true H L h1 l1 _ ((HT.out.alloc _).alloc _)).mono ?_; rintro e w1 ⟨rfl, hb⟩)
    | (go_at_call 21; go_in))
  go_ret2
  exact ⟨rfl, thenBelow (((Below.refl _ w).alloc (Nat.le_refl _) _).alloc (by simp) _) hb⟩

set_option maxHeartbeats 400000 in
theorem text_four (L : Nat) (l1 : L < 4294967296) (w : World) (ht : Tabs w) :
    Calls Tryd.prog 10 #[.agg #[.bool false, .int .u64 0, .int .u64 (L : Int)]] w fun e w' => e = .returned (.tuple #[.string ⟨(Lib.join (fourT L) [46]).toArray⟩, .int .i64 0]) ∧ Below w.heap.size w w' := by
  have HT := Lib.hid ht
  clear ht
  have l2 : (L : Int) < 4294967296 := by omega
  go_enter Tryd.func10, Tryd.ntmps10
  go_wp2_with (first
    | (go_at_call 23; refine (fourText_calls 0 L (by omega) _ ((HT.out.alloc _).alloc _)).mono ?_; rintro e w1 ⟨rfl, hb⟩)
    | (go_at_call 21; go_in))
  go_ret2
  exact ⟨rfl, thenBelow (((Below.refl _ w).alloc (Nat.le_refl _) _).alloc (by simp) _) hb⟩

set_option maxHeartbeats 400000 in
theorem text_no (hi lo : Int) (h0 : 0 ≤ hi) (l0 : 0 ≤ lo) (hm : ¬ (hi = 0 ∧ lo < 4294967296)) (w : World) :
    Calls Tryd.prog 10 #[.agg #[.bool false, .int .u64 hi, .int .u64 lo]] w fun e w' => e = .returned (.tuple #[.string ⟨#[]⟩, .int .i64 4]) ∧ Below w.heap.size w w' := by
  by_cases hz : hi = 0
  · subst hz
    have hl : ¬ lo < 4294967296 := fun h => hm ⟨rfl, h⟩
    clear hm
    go_enter Tryd.func10, Tryd.ntmps10
    go_wp2
    go_ret2
    exact ⟨rfl, by go_grown⟩
  · have hz' : (hi == 0) = false := by simpa using hz
    clear hm
    go_enter Tryd.func10, Tryd.ntmps10
    go_wp2
    go_ret2
    exact ⟨rfl, by go_grown⟩

theorem text_calls (six : Bool) (H L : Nat) (h1 : H < 18446744073709551616) (l1 : L < 18446744073709551616) (w : World) (ht : Tabs w) :
    Calls Tryd.prog 10 #[.agg #[.bool six, .int .u64 (H : Int), .int .u64 (L : Int)]] w fun e w' => e = .returned (.tuple #[.string ⟨(textL six H L).toArray⟩, .int .i64 (textE six H L)]) ∧ Below w.heap.size w w' := by
  cases six
  · by_cases hm : H = 0 ∧ L < 4294967296
    · have e1 : textL false H L = Lib.join (fourT L) [46] := by simp [textL, hm]
      have e2 : textE false H L = 0 := by simp [textE, hm]
      rw [e1, e2]
      obtain ⟨rfl, hl⟩ := hm
      exact text_four L hl w ht
    · have e1 : textL false H L = [] := by unfold textL; rw [if_neg (by decide), if_neg hm]
      have e2 : textE false H L = 4 := by unfold textE; rw [if_neg (by decide), if_neg hm]
      rw [e1, e2]
      exact text_no H L (by omega) (by omega) (by omega) w
  · exact text_six H L h1 l1 w ht
end Go.Proofs.YtojdlhiibffnfabDoor

/-
  Plain definitions and lemmas on the bits of numbers; what a pair of ints returns.
-/
namespace Go.Proofs.YtojdlhiibffnfabDoor
open Go.RowKit
set_option linter.unusedVariables false
set_option linter.unusedSimpArgs false

/-- How many bits an address has. -/
def wideB (six : Bool) : Int := if six then 128 else 32
/-- The bit with the weight 2^k. -/
def bitW (x : Int) (k : Nat) : Int := x / 2 ^ k % 2
theorem bitW_01 (x : Int) (k : Nat) : bitW x k = 0 ∨ bitW x k = 1 := by unfold bitW; omega
/-- Bit i of an address, counted from the most significant one. -/
def bitAt (six : Bool) (hi lo : Int) (i : Nat) : Int := if six then (if i < 64 then bitW hi (63 - i) else bitW lo (127 - i)) else bitW lo (31 - i)

theorem shrAnd1 (x : Int) (k : Nat) (h0 : 0 ≤ x) (h1 : x ≤ 18446744073709551615) : wrap64 (bits .and .u64 (x / 2 ^ k) 1) = bitW x k := by
  have p0 : (0 : Int) < 2 ^ k := Int.pow_pos (by decide)
  have g0 : 0 ≤ x / 2 ^ k := Int.ediv_nonneg h0 (by omega)
  have g1 : x / 2 ^ k ≤ x := Int.ediv_le_self _ h0
  rw [and_one_u64 _ g0 (by omega)]
  have := bitW_01 x k
  unfold bitW at *
  unfold wrap64
  omega
theorem ret2 {a b c d : Int} {k l : IntKind} (h : a = b) (g : c = d) : Ending.returned (.tuple #[.int k a, .int l c]) = .returned (.tuple #[.int k b, .int l d]) := by rw [h, g]

end Go.Proofs.YtojdlhiibffnfabDoor

/-
  Plain mathematics: the number that bits spell; adding a number to bits, from the lowest on.
-/
namespace Go.Proofs.YtojdlhiibffnfabDoor
open Go.RowKit
set_option linter.unusedVariables false
set_option linter.unusedSimpArgs false

/-- The first k of the n lowest bits of x, the highest first. -/
def bitsTo (x : Int) (n k : Nat) : List Int := (List.range k).map fun j => bitW x (n - 1 - j)
theorem bitsTo_succ (x : Int) (n k : Nat) : bitsTo x n (k + 1) = bitsTo x n k ++ [bitW x (n - 1 - k)] := by simp [bitsTo, List.range_succ]
theorem bitsTo_length (x : Int) (n k : Nat) : (bitsTo x n k).length = k := by simp [bitsTo]
/-- The number that bits spell, the highest first. -/
def spell (l : List Int) : Int := l.foldl (fun a b => 2 * a + b) 0
theorem spell_snoc (l : List Int) (b : Int) : spell (l ++ [b]) = 2 * spell l + b := by simp [spell]
theorem spell_nil : spell [] = 0 := rfl
theorem spell_from (l : List Int) : ∀ a : Int, 0 ≤ a → (∀ b ∈ l, b = 0 ∨ b = 1) → 0 ≤ l.foldl (fun a b => 2 * a + b) a ∧ l.foldl (fun a b => 2 * a + b) a + 1 ≤ (a + 1) * 2 ^ l.length := by
  induction l with
  | nil => intro a ha _; simp; omega
  | cons b l ih =>
    intro a ha h
    have hb := h b (by simp)
    obtain ⟨g1, g2⟩ := ih (2 * a + b) (by omega) (fun x hx => h x (by simp [hx]))
    refine ⟨g1, Int.le_trans g2 ?_⟩
    rw [List.length_cons, Int.pow_succ]
    have hp : (0 : Int) < 2 ^ l.length := Int.pow_pos (by decide)
    have : (2 * a + b + 1) * 2 ^ l.length ≤ (2 * (a + 1)) * 2 ^ l.length := Int.mul_le_mul_of_nonneg_right (by omega) (by omega)
    have e : (a + 1) * (2 ^ l.length * 2) = 2 * (a + 1) * 2 ^ l.length := by rw [← Int.mul_assoc, Int.mul_comm _ 2, ← Int.mul_assoc]
    rw [e]; exact this
theorem spell_bd (l : List Int) (h : ∀ b ∈ l, b = 0 ∨ b = 1) : 0 ≤ spell l ∧ spell l + 1 ≤ 2 ^ l.length := by
  have := spell_from l 0 (by omega) h
  simpa [spell] using this

def hiTo (l : List Int) (k : Nat) : Int := spell (l.take (min k 64))
def loTo (l : List Int) (k : Nat) : Int := spell ((l.take k).drop 64)
def fourTo (l : List Int) (k : Nat) : Int := spell (l.take k)
theorem hiTo_lt (l : List Int) (k : Nat) (hk : k < 64) (hl : k < l.length) : hiTo l (k + 1) = 2 * hiTo l k + l[k] := by
  unfold hiTo
  rw [Nat.min_eq_left (by omega), Nat.min_eq_left (by omega), List.take_succ_eq_append_getElem hl, spell_snoc]
theorem loTo_lt (l : List Int) (k : Nat) (hk : k < 64) : loTo l (k + 1) = loTo l k := by
  unfold loTo
  rw [List.drop_of_length_le (by rw [List.length_take]; omega), List.drop_of_length_le (by rw [List.length_take]; omega)]
theorem hiTo_ge (l : List Int) (k : Nat) (hk : 64 ≤ k) : hiTo l (k + 1) = hiTo l k := by
  unfold hiTo
  rw [Nat.min_eq_right (by omega), Nat.min_eq_right hk]
theorem loTo_ge (l : List Int) (k : Nat) (hk : 64 ≤ k) (hl : k < l.length) : loTo l (k + 1) = 2 * loTo l k + l[k] := by
  unfold loTo
  rw [List.take_succ_eq_append_getElem hl, List.drop_append_of_le_length (by rw [List.length_take]; omega), spell_snoc]
theorem fourTo_succ (l : List Int) (k : Nat) (hl : k < l.length) : fourTo l (k + 1) = 2 * fourTo l k + l[k] := by
  unfold fourTo
  rw [List.take_succ_eq_append_getElem hl, spell_snoc]
theorem pow_le63 (n : Nat) (h : n ≤ 63) : (2 : Int) ^ n ≤ 9223372036854775808 := by
  have : (2 : Nat) ^ n ≤ 2 ^ 63 := Nat.pow_le_pow_right (by omega) h
  have h2 : ((2 ^ n : Nat) : Int) ≤ ((2 ^ 63 : Nat) : Int) := by exact_mod_cast this
  simpa using h2
theorem hiTo_bd (l : List Int) (k : Nat) (hk : k < 64) (h : ∀ b ∈ l, b = 0 ∨ b = 1) : 0 ≤ hiTo l k ∧ hiTo l k < 9223372036854775808 := by
  have := spell_bd (l.take (min k 64)) (fun b hb => h b (List.mem_of_mem_take hb))
  have h2 := pow_le63 (l.take (min k 64)).length (by rw [List.length_take]; omega)
  unfold hiTo; omega
theorem loTo_bd (l : List Int) (k : Nat) (hk : k < 128) (h : ∀ b ∈ l, b = 0 ∨ b = 1) : 0 ≤ loTo l k ∧ loTo l k < 9223372036854775808 := by
  have := spell_bd ((l.take k).drop 64) (fun b hb => h b (List.mem_of_mem_take (List.mem_of_mem_drop hb)))
  have h2 := pow_le63 ((l.take k).drop 64).length (by rw [List.length_drop, List.length_take]; omega)
  unfold loTo; omega
theorem fourTo_bd (l : List Int) (k : Nat) (hk : k < 64) (h : ∀ b ∈ l, b = 0 ∨ b = 1) : 0 ≤ fourTo l k ∧ fourTo l k < 9223372036854775808 := by
  have := spell_bd (l.take k) (fun b hb => h b (List.mem_of_mem_take hb))
  have h2 := pow_le63 (l.take k).length (by rw [List.length_take]; omega)
  unfold fourTo; omega


theorem spell_cons (b : Int) (l : List Int) : spell (b :: l) = b * 2 ^ l.length + spell l := by
  have key : ∀ (l : List Int) (a : Int), l.foldl (fun a b => 2 * a + b) a = a * 2 ^ l.length + l.foldl (fun a b => 2 * a + b) 0 := by
    intro l
    induction l with
    | nil => intro a; simp
    | cons c l ih =>
      intro a
      rw [List.foldl_cons, ih, List.foldl_cons, ih (2 * 0 + c), List.length_cons, Int.pow_succ, Int.add_mul]
      have : 2 * a * 2 ^ l.length = a * (2 ^ l.length * 2) := by rw [← Int.mul_assoc, Int.mul_comm 2 a, Int.mul_assoc a 2, Int.mul_comm 2, ← Int.mul_assoc]
      rw [this]
      simp [Int.add_assoc]
  unfold spell
  rw [List.foldl_cons, key]
  simp
theorem spell_append (l r : List Int) : spell (l ++ r) = spell l * 2 ^ r.length + spell r := by
  induction l with
  | nil => simp [spell_nil]
  | cons b l ih =>
    rw [List.cons_append, spell_cons, ih, spell_cons, List.length_append, Int.pow_add, Int.add_mul, Int.mul_assoc, Int.add_assoc]

/-- Adding c to bits, the lowest last: the bits, and what is carried out. -/
def addBits : List Int → Int → List Int × Int
  | [], c => ([], c)
  | b :: l, c => ((b + (addBits l c).2) % 2 :: (addBits l c).1, (b + (addBits l c).2) / 2)
theorem addBits_length (l : List Int) (c : Int) : (addBits l c).1.length = l.length := by
  induction l with
  | nil => rfl
  | cons b l ih => simp [addBits, ih]
theorem addBits_01 (l : List Int) (c : Int) : ∀ b ∈ (addBits l c).1, b = 0 ∨ b = 1 := by
  induction l with
  | nil => intro b hb; simp [addBits] at hb
  | cons b l ih =>
    intro x hx
    simp only [addBits, List.mem_cons] at hx
    rcases hx with rfl | hx
    · omega
    · exact ih x hx
theorem addBits_bd (l : List Int) (c m : Int) (hm : 1 ≤ m) (h : ∀ b ∈ l, b = 0 ∨ b = 1) (hc : -m ≤ c ∧ c ≤ m) : -m ≤ (addBits l c).2 ∧ (addBits l c).2 ≤ m := by
  induction l with
  | nil => exact hc
  | cons b l ih =>
    have h1 := ih (fun x hx => h x (by simp [hx]))
    have h2 := h b (by simp)
    simp only [addBits]
    omega
theorem addBits_sum (l : List Int) (c : Int) : spell l + c = (addBits l c).2 * 2 ^ l.length + spell (addBits l c).1 := by
  induction l with
  | nil => simp [addBits, spell_nil]
  | cons b l ih =>
    rw [spell_cons, addBits]
    simp only
    rw [spell_cons, addBits_length, List.length_cons, Int.pow_succ]
    generalize (addBits l c).2 = d at *
    generalize spell (addBits l c).1 = s at *
    generalize (2 : Int) ^ l.length = p at *
    have h : b + d = 2 * ((b + d) / 2) + (b + d) % 2 := by omega
    have e1 : b * p + spell l + c = b * p + (d * p + s) := by omega
    have e2 : (b + d) / 2 * (p * 2) + ((b + d) % 2 * p + s) = (2 * ((b + d) / 2) + (b + d) % 2) * p + s := by
      rw [Int.add_mul, Int.mul_comm p 2, ← Int.mul_assoc, Int.mul_comm _ 2, Int.add_assoc]
    rw [e1, e2, ← h, Int.add_mul, Int.add_assoc]

theorem bitW_nat (x k : Nat) : bitW (x : Int) k = ((x / 2 ^ k % 2 : Nat) : Int) := by
  unfold bitW; simp
theorem spell_bitsTo_nat (x n : Nat) : ∀ k, k ≤ n → spell (bitsTo (x : Int) n k) = ((x / 2 ^ (n - k) % 2 ^ k : Nat) : Int) := by
  intro k
  induction k with
  | zero => intro _; simp [bitsTo, spell_nil, Nat.mod_one]
  | succ k ih =>
    intro hk
    rw [bitsTo_succ, spell_snoc, ih (by omega), bitW_nat]
    have e : n - k = (n - (k + 1)) + 1 := by omega
    rw [e, Nat.pow_succ, ← Nat.div_div_eq_div_mul, show n - 1 - k = n - (k + 1) from by omega]
    generalize x / 2 ^ (n - (k + 1)) = y
    have := Nat.mod_mul (x := y) (a := 2) (b := 2 ^ k)
    rw [Nat.pow_succ, Nat.mul_comm (2 ^ k) 2, this]
    omega
theorem spell_bits (x : Int) (n : Nat) (h0 : 0 ≤ x) (h1 : x < 2 ^ n) : spell (bitsTo x n n) = x := by
  obtain ⟨x, rfl⟩ := Int.eq_ofNat_of_zero_le h0
  rw [spell_bitsTo_nat x n n (Nat.le_refl _)]
  have : x < 2 ^ n := by exact_mod_cast h1
  simp [Nat.mod_eq_of_lt this]
theorem bitsTo_01 (x : Int) (n k : Nat) : ∀ b ∈ bitsTo x n k, b = 0 ∨ b = 1 := by
  intro b hb
  simp only [bitsTo, List.mem_map] at hb
  obtain ⟨j, _, rfl⟩ := hb
  exact bitW_01 x _

/-- 'n & 1' of an int. -/
theorem and1_i64 (n : Int) : bits .and .i64 n 1 = n % 2 := by
  show IntKind.i64.wrap ((BitVec.ofInt 64 n &&& BitVec.ofInt 64 1).toNat : Int) = _
  rw [BitVec.toNat_and, show (BitVec.ofInt 64 1).toNat = 1 from rfl, Nat.and_one_is_mod, BitVec.toNat_ofInt, IntKind.wrap_i64]
  omega
theorem tdiv2 (n : Int) : (n - n % 2).tdiv 2 = n / 2 := by
  rw [Int.tdiv_eq_ediv_of_dvd (by omega)]; omega
end Go.Proofs.YtojdlhiibffnfabDoor

/-
  The contract of the document's bitsOf: the bits of an address, the highest first, in new memory.
-/
namespace Go.Proofs.YtojdlhiibffnfabDoor
open Go.RowKit
set_option linter.unusedVariables false
set_option linter.unusedSimpArgs false

/-- The bits of an address. -/
def bitsL (six : Bool) (hi lo : Int) : List Int := if six then bitsTo hi 64 64 ++ bitsTo lo 64 64 else bitsTo lo 32 32

theorem info_int : (Tryd.prog.info? 3).map (fun i => (i.zero, i.size, i.bytes)) = some (some (.int .i64 0), 1, 8) := by kernel_rfl

/-- A slice of ints that a call has made (its blocks from 'base' on). -/
def OwnInts (w : World) (base : Nat) (v : Value) (xs : List Int) : Prop := w.ownsRow base 3 1 v xs.length (xs.map (Value.int .i64))

theorem below_app {B b0 : Nat} {w wr w1 : World} {e : TypeId} {size n : Nat} {v : Value} {xs : List Value} {o : Obj} (hb : Below B w wr) (hB : B ≤ b0) (hw : B ≤ w.heap.size) (hown : wr.ownsRow b0 e size v n xs) (hg : (wr.alloc o).grownBy w1 v.ownBlock) : Below B w w1 :=
  (hb.alloc (Nat.le_trans hw hb.size) o).grown hg (by have := hb.size; simp; omega) (fun k hk => Nat.le_trans hB (hown.lt k hk).1)

set_option maxHeartbeats 1000000 in
set_option maxRecDepth 100000 in
theorem bitsOf_four (hi lo : Int) (l0 : 0 ≤ lo) (l1 : lo ≤ 18446744073709551615) (w : World) :
    Calls Tryd.prog 41 #[.agg #[.bool false, .int .u64 hi, .int .u64 lo]] w fun e w' => ∃ v, e = .returned v ∧ OwnInts w' (w.heap.size + 1) v (bitsTo lo 32 32) ∧ Below w.heap.size w w' := by
  obtain ⟨i0, hii, hz0, hz1, hz2⟩ := info_parts info_int
  go_enter Tryd.func41, Tryd.ntmps41
  go_wp2
  go_loopw [3, 6] (fun v i wr => ∃ k : Nat, k ≤ 32 ∧ i = .int .i64 (31 - (k : Int)) ∧ wr.ownsRow (w.heap.size + 1) 3 1 v k ((bitsTo lo 32 k).map (Value.int .i64)) ∧ Below (w.heap.size + 1) (w.alloc (.cells #[.bool false, .int .u64 hi, .int .u64 lo] 24)) wr)
    (fun _ i _ => ((intOf i) + 1).toNat)
  case atStart => exact ⟨0, by omega, rfl, World.ownsRow_nil _ _ _ _, Below.refl _ _⟩
  case round =>
    obtain ⟨k, hk, rfl, hown, hnx⟩ := hrel
    have hcx : wr.cell? ⟨w.heap.size, 2, none⟩ = some (.int .u64 lo) := (hnx.cell (by simp)).trans (by simp)
    have hsz := hnx.size
    simp at hsz
    by_cases hlt : k < 32
    · have hbit : wrap64 (bits .and .u64 (lo / 2 ^ (31 - k)) 1) = bitW lo (31 - k) := shrAnd1 _ _ l0 l1
      go_wp2_with (first
        | (at_builtin; refine wpList_append_own _ rfl _ _ 37 rfl (w.heap.size + 1) 3 i0 (.int .i64 0) 1 8 Tryd.underlying37 hii hz0 hz1 hz2 rfl (by decide) _ _ _ rfl (hown.alloc _) ⟨wr.heap.size, 0, none⟩ 1 1 [.int .i64 (bitW lo (31 - k))] rfl rfl ?c1 ?c2 ?c3 ?c4 ?c5 ?_))
      case c1 => exact cell_one_new _ _ _
      case c2 => intro u hu; simp at hu; subst hu; rfl
      case c3 => unfold maxLen; omega
      case c4 => omega
      case c5 => simp; omega
      · intro v' w1 hown' hgrow _
        have hb1 := below_app hnx (Nat.le_refl _) (by simp) hown hgrow
        have hown2 : w1.ownsRow (w.heap.size + 1) 3 1 v' (k + 1) ((bitsTo lo 32 (k + 1)).map (Value.int .i64)) := by rw [bitsTo_succ, List.map_append]; exact hown'
        clear hown' hgrow hown hnx hcx hbit
        go_wp2
        go_roundw
        case rel => exact ⟨k + 1, by omega, by go_num, hown2, hb1⟩
        case measure => simp [intOf]; omega
    · obtain rfl : k = 32 := by omega
      go_wp2
      go_ret
      exact ⟨_, rfl, by unfold OwnInts; rw [bitsTo_length]; exact hown, ((Below.refl _ _).alloc (Nat.le_refl _) _).trans (hnx.mono (by simp))⟩
set_option maxHeartbeats 1000000 in
set_option maxRecDepth 100000 in
theorem bitsOf_six (hi lo : Int) (h0 : 0 ≤ hi) (h1 : hi ≤ 18446744073709551615) (l0 : 0 ≤ lo) (l1 : lo ≤ 18446744073709551615) (w : World) :
    Calls Tryd.prog 41 #[.agg #[.bool true, .int .u64 hi, .int .u64 lo]] w fun e w' => ∃ v, e = .returned v ∧ OwnInts w' (w.heap.size + 1) v (bitsTo hi 64 64 ++ bitsTo lo 64 64) ∧ Below w.heap.size w w' := by
  obtain ⟨i0, hii, hz0, hz1, hz2⟩ := info_parts info_int
  go_enter Tryd.func41, Tryd.ntmps41
  go_wp2
  go_loopw [3, 4] (fun v i wr => ∃ k : Nat, k ≤ 64 ∧ i = .int .i64 (63 - (k : Int)) ∧ wr.ownsRow (w.heap.size + 1) 3 1 v k ((bitsTo hi 64 k).map (Value.int .i64)) ∧ Below (w.heap.size + 1) (w.alloc (.cells #[.bool true, .int .u64 hi, .int .u64 lo] 24)) wr)
    (fun _ i _ => ((intOf i) + 1).toNat)
  case atStart => exact ⟨0, by omega, rfl, World.ownsRow_nil _ _ _ _, Below.refl _ _⟩
  case round =>
    obtain ⟨k, hk, rfl, hown, hnx⟩ := hrel
    have hcx : wr.cell? ⟨w.heap.size, 1, none⟩ = some (.int .u64 hi) := (hnx.cell (by simp)).trans (by simp)
    have hsz := hnx.size
    simp at hsz
    by_cases hlt : k < 64
    · have hbit : wrap64 (bits .and .u64 (hi / 2 ^ (63 - k)) 1) = bitW hi (63 - k) := shrAnd1 _ _ h0 h1
      go_wp2_with (first
        | (at_builtin; refine wpList_append_own _ rfl _ _ 37 rfl (w.heap.size + 1) 3 i0 (.int .i64 0) 1 8 Tryd.underlying37 hii hz0 hz1 hz2 rfl (by decide) _ _ _ rfl (hown.alloc _) ⟨wr.heap.size, 0, none⟩ 1 1 [.int .i64 (bitW hi (63 - k))] rfl rfl ?c1 ?c2 ?c3 ?c4 ?c5 ?_))
      case c1 => exact cell_one_new _ _ _
      case c2 => intro u hu; simp at hu; subst hu; rfl
      case c3 => unfold maxLen; omega
      case c4 => omega
      case c5 => simp; omega
      · intro v' w1 hown' hgrow _
        have hb1 := below_app hnx (Nat.le_refl _) (by simp) hown hgrow
        have hown2 : w1.ownsRow (w.heap.size + 1) 3 1 v' (k + 1) ((bitsTo hi 64 (k + 1)).map (Value.int .i64)) := by rw [bitsTo_succ, List.map_append]; exact hown'
        clear hown' hgrow hown hnx hcx hbit
        go_wp2
        go_roundw
        case rel => exact ⟨k + 1, by omega, by go_num, hown2, hb1⟩
        case measure => simp [intOf]; omega
    · obtain rfl : k = 64 := by omega
      obtain ⟨wo, rfl⟩ : ∃ wo : World, wo = wr := ⟨_, rfl⟩
      clear hcx
      rw [show (63 : Int) - ((64 : Nat) : Int) = -1 from rfl]
      go_wp2
      go_loopw [3, 5] (fun v i wr => ∃ k : Nat, k ≤ 64 ∧ i = .int .i64 (63 - (k : Int)) ∧ wr.ownsRow (w.heap.size + 1) 3 1 v (64 + k) ((bitsTo hi 64 64 ++ bitsTo lo 64 k).map (Value.int .i64)) ∧ Below (w.heap.size + 1) (w.alloc (.cells #[.bool true, .int .u64 hi, .int .u64 lo] 24)) wr)
        (fun _ i _ => ((intOf i) + 1).toNat)
      case atStart => exact ⟨0, by omega, rfl, by simpa [bitsTo] using hown, hnx⟩
      case round =>
        clear hown hnx hsz
        obtain ⟨k, hk, rfl, hown, hnx⟩ := hrel
        have hcx : wr.cell? ⟨w.heap.size, 2, none⟩ = some (.int .u64 lo) := (hnx.cell (by simp)).trans (by simp)
        have hsz := hnx.size
        simp at hsz
        by_cases hlt : k < 64
        · have hbit : wrap64 (bits .and .u64 (lo / 2 ^ (63 - k)) 1) = bitW lo (63 - k) := shrAnd1 _ _ l0 l1
          go_wp2_with (first
            | (at_builtin; refine wpList_append_own _ rfl _ _ 37 rfl (w.heap.size + 1) 3 i0 (.int .i64 0) 1 8 Tryd.underlying37 hii hz0 hz1 hz2 rfl (by decide) _ _ _ rfl (hown.alloc _) ⟨wr.heap.size, 0, none⟩ 1 1 [.int .i64 (bitW lo (63 - k))] rfl rfl ?d1 ?d2 ?d3 ?d4 ?d5 ?_))
          case d1 => exact cell_one_new _ _ _
          case d2 => intro u hu; simp at hu; subst hu; rfl
          case d3 => unfold maxLen; omega
          case d4 => omega
          case d5 => simp; omega
          · intro v' w1 hown' hgrow _
            have hb1 := below_app hnx (Nat.le_refl _) (by simp) hown hgrow
            have hown2 : w1.ownsRow (w.heap.size + 1) 3 1 v' (64 + (k + 1)) ((bitsTo hi 64 64 ++ bitsTo lo 64 (k + 1)).map (Value.int .i64)) := by rw [bitsTo_succ lo 64 k, List.map_append, List.map_append]; exact hown'
            clear hown' hgrow hown hnx hcx hbit
            go_wp2
            go_roundw
            case rel => exact ⟨k + 1, by omega, by go_num, hown2, hb1⟩
            case measure => simp [intOf]; omega
        · obtain rfl : k = 64 := by omega
          go_wp2
          go_ret
          exact ⟨_, rfl, by unfold OwnInts; rw [List.length_append, bitsTo_length, bitsTo_length]; exact hown, ((Below.refl _ _).alloc (Nat.le_refl _) _).trans (hnx.mono (by simp))⟩

theorem bitsL_length (six : Bool) (hi lo : Int) : (bitsL six hi lo).length = if six then 128 else 32 := by
  cases six <;> simp [bitsL, bitsTo_length]
theorem bitsTo_get (x : Int) (n k j : Nat) (h : j < k) : (bitsTo x n k)[j]? = some (bitW x (n - 1 - j)) := by
  simp [bitsTo, List.getElem?_range h]
theorem bitsL_get (six : Bool) (hi lo : Int) (j : Nat) (h : j < if six then 128 else 32) : (bitsL six hi lo)[j]? = some (bitAt six hi lo j) := by
  cases six
  · simp at h
    simp only [bitsL, bitAt]
    exact bitsTo_get _ _ _ _ h
  · simp at h
    simp only [bitsL, bitAt, if_true]
    by_cases hj : j < 64
    · rw [List.getElem?_append_left (by rw [bitsTo_length]; exact hj), if_pos hj]; exact bitsTo_get _ _ _ _ hj
    · rw [List.getElem?_append_right (by rw [bitsTo_length]; omega), if_neg hj, bitsTo_length, bitsTo_get _ _ _ _ (by omega)]
      rw [show 64 - 1 - (j - 64) = 127 - j from by omega]

/-- bitsOf of an IPv6 address. -/
theorem bitsOf_six' (hi lo : Int) (h0 : 0 ≤ hi) (h1 : hi ≤ 18446744073709551615) (l0 : 0 ≤ lo) (l1 : lo ≤ 18446744073709551615) (w : World) :
    Calls Tryd.prog 41 #[.agg #[.bool true, .int .u64 hi, .int .u64 lo]] w fun e w' => ∃ g cap, e = .returned (.slice (some ⟨g, 0, none⟩) 128 cap) ∧ w'.ownsRow (w.heap.size + 1) 3 1 (.slice (some ⟨g, 0, none⟩) 128 cap) 128 ((bitsL true hi lo).map (Value.int .i64)) ∧ Below w.heap.size w w' := by
  refine (bitsOf_six hi lo h0 h1 l0 l1 w).mono ?_
  rintro e w' ⟨v, rfl, hown, hb⟩
  unfold OwnInts at hown
  have hl := bitsL_length true hi lo
  simp only [if_true] at hl
  have hown' : w'.ownsRow (w.heap.size + 1) 3 1 v 128 ((bitsL true hi lo).map (Value.int .i64)) := hl ▸ hown
  obtain ⟨g, cap, rfl, _, _⟩ := hown'.form (by omega)
  exact ⟨g, cap, rfl, hown', hb⟩
/-- bitsOf of an IPv4 address. -/
theorem bitsOf_four' (hi lo : Int) (l0 : 0 ≤ lo) (l1 : lo ≤ 18446744073709551615) (w : World) :
    Calls Tryd.prog 41 #[.agg #[.bool false, .int .u64 hi, .int .u64 lo]] w fun e w' => ∃ g cap, e = .returned (.slice (some ⟨g, 0, none⟩) 32 cap) ∧ w'.ownsRow (w.heap.size + 1) 3 1 (.slice (some ⟨g, 0, none⟩) 32 cap) 32 ((bitsL false hi lo).map (Value.int .i64)) ∧ Below w.heap.size w w' := by
  refine (bitsOf_four hi lo l0 l1 w).mono ?_
  rintro e w' ⟨v, rfl, hown, hb⟩
  unfold OwnInts at hown
  have hl := bitsL_length false hi lo
  simp only [Bool.false_eq_true, if_false] at hl
  have hown' : w'.ownsRow (w.heap.size + 1) 3 1 v 32 ((bitsL false hi lo).map (Value.int .i64)) := hl ▸ hown
  obtain ⟨g, cap, rfl, _, _⟩ := hown'.form (by omega)
  exact ⟨g, cap, rfl, hown', hb⟩
end Go.Proofs.YtojdlhiibffnfabDoor

/-
  The contracts of the document's numberText, partsOf, AddrText.
-/
namespace Go.Proofs.YtojdlhiibffnfabDoor
open Go.RowKit Go.Sort
set_option linter.unusedVariables false
set_option linter.unusedSimpArgs false

theorem digEx (k : Nat) (h : k < 16) : ((⟨#[48, 49, 50, 51, 52, 53, 54, 55, 56, 57, 97, 98, 99, 100, 101, 102]⟩ : ByteArray).extract k 16).extract 0 1 = ⟨#[dig k]⟩ := by
  match k, h with
  | 0, _ => rfl
  | 1, _ => rfl
  | 2, _ => rfl
  | 3, _ => rfl
  | 4, _ => rfl
  | 5, _ => rfl
  | 6, _ => rfl
  | 7, _ => rfl
  | 8, _ => rfl
  | 9, _ => rfl
  | 10, _ => rfl
  | 11, _ => rfl
  | 12, _ => rfl
  | 13, _ => rfl
  | 14, _ => rfl
  | 15, _ => rfl
  | n + 16, h => exact absurd h (by omega)

set_option maxHeartbeats 1000000 in
theorem numberText_small (base n : Nat) (hb : base = 10 ∨ base = 16) (h : n < base) (w : World) :
    Calls Tryd.prog 26 #[.int .i64 (n : Int), .int .i64 (base : Int)] w fun e w' => e = .returned (.string ⟨[dig n].toArray⟩) ∧ w = w' := by
  have b1 : base ≤ 16 := by omega
  have b2 : 10 ≤ base := by omega
  have hm : n % base = n := Nat.mod_eq_of_lt h
  have hd := Lib.hid (digEx n (by omega))
  clear hb
  go_enter Tryd.func26, Tryd.ntmps26
  go_wp2
  go_ret
  exact ⟨congrArg (fun b => Ending.returned (.string b)) hd.out, rfl⟩

theorem numText_len (base f n : Nat) : (numText base f n).length ≤ f := by
  induction f generalizing n with
  | zero => simp [numText]
  | succ f ih =>
    simp only [numText]
    split
    · simp
    · have := ih (n / base); simp; omega

set_option maxHeartbeats 1000000 in
theorem numberText_calls (base : Nat) (hb : base = 10 ∨ base = 16) : ∀ (f n : Nat), f ≤ 8 → n < base ^ f → n < 1000000 → 0 < f → ∀ w : World,
    Calls Tryd.prog 26 #[.int .i64 (n : Int), .int .i64 (base : Int)] w fun e w' => e = .returned (.string ⟨(numText base f n).toArray⟩) ∧ w = w' := by
  intro f
  induction f with
  | zero => intro n _ _ _ h0; omega
  | succ f ih =>
    intro n hf hn hm _ w
    by_cases hs : n < base
    · have e : numText base (f + 1) n = [dig n] := by simp [numText, hs]
      rw [e]
      exact numberText_small base n hb hs w
    · have hf0 : 0 < f := by
        rcases Nat.eq_zero_or_pos f with rfl | h
        · simp at hn; omega
        · exact h
      have e : numText base (f + 1) n = numText base f (n / base) ++ [dig (n % base)] := by simp [numText, hs]
      have b1 : base ≤ 16 := by omega
      have b2 : 10 ≤ base := by omega
      have hdl : n / base ≤ n := Nat.div_le_self _ _
      have hq : n / base < base ^ f := by rw [Nat.div_lt_iff_lt_mul (by omega), ← Nat.pow_succ]; exact hn
      have hr : n % base < base := Nat.mod_lt _ (by omega)
      have c := ih (n / base) (by omega) hq (by omega) hf0 w
      have hd := digEx (n % base) (by omega)
      have hl := numText_len base f (n / base)
      rw [e]
      have hadd : ∀ W, (Op.stringOp .add ⟨(numText base f (n / base)).toArray⟩ ⟨[dig (n % base)].toArray⟩).run Tryd.prog W = .ok (.string ⟨(numText base f (n / base) ++ [dig (n % base)]).toArray⟩) W := fun W => run_string_add_lists W _ _ (by omega) (by simp)
      obtain ⟨t, ht⟩ : ∃ t, numText base f (n / base) = t := ⟨_, rfl⟩
      obtain ⟨r, hr2⟩ : ∃ r, n % base = r := ⟨_, rfl⟩
      obtain ⟨q, hq2⟩ : ∃ q, n / base = q := ⟨_, rfl⟩
      have hri : (n : Int) % base = r := by rw [← hr2]; simp
      have hqi : (n : Int) / base = q := by rw [← hq2]; simp
      rw [ht] at c hadd
      rw [ht]
      rw [hq2] at c hdl
      rw [hr2] at hd hadd hr
      rw [hr2]
      obtain ⟨tr, htr⟩ : ∃ tr, t ++ [dig r] = tr := ⟨_, rfl⟩
      rw [htr] at hadd
      rw [htr]
      have C := Lib.hid c
      clear c ih e hq hl ht htr hq2 hb hn
      have hm2 : n % base = r := hr2
      go_enter Tryd.func26, Tryd.ntmps26
      go_wp2_with fail
      refine C.out.mono ?_
      rintro e w1 ⟨rfl, rfl⟩
      go_wp2
      go_ret
      exact ⟨rfl, rfl⟩

/-- Parts of so many bits: the full ones, and what there is of the next one, when k bits have been taken. -/
def chunk (wide : Nat) (l : List Int) (j : Nat) : Int := spell ((l.drop (j * wide)).take wide)
def partsAt (wide : Nat) (l : List Int) (k : Nat) : List Int :=
  (List.range (k / wide)).map (chunk wide l) ++ (if k % wide = 0 then [] else [spell ((l.drop (k / wide * wide)).take (k % wide))])
/-- .. and with a 0 for a part that begins here. -/
def partsOn (wide : Nat) (l : List Int) (k : Nat) : List Int := if k % wide = 0 then partsAt wide l k ++ [0] else partsAt wide l k
theorem partsOn_eq (wide : Nat) (l : List Int) (k : Nat) : partsOn wide l k = (List.range (k / wide)).map (chunk wide l) ++ [spell ((l.drop (k / wide * wide)).take (k % wide))] := by
  unfold partsOn partsAt
  by_cases h : k % wide = 0
  · simp [h, spell_nil]
  · simp [h]
theorem partsOn_length (wide : Nat) (l : List Int) (k : Nat) : (partsOn wide l k).length = k / wide + 1 := by rw [partsOn_eq]; simp
theorem partsOn_get (wide : Nat) (l : List Int) (k : Nat) : (partsOn wide l k)[k / wide]? = some (spell ((l.drop (k / wide * wide)).take (k % wide))) := by
  rw [partsOn_eq, List.getElem?_append_right (by simp)]; simp
theorem parts_step (wide : Nat) (l : List Int) (k : Nat) (hw : 2 ≤ wide) (hk : k < l.length) :
    partsAt wide l (k + 1) = (partsOn wide l k).set (k / wide) (2 * spell ((l.drop (k / wide * wide)).take (k % wide)) + l[k]) := by
  have hdm := Nat.div_add_mod k wide
  have hr := Nat.mod_lt k (show 0 < wide by omega)
  have hsp : spell ((l.drop (k / wide * wide)).take (k % wide + 1)) = 2 * spell ((l.drop (k / wide * wide)).take (k % wide)) + l[k] := by
    have hlt : k % wide < (l.drop (k / wide * wide)).length := by rw [List.length_drop, Nat.mul_comm]; omega
    rw [List.take_succ_eq_append_getElem hlt, spell_snoc, List.getElem_drop]
    congr 2
    rw [Nat.mul_comm]; omega
  rw [partsOn_eq, List.set_append_right _ _ (by simp)]
  simp only [List.length_map, List.length_range, Nat.sub_self, List.set_cons_zero]
  rw [← hsp]
  by_cases he : k % wide + 1 = wide
  · have e1 : (k + 1) / wide = k / wide + 1 := by
      rw [Nat.div_eq_iff (by omega)]
      have : wide * (k / wide) = k / wide * wide := Nat.mul_comm _ _
      have h2 : (k / wide + 1) * wide = k / wide * wide + wide := Nat.succ_mul _ _
      omega
    have e2 : (k + 1) % wide = 0 := by
      have := Nat.div_add_mod (k + 1) wide
      rw [e1, Nat.mul_add, Nat.mul_one] at this
      omega
    unfold partsAt
    rw [e1, e2, if_pos rfl, List.range_succ, List.map_append, he]
    simp [chunk]
  · have e1 : (k + 1) / wide = k / wide := by
      rw [Nat.div_eq_iff (by omega)]
      have : wide * (k / wide) = k / wide * wide := Nat.mul_comm _ _
      omega
    have e2 : (k + 1) % wide = k % wide + 1 := by
      have := Nat.div_add_mod (k + 1) wide
      rw [e1] at this
      omega
    unfold partsAt
    rw [e1, e2, if_neg (by omega)]
theorem part_bd (l : List Int) (o r : Nat) (hr : r ≤ 16) (h : ∀ b ∈ l, b = 0 ∨ b = 1) : 0 ≤ spell ((l.drop o).take r) ∧ spell ((l.drop o).take r) < 65536 := by
  have h1 := spell_bd ((l.drop o).take r) (fun b hb => h b (List.mem_of_mem_drop (List.mem_of_mem_take hb)))
  have h2 : (2 : Int) ^ ((l.drop o).take r).length ≤ 65536 := by
    have : ((l.drop o).take r).length ≤ 16 := by rw [List.length_take]; omega
    have h3 : (2 : Nat) ^ ((l.drop o).take r).length ≤ 2 ^ 16 := Nat.pow_le_pow_right (by omega) this
    have h4 : ((2 ^ ((l.drop o).take r).length : Nat) : Int) ≤ ((2 ^ 16 : Nat) : Int) := by exact_mod_cast h3
    simpa using h4
  omega

theorem ownsLower {w : World} {base base' : Nat} {e : TypeId} {size : Nat} {v : Value} {n : Nat} {xs : List Value} (h : w.ownsRow base e size v n xs) (hb : base' ≤ base) : w.ownsRow base' e size v n xs := by
  refine ⟨h.1, ?_⟩
  rcases h.2 with h2 | ⟨g, cap, cur, a, b, c⟩
  · exact .inl h2
  · exact .inr ⟨g, cap, cur, a, Nat.le_trans hb b, c⟩
theorem bitsL_01' (six : Bool) (hi lo : Int) : ∀ b ∈ bitsL six hi lo, b = 0 ∨ b = 1 := by
  cases six
  · exact bitsTo_01 lo 32 32
  · intro b hb
    simp only [bitsL, if_true, List.mem_append] at hb
    rcases hb with hb | hb
    · exact bitsTo_01 _ _ _ b hb
    · exact bitsTo_01 _ _ _ b hb

set_option maxHeartbeats 2000000 in
set_option maxRecDepth 100000 in
theorem partsOf_four (hi lo : Int) (h0 : 0 ≤ hi) (h1 : hi ≤ 18446744073709551615) (l0 : 0 ≤ lo) (l1 : lo ≤ 18446744073709551615) (l : List Int) (hl : bitsL false hi lo = l) (w : World) :
    Calls Tryd.prog 25 #[.agg #[.bool false, .int .u64 hi, .int .u64 lo], .int .i64 8] w fun e w' => ∃ v, e = .returned v ∧ w'.ownsRow w.heap.size 3 1 v 4 ((partsAt 8 l 32).map (Value.int .i64)) ∧ Below w.heap.size w w' := by
  have hlen : l.length = 32 := by rw [← hl, bitsL_length]; rfl
  have h01 : ∀ b ∈ l, b = 0 ∨ b = 1 := by rw [← hl]; exact bitsL_01' false hi lo
  have HL := Lib.hid hlen; have H01 := Lib.hid h01; have HLL := Lib.hid hl
  clear hl hlen h01
  obtain ⟨i0, hii, hz0, hz1, hz2⟩ := info_parts info_int
  go_enter Tryd.func25, Tryd.ntmps25
  go_wp2_with fail
  refine (bitsOf_four' hi lo l0 l1 _).mono ?_
  rintro e w1 ⟨g, cap, rfl, hown, hb⟩
  rw [HLL.out] at hown
  have hs := hb.size
  have bb := thenBelow ((Below.refl _ w).alloc (Nat.le_refl _) _) hb
  simp only [World.size_alloc] at hs hb hown
  have hg2 := (hown.lt g rfl).2
  have HC : Hid (∀ j, j < 32 → ∀ b, l[j]? = some b → w1.cell? ⟨g, j, none⟩ = some (.int .i64 b)) := fun j hj b hbj => by rw [hown.cellAt j (by omega), List.getElem?_map, hbj]; rfl
  clear hown hb
  go_wp2
  go_loopw [5, 11] (fun v i wr => ∃ k : Nat, k ≤ 32 ∧ i = .int .i64 k ∧ wr.ownsRow w1.heap.size 3 1 v (partsAt 8 l k).length ((partsAt 8 l k).map (Value.int .i64)) ∧ Below w1.heap.size w1 wr)
    (fun _ i _ => 32 - (intOf i).toNat)
  case atStart => exact ⟨0, by omega, rfl, by simpa [partsAt] using World.ownsRow_nil _ _ _ _, Below.refl _ _⟩
  case round =>
    obtain ⟨k, hk, rfl, hown, hnx⟩ := hrel
    have hsz := hnx.size
    by_cases hlt : k < 32
    · have hkl : k < l.length := by rw [HL.out]; exact hlt
      obtain ⟨b, hb⟩ : ∃ b, l[k] = b := ⟨_, rfl⟩
      have hcell : wr.cell? ⟨g, k, none⟩ = some (.int .i64 b) := (hnx.cell (p := ⟨g, k, none⟩) hg2).trans (HC.out k hlt b (by rw [List.getElem?_eq_getElem hkl, hb]))
      have hb01 : b = 0 ∨ b = 1 := H01.out b (by rw [← hb]; exact List.getElem_mem hkl)
      have hstep := parts_step 8 l k (by omega) hkl
      have hget := partsOn_get 8 l k
      have hpl := partsOn_length 8 l k
      have hbd := part_bd l (k / 8 * 8) (k % 8) (by omega) H01.out
      rw [hb] at hstep
      obtain ⟨x, hx⟩ : ∃ x, spell ((l.drop (k / 8 * 8)).take (k % 8)) = x := ⟨_, rfl⟩
      obtain ⟨m, hm⟩ : ∃ m, k / 8 = m := ⟨_, rfl⟩
      rw [hx] at hstep hget hbd
      rw [hm] at hstep hget hpl
      have HSTEP := Lib.hid hstep; have HGET := Lib.hid hget; have HPL := Lib.hid hpl; have HM := Lib.hid hm
      obtain ⟨hx0, hx1⟩ := hbd
      have hb0 : 0 ≤ b := by omega
      have hb1 : b ≤ 1 := by omega
      have hm8 : m < 32 := by omega
      clear hstep hget hpl hm hx hb hb01
      by_cases hr : k % 8 = 0
      · have hrb : ((k : Int) % 8 == 0) = true := by simp; omega
        have hpo : partsOn 8 l k = partsAt 8 l k ++ [0] := by unfold partsOn; rw [if_pos hr]
        have hpl2 : (partsAt 8 l k).length + 1 = m + 1 := by rw [← HPL.out, hpo]; simp
        have HPO := Lib.hid hpo; have HPL2 := Lib.hid hpl2
        have hn8 : (partsAt 8 l k).length < 32 := by omega
        clear hpo hpl2 hr
        go_wp2_with (first
          | (at_builtin; refine wpList_append_own _ rfl _ _ 37 rfl w1.heap.size 3 i0 (.int .i64 0) 1 8 Tryd.underlying37 hii hz0 hz1 hz2 rfl (by decide) _ _ _ rfl (hown.alloc _) ⟨wr.heap.size, 0, none⟩ 1 1 [.int .i64 0] rfl rfl ?c1 ?c2 ?c3 ?c4 ?c5 ?_))
        case c1 => exact cell_one_new _ _ _
        case c2 => intro u hu; simp at hu; subst hu; rfl
        case c3 => unfold maxLen; omega
        case c4 => omega
        case c5 => simp; omega
        · intro v' w2 hown' hgrow _
          have hb2 := below_app hnx (Nat.le_refl _) (Nat.le_refl _) hown hgrow
          have hown2 : w2.ownsRow w1.heap.size 3 1 v' (m + 1) ((partsOn 8 l k).map (Value.int .i64)) := by rw [HPO.out, List.map_append, ← HPL2.out]; exact hown'
          obtain ⟨g2, cap2, rfl, hg3, hg4⟩ := hown2.form (by omega)
          have hcm : w2.cell? ⟨g2, m, none⟩ = some (.int .i64 x) := by rw [hown2.cellAt m (by omega), List.getElem?_map, HGET.out]; rfl
          have hfm := hown2.frozenAt m
          have hst := (hown2.stored m (.int .i64 (2 * x + b))).1
          rw [← List.map_set, ← HSTEP.out] at hst
          have hln : (partsAt 8 l (k + 1)).length = m + 1 := by rw [HSTEP.out, List.length_set, HPL.out]
          have HST := Lib.hid hst; have HLN := Lib.hid hln
          clear hown' hgrow hown hnx hcell hst hln hown2
          go_wp2
          go_roundw
          case rel => exact ⟨k + 1, by omega, by go_num, by rw [HLN.out]; exact HST.out, hb2.setCell (by simpa using hg3) _⟩
          case measure => simp [intOf]; omega
      · have hrb : ((k : Int) % 8 == 0) = false := by simp; omega
        have hpo : partsOn 8 l k = partsAt 8 l k := by unfold partsOn; rw [if_neg hr]
        have hown2 : wr.ownsRow w1.heap.size 3 1 u5 (m + 1) ((partsOn 8 l k).map (Value.int .i64)) := by rw [← HPL.out, hpo]; exact hown
        clear hown hpo hr
        obtain ⟨g2, cap2, rfl, hg3, hg4⟩ := hown2.form (by omega)
        have hcm : wr.cell? ⟨g2, m, none⟩ = some (.int .i64 x) := by rw [hown2.cellAt m (by omega), List.getElem?_map, HGET.out]; rfl
        have hfm := hown2.frozenAt m
        have hst := (hown2.stored m (.int .i64 (2 * x + b))).1
        rw [← List.map_set, ← HSTEP.out] at hst
        have hln : (partsAt 8 l (k + 1)).length = m + 1 := by rw [HSTEP.out, List.length_set, HPL.out]
        have HST := Lib.hid hst; have HLN := Lib.hid hln
        clear hst hln hown2
        go_wp2
        go_roundw
        case rel => exact ⟨k + 1, by omega, by go_num, by rw [HLN.out]; exact HST.out, hnx.setCell (by simpa using hg3) _⟩
        case measure => simp [intOf]; omega
    · obtain rfl : k = 32 := by omega
      have hpl : (partsAt 8 l 32).length = 4 := by simp [partsAt]
      rw [hpl] at hown
      go_wp2
      go_ret
      exact ⟨_, rfl, ownsLower hown (by have := bb.size; omega), thenBelow bb hnx⟩

set_option maxHeartbeats 2000000 in
set_option maxRecDepth 100000 in
theorem partsOf_six (hi lo : Int) (h0 : 0 ≤ hi) (h1 : hi ≤ 18446744073709551615) (l0 : 0 ≤ lo) (l1 : lo ≤ 18446744073709551615) (l : List Int) (hl : bitsL true hi lo = l) (w : World) :
    Calls Tryd.prog 25 #[.agg #[.bool true, .int .u64 hi, .int .u64 lo], .int .i64 16] w fun e w' => ∃ v, e = .returned v ∧ w'.ownsRow w.heap.size 3 1 v 8 ((partsAt 16 l 128).map (Value.int .i64)) ∧ Below w.heap.size w w' := by
  have hlen : l.length = 128 := by rw [← hl, bitsL_length]; rfl
  have h01 : ∀ b ∈ l, b = 0 ∨ b = 1 := by rw [← hl]; exact bitsL_01' true hi lo
  have HL := Lib.hid hlen; have H01 := Lib.hid h01; have HLL := Lib.hid hl
  clear hl hlen h01
  obtain ⟨i0, hii, hz0, hz1, hz2⟩ := info_parts info_int
  go_enter Tryd.func25, Tryd.ntmps25
  go_wp2_with fail
  refine (bitsOf_six' hi lo h0 h1 l0 l1 _).mono ?_
  rintro e w1 ⟨g, cap, rfl, hown, hb⟩
  rw [HLL.out] at hown
  have hs := hb.size
  have bb := thenBelow ((Below.refl _ w).alloc (Nat.le_refl _) _) hb
  simp only [World.size_alloc] at hs hb hown
  have hg2 := (hown.lt g rfl).2
  have HC : Hid (∀ j, j < 128 → ∀ b, l[j]? = some b → w1.cell? ⟨g, j, none⟩ = some (.int .i64 b)) := fun j hj b hbj => by rw [hown.cellAt j (by omega), List.getElem?_map, hbj]; rfl
  clear hown hb
  go_wp2
  go_loopw [5, 11] (fun v i wr => ∃ k : Nat, k ≤ 128 ∧ i = .int .i64 k ∧ wr.ownsRow w1.heap.size 3 1 v (partsAt 16 l k).length ((partsAt 16 l k).map (Value.int .i64)) ∧ Below w1.heap.size w1 wr)
    (fun _ i _ => 128 - (intOf i).toNat)
  case atStart => exact ⟨0, by omega, rfl, by simpa [partsAt] using World.ownsRow_nil _ _ _ _, Below.refl _ _⟩
  case round =>
    obtain ⟨k, hk, rfl, hown, hnx⟩ := hrel
    have hsz := hnx.size
    by_cases hlt : k < 128
    · have hkl : k < l.length := by rw [HL.out]; exact hlt
      obtain ⟨b, hb⟩ : ∃ b, l[k] = b := ⟨_, rfl⟩
      have hcell : wr.cell? ⟨g, k, none⟩ = some (.int .i64 b) := (hnx.cell (p := ⟨g, k, none⟩) hg2).trans (HC.out k hlt b (by rw [List.getElem?_eq_getElem hkl, hb]))
      have hb01 : b = 0 ∨ b = 1 := H01.out b (by rw [← hb]; exact List.getElem_mem hkl)
      have hstep := parts_step 16 l k (by omega) hkl
      have hget := partsOn_get 16 l k
      have hpl := partsOn_length 16 l k
      have hbd := part_bd l (k / 16 * 16) (k % 16) (by omega) H01.out
      rw [hb] at hstep
      obtain ⟨x, hx⟩ : ∃ x, spell ((l.drop (k / 16 * 16)).take (k % 16)) = x := ⟨_, rfl⟩
      obtain ⟨m, hm⟩ : ∃ m, k / 16 = m := ⟨_, rfl⟩
      rw [hx] at hstep hget hbd
      rw [hm] at hstep hget hpl
      have HSTEP := Lib.hid hstep; have HGET := Lib.hid hget; have HPL := Lib.hid hpl; have HM := Lib.hid hm
      obtain ⟨hx0, hx1⟩ := hbd
      have hb0 : 0 ≤ b := by omega
      have hb1 : b ≤ 1 := by omega
      have hm8 : m < 128 := by omega
      clear hstep hget hpl hm hx hb hb01
      by_cases hr : k % 16 = 0
      · have hrb : ((k : Int) % 16 == 0) = true := by simp; omega
        have hpo : partsOn 16 l k = partsAt 16 l k ++ [0] := by unfold partsOn; rw [if_pos hr]
        have hpl2 : (partsAt 16 l k).length + 1 = m + 1 := by rw [← HPL.out, hpo]; simp
        have HPO := Lib.hid hpo; have HPL2 := Lib.hid hpl2
        have hn8 : (partsAt 16 l k).length < 128 := by omega
        clear hpo hpl2 hr
        go_wp2_with (first
          | (at_builtin; refine wpList_append_own _ rfl _ _ 37 rfl w1.heap.size 3 i0 (.int .i64 0) 1 8 Tryd.underlying37 hii hz0 hz1 hz2 rfl (by decide) _ _ _ rfl (hown.alloc _) ⟨wr.heap.size, 0, none⟩ 1 1 [.int .i64 0] rfl rfl ?c1 ?c2 ?c3 ?c4 ?c5 ?_))
        case c1 => exact cell_one_new _ _ _
        case c2 => intro u hu; simp at hu; subst hu; rfl
        case c3 => unfold maxLen; omega
        case c4 => omega
        case c5 => simp; omega
        · intro v' w2 hown' hgrow _
          have hb2 := below_app hnx (Nat.le_refl _) (Nat.le_refl _) hown hgrow
          have hown2 : w2.ownsRow w1.heap.size 3 1 v' (m + 1) ((partsOn 16 l k).map (Value.int .i64)) := by rw [HPO.out, List.map_append, ← HPL2.out]; exact hown'
          obtain ⟨g2, cap2, rfl, hg3, hg4⟩ := hown2.form (by omega)
          have hcm : w2.cell? ⟨g2, m, none⟩ = some (.int .i64 x) := by rw [hown2.cellAt m (by omega), List.getElem?_map, HGET.out]; rfl
          have hfm := hown2.frozenAt m
          have hst := (hown2.stored m (.int .i64 (2 * x + b))).1
          rw [← List.map_set, ← HSTEP.out] at hst
          have hln : (partsAt 16 l (k + 1)).length = m + 1 := by rw [HSTEP.out, List.length_set, HPL.out]
          have HST := Lib.hid hst; have HLN := Lib.hid hln
          clear hown' hgrow hown hnx hcell hst hln hown2
          go_wp2
          go_roundw
          case rel => exact ⟨k + 1, by omega, by go_num, by rw [HLN.out]; exact HST.out, hb2.setCell (by simpa using hg3) _⟩
          case measure => simp [intOf]; omega
      · have hrb : ((k : Int) % 16 == 0) = false := by simp; omega
        have hpo : partsOn 16 l k = partsAt 16 l k := by unfold partsOn; rw [if_neg hr]
        have hown2 : wr.ownsRow w1.heap.size 3 1 u5 (m + 1) ((partsOn 16 l k).map (Value.int .i64)) := by rw [← HPL.out, hpo]; exact hown
        clear hown hpo hr
        obtain ⟨g2, cap2, rfl, hg3, hg4⟩ := hown2.form (by omega)
        have hcm : wr.cell? ⟨g2, m, none⟩ = some (.int .i64 x) := by rw [hown2.cellAt m (by omega), List.getElem?_map, HGET.out]; rfl
        have hfm := hown2.frozenAt m
        have hst := (hown2.stored m (.int .i64 (2 * x + b))).1
        rw [← List.map_set, ← HSTEP.out] at hst
        have hln : (partsAt 16 l (k + 1)).length = m + 1 := by rw [HSTEP.out, List.length_set, HPL.out]
        have HST := Lib.hid hst; have HLN := Lib.hid hln
        clear hst hln hown2
        go_wp2
        go_roundw
        case rel => exact ⟨k + 1, by omega, by go_num, by rw [HLN.out]; exact HST.out, hnx.setCell (by simpa using hg3) _⟩
        case measure => simp [intOf]; omega
    · obtain rfl : k = 128 := by omega
      have hpl : (partsAt 16 l 128).length = 8 := by simp [partsAt]
      rw [hpl] at hown
      go_wp2
      go_ret
      exact ⟨_, rfl, ownsLower hown (by have := bb.size; omega), thenBelow bb hnx⟩

theorem bitsTo_part (x : Int) (n a b : Nat) (h : a + b ≤ n) : ((bitsTo x n n).drop a).take b = bitsTo x (n - a) b := by
  apply List.ext_getElem?
  intro j
  by_cases hj : j < b
  · rw [List.getElem?_take_of_lt hj, List.getElem?_drop, bitsTo_get _ _ _ _ (by omega), bitsTo_get _ _ _ _ hj, show n - 1 - (a + j) = n - a - 1 - j from by omega]
  · rw [List.getElem?_eq_none (by rw [List.length_take]; omega), List.getElem?_eq_none (by rw [bitsTo_length]; omega)]
theorem chunk_num (L n a b : Nat) (h : a + b ≤ n) : spell (((bitsTo (L : Int) n n).drop a).take b) = ((L / 2 ^ (n - a - b) % 2 ^ b : Nat) : Int) := by
  rw [bitsTo_part _ _ _ _ h, spell_bitsTo_nat L (n - a) b (by omega)]
theorem parts_four (hi : Int) (L : Nat) : partsAt 8 (bitsL false hi L) 32 = (fourP L).map (fun n : Nat => (n : Int)) := by
  show (List.range 4).map (chunk 8 (bitsTo (L : Int) 32 32)) ++ [] = _
  rw [List.append_nil, fourP, List.map_map]
  apply List.map_congr_left
  intro j hj
  have hj4 : j < 4 := List.mem_range.1 hj
  show spell (((bitsTo (L : Int) 32 32).drop (j * 8)).take 8) = _
  rw [chunk_num L 32 (j * 8) 8 (by omega), show 32 - j * 8 - 8 = 8 * (3 - j) from by omega]
  rfl
theorem parts_six (H L : Nat) : partsAt 16 (bitsL true H L) 128 = (grpP H L).map (fun n : Nat => (n : Int)) := by
  have hl : (bitsTo (H : Int) 64 64).length = 64 := bitsTo_length _ _ _
  have hlo : ∀ a, a + 16 ≤ 64 → spell (((bitsL true H L).drop a).take 16) = ((H / 2 ^ (64 - a - 16) % 65536 : Nat) : Int) := fun a ha => by
    simp only [bitsL, if_true]
    rw [List.drop_append_of_le_length (by omega), List.take_append_of_le_length (by rw [List.length_drop]; omega), chunk_num H 64 a 16 ha]
  have hhi : ∀ a, a + 16 ≤ 64 → spell (((bitsL true H L).drop (64 + a)).take 16) = ((L / 2 ^ (64 - a - 16) % 65536 : Nat) : Int) := fun a ha => by
    simp only [bitsL, if_true]
    rw [show 64 + a = (bitsTo (H : Int) 64 64).length + a from by rw [hl], List.drop_length_add_append, chunk_num L 64 a 16 ha]
  show (List.range 8).map (chunk 16 (bitsL true H L)) ++ [] = _
  rw [List.append_nil]
  have h0 := hlo 0 (by omega); have h1 := hlo 16 (by omega); have h2 := hlo 32 (by omega); have h3 := hlo 48 (by omega)
  have h4 := hhi 0 (by omega); have h5 := hhi 16 (by omega); have h6 := hhi 32 (by omega); have h7 := hhi 48 (by omega)
  simp only [List.range_succ, List.range_zero, List.nil_append, List.map_append, List.map_cons, List.map_nil, chunk, grpP, List.cons_append]
  simp only [Nat.zero_mul, Nat.one_mul, Nat.reduceMul] at *
  rw [h0, h1, h2, h3]
  simp only [Nat.reduceAdd] at h4 h5 h6 h7
  rw [h4, h5, h6, h7]
  simp
end Go.Proofs.YtojdlhiibffnfabDoor

/-
  A row of cells that a call has made: it lies as well above a lower mark; it lies there as long as no block from before is touched.
-/
namespace Go.Proofs.YtojdlhiibffnfabDoor
open Go.RowKit
theorem ownsLow {w : World} {base base' : Nat} {e : TypeId} {size : Nat} {v : Value} {n : Nat} {xs : List Value} (h : w.ownsRow base e size v n xs) (hb : base' ≤ base) : w.ownsRow base' e size v n xs := by
  refine ⟨h.1, ?_⟩
  rcases h.2 with h2 | ⟨g, cap, cur, a, b, c⟩
  · exact .inl h2
  · exact .inr ⟨g, cap, cur, a, Nat.le_trans hb b, c⟩
theorem ownsKeep {w w' : World} {base : Nat} {e : TypeId} {size : Nat} {v : Value} {n : Nat} {xs : List Value} (h : w.ownsRow base e size v n xs) (hb : Below w.heap.size w w') : w'.ownsRow base e size v n xs := by
  refine ⟨h.1, ?_⟩
  rcases h.2 with h2 | ⟨g, cap, cur, a, b, c, d⟩
  · exact .inl h2
  · have hg : g < w.heap.size := by
      by_cases hl : g < w.heap.size
      · exact hl
      · rw [Array.getElem?_eq_none (Nat.le_of_not_lt hl)] at c; cases c
    exact .inr ⟨g, cap, cur, a, b, (hb.block g hg).trans c, d⟩
end Go.Proofs.YtojdlhiibffnfabDoor

/-
  A byte of a text.
-/
namespace Go.Proofs.YtojdlhiibffnfabDoor
open Go.RowKit Go.Sort
set_option linter.unusedVariables false
set_option linter.unusedSimpArgs false

theorem index_list (T : List UInt8) (k : Nat) (h : k < T.length) (W : World) :
    (Instr.index 9 (.string ⟨T.toArray⟩) (.int .i64 (k : Int))).run Tryd.prog W = .ok (.int .u8 ((T[k].toNat : Nat) : Int)) W := by
  have hs : (⟨T.toArray⟩ : ByteArray).size = T.length := by simp [ByteArray.size]
  rw [run_index_string (h := Tryd.underlying9), dif_pos ⟨by omega, by omega⟩]
  rfl

end Go.Proofs.YtojdlhiibffnfabDoor

/-
  The document's readNumbers.
-/
namespace Go.Proofs.YtojdlhiibffnfabDoor
open Go.RowKit Go.Sort
set_option linter.unusedVariables false
set_option linter.unusedSimpArgs false

/-- The digit that stands at the last place before k. -/
def rdTo (x : UInt8) : Nat → Int
  | 0 => -1
  | k + 1 => if dig k = x then (k : Int) else rdTo x k
theorem rdTo_bd (x : UInt8) : ∀ k, -1 ≤ rdTo x k ∧ rdTo x k < k
  | 0 => by simp [rdTo]
  | k + 1 => by
    have := rdTo_bd x k
    unfold rdTo
    split <;> omega
/-- What the document's readNumbers reads on. -/
def rn (B : Nat) (M : Int) (c : UInt8) : List Int → Int → List UInt8 → Option (List Int)
  | out, n, [] => if n < 0 ∨ M < n then none else some (out ++ [n])
  | out, n, x :: xs =>
    if x = c then (if n < 0 ∨ M < n then none else rn B M c (out ++ [n]) (-1) xs)
    else if rdTo x B < 0 then none else rn B M c out (if n ≤ M then max n 0 * B + rdTo x B else n) xs
/-- What it answers. -/
def IntsOut (base : Nat) (r : Option (List Int)) (e : Ending) (w' : World) : Prop := match r with
  | some ns => ∃ v, e = .returned (.tuple #[v, .bool true]) ∧ w'.ownsRow base 3 1 v ns.length (ns.map (Value.int .i64))
  | none => e = .returned (.tuple #[.slice none 0 0, .bool false])

theorem index_digs (k : Nat) (h : k < 16) (W : World) :
    (Instr.index 9 (.string ⟨#[48, 49, 50, 51, 52, 53, 54, 55, 56, 57, 97, 98, 99, 100, 101, 102]⟩) (.int .i64 (k : Int))).run Tryd.prog W = .ok (.int .u8 (((dig k).toNat : Nat) : Int)) W := by
  have := index_list digs k (by simpa [digs] using h) W
  have e : dig k = digs[k]'(by simpa [digs] using h) := by
    unfold dig
    rw [List.getD_eq_getElem?_getD, List.getElem?_eq_getElem (by simpa [digs] using h)]
    rfl
  rw [e]
  exact this

set_option maxHeartbeats 4000000 in
set_option maxRecDepth 100000 in
theorem refNums_calls (B : Nat) (M : Int) (hB : B ≤ 16) (hB0 : 1 ≤ B) (hM0 : 0 ≤ M) (hM : M ≤ 65535) (c : UInt8) (s : List UInt8) (hl : s.length ≤ 600) (w : World) :
    Calls Tryd.prog 14 #[.string ⟨s.toArray⟩, .int .u8 (c.toNat : Int), .int .i64 B, .int .i64 M] w fun e w' => IntsOut w.heap.size (rn B M c [] (-1) s) e w' ∧ Below w.heap.size w w' := by
  have hsz : (⟨s.toArray⟩ : ByteArray).size = s.length := by simp [ByteArray.size]
  obtain ⟨R, hR⟩ : ∃ R, rn B M c [] (-1) s = R := ⟨_, rfl⟩
  rw [hR]
  have HR0 := Lib.hid hR
  clear hR
  obtain ⟨i0, hii, hz0, hz1, hz2⟩ := info_parts info_int
  go_enter Tryd.func14, Tryd.ntmps14
  go_wp2
  go_loopw [10, 11, 12] (fun v nv iv wr => ∃ (k : Nat) (n : Int) (out : List Int), k ≤ s.length + 1 ∧ iv = .int .i64 k ∧ nv = .int .i64 n ∧ -1 ≤ n ∧ n ≤ 2000000 ∧ out.length ≤ k ∧ wr.ownsRow w.heap.size 3 1 v out.length (out.map (Value.int .i64)) ∧ Below w.heap.size w wr ∧ Hid (if k ≤ s.length then rn B M c out n (s.drop k) = R else some out = R))
    (fun _ _ iv _ => s.length + 1 - (intOf iv).toNat)
  case atStart => exact ⟨0, -1, [], by omega, rfl, rfl, by omega, by omega, by simp, by simpa using World.ownsRow_nil _ _ _ _, Below.refl _ _, by show _; rw [if_pos (Nat.zero_le _)]; exact HR0.out⟩
  case round =>
    obtain ⟨k, n, out, hk, rfl, rfl, hn0, hn1, hol, hown, hb, hrest⟩ := hrel
    have hbs := hb.size
    by_cases hle : k ≤ s.length
    · have hrs := hrest.out
      rw [if_pos hle] at hrs
      by_cases hlt : k < s.length
      · have hkne : ((k : Int) == (s.length : Int)) = false := by simp; omega
        have hdrop : s.drop k = s[k]'hlt :: s.drop (k + 1) := List.drop_eq_getElem_cons hlt
        have hx := index_list s k hlt
        rw [hdrop] at hrs
        generalize s[k]'hlt = x at hrs hx
        clear hdrop hrest
        by_cases hxc : x = c
        · subst hxc
          have hrs2 : (if n < 0 ∨ M < n then none else rn B M x (out ++ [n]) (-1) (s.drop (k + 1))) = R := by rw [← hrs]; conv => rhs; unfold rn; rw [if_pos rfl]
          clear hrs
          by_cases hbad : n < 0 ∨ M < n
          · rw [if_pos hbad] at hrs2
            subst hrs2
            go_wp2
            all_goals go_ret2
            all_goals exact ⟨rfl, hb⟩
          · rw [if_neg hbad] at hrs2
            have hn2 : ¬ n < 0 := fun h => hbad (.inl h)
            have hn3 : ¬ M < n := fun h => hbad (.inr h)
            have HRS : Hid (if k + 1 ≤ s.length then rn B M x (out ++ [n]) (-1) (s.drop (k + 1)) = R else some (out ++ [n]) = R) := Lib.hid (by rw [if_pos (by omega)]; exact hrs2)
            clear hrs2 hbad
            go_wp2_with (first
              | (at_builtin; refine wpList_append_own _ rfl _ _ 37 rfl w.heap.size 3 i0 (.int .i64 0) 1 8 Tryd.underlying37 hii hz0 hz1 hz2 rfl (by decide) _ _ _ rfl (hown.alloc _) ⟨wr.heap.size, 0, none⟩ 1 1 [.int .i64 n] rfl rfl ?c1 ?c2 ?c3 ?c4 ?c5 ?_))
            case c2 => first | rfl | (intro u hu; simp at hu; subst hu; rfl)
            case c3 => unfold maxLen; omega
            case c4 => have := hb.size; omega
            case c5 => first | omega | (simp; omega)
            intro v' w3 hown' hgrow _
            have hb3 := below_app hb (Nat.le_refl _) (Nat.le_refl _) hown hgrow
            have hown3 : w3.ownsRow w.heap.size 3 1 v' (out ++ [n]).length ((out ++ [n]).map (Value.int .i64)) := by rw [List.map_append, List.length_append]; exact hown'
            clear hown' hgrow hown hb
            go_wp2
            go_roundw
            case rel => exact ⟨k + 1, -1, out ++ [n], by omega, by go_num, rfl, by omega, by omega, by simp; omega, hown3, hb3, HRS⟩
            case measure => simp [intOf]; omega
        · have hxn : ((x.toNat : Int) == (c.toNat : Int)) = false := by
            simp only [beq_eq_false_iff_ne]; intro h; exact hxc (UInt8.toNat_inj.1 (by omega))
          have hrs2 : (if rdTo x B < 0 then none else rn B M c out (if n ≤ M then max n 0 * B + rdTo x B else n) (s.drop (k + 1))) = R := by rw [← hrs]; conv => rhs; unfold rn; rw [if_neg hxc]
          have HRS2 := Lib.hid hrs2
          clear hrs hrs2
          go_wp2
          go_loopw [13, 14] (fun d jv wq => ∃ (j m : Nat), j ≤ B ∧ jv = .int .i64 j ∧ d = .int .i64 (rdTo x j) ∧ wq = wr.drewN m) (fun _ jv _ => B - (intOf jv).toNat)
          case atStart => exact ⟨0, 0, by omega, rfl, rfl, rfl⟩
          case round =>
            obtain ⟨j, m, hj, rfl, rfl, rfl⟩ := hrel
            have hownD : (wr.drewN m).ownsRow w.heap.size 3 1 u10 out.length (out.map (Value.int .i64)) := hown
            have hbD := below_drewN hb m
            have hbd := rdTo_bd x j
            by_cases hjB : j < B
            · have hd := index_digs j (by omega)
              by_cases he : dig j = x
              · have hst : Hid (rdTo x (j + 1) = (j : Int)) := Lib.hid (by unfold rdTo; rw [if_pos he])
                rw [he] at hd
                clear he
                go_wp2
                go_region
                go_wp2
                go_roundw
                case rel => exact ⟨j + 1, m + 1, by omega, by go_num, by rw [hst.out], rfl⟩
                case measure => simp [intOf]; omega
              · have hst : Hid (rdTo x (j + 1) = rdTo x j) := Lib.hid (by conv => lhs; unfold rdTo; rw [if_neg he])
                have hdn : (((dig j).toNat : Int) == (x.toNat : Int)) = false := by
                  simp only [beq_eq_false_iff_ne]; intro h; exact he (UInt8.toNat_inj.1 (by omega))
                clear he
                go_wp2
                go_region
                go_wp2
                go_roundw
                case rel => exact ⟨j + 1, m + 1, by omega, by go_num, by rw [hst.out], rfl⟩
                case measure => simp [intOf]; omega
            · obtain rfl : j = B := by omega
              have hrs3 := HRS2.out
              by_cases hneg : rdTo x j < 0
              · rw [if_pos hneg] at hrs3
                subst hrs3
                go_wp2
                go_ret2
                exact ⟨rfl, hbD⟩
              · rw [if_neg hneg] at hrs3
                generalize rdTo x j = d at hrs3 hneg hbd
                have HRS : Hid (if k + 1 ≤ s.length then rn j M c out (if n ≤ M then max n 0 * j + d else n) (s.drop (k + 1)) = R else some out = R) := Lib.hid (by rw [if_pos (by omega)]; exact hrs3)
                clear hrs3 HRS2
                by_cases hnM : n ≤ M
                · rw [if_pos hnM] at HRS
                  obtain ⟨u, hu⟩ : ∃ u, max n 0 = u := ⟨_, rfl⟩
                  have hu0 : 0 ≤ u := by omega
                  have hu1 : u ≤ 65535 := by omega
                  have hmul : 0 ≤ u * (j : Int) ∧ u * (j : Int) ≤ 65535 * 16 := ⟨Int.mul_nonneg hu0 (by omega), Int.mul_le_mul hu1 (by omega) (by omega) (by omega)⟩
                  rw [hu] at HRS
                  obtain ⟨z, hz⟩ : ∃ z, u * (j : Int) = z := ⟨_, rfl⟩
                  rw [hz] at hmul HRS
                  obtain ⟨hz3, hz4⟩ := hmul
                  go_wp2
                  go_roundw
                  case rel => exact ⟨k + 1, z + d, out, by omega, by go_num, rfl, by omega, by omega, by omega, hownD, hbD, HRS⟩
                  case measure => simp [intOf]; omega
                · rw [if_neg hnM] at HRS
                  go_wp2
                  go_roundw
                  case rel => exact ⟨k + 1, n, out, by omega, by go_num, rfl, by omega, by omega, by omega, hownD, hbD, HRS⟩
                  case measure => simp [intOf]; omega
      · obtain rfl : k = s.length := by omega
        rw [List.drop_length] at hrs
        have hrs2 : (if n < 0 ∨ M < n then none else some (out ++ [n])) = R := hrs
        clear hrs hrest
        by_cases hbad : n < 0 ∨ M < n
        · rw [if_pos hbad] at hrs2
          subst hrs2
          go_wp2
          all_goals go_ret2
          all_goals exact ⟨rfl, hb⟩
        · rw [if_neg hbad] at hrs2
          have hn2 : ¬ n < 0 := fun h => hbad (.inl h)
          have hn3 : ¬ M < n := fun h => hbad (.inr h)
          have HRS : Hid (if s.length + 1 ≤ s.length then rn B M c (out ++ [n]) (-1) (s.drop (s.length + 1)) = R else some (out ++ [n]) = R) := Lib.hid (by rw [if_neg (by omega)]; exact hrs2)
          clear hrs2 hbad
          go_wp2_with (first
            | (at_builtin; refine wpList_append_own _ rfl _ _ 37 rfl w.heap.size 3 i0 (.int .i64 0) 1 8 Tryd.underlying37 hii hz0 hz1 hz2 rfl (by decide) _ _ _ rfl (hown.alloc _) ⟨wr.heap.size, 0, none⟩ 1 1 [.int .i64 n] rfl rfl ?c1 ?c2 ?c3 ?c4 ?c5 ?_))
          case c2 => first | rfl | (intro u hu; simp at hu; subst hu; rfl)
          case c3 => unfold maxLen; omega
          case c4 => have := hb.size; omega
          case c5 => first | omega | (simp; omega)
          intro v' w3 hown' hgrow _
          have hb3 := below_app hb (Nat.le_refl _) (Nat.le_refl _) hown hgrow
          have hown3 : w3.ownsRow w.heap.size 3 1 v' (out ++ [n]).length ((out ++ [n]).map (Value.int .i64)) := by rw [List.map_append, List.length_append]; exact hown'
          clear hown' hgrow hown hb
          go_wp2
          go_roundw
          case rel => exact ⟨s.length + 1, -1, out ++ [n], by omega, by go_num, rfl, by omega, by omega, by simp; omega, hown3, hb3, HRS⟩
          case measure => simp [intOf]
    · obtain rfl : k = s.length + 1 := by omega
      have h2 := hrest.out
      rw [if_neg hle] at h2
      subst h2
      clear hrest
      go_wp2
      go_ret2
      exact ⟨⟨_, rfl, hown⟩, hb⟩
end Go.Proofs.YtojdlhiibffnfabDoor

/-
  Plain facts about the texts: how many colons, dots and signs there are.
-/
namespace Go.Proofs.YtojdlhiibffnfabDoor
open Go.RowKit
set_option linter.unusedVariables false
set_option linter.unusedSimpArgs false

theorem dig_not (d : Nat) : dig d ≠ 46 ∧ dig d ≠ 58 := by
  by_cases h : d < 16
  · have : ∀ k : Fin 16, dig k ≠ 46 ∧ dig k ≠ 58 := by decide +kernel
    exact this ⟨d, h⟩
  · unfold dig
    rw [List.getD_eq_getElem?_getD, List.getElem?_eq_none (by simp [digs]; omega)]
    decide
theorem numText_no (base f n : Nat) (c : UInt8) (hc : c = 46 ∨ c = 58) : (numText base f n).count c = 0 := by
  have hd : ∀ d, ¬ dig d = c := fun d h => by rcases hc with rfl | rfl; exact (dig_not d).1 h; exact (dig_not d).2 h
  induction f generalizing n with
  | zero => simp [numText]
  | succ f ih =>
    unfold numText
    split
    · simp [List.count_cons, hd]
    · rw [List.count_append, ih]; simp [List.count_cons, hd]
theorem numText_pos (base f n : Nat) : 1 ≤ (numText base (f + 1) n).length := by
  unfold numText
  split <;> simp
theorem numText_le (base f n : Nat) : (numText base f n).length ≤ f := by
  induction f generalizing n with
  | zero => simp [numText]
  | succ f ih =>
    unfold numText
    split
    · simp
    · have := ih (n / base); simp; omega

theorem joinTail_count (s c : UInt8) (ts : List (List UInt8)) (h : ∀ t ∈ ts, t.count c = 0) : (Lib.joinTail [s] ts).count c = if s = c then ts.length else 0 := by
  induction ts with
  | nil => simp [Lib.joinTail]
  | cons t ts ih =>
    have e : Lib.joinTail [s] (t :: ts) = [s] ++ t ++ Lib.joinTail [s] ts := by simp [Lib.joinTail]
    rw [e, List.count_append, List.count_append, ih (fun t ht => h t (.tail _ ht)), h t (.head _)]
    by_cases hs : s = c <;> simp [hs, List.count_cons] <;> omega
theorem join_count (s c : UInt8) (ts : List (List UInt8)) (h : ∀ t ∈ ts, t.count c = 0) : (Lib.join ts [s]).count c = if s = c then ts.length - 1 else 0 := by
  cases ts with
  | nil => simp [Lib.join_nil]
  | cons t ts =>
    rw [Lib.join_cons, List.count_append, joinTail_count s c ts (fun t ht => h t (.tail _ ht)), h t (.head _)]
    simp
theorem joinTail_len (s : UInt8) (m : Nat) (ts : List (List UInt8)) (h : ∀ t ∈ ts, 1 ≤ t.length ∧ t.length ≤ m) : 2 * ts.length ≤ (Lib.joinTail [s] ts).length ∧ (Lib.joinTail [s] ts).length ≤ (m + 1) * ts.length := by
  induction ts with
  | nil => simp [Lib.joinTail]
  | cons t ts ih =>
    have e : Lib.joinTail [s] (t :: ts) = [s] ++ t ++ Lib.joinTail [s] ts := by simp [Lib.joinTail]
    have := ih (fun t ht => h t (.tail _ ht))
    have h2 := h t (.head _)
    rw [e, List.length_append, List.length_append]
    simp only [List.length_cons, List.length_nil, Nat.mul_add]
    omega
theorem join_len (s : UInt8) (m : Nat) (ts : List (List UInt8)) (h : ∀ t ∈ ts, 1 ≤ t.length ∧ t.length ≤ m) (hne : 1 ≤ ts.length) : 2 * ts.length - 1 ≤ (Lib.join ts [s]).length ∧ (Lib.join ts [s]).length + 1 ≤ (m + 1) * ts.length := by
  cases ts with
  | nil => simp at hne
  | cons t ts =>
    have h1 := joinTail_len s m ts (fun t ht => h t (.tail _ ht))
    have h2 := h t (.head _)
    rw [Lib.join_cons, List.length_append]
    simp only [List.length_cons, Nat.mul_add]
    omega

theorem fourT_count (L : Nat) (c : UInt8) (hc : c = 46 ∨ c = 58) : ∀ t ∈ fourT L, t.count c = 0 := fun t ht => by
  simp only [fourT, List.mem_map] at ht
  obtain ⟨p, _, rfl⟩ := ht
  exact numText_no _ _ _ c hc
theorem hexT_count (gs : List Nat) (c : UInt8) (hc : c = 46 ∨ c = 58) : ∀ t ∈ hexT gs, t.count c = 0 := fun t ht => by
  simp only [hexT, List.mem_map] at ht
  obtain ⟨p, _, rfl⟩ := ht
  exact numText_no _ _ _ c hc
theorem hexT_lens (gs : List Nat) : ∀ t ∈ hexT gs, 1 ≤ t.length ∧ t.length ≤ 4 := fun t ht => by
  simp only [hexT, List.mem_map] at ht
  obtain ⟨p, _, rfl⟩ := ht
  exact ⟨numText_pos 16 3 p, numText_le 16 4 p⟩

theorem four_facts (L : Nat) : (Lib.join (fourT L) [46]).count 58 = 0 ∧ (Lib.join (fourT L) [46]).count 46 = 3 ∧ (Lib.join (fourT L) [46]).length ≤ 15 ∧ 7 ≤ (Lib.join (fourT L) [46]).length := by
  have hl : (fourT L).length = 4 := rfl
  have h3 := join_len 46 3 (fourT L) (fun t ht => by
    simp only [fourT, List.mem_map] at ht
    obtain ⟨p, _, rfl⟩ := ht
    exact ⟨numText_pos 10 2 p, numText_le 10 3 p⟩) (by rw [hl]; omega)
  rw [join_count 46 58 _ (fourT_count L 58 (.inr rfl)), join_count 46 46 _ (fourT_count L 46 (.inl rfl)), hl]
  rw [hl] at h3
  exact ⟨by simp, by simp, by omega, by omega⟩

theorem six_facts (gs : List Nat) (hg : gs.length = 8) : (sixT gs).count 46 = 0 ∧ 2 ≤ (sixT gs).count 58 ∧ (sixT gs).count 58 ≤ 7 ∧ (sixT gs).length ≤ 39 := by
  have hb := lzTo_bd (zeroP gs) 8
  have hlen : ∀ l : List Nat, (hexT l).length = l.length := fun l => by simp [hexT]
  unfold sixT
  simp only
  split
  · rename_i h
    have h3 := join_len 58 4 (hexT gs) (hexT_lens gs) (by rw [hlen]; omega)
    rw [join_count 58 58 _ (hexT_count gs 58 (.inr rfl)), join_count 58 46 _ (hexT_count gs 46 (.inl rfl)), hlen, hg]
    rw [hlen, hg] at h3
    exact ⟨by simp, by simp, by simp, by omega⟩
  · rename_i h
    obtain ⟨f, hf⟩ := Int.eq_ofNat_of_zero_le hb.2.2.1
    obtain ⟨t, ht⟩ := Int.eq_ofNat_of_zero_le (Int.le_trans hb.2.2.1 hb.2.2.2.1)
    rw [hf, ht] at h
    have ht8 := hb.2.2.2.2
    rw [ht] at ht8
    rw [hf, ht]
    simp only [Int.toNat_natCast, List.count_append, List.length_append]
    rw [join_count 58 58 _ (hexT_count _ 58 (.inr rfl)), join_count 58 58 _ (hexT_count _ 58 (.inr rfl)), join_count 58 46 _ (hexT_count _ 46 (.inl rfl)), join_count 58 46 _ (hexT_count _ 46 (.inl rfl))]
    have hj : ∀ l : List Nat, (Lib.join (hexT l) [58]).length ≤ 5 * l.length := fun l => by
      by_cases hl : 1 ≤ l.length
      · have := join_len 58 4 (hexT l) (hexT_lens l) (by rw [hlen]; omega)
        rw [hlen] at this; omega
      · have : l = [] := List.eq_nil_of_length_eq_zero (by omega)
        subst this; simp [hexT, Lib.join_nil]
    have j1 := hj (gs.take f)
    have j2 := hj (gs.drop t)
    simp only [hlen, List.length_take, List.length_drop, hg] at j1 j2 ⊢
    refine ⟨by simp, ?_, ?_, ?_⟩ <;> simp <;> omega
end Go.Proofs.YtojdlhiibffnfabDoor

/-
  Plain facts on what the document's readNumbers reads: it undoes writing; what it does not read.
-/
namespace Go.Proofs.YtojdlhiibffnfabDoor
open Go.RowKit Go.Sort
set_option linter.unusedVariables false
set_option linter.unusedSimpArgs false

theorem dig_inj : ∀ a b : Fin 16, dig a.1 = dig b.1 → a = b := by decide +kernel
theorem rdTo_dig (d : Nat) : ∀ k, k ≤ 16 → d < k → rdTo (dig d) k = d
  | 0, _, h => by omega
  | k + 1, hk, h => by
    unfold rdTo
    by_cases e : k = d
    · subst e; rw [if_pos rfl]
    · rw [if_neg (fun he => e (congrArg Fin.val (dig_inj ⟨k, by omega⟩ ⟨d, by omega⟩ he)))]
      exact rdTo_dig d k (by omega) (by omega)
/-- A byte that is no digit. -/
def NoDig (x : UInt8) : Prop := ∀ d, ¬ dig d = x
theorem noDig46 : NoDig 46 := fun d => (dig_not d).1
theorem noDig58 : NoDig 58 := fun d => (dig_not d).2
theorem rdTo_no (x : UInt8) (h : NoDig x) : ∀ k, rdTo x k = -1
  | 0 => rfl
  | k + 1 => by unfold rdTo; rw [if_neg (h k)]; exact rdTo_no x h k
theorem rn_dig (B : Nat) (M : Int) (c : UInt8) (hB : B ≤ 16) (hc : NoDig c) (out : List Int) (n : Int) (d : Nat) (hd : d < B) (hn : n ≤ M) (rest : List UInt8) :
    rn B M c out n (dig d :: rest) = rn B M c out (max n 0 * B + d) rest := by
  conv => lhs; unfold rn
  rw [if_neg (hc d), rdTo_dig d B hB hd, if_neg (by omega), if_pos hn]
theorem rn_num (B : Nat) (M : Int) (c : UInt8) (hB : B ≤ 16) (hB2 : 2 ≤ B) (hM : 0 ≤ M) (hc : NoDig c) (out : List Int) : ∀ (f n : Nat), n < B ^ (f + 1) → (n : Int) ≤ M → ∀ rest, rn B M c out (-1) (numText B (f + 1) n ++ rest) = rn B M c out n rest
  | f, n, h, hm, rest => by
    unfold numText
    split
    · rename_i hlt
      show rn B M c out (-1) (dig n :: rest) = _
      rw [rn_dig B M c hB hc out (-1) n hlt (by omega), show max (-1 : Int) 0 * (B : Int) + (n : Int) = n from by rw [show max (-1 : Int) 0 = 0 from rfl, Int.zero_mul, Int.zero_add]]
    · rename_i hge
      have hpos : 0 < B := by omega
      cases f with
      | zero => simp at h; omega
      | succ f =>
        have h1 : n / B < B ^ (f + 1) := by
          rw [Nat.div_lt_iff_lt_mul hpos]
          rw [Nat.pow_succ] at h; exact h
        have h0 : n / B ≤ n := Nat.div_le_self _ _
        have h3 : n % B < B := Nat.mod_lt _ hpos
        have h4 : n / B * B + n % B = n := by rw [Nat.mul_comm]; exact Nat.div_add_mod n B
        rw [List.append_assoc, rn_num B M c hB hB2 hM hc out f (n / B) h1 (by omega)]
        show rn B M c out ((n / B : Nat) : Int) (dig (n % B) :: rest) = _
        rw [rn_dig B M c hB hc out _ _ h3 (by omega)]
        congr 1
        have : max ((n / B : Nat) : Int) 0 = ((n / B : Nat) : Int) := Int.max_eq_left (Int.natCast_nonneg _)
        rw [this, ← Int.natCast_mul, ← Int.natCast_add, h4]
theorem rn_tail (B : Nat) (M : Int) (c : UInt8) (f : Nat) (hB : B ≤ 16) (hB2 : 2 ≤ B) (hM : 0 ≤ M) (hc : NoDig c) : ∀ (ns : List Nat) (out : List Int) (n : Int), 0 ≤ n → n ≤ M → (∀ m ∈ ns, m < B ^ (f + 1) ∧ (m : Int) ≤ M) →
    rn B M c out n (Lib.joinTail [c] (ns.map (numText B (f + 1)))) = some (out ++ n :: ns.map (fun m : Nat => (m : Int)))
  | [], out, n, h0, h1, _ => by
    show rn B M c out n [] = _
    unfold rn
    rw [if_neg (by omega)]; rfl
  | m :: ns, out, n, h0, h1, h => by
    have hm := h m (.head _)
    show rn B M c out n (c :: (numText B (f + 1) m ++ Lib.joinTail [c] (ns.map (numText B (f + 1))))) = _
    conv => lhs; unfold rn
    rw [if_pos rfl, if_neg (by omega), rn_num B M c hB hB2 hM hc _ f m hm.1 hm.2, rn_tail B M c f hB hB2 hM hc ns _ m (by omega) hm.2 (fun k hk => h k (.tail _ hk))]
    simp
/-- Reading undoes writing. -/
theorem rn_join (B : Nat) (M : Int) (c : UInt8) (f : Nat) (hB : B ≤ 16) (hB2 : 2 ≤ B) (hM : 0 ≤ M) (hc : NoDig c) (m : Nat) (ns : List Nat) (h : ∀ k ∈ m :: ns, k < B ^ (f + 1) ∧ (k : Int) ≤ M) :
    rn B M c [] (-1) (Lib.join ((m :: ns).map (numText B (f + 1))) [c]) = some ((m :: ns).map (fun k : Nat => (k : Int))) := by
  have hm := h m (.head _)
  rw [List.map_cons, Lib.join_cons, rn_num B M c hB hB2 hM hc [] f m hm.1 hm.2, rn_tail B M c f hB hB2 hM hc ns [] m (by omega) hm.2 (fun k hk => h k (.tail _ hk))]
  rfl
/-- A byte that is neither a digit nor the sign. -/
theorem rn_bad (B : Nat) (M : Int) (c x : UInt8) (hx : x ≠ c) (hn : rdTo x B < 0) : ∀ (s : List UInt8) (out : List Int) (n : Int), x ∈ s → rn B M c out n s = none
  | [], _, _, h => by cases h
  | y :: s, out, n, h => by
    unfold rn
    by_cases hy : y = c
    · rw [if_pos hy]
      split
      · rfl
      · exact rn_bad B M c x hx hn s _ _ (by rcases List.mem_cons.1 h with e | e; exact absurd (e.trans hy) hx; exact e)
    · rw [if_neg hy]
      split
      · rfl
      · rename_i h2
        exact rn_bad B M c x hx hn s _ _ (by rcases List.mem_cons.1 h with e | e; exact absurd (e ▸ hn) h2; exact e)
/-- Two signs side by side. -/
theorem rn_two (B : Nat) (M : Int) (c : UInt8) (q : List UInt8) : ∀ (p : List UInt8) (out : List Int) (n : Int), rn B M c out n (p ++ c :: c :: q) = none
  | [], out, n => by
    show rn B M c out n (c :: c :: q) = none
    unfold rn
    rw [if_pos rfl]
    split
    · rfl
    · unfold rn
      rw [if_pos rfl, if_pos (by omega)]
  | y :: p, out, n => by
    show rn B M c out n (y :: (p ++ c :: c :: q)) = none
    unfold rn
    split
    · split
      · rfl
      · exact rn_two B M c q p _ _
    · split
      · rfl
      · exact rn_two B M c q p _ _
/-- What comes out: numbers from 0 to M, one more than there are bytes at the most. -/
theorem rn_bd (B : Nat) (M : Int) (c : UInt8) : ∀ (s : List UInt8) (out : List Int) (n : Int) (ns : List Int), (∀ v ∈ out, 0 ≤ v ∧ v ≤ M) → rn B M c out n s = some ns → (∀ v ∈ ns, 0 ≤ v ∧ v ≤ M) ∧ ns.length ≤ out.length + s.length + 1
  | [], out, n, ns, ho, h => by
    unfold rn at h
    split at h
    · cases h
    · rename_i hn
      cases h
      refine ⟨fun v hv => ?_, by simp⟩
      rcases List.mem_append.1 hv with e | e
      · exact ho v e
      · simp at e; omega
  | y :: s, out, n, ns, ho, h => by
    unfold rn at h
    split at h
    · split at h
      · cases h
      · rename_i hn
        have := rn_bd B M c s (out ++ [n]) (-1) ns (fun v hv => by
          rcases List.mem_append.1 hv with e | e
          · exact ho v e
          · simp at e; omega) h
        simp only [List.length_append, List.length_cons, List.length_nil] at this ⊢
        exact ⟨this.1, by omega⟩
    · split at h
      · cases h
      · have := rn_bd B M c s out _ ns ho h
        simp only [List.length_cons]
        exact ⟨this.1, by omega⟩
end Go.Proofs.YtojdlhiibffnfabDoor

/-
  The contract of the document's addrOf.
-/
namespace Go.Proofs.YtojdlhiibffnfabDoor
open Go.RowKit
set_option linter.unusedVariables false
set_option linter.unusedSimpArgs false

theorem two_alloc {w : World} {g k : Nat} {u : Value} (hg : g < w.heap.size) (h : w.cell? ⟨g, k, none⟩ = some u) (o1 o2 : Obj) : ((w.alloc o1).alloc o2).cell? ⟨g, k, none⟩ = some u := by
  rw [World.cell?_alloc_lt _ _ _ (by simp; omega), World.cell?_alloc_lt _ _ _ hg]; exact h

set_option maxHeartbeats 1000000 in
set_option maxRecDepth 100000 in
theorem addrOf_six (l : List Int) (hl : l.length = 128) (h01 : ∀ b ∈ l, b = 0 ∨ b = 1) (g cap : Nat) (w : World) (hg : g < w.heap.size) (hc : ∀ j u, l[j]? = some u → w.cell? ⟨g, j, none⟩ = some (.int .i64 u)) :
    Calls Tryd.prog 12 #[.slice (some ⟨g, 0, none⟩) 128 cap] w fun e w' => e = .returned (.agg #[.bool true, .int .u64 (spell (l.take 64)), .int .u64 (spell (l.drop 64))]) ∧ Below w.heap.size w w' := by
  have HL := Lib.hid hl; have H01 := Lib.hid h01; have HC := Lib.hid hc
  clear hl h01 hc
  go_enter Tryd.func12, Tryd.ntmps12
  go_wp2
  go_loopw [12] (fun i wr => ∃ k : Nat, k ≤ 128 ∧ i = .int .i64 k ∧ wr = (w.alloc (.cells #[.bool false, .int .u64 0, .int .u64 0] 24)).alloc (.cells #[.bool true, .int .u64 (hiTo l k), .int .u64 (loTo l k)] 24))
    (fun i _ => 128 - (intOf i).toNat)
  case atStart => exact ⟨0, by omega, rfl, by simp [hiTo, loTo, spell_nil]⟩
  case round =>
    obtain ⟨k, hk, rfl, rfl⟩ := hrel
    by_cases hlt : k < 128
    · have hkl : k < l.length := by rw [HL.out]; exact hlt
      obtain ⟨b, hb⟩ : ∃ b, b = l[k] := ⟨_, rfl⟩
      have HB := Lib.hid hb
      have hcell := two_alloc hg (HC.out k b (by rw [hb]; exact List.getElem?_eq_getElem hkl))
      have hb01 : b = 0 ∨ b = 1 := H01.out b (by rw [hb]; exact List.getElem_mem hkl)
      have hb0 : 0 ≤ b := by omega
      have hb1 : b ≤ 1 := by omega
      clear hb01 hb
      by_cases h64 : k < 64
      · have bd := hiTo_bd l k h64 H01.out
        have S1 := Lib.hid (hiTo_lt l k h64 hkl)
        have S2 := Lib.hid (loTo_lt l k h64)
        obtain ⟨bd0, bd1⟩ := bd
        go_wp2
        go_roundw
        case rel => exact ⟨k + 1, by omega, by go_num, by rw [S1.out, S2.out, HB.out]⟩
        case measure => simp [intOf]; omega
      · have bd := loTo_bd l k hlt H01.out
        have S1 := Lib.hid (hiTo_ge l k (by omega))
        have S2 := Lib.hid (loTo_ge l k (by omega) hkl)
        obtain ⟨bd0, bd1⟩ := bd
        go_wp2
        go_roundw
        case rel => exact ⟨k + 1, by omega, by go_num, by rw [S1.out, S2.out, HB.out]⟩
        case measure => simp [intOf]; omega
    · obtain rfl : k = 128 := by omega
      have e1 : hiTo l 128 = spell (l.take 64) := by simp [hiTo]
      have e2 : loTo l 128 = spell (l.drop 64) := by unfold loTo; rw [List.take_of_length_le (by rw [HL.out]; omega)]
      rw [e1, e2]
      clear e1 e2
      go_wp2
      go_returns
      exact ⟨rfl, by go_grown⟩

set_option maxHeartbeats 1000000 in
set_option maxRecDepth 100000 in
theorem addrOf_four (l : List Int) (hl : l.length = 32) (h01 : ∀ b ∈ l, b = 0 ∨ b = 1) (g cap : Nat) (w : World) (hg : g < w.heap.size) (hc : ∀ j u, l[j]? = some u → w.cell? ⟨g, j, none⟩ = some (.int .i64 u)) :
    Calls Tryd.prog 12 #[.slice (some ⟨g, 0, none⟩) 32 cap] w fun e w' => e = .returned (.agg #[.bool false, .int .u64 0, .int .u64 (spell l)]) ∧ Below w.heap.size w w' := by
  have HL := Lib.hid hl; have H01 := Lib.hid h01; have HC := Lib.hid hc
  clear hl h01 hc
  go_enter Tryd.func12, Tryd.ntmps12
  go_wp2
  go_loopw [12] (fun i wr => ∃ k : Nat, k ≤ 32 ∧ i = .int .i64 k ∧ wr = (w.alloc (.cells #[.bool false, .int .u64 0, .int .u64 0] 24)).alloc (.cells #[.bool false, .int .u64 0, .int .u64 (fourTo l k)] 24))
    (fun i _ => 32 - (intOf i).toNat)
  case atStart => exact ⟨0, by omega, rfl, by simp [fourTo, spell_nil]⟩
  case round =>
    obtain ⟨k, hk, rfl, rfl⟩ := hrel
    by_cases hlt : k < 32
    · have hkl : k < l.length := by rw [HL.out]; exact hlt
      obtain ⟨b, hb⟩ : ∃ b, b = l[k] := ⟨_, rfl⟩
      have HB := Lib.hid hb
      have hcell := two_alloc hg (HC.out k b (by rw [hb]; exact List.getElem?_eq_getElem hkl))
      have hb01 : b = 0 ∨ b = 1 := H01.out b (by rw [hb]; exact List.getElem_mem hkl)
      have hb0 : 0 ≤ b := by omega
      have hb1 : b ≤ 1 := by omega
      clear hb01 hb
      have bd := fourTo_bd l k (by omega) H01.out
      have S1 := Lib.hid (fourTo_succ l k hkl)
      obtain ⟨bd0, bd1⟩ := bd
      go_wp2
      go_roundw
      case rel => exact ⟨k + 1, by omega, by go_num, by rw [S1.out, HB.out]⟩
      case measure => simp [intOf]; omega
    · obtain rfl : k = 32 := by omega
      have e1 : fourTo l 32 = spell l := by unfold fourTo; rw [List.take_of_length_le (by rw [HL.out]; omega)]
      rw [e1]
      clear e1
      go_wp2
      go_returns
      exact ⟨rfl, by go_grown⟩

end Go.Proofs.YtojdlhiibffnfabDoor

/-
  Block b holds this address.
-/
namespace Go.Proofs.YtojdlhiibffnfabDoor
open Go.RowKit
def AddrAt (w : World) (b : Nat) (s : Bool) (h l : Int) : Prop := w.cell? ⟨b, 0, none⟩ = some (.bool s) ∧ w.cell? ⟨b, 1, none⟩ = some (.int .u64 h) ∧ w.cell? ⟨b, 2, none⟩ = some (.int .u64 l) ∧ b < w.heap.size
theorem AddrAt.keep {w w' : World} {b : Nat} {s : Bool} {h l : Int} (a : AddrAt w b s h l) (hb : Below w.heap.size w w') : AddrAt w' b s h l :=
  ⟨(hb.cell (p := ⟨b, 0, none⟩) a.2.2.2).trans a.1, (hb.cell (p := ⟨b, 1, none⟩) a.2.2.2).trans a.2.1, (hb.cell (p := ⟨b, 2, none⟩) a.2.2.2).trans a.2.2.1, Nat.lt_of_lt_of_le a.2.2.2 hb.size⟩
theorem AddrAt.alloc {w : World} {b : Nat} {s : Bool} {h l : Int} (a : AddrAt w b s h l) (o : Obj) : AddrAt (w.alloc o) b s h l :=
  a.keep ((Below.refl _ _).alloc (Nat.le_refl _) o)
theorem AddrAt.new (w : World) (s : Bool) (h l : Int) (t : TypeId) : AddrAt (w.alloc (.cells #[.bool s, .int .u64 h, .int .u64 l] t)) w.heap.size s h l :=
  ⟨by simp, by simp, by simp, by simp⟩
end Go.Proofs.YtojdlhiibffnfabDoor

/-
  Block b holds this prefix.
-/
namespace Go.Proofs.YtojdlhiibffnfabDoor
open Go.RowKit
set_option linter.unusedVariables false
set_option linter.unusedSimpArgs false
def PreAt (w : World) (b : Nat) (s : Bool) (h l n : Int) : Prop := w.cell? ⟨b, 0, none⟩ = some (.bool s) ∧ w.cell? ⟨b, 1, none⟩ = some (.int .u64 h) ∧ w.cell? ⟨b, 2, none⟩ = some (.int .u64 l) ∧ w.cell? ⟨b, 3, none⟩ = some (.int .i64 n) ∧ b < w.heap.size
theorem PreAt.keep {w w' : World} {b : Nat} {s : Bool} {h l n : Int} (a : PreAt w b s h l n) (hb : Below w.heap.size w w') : PreAt w' b s h l n :=
  ⟨(hb.cell (p := ⟨b, 0, none⟩) a.2.2.2.2).trans a.1, (hb.cell (p := ⟨b, 1, none⟩) a.2.2.2.2).trans a.2.1, (hb.cell (p := ⟨b, 2, none⟩) a.2.2.2.2).trans a.2.2.1, (hb.cell (p := ⟨b, 3, none⟩) a.2.2.2.2).trans a.2.2.2.1, Nat.lt_of_lt_of_le a.2.2.2.2 hb.size⟩
theorem PreAt.alloc {w : World} {b : Nat} {s : Bool} {h l n : Int} (a : PreAt w b s h l n) (o : Obj) : PreAt (w.alloc o) b s h l n :=
  a.keep ((Below.refl _ _).alloc (Nat.le_refl _) o)
theorem PreAt.new (w : World) (s : Bool) (h l n : Int) (t : TypeId) : PreAt (w.alloc (.cells #[.bool s, .int .u64 h, .int .u64 l, .int .i64 n] t)) w.heap.size s h l n :=
  ⟨by simp, by simp, by simp, by simp, by simp⟩
/-- .. and it may be written. -/
def PreV (w : World) (b : Nat) (s : Bool) (h l n : Int) : Prop := PreAt w b s h l n ∧ ∀ o, w.frozen? ⟨b, o, none⟩ = false
theorem PreV.keep {w w' : World} {b : Nat} {s : Bool} {h l n : Int} (a : PreV w b s h l n) (hb : Below w.heap.size w w') : PreV w' b s h l n :=
  ⟨a.1.keep hb, fun o => (hb.frozen (p := ⟨b, o, none⟩) a.1.2.2.2.2).trans (a.2 o)⟩
theorem PreV.alloc {w : World} {b : Nat} {s : Bool} {h l n : Int} (a : PreV w b s h l n) (o : Obj) : PreV (w.alloc o) b s h l n :=
  a.keep ((Below.refl _ _).alloc (Nat.le_refl _) o)
theorem PreV.new (w : World) (s : Bool) (h l n : Int) (t : TypeId) : PreV (w.alloc (.cells #[.bool s, .int .u64 h, .int .u64 l, .int .i64 n] t)) w.heap.size s h l n :=
  ⟨PreAt.new w s h l n t, fun o => by simp [go_sem]⟩
def AddrV (w : World) (b : Nat) (s : Bool) (h l : Int) : Prop := AddrAt w b s h l ∧ ∀ o, w.frozen? ⟨b, o, none⟩ = false
theorem AddrV.keep {w w' : World} {b : Nat} {s : Bool} {h l : Int} (a : AddrV w b s h l) (hb : Below w.heap.size w w') : AddrV w' b s h l :=
  ⟨a.1.keep hb, fun o => (hb.frozen (p := ⟨b, o, none⟩) a.1.2.2.2).trans (a.2 o)⟩
theorem AddrV.alloc {w : World} {b : Nat} {s : Bool} {h l : Int} (a : AddrV w b s h l) (o : Obj) : AddrV (w.alloc o) b s h l :=
  a.keep ((Below.refl _ _).alloc (Nat.le_refl _) o)
theorem AddrV.new (w : World) (s : Bool) (h l : Int) (t : TypeId) : AddrV (w.alloc (.cells #[.bool s, .int .u64 h, .int .u64 l] t)) w.heap.size s h l :=
  ⟨AddrAt.new w s h l t, fun o => by simp [go_sem]⟩
theorem AddrV.drew {w : World} {b : Nat} {s : Bool} {h l : Int} (a : AddrV w b s h l) : AddrV w.drew b s h l := a.keep (Below.refl _ _).drew
theorem PreV.drew {w : World} {b : Nat} {s : Bool} {h l n : Int} (a : PreV w b s h l n) : PreV w.drew b s h l n := a.keep (Below.refl _ _).drew
theorem AddrV.far {w : World} {b : Nat} {s : Bool} {h l : Int} (a : AddrV w b s h l) {p : Addr} (hp : b ≠ p.block) (u : Value) : AddrV (w.setCell p u) b s h l := by
  have ne : ∀ o, p ≠ ⟨b, o, none⟩ := fun o e => hp (by rw [e])
  exact ⟨⟨(World.cell?_setCell_other w p _ u (ne 0)).trans a.1.1, (World.cell?_setCell_other w p _ u (ne 1)).trans a.1.2.1, (World.cell?_setCell_other w p _ u (ne 2)).trans a.1.2.2.1, by simpa using a.1.2.2.2⟩, fun o => by rw [World.frozen?_setCell]; exact a.2 o⟩
theorem AddrV.store {w : World} {b : Nat} {s : Bool} {h l : Int} (a : AddrV w b s h l) (s2 : Bool) (h2 l2 : Int) :
    AddrV (((w.setCell ⟨b, 0, none⟩ (.bool s2)).setCell ⟨b, 1, none⟩ (.int .u64 h2)).setCell ⟨b, 2, none⟩ (.int .u64 l2)) b s2 h2 l2 := by
  obtain ⟨⟨a0, a1, a2, az⟩, af⟩ := a
  exact ⟨⟨by simp [go_sem, a0, a1, a2], by simp [go_sem, a0, a1, a2], by simp [go_sem, a0, a1, a2], by simpa using az⟩, fun o => by simp only [World.frozen?_setCell]; exact af o⟩
theorem PreV.far {w : World} {b : Nat} {s : Bool} {h l n : Int} (a : PreV w b s h l n) {p : Addr} (hp : b ≠ p.block) (u : Value) : PreV (w.setCell p u) b s h l n := by
  have ne : ∀ o, p ≠ ⟨b, o, none⟩ := fun o e => hp (by rw [e])
  exact ⟨⟨(World.cell?_setCell_other w p _ u (ne 0)).trans a.1.1, (World.cell?_setCell_other w p _ u (ne 1)).trans a.1.2.1, (World.cell?_setCell_other w p _ u (ne 2)).trans a.1.2.2.1, (World.cell?_setCell_other w p _ u (ne 3)).trans a.1.2.2.2.1, by simpa using a.1.2.2.2.2⟩, fun o => by rw [World.frozen?_setCell]; exact a.2 o⟩
theorem PreV.store {w : World} {b : Nat} {s : Bool} {h l n : Int} (a : PreV w b s h l n) (s2 : Bool) (h2 l2 n2 : Int) :
    PreV ((((w.setCell ⟨b, 0, none⟩ (.bool s2)).setCell ⟨b, 1, none⟩ (.int .u64 h2)).setCell ⟨b, 2, none⟩ (.int .u64 l2)).setCell ⟨b, 3, none⟩ (.int .i64 n2)) b s2 h2 l2 n2 := by
  obtain ⟨⟨a0, a1, a2, a3, az⟩, af⟩ := a
  exact ⟨⟨by simp [go_sem, a0, a1, a2, a3], by simp [go_sem, a0, a1, a2, a3], by simp [go_sem, a0, a1, a2, a3], by simp [go_sem, a0, a1, a2, a3], by simpa using az⟩, fun o => by simp only [World.frozen?_setCell]; exact af o⟩
end Go.Proofs.YtojdlhiibffnfabDoor

/-
  The contract of the document's AddrText at an IPv4 address, and where there is no text.
-/
namespace Go.Proofs.YtojdlhiibffnfabDoor
open Go.RowKit Go.Sort
set_option linter.unusedVariables false
set_option linter.unusedSimpArgs false

theorem join_snoc (ts : List (List UInt8)) (t sep : List UInt8) (h : ts ≠ []) : Lib.join (ts ++ [t]) sep = Lib.join ts sep ++ sep ++ t := by
  cases ts with
  | nil => exact absurd rfl h
  | cons x r =>
    rw [List.cons_append, Lib.join_cons, Lib.join_cons]
    simp [Lib.joinTail, List.append_assoc]
theorem join_take_len (ts : List (List UInt8)) (sep : List UInt8) (m k : Nat) (h : ∀ t ∈ ts, t.length ≤ m) : (Lib.join (ts.take k) sep).length ≤ ts.length * (m + sep.length) := by
  have h1 := join_len_le (ts.take k) sep m (fun t ht => h t (List.mem_of_mem_take ht))
  have h2 : (ts.take k).length * (m + sep.length) ≤ ts.length * (m + sep.length) := Nat.mul_le_mul_right _ (by rw [List.length_take]; omega)
  omega
theorem fourT_len (L : Nat) : ∀ t ∈ fourT L, t.length ≤ 3 := by
  intro t ht
  simp only [fourT, List.mem_map] at ht
  obtain ⟨p, hp, rfl⟩ := ht
  exact numText_len 10 3 p
/-- Ints that lie in a row. -/
theorem ints_cell {w : World} {base g n cap : Nat} {ps : List Nat} (h : w.ownsRow base 3 1 (.slice (some ⟨g, 0, none⟩) n cap) n ((ps.map (fun n : Nat => (n : Int))).map (Value.int .i64))) (hl : ps.length = n) (j : Nat) (hj : j < n) : w.cell? ⟨g, j, none⟩ = some (.int .i64 ((ps.getD j 0 : Nat) : Int)) := by
  rw [h.cellAt j (by omega), List.getElem?_map, List.getElem?_map, List.getElem?_eq_getElem (by omega)]
  simp [List.getD_eq_getElem?_getD, List.getElem?_eq_getElem (show j < ps.length by omega)]

set_option maxHeartbeats 2000000 in
set_option maxRecDepth 100000 in
theorem refText_four (L : Nat) (l1 : L < 4294967296) (w : World) :
    Calls Tryd.prog 13 #[.agg #[.bool false, .int .u64 0, .int .u64 (L : Int)]] w fun e w' => e = .returned (.tuple #[.string ⟨(Lib.join (fourT L) [46]).toArray⟩, .int .i64 0]) ∧ Below w.heap.size w w' := by
  have l2 : (L : Int) ≤ 4294967295 := by omega
  go_enter Tryd.func13, Tryd.ntmps13
  go_wp2_with (first
    | (go_at_call 24; go_in))
  refine (partsOf_four 0 L (by omega) (by omega) (by omega) (by omega) _ rfl _).mono ?_
  rintro e w1 ⟨v, rfl, hown, hb⟩
  have bb := thenBelow (((Below.refl _ w).alloc (Nat.le_refl _) _).alloc (by simp) _) hb
  clear hb
  rw [parts_four] at hown
  obtain ⟨g, cap, rfl, hg1, hg2⟩ := hown.form (by omega)
  have HC := Lib.hid (fun j hj => ints_cell hown (by simp [fourP]) j hj)
  clear hown hg1 hg2
  go_wp2
  go_loop [4, 22] (fun o i => ∃ k : Nat, k ≤ 4 ∧ i = .int .i64 k ∧ o = .string ⟨(Lib.join ((fourT L).take k) [46]).toArray⟩)
    (fun _ i => 4 - (intOf i).toNat)
  case atStart => exact ⟨0, by omega, rfl, rfl⟩
  case round =>
    obtain ⟨k, hk, rfl, rfl⟩ := hrel
    by_cases hlt : k < 4
    · have hcell := HC.out k hlt
      have hkl : k < (fourT L).length := by rw [fourT_length]; exact hlt
      have hkp : k < (fourP L).length := by simp [fourP]; exact hlt
      obtain ⟨p, hp⟩ : ∃ p, (fourP L).getD k 0 = p := ⟨_, rfl⟩
      have hp2 : (fourP L)[k] = p := by rw [← hp]; simp [List.getD_eq_getElem?_getD, hkp]
      have hp256 : p < 256 := by
        rw [← hp2]; simp only [fourP, List.getElem_map]; exact Nat.mod_lt _ (by omega)
      have ht : (fourT L)[k] = numText 10 3 p := by simp only [fourT, List.getElem_map]; rw [hp2]
      rw [hp] at hcell
      have hlen := join_take_len (fourT L) [46] 3 k (fourT_len L)
      rw [fourT_length] at hlen
      simp at hlen
      have htl := numText_len 10 3 p
      have hsucc : (fourT L).take (k + 1) = (fourT L).take k ++ [numText 10 3 p] := by rw [List.take_succ_eq_append_getElem hkl]; exact congrArg (fun x => (fourT L).take k ++ [x]) ht
      obtain ⟨t, htt⟩ : ∃ t, numText 10 3 p = t := ⟨_, rfl⟩
      rw [htt] at hsucc htl
      have c := numberText_calls 10 (.inl rfl) 3 p (by omega) (by omega) (by omega) (by omega)
      rw [htt] at c
      have C := Lib.hid c
      obtain ⟨A, hA⟩ : ∃ A, Lib.join ((fourT L).take k) [46] = A := ⟨_, rfl⟩
      rw [hA]
      rw [hA] at hlen
      by_cases h0 : k = 0
      · subst h0
        have hA0 : A = [] := by rw [← hA]; rfl
        subst hA0
        have hfin : Hid (Lib.join ((fourT L).take (0 + 1)) [46] = t) := by show _ = _; rw [hsucc]; simp [Lib.join_one]
        have ha2 : ∀ W, (Op.stringOp .add ⟨[].toArray⟩ ⟨t.toArray⟩).run Tryd.prog W = .ok (.string ⟨t.toArray⟩) W := fun W => run_string_add_lists W [] t (by simp) (by omega)
        clear hA c htt ht hp hp2 hsucc hlen
        go_wp2_with (go_at_call 26; refine (C.out _).mono ?_; rintro e w2 ⟨rfl, rfl⟩)
        go_round
        case rel => exact ⟨0 + 1, by omega, by go_num, by rw [hfin.out]⟩
        case measure => simp [intOf]
      · have hk0 : 0 < k := by omega
        have hne : (fourT L).take k ≠ [] := fun h => by have := congrArg List.length h; rw [List.length_take, fourT_length] at this; simp at this; omega
        have ha1 : ∀ W, (Op.stringOp .add ⟨A.toArray⟩ ⟨#[46]⟩).run Tryd.prog W = .ok (.string ⟨(A ++ [46]).toArray⟩) W := fun W => run_string_add_lists W A [46] (by omega) (by simp)
        have ha2 : ∀ W, (Op.stringOp .add ⟨(A ++ [46]).toArray⟩ ⟨t.toArray⟩).run Tryd.prog W = .ok (.string ⟨(A ++ [46] ++ t).toArray⟩) W := fun W => run_string_add_lists W (A ++ [46]) t (by simp; omega) (by omega)
        obtain ⟨AC, hAC⟩ : ∃ AC, A ++ [46] = AC := ⟨_, rfl⟩
        obtain ⟨D, hD⟩ : ∃ D, AC ++ t = D := ⟨_, rfl⟩
        rw [hAC] at ha1 ha2
        rw [hD] at ha2
        have hfin : Hid (Lib.join ((fourT L).take (k + 1)) [46] = D) := by show _ = _; rw [hsucc, join_snoc _ _ _ hne, hA, hAC, hD]
        clear hA c htt ht hp hp2 hsucc hlen hAC hD hne h0
        go_wp2_with (go_at_call 26; refine (C.out _).mono ?_; rintro e w2 ⟨rfl, rfl⟩)
        go_round
        case rel => exact ⟨k + 1, by omega, by go_num, by rw [hfin.out]⟩
        case measure => simp [intOf]; omega
    · obtain rfl : k = 4 := by omega
      have hfin : Hid (Lib.join ((fourT L).take 4) [46] = Lib.join (fourT L) [46]) := by show _ = _; rw [List.take_of_length_le (by rw [fourT_length]; omega)]
      go_wp2
      go_ret2
      exact ⟨by rw [← hfin.out]; rfl, bb⟩
end Go.Proofs.YtojdlhiibffnfabDoor

/-
  The contract of the document's AddrText at an IPv6 address.
-/
namespace Go.Proofs.YtojdlhiibffnfabDoor
open Go.RowKit Go.Sort
set_option linter.unusedVariables false
set_option linter.unusedSimpArgs false

/-- How many zeros there are from here on. -/
def runLen : List Bool → Nat
  | true :: r => runLen r + 1
  | _ => 0
def runFrom (zs : List Bool) (i : Nat) : Nat := runLen (zs.drop i)
theorem runLen_le (l : List Bool) : runLen l ≤ l.length := by
  induction l with
  | nil => simp [runLen]
  | cons b r ih => cases b <;> simp [runLen]; exact ih
theorem runLen_in (l : List Bool) : ∀ m, m < runLen l → l.getD m false = true := by
  induction l with
  | nil => intro m hm; simp [runLen] at hm
  | cons b r ih =>
    intro m hm
    cases b
    · simp [runLen] at hm
    · cases m with
      | zero => rfl
      | succ m => simp [runLen] at hm; exact ih m hm
theorem runLen_end (l : List Bool) : l.getD (runLen l) false = false := by
  induction l with
  | nil => rfl
  | cons b r ih => cases b <;> simp [runLen]; simpa using ih
theorem runFrom_le (zs : List Bool) (i : Nat) : runFrom zs i ≤ zs.length - i := by
  have := runLen_le (zs.drop i); rw [List.length_drop] at this; exact this
theorem runFrom_in (zs : List Bool) (i m : Nat) (h : m < runFrom zs i) : zs.getD (i + m) false = true := by
  have := runLen_in (zs.drop i) m h
  simpa [List.getD_eq_getElem?_getD, List.getElem?_drop] using this
theorem runFrom_end (zs : List Bool) (i : Nat) : zs.getD (i + runFrom zs i) false = false := by
  have := runLen_end (zs.drop i)
  simpa [runFrom, List.getD_eq_getElem?_getD, List.getElem?_drop] using this

/-- Where the first one of the longest runs of two or more begins (-1: there is none), and how long it is. -/
def refTo (zs : List Bool) : Nat → Int × Int
  | 0 => (-1, 1)
  | k + 1 => if (refTo zs k).2 < (runFrom zs k : Int) then ((k : Int), (runFrom zs k : Int)) else refTo zs k
theorem refTo_bd (zs : List Bool) (h : zs.length ≤ 8) (k : Nat) (hk : k ≤ 8) : -1 ≤ (refTo zs k).1 ∧ (refTo zs k).1 < k ∧ 1 ≤ (refTo zs k).2 ∧ (refTo zs k).2 ≤ 8 := by
  induction k with
  | zero => simp [refTo]
  | succ k ih =>
    have := ih (by omega)
    have h2 := runFrom_le zs k
    simp only [refTo]
    split
    · simp only; omega
    · omega
/-- Both ways to find the run come to the same. -/
theorem pat_same : ∀ b0 b1 b2 b3 b4 b5 b6 b7 : Bool, (if (lzTo [b0, b1, b2, b3, b4, b5, b6, b7] 8).2.2 - (lzTo [b0, b1, b2, b3, b4, b5, b6, b7] 8).2.1 < 2 then refTo [b0, b1, b2, b3, b4, b5, b6, b7] 8 = (-1, 1)
    else refTo [b0, b1, b2, b3, b4, b5, b6, b7] 8 = ((lzTo [b0, b1, b2, b3, b4, b5, b6, b7] 8).2.1, (lzTo [b0, b1, b2, b3, b4, b5, b6, b7] 8).2.2 - (lzTo [b0, b1, b2, b3, b4, b5, b6, b7] 8).2.1)) := by decide +kernel
theorem hexT_len (gs : List Nat) : ∀ t ∈ hexT gs, t.length ≤ 4 := by
  intro t ht
  simp only [hexT, List.mem_map] at ht
  obtain ⟨p, hp, rfl⟩ := ht
  exact numText_len 16 4 p
theorem hexT_get (gs : List Nat) (k : Nat) (h : k < gs.length) (h' : k < (hexT gs).length) : (hexT gs)[k] = numText 16 4 (gs.getD k 0) := by
  simp [hexT, List.getD_eq_getElem?_getD, h]
/-- What stands there when the groups before k have been written, with the run from f up to t left out. -/
def outB (gs : List Nat) (f t k : Nat) : List UInt8 :=
  if k ≤ f then Lib.join ((hexT gs).take k) [58] else Lib.join ((hexT gs).take f) [58] ++ [58, 58] ++ Lib.join (((hexT gs).take k).drop t) [58]
theorem outB_le (gs : List Nat) (f t k : Nat) (h : k ≤ f) : outB gs f t k = Lib.join ((hexT gs).take k) [58] := if_pos h
theorem outB_gt (gs : List Nat) (f t k : Nat) (h : ¬ k ≤ f) : outB gs f t k = Lib.join ((hexT gs).take f) [58] ++ [58, 58] ++ Lib.join (((hexT gs).take k).drop t) [58] := if_neg h
theorem outB_len (gs : List Nat) (f t k : Nat) (h : (hexT gs).length = 8) : (outB gs f t k).length ≤ 100 := by
  have h1 := join_take_len (hexT gs) [58] 4 k (hexT_len gs)
  have h2 := join_take_len (hexT gs) [58] 4 f (hexT_len gs)
  have h3 := join_len_le (((hexT gs).take k).drop t) [58] 4 (fun x hx => hexT_len gs x (List.mem_of_mem_take (List.mem_of_mem_drop hx)))
  have h4 : (((hexT gs).take k).drop t).length ≤ 8 := by rw [List.length_drop, List.length_take]; omega
  rw [h] at h1 h2
  simp at h1 h2 h3
  have h5 : min k (hexT gs).length - t ≤ 8 := by rw [h]; omega
  unfold outB
  split
  · omega
  · simp only [List.length_append, List.length_cons, List.length_nil]; omega
end Go.Proofs.YtojdlhiibffnfabDoor

/-
  The walk of the document's AddrText at an IPv6 address.
-/
namespace Go.Proofs.YtojdlhiibffnfabDoor
open Go.RowKit Go.Sort
set_option linter.unusedVariables false
set_option linter.unusedSimpArgs false

set_option maxHeartbeats 4000000 in
set_option maxRecDepth 100000 in
theorem refText_six (H L : Nat) (h1 : H < 18446744073709551616) (l1 : L < 18446744073709551616) (w : World) :
    Calls Tryd.prog 13 #[.agg #[.bool true, .int .u64 (H : Int), .int .u64 (L : Int)]] w fun e w' => e = .returned (.tuple #[.string ⟨(sixT (grpP H L)).toArray⟩, .int .i64 0]) ∧ Below w.heap.size w w' := by
  have hgl : (grpP H L).length = 8 := rfl
  have hg16 : ∀ u ∈ grpP H L, u < 65536 := by
    intro u hu
    simp only [grpP, List.mem_cons, List.mem_nil_iff, or_false] at hu
    omega
  have hpat := pat_same (H / 281474976710656 % 65536 == 0) (H / 4294967296 % 65536 == 0) (H / 65536 % 65536 == 0) (H % 65536 == 0) (L / 281474976710656 % 65536 == 0) (L / 4294967296 % 65536 == 0) (L / 65536 % 65536 == 0) (L % 65536 == 0)
  have hps := parts_six H L
  obtain ⟨gs, hgs⟩ : ∃ gs, grpP H L = gs := ⟨_, rfl⟩
  obtain ⟨zs, hzs⟩ : ∃ zs, zeroP gs = zs := ⟨_, rfl⟩
  have hpat2 : (if (lzTo zs 8).2.2 - (lzTo zs 8).2.1 < 2 then refTo zs 8 = (-1, 1) else refTo zs 8 = ((lzTo zs 8).2.1, (lzTo zs 8).2.2 - (lzTo zs 8).2.1)) := by rw [← hzs, ← hgs]; exact hpat
  rw [hgs] at hgl hg16 hps
  rw [hgs]
  have hzl : zs.length = 8 := by rw [← hzs]; simp [zeroP, hgl]
  have hzg : ∀ j, j < 8 → zs.getD j false = (gs.getD j 0 == 0) := fun j hj => by rw [← hzs]; exact getD_zero gs j (by omega)
  have hsix : sixT gs = if (lzTo zs 8).2.2 - (lzTo zs 8).2.1 < 2 then Lib.join (hexT gs) [58] else Lib.join (hexT (gs.take (lzTo zs 8).2.1.toNat)) [58] ++ [58, 58] ++ Lib.join (hexT (gs.drop (lzTo zs 8).2.2.toNat)) [58] := by rw [← hzs]; rfl
  have hlb := lzTo_bd zs 8
  obtain ⟨T, hT⟩ : ∃ T, sixT gs = T := ⟨_, rfl⟩
  rw [hT]
  rw [hT] at hsix
  have HP := Lib.hid hpat2; have HZL := Lib.hid hzl; have HZG := Lib.hid hzg; have HSX := Lib.hid hsix; have HGL := Lib.hid hgl; have HG16 := Lib.hid hg16; have HLB := Lib.hid hlb; have HPS := Lib.hid hps
  clear hpat hpat2 hzl hzg hsix hgl hg16 hT hzs hgs hlb hps
  go_enter Tryd.func13, Tryd.ntmps13
  go_wp2_with (first
    | (go_at_call 24; go_in))
  refine (partsOf_six H L (by omega) (by omega) (by omega) (by omega) _ rfl _).mono ?_
  rintro e w1 ⟨v, rfl, hown, hb⟩
  have bb := thenBelow (((Below.refl _ w).alloc (Nat.le_refl _) _).alloc (by simp) _) hb
  clear hb
  rw [HPS.out] at hown
  obtain ⟨g, cap, rfl, hg1, hg2⟩ := hown.form (by omega)
  have HC := Lib.hid (fun j hj => ints_cell hown HGL.out j hj)
  clear hown hg1 hg2 HPS
  go_wp2
  go_loop [8, 9, 41] (fun f b i => ∃ k : Nat, k ≤ 8 ∧ i = .int .i64 k ∧ f = .int .i64 (refTo zs k).1 ∧ b = .int .i64 (refTo zs k).2)
    (fun _ _ i => 8 - (intOf i).toNat)
  case atStart => exact ⟨0, by omega, rfl, rfl, rfl⟩
  case round =>
    obtain ⟨k, hk, rfl, rfl, rfl⟩ := hrel
    by_cases hlt : k < 8
    · have hbd := refTo_bd zs (by rw [HZL.out]; omega) k (by omega)
      have hstep : refTo zs (k + 1) = if (refTo zs k).2 < (runFrom zs k : Int) then ((k : Int), (runFrom zs k : Int)) else refTo zs k := rfl
      have hrl := runFrom_le zs k
      rw [HZL.out] at hrl
      have HIN := Lib.hid (runFrom_in zs k)
      have HEND := Lib.hid (runFrom_end zs k)
      obtain ⟨R, hR⟩ : ∃ R, runFrom zs k = R := ⟨_, rfl⟩
      obtain ⟨F, hF⟩ : ∃ F, (refTo zs k).1 = F := ⟨_, rfl⟩
      obtain ⟨B, hB⟩ : ∃ B, (refTo zs k).2 = B := ⟨_, rfl⟩
      have hFB : refTo zs k = (F, B) := by rw [← hF, ← hB]
      rw [hR] at hstep hrl HIN HEND
      rw [hFB] at hstep hbd
      rw [hF, hB]
      have HSTEP := Lib.hid hstep
      obtain ⟨c1, c2, c3, c4⟩ := hbd
      simp only at c1 c2 c3 c4
      clear hstep hR hF hB hFB
      go_wp2
      go_loop [11] (fun n => ∃ m : Nat, m ≤ R ∧ n = .int .i64 m) (fun n => 8 - (intOf n).toNat)
      case atStart => exact ⟨0, by omega, rfl⟩
      case round =>
        obtain ⟨m, hm, rfl⟩ := hrel
        by_cases hmr : m < R
        · have hz := HIN.out m hmr
          rw [HZG.out (k + m) (by omega)] at hz
          have hp0 : gs.getD (k + m) 0 = 0 := by simpa using hz
          have hcell : w1.cell? ⟨g, k + m, none⟩ = some (.int .i64 0) := by have h := HC.out (k + m) (by omega); rw [hp0] at h; exact h
          have hlt2 : (k : Int) + m < 8 := by omega
          clear hz hp0
          go_wp2
          go_round
          case rel => exact ⟨m + 1, by omega, by go_num⟩
          case measure => simp [intOf]; omega
        · obtain rfl : m = R := by omega
          by_cases he : k + m < 8
          · have hz := HEND.out
            rw [HZG.out (k + m) he] at hz
            obtain ⟨p, hp⟩ : ∃ p, gs.getD (k + m) 0 = p := ⟨_, rfl⟩
            have hcell : w1.cell? ⟨g, k + m, none⟩ = some (.int .i64 (p : Int)) := by have h := HC.out (k + m) he; rw [hp] at h; exact h
            have hpn : ((p : Int) == 0) = false := by rw [hp] at hz; simp at hz; simp; omega
            have hlt2 : (k : Int) + m < 8 := by omega
            clear hz hp
            by_cases hB : B < (m : Int)
            · have hfin : Hid (refTo zs (k + 1) = ((k : Int), (m : Int))) := by show _ = _; rw [HSTEP.out, if_pos hB]
              go_wp2
              go_round
              case rel => exact ⟨k + 1, by omega, by go_num, by rw [hfin.out], by rw [hfin.out]⟩
              case measure => simp [intOf]; omega
            · have hfin : Hid (refTo zs (k + 1) = (F, B)) := by show _ = _; rw [HSTEP.out, if_neg hB]
              go_wp2
              go_round
              case rel => exact ⟨k + 1, by omega, by go_num, by rw [hfin.out], by rw [hfin.out]⟩
              case measure => simp [intOf]; omega
          · have hge : ¬ (k : Int) + m < 8 := by omega
            have hgeb : decide ((k : Int) + m < 8) = false := decide_eq_false hge
            by_cases hB : B < (m : Int)
            · have hfin : Hid (refTo zs (k + 1) = ((k : Int), (m : Int))) := by show _ = _; rw [HSTEP.out, if_pos hB]
              go_wp2
              go_round
              case rel => exact ⟨k + 1, by omega, by go_num, by rw [hfin.out], by rw [hfin.out]⟩
              case measure => simp [intOf]; omega
            · have hfin : Hid (refTo zs (k + 1) = (F, B)) := by show _ = _; rw [HSTEP.out, if_neg hB]
              go_wp2
              go_round
              case rel => exact ⟨k + 1, by omega, by go_num, by rw [hfin.out], by rw [hfin.out]⟩
              case measure => simp [intOf]; omega
    · obtain rfl : k = 8 := by omega
      have hhl : (hexT gs).length = 8 := by simp [hexT, HGL.out]
      have HHL := Lib.hid hhl
      clear hhl
      by_cases hpt : (lzTo zs 8).2.2 - (lzTo zs 8).2.1 < 2
      · have hp1 := HP.out
        rw [if_pos hpt] at hp1
        have hT := HSX.out
        rw [if_pos hpt] at hT
        have HTX := Lib.hid hT
        have e1 : (refTo zs 8).1 = -1 := by rw [hp1]
        have e2 : (refTo zs 8).2 = 1 := by rw [hp1]
        rw [e1, e2]
        clear hpt hp1 hT e1 e2 HP HSX HLB
        go_wp2
        go_loop [4, 12] (fun o i => ∃ k : Nat, k ≤ 8 ∧ i = .int .i64 k ∧ o = .string ⟨(Lib.join ((hexT gs).take k) [58]).toArray⟩) (fun _ i => 8 - (intOf i).toNat)
        case atStart => exact ⟨0, by omega, rfl, rfl⟩
        case round =>
          obtain ⟨k, hk, rfl, rfl⟩ := hrel
          have hkm : ((k : Int) == -1) = false := by simp <;> omega
          by_cases hlt : k < 8
          · have hcell := HC.out k hlt
            have hkg : k < gs.length := by rw [HGL.out]; exact hlt
            have hkl : k < (hexT gs).length := by rw [HHL.out]; exact hlt
            obtain ⟨p, hp⟩ : ∃ p, gs.getD k 0 = p := ⟨_, rfl⟩
            have hp16 : p < 65536 := by
              rw [← hp, List.getD_eq_getElem?_getD, List.getElem?_eq_getElem hkg]; exact HG16.out _ (List.getElem_mem hkg)
            have ht := hexT_get gs k hkg hkl
            rw [hp] at hcell ht
            obtain ⟨t1, htt⟩ : ∃ t1, numText 16 4 p = t1 := ⟨_, rfl⟩
            have htl := numText_len 16 4 p
            have c := numberText_calls 16 (.inr rfl) 4 p (by omega) (by omega) (by omega) (by omega)
            rw [htt] at c htl ht
            have C := Lib.hid c
            have HTT := Lib.hid ht
            clear c htt ht hp
            have hsucc : (hexT gs).take (k + 1) = (hexT gs).take k ++ [t1] := by rw [List.take_succ_eq_append_getElem hkl]; exact congrArg (fun x => (hexT gs).take k ++ [x]) HTT.out
            have HSU := Lib.hid hsucc
            clear hsucc
            by_cases h0 : k = 0
            · subst h0
              obtain ⟨A, hA⟩ : ∃ A, Lib.join ((hexT gs).take 0) [58] = A := ⟨_, rfl⟩
              rw [hA]
              have hlen : A.length ≤ 100 := by rw [← hA]; simp [Lib.join_nil]
              have ha2 : ∀ W, (Op.stringOp .add ⟨A.toArray⟩ ⟨t1.toArray⟩).run Tryd.prog W = .ok (.string ⟨(A ++ t1).toArray⟩) W := fun W => run_string_add_lists W A t1 (by omega) (by omega)
              obtain ⟨D, hD⟩ : ∃ D, A ++ t1 = D := ⟨_, rfl⟩
              rw [hD] at ha2
              have hfin : Hid (Lib.join ((hexT gs).take (0 + 1)) [58] = D) := by
                show _ = _
                rw [HSU.out, show (hexT gs).take 0 = [] from rfl, List.nil_append, Lib.join_one, ← hD, ← hA]; rfl
              clear hA hD hlen
              go_wp2_with (go_at_call 26; refine (C.out _).mono ?_; rintro e w2 ⟨rfl, rfl⟩)
              go_round
              case rel => exact ⟨0 + 1, by omega, by go_num, by rw [hfin.out]⟩
              case measure => simp [intOf]
            · have hkp : 0 < (k : Int) := by omega
              have hkn : ((k : Int) != 0) = true := by simp; omega
              have hne : (hexT gs).take k ≠ [] := fun h => by have := congrArg List.length h; rw [List.length_take, HHL.out] at this; simp at this; omega
              obtain ⟨A, hA⟩ : ∃ A, Lib.join ((hexT gs).take k) [58] = A := ⟨_, rfl⟩
              rw [hA]
              have hlen : A.length ≤ 100 := by rw [← hA]; have := join_take_len (hexT gs) [58] 4 k (hexT_len gs); rw [HHL.out] at this; simp at this; omega
              have ha1 : ∀ W, (Op.stringOp .add ⟨A.toArray⟩ ⟨#[58]⟩).run Tryd.prog W = .ok (.string ⟨(A ++ [58]).toArray⟩) W := fun W => run_string_add_lists W A [58] (by omega) (by simp)
              have ha2 : ∀ W, (Op.stringOp .add ⟨(A ++ [58]).toArray⟩ ⟨t1.toArray⟩).run Tryd.prog W = .ok (.string ⟨(A ++ [58] ++ t1).toArray⟩) W := fun W => run_string_add_lists W (A ++ [58]) t1 (by simp; omega) (by omega)
              obtain ⟨AC, hAC⟩ : ∃ AC, A ++ [58] = AC := ⟨_, rfl⟩
              obtain ⟨D, hD⟩ : ∃ D, AC ++ t1 = D := ⟨_, rfl⟩
              rw [hAC] at ha1 ha2
              rw [hD] at ha2
              have hfin : Hid (Lib.join ((hexT gs).take (k + 1)) [58] = D) := by
                show _ = _
                rw [HSU.out, join_snoc _ _ _ hne]
                rw [hA, hAC, hD]
              clear hA hAC hD hlen
              go_wp2_with (go_at_call 26; refine (C.out _).mono ?_; rintro e w2 ⟨rfl, rfl⟩)
              go_round
              case rel => exact ⟨k + 1, by omega, by go_num, by rw [hfin.out]⟩
              case measure => simp [intOf]; omega
          · obtain rfl : k = 8 := by omega
            have hfin : Hid (Lib.join ((hexT gs).take 8) [58] = T) := by show _ = _; rw [HTX.out, show (hexT gs).take 8 = hexT gs from List.take_of_length_le (by rw [HHL.out]; omega)]
            go_wp2
            go_ret2
            exact ⟨by rw [← hfin.out]; rfl, bb⟩
      · have hp1 := HP.out
        rw [if_neg hpt] at hp1
        have hT := HSX.out
        rw [if_neg hpt] at hT
        obtain ⟨b1, b2, b3, b4, b5⟩ := HLB.out
        obtain ⟨f, hf⟩ := Int.eq_ofNat_of_zero_le b3
        obtain ⟨t, htn⟩ := Int.eq_ofNat_of_zero_le (Int.le_trans b3 b4)
        rw [hf, htn] at hp1 hT hpt
        rw [htn] at b5
        simp only [Int.toNat_natCast] at hT
        obtain ⟨n, rfl⟩ : ∃ n, t = f + n := ⟨t - f, by omega⟩
        have e1 : (refTo zs 8).1 = (f : Int) := by rw [hp1]
        have e2 : (refTo zs 8).2 = (n : Int) := by rw [hp1]; simp only; omega
        rw [e1, e2]
        have hn2 : 2 ≤ n := by omega
        have ht8 : f + n ≤ 8 := by omega
        have HTX := Lib.hid hT
        clear hpt hp1 hT e1 e2 HP HSX HLB b1 b2 b3 b4 b5 hf htn
        go_wp2
        go_loop [4, 12] (fun o i => ∃ k : Nat, k ≤ 8 ∧ (k ≤ f ∨ f + n ≤ k) ∧ i = .int .i64 k ∧ o = .string ⟨(outB gs f (f + n) k).toArray⟩) (fun _ i => 8 - (intOf i).toNat)
        case atStart => exact ⟨0, by omega, by omega, rfl, by rw [outB_le _ _ _ _ (by omega)]; rfl⟩
        case round =>
          obtain ⟨k, hk, hside, rfl, rfl⟩ := hrel
          have HSIDE := Lib.hid hside
          clear hside
          by_cases hlt : k < 8
          · by_cases hkf : k = f
            · subst hkf
              obtain ⟨A, hA⟩ : ∃ A, outB gs k (k + n) k = A := ⟨_, rfl⟩
              rw [hA]
              have hlen : A.length ≤ 100 := by rw [← hA]; exact outB_len gs k (k + n) _ HHL.out
              have ha1 : ∀ W, (Op.stringOp .add ⟨A.toArray⟩ ⟨#[58, 58]⟩).run Tryd.prog W = .ok (.string ⟨(A ++ [58, 58]).toArray⟩) W := fun W => run_string_add_lists W A [58, 58] (by omega) (by simp)
              obtain ⟨D, hD⟩ : ∃ D, A ++ [58, 58] = D := ⟨_, rfl⟩
              rw [hD] at ha1
              have hfin : Hid (outB gs k (k + n) (k + n) = D) := by
                show _ = _
                rw [← hD, ← hA, outB_gt gs k (k + n) (k + n) (by omega), outB_le gs k (k + n) k (by omega), List.drop_of_length_le (by rw [List.length_take]; omega), Lib.join_nil, List.append_nil]
              clear hA hD hlen
              go_wp2
              go_round
              case rel => exact ⟨k + n, by omega, by omega, by go_num, by rw [hfin.out]⟩
              case measure => simp [intOf]; omega
            · have hkfb : ((k : Int) == (f : Int)) = false := by simp; omega
              have hcell := HC.out k hlt
              have hkg : k < gs.length := by rw [HGL.out]; exact hlt
              have hkl : k < (hexT gs).length := by rw [HHL.out]; exact hlt
              obtain ⟨p, hp⟩ : ∃ p, gs.getD k 0 = p := ⟨_, rfl⟩
              have hp16 : p < 65536 := by
                rw [← hp, List.getD_eq_getElem?_getD, List.getElem?_eq_getElem hkg]; exact HG16.out _ (List.getElem_mem hkg)
              have ht := hexT_get gs k hkg hkl
              rw [hp] at hcell ht
              obtain ⟨t1, htt⟩ : ∃ t1, numText 16 4 p = t1 := ⟨_, rfl⟩
              have htl := numText_len 16 4 p
              have c := numberText_calls 16 (.inr rfl) 4 p (by omega) (by omega) (by omega) (by omega)
              rw [htt] at c htl ht
              have C := Lib.hid c
              have HTT := Lib.hid ht
              clear c htt ht hp
              have hsucc : (hexT gs).take (k + 1) = (hexT gs).take k ++ [t1] := by rw [List.take_succ_eq_append_getElem hkl]; exact congrArg (fun x => (hexT gs).take k ++ [x]) HTT.out
              have HSU := Lib.hid hsucc
              clear hsucc
              by_cases hlow : k < f
              · by_cases h0 : k = 0
                · subst h0
                  obtain ⟨A, hA⟩ : ∃ A, outB gs f (f + n) 0 = A := ⟨_, rfl⟩
                  rw [hA]
                  have hlen : A.length ≤ 100 := by rw [← hA]; exact outB_len gs f (f + n) _ HHL.out
                  have ha2 : ∀ W, (Op.stringOp .add ⟨A.toArray⟩ ⟨t1.toArray⟩).run Tryd.prog W = .ok (.string ⟨(A ++ t1).toArray⟩) W := fun W => run_string_add_lists W A t1 (by omega) (by omega)
                  obtain ⟨D, hD⟩ : ∃ D, A ++ t1 = D := ⟨_, rfl⟩
                  rw [hD] at ha2
                  have hfin : Hid (outB gs f (f + n) (0 + 1) = D) := by
                    show _ = _
                    rw [← hD, ← hA, outB_le gs f (f + n) (0 + 1) (by omega), HSU.out, outB_le gs f (f + n) 0 (by omega), show (hexT gs).take 0 = [] from rfl, List.nil_append, Lib.join_one]; rfl
                  clear hA hD hlen
                  go_wp2_with (go_at_call 26; refine (C.out _).mono ?_; rintro e w2 ⟨rfl, rfl⟩)
                  go_round
                  case rel => exact ⟨0 + 1, by omega, by omega, by go_num, by rw [hfin.out]⟩
                  case measure => simp [intOf]
                · have hkp : 0 < (k : Int) := by omega
                  have hkn : ((k : Int) != (f : Int) + n) = true := by simp; omega
                  have hne : (hexT gs).take k ≠ [] := fun h => by have := congrArg List.length h; rw [List.length_take, HHL.out] at this; simp at this; omega
                  obtain ⟨A, hA⟩ : ∃ A, outB gs f (f + n) k = A := ⟨_, rfl⟩
                  rw [hA]
                  have hlen : A.length ≤ 100 := by rw [← hA]; exact outB_len gs f (f + n) _ HHL.out
                  have ha1 : ∀ W, (Op.stringOp .add ⟨A.toArray⟩ ⟨#[58]⟩).run Tryd.prog W = .ok (.string ⟨(A ++ [58]).toArray⟩) W := fun W => run_string_add_lists W A [58] (by omega) (by simp)
                  have ha2 : ∀ W, (Op.stringOp .add ⟨(A ++ [58]).toArray⟩ ⟨t1.toArray⟩).run Tryd.prog W = .ok (.string ⟨(A ++ [58] ++ t1).toArray⟩) W := fun W => run_string_add_lists W (A ++ [58]) t1 (by simp; omega) (by omega)
                  obtain ⟨AC, hAC⟩ : ∃ AC, A ++ [58] = AC := ⟨_, rfl⟩
                  obtain ⟨D, hD⟩ : ∃ D, AC ++ t1 = D := ⟨_, rfl⟩
                  rw [hAC] at ha1 ha2
                  rw [hD] at ha2
                  have hfin : Hid (outB gs f (f + n) (k + 1) = D) := by
                    show _ = _
                    rw [← hD, ← hAC, ← hA, outB_le gs f (f + n) (k + 1) (by omega), HSU.out, join_snoc _ _ _ hne, outB_le gs f (f + n) k (by omega)]
                  clear hA hAC hD hlen
                  go_wp2_with (go_at_call 26; refine (C.out _).mono ?_; rintro e w2 ⟨rfl, rfl⟩)
                  go_round
                  case rel => exact ⟨k + 1, by omega, by omega, by go_num, by rw [hfin.out]⟩
                  case measure => simp [intOf]; omega
              · have hkt : f + n ≤ k := by have := HSIDE.out; omega
                have hkp : 0 < (k : Int) := by omega
                have hf0 : ¬ (f : Int) < 0 := by omega
                have hdr : ((hexT gs).take (k + 1)).drop (f + n) = ((hexT gs).take k).drop (f + n) ++ [t1] := by rw [HSU.out, List.drop_append_of_le_length (by rw [List.length_take, HHL.out]; omega)]
                have HDR := Lib.hid hdr
                clear hdr
                by_cases hkt2 : k = f + n
                · have hkn : ((k : Int) != (f : Int) + n) = false := by simp; omega
                  have hd0 : ((hexT gs).take k).drop (f + n) = [] := List.drop_of_length_le (by rw [List.length_take]; omega)
                  have HD0 := Lib.hid hd0
                  have HK := Lib.hid hkt2
                  clear hd0 hkt2
                  obtain ⟨A, hA⟩ : ∃ A, outB gs f (f + n) k = A := ⟨_, rfl⟩
                  rw [hA]
                  have hlen : A.length ≤ 100 := by rw [← hA]; exact outB_len gs f (f + n) _ HHL.out
                  have ha2 : ∀ W, (Op.stringOp .add ⟨A.toArray⟩ ⟨t1.toArray⟩).run Tryd.prog W = .ok (.string ⟨(A ++ t1).toArray⟩) W := fun W => run_string_add_lists W A t1 (by omega) (by omega)
                  obtain ⟨D, hD⟩ : ∃ D, A ++ t1 = D := ⟨_, rfl⟩
                  rw [hD] at ha2
                  have hfin : Hid (outB gs f (f + n) (k + 1) = D) := by
                    show _ = _
                    rw [← hD, ← hA, outB_gt gs f (f + n) (k + 1) (by omega), HDR.out, outB_gt gs f (f + n) k (by omega), HD0.out, List.nil_append, Lib.join_one, Lib.join_nil, List.append_nil]
                  clear hA hD hlen
                  go_wp2_with (go_at_call 26; refine (C.out _).mono ?_; rintro e w2 ⟨rfl, rfl⟩)
                  go_round
                  case rel => exact ⟨k + 1, by omega, by omega, by go_num, by rw [hfin.out]⟩
                  case measure => simp [intOf]; omega
                · have hkn : ((k : Int) != (f : Int) + n) = true := by simp; omega
                  have hne : ((hexT gs).take k).drop (f + n) ≠ [] := fun h => by have := congrArg List.length h; rw [List.length_drop, List.length_take, HHL.out] at this; simp at this; omega
                  obtain ⟨A, hA⟩ : ∃ A, outB gs f (f + n) k = A := ⟨_, rfl⟩
                  rw [hA]
                  have hlen : A.length ≤ 100 := by rw [← hA]; exact outB_len gs f (f + n) _ HHL.out
                  have ha1 : ∀ W, (Op.stringOp .add ⟨A.toArray⟩ ⟨#[58]⟩).run Tryd.prog W = .ok (.string ⟨(A ++ [58]).toArray⟩) W := fun W => run_string_add_lists W A [58] (by omega) (by simp)
                  have ha2 : ∀ W, (Op.stringOp .add ⟨(A ++ [58]).toArray⟩ ⟨t1.toArray⟩).run Tryd.prog W = .ok (.string ⟨(A ++ [58] ++ t1).toArray⟩) W := fun W => run_string_add_lists W (A ++ [58]) t1 (by simp; omega) (by omega)
                  obtain ⟨AC, hAC⟩ : ∃ AC, A ++ [58] = AC := ⟨_, rfl⟩
                  obtain ⟨D, hD⟩ : ∃ D, AC ++ t1 = D := ⟨_, rfl⟩
                  rw [hAC] at ha1 ha2
                  rw [hD] at ha2
                  have hfin : Hid (outB gs f (f + n) (k + 1) = D) := by
                    show _ = _
                    rw [← hD, ← hAC, ← hA, outB_gt gs f (f + n) (k + 1) (by omega), HDR.out, join_snoc _ _ _ hne, outB_gt gs f (f + n) k (by omega)]; simp only [List.append_assoc]
                  clear hA hAC hD hlen
                  go_wp2_with (go_at_call 26; refine (C.out _).mono ?_; rintro e w2 ⟨rfl, rfl⟩)
                  go_round
                  case rel => exact ⟨k + 1, by omega, by omega, by go_num, by rw [hfin.out]⟩
                  case measure => simp [intOf]; omega
          · obtain rfl : k = 8 := by omega
            have hfin : Hid (outB gs f (f + n) 8 = T) := by
              show _ = _
              rw [HTX.out, outB_gt gs f (f + n) 8 (by omega), show (hexT gs).take 8 = hexT gs from List.take_of_length_le (by rw [HHL.out]; omega)]
              simp only [hexT, List.map_take, List.map_drop]
            go_wp2
            go_ret2
            exact ⟨by rw [← hfin.out]; rfl, bb⟩
end Go.Proofs.YtojdlhiibffnfabDoor


namespace Go.Proofs.YtojdlhiibffnfabDoor
open Go.RowKit Go.Sort
set_option linter.unusedVariables false
set_option linter.unusedSimpArgs false

set_option maxHeartbeats 400000 in
theorem refText_no (hi lo : Int) (h0 : 0 ≤ hi) (l0 : 0 ≤ lo) (hm : ¬ (hi = 0 ∧ lo < 4294967296)) (w : World) :
    Calls Tryd.prog 13 #[.agg #[.bool false, .int .u64 hi, .int .u64 lo]] w fun e w' => e = .returned (.tuple #[.string ⟨#[]⟩, .int .i64 4]) ∧ Below w.heap.size w w' := by
  by_cases hz : hi = 0
  · subst hz
    have hl : ¬ lo ≤ 4294967295 := fun h => hm ⟨rfl, by omega⟩
    clear hm
    go_enter Tryd.func13, Tryd.ntmps13
    go_wp2_with (first | (go_at_call 24; go_in))
    go_ret2
    exact ⟨rfl, by go_grown⟩
  · have hz' : (hi == 0) = false := by simpa using hz
    clear hm
    go_enter Tryd.func13, Tryd.ntmps13
    go_wp2_with (first | (go_at_call 24; go_in))
    go_ret2
    exact ⟨rfl, by go_grown⟩

theorem refText_calls (six : Bool) (H L : Nat) (h1 : H < 18446744073709551616) (l1 : L < 18446744073709551616) (w : World) :
    Calls Tryd.prog 13 #[.agg #[.bool six, .int .u64 (H : Int), .int .u64 (L : Int)]] w fun e w' => e = .returned (.tuple #[.string ⟨(textL six H L).toArray⟩, .int .i64 (textE six H L)]) ∧ Below w.heap.size w w' := by
  cases six
  · by_cases hm : H = 0 ∧ L < 4294967296
    · have e1 : textL false H L = Lib.join (fourT L) [46] := by simp [textL, hm]
      have e2 : textE false H L = 0 := by simp [textE, hm]
      rw [e1, e2]
      obtain ⟨rfl, hl⟩ := hm
      exact refText_four L hl w
    · have e1 : textL false H L = [] := by unfold textL; rw [if_neg (by decide), if_neg hm]
      have e2 : textE false H L = 4 := by unfold textE; rw [if_neg (by decide), if_neg hm]
      rw [e1, e2]
      exact refText_no H L (by omega) (by omega) (by omega) w
  · exact refText_six H L h1 l1 w
end Go.Proofs.YtojdlhiibffnfabDoor
