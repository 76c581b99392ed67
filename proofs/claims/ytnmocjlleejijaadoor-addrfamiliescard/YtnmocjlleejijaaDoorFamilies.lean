/-
  PROVED: whipcordkeep.AddrFamilies returns true for every argument, and it reads afterwards as it read before.
-/
import Derived.Test.YtnmocjlleejijaaDoorLaid
import Derived.Test.YtnmocjlleejijaaDoorChars
import Derived.Test.YtnmocjlleejijaaDoorAddrOf
import Derived.Test.YtnmocjlleejijaaDoorAddrAt
import Derived.Test.YtnmocjlleejijaaDoorShapesRaw
namespace Go.Proofs.YtnmocjlleejijaaDoor
open Go.ChangeShapes Go.WideShapes Go.ChangeAt Go.RowKit Go.Joins
set_option linter.unusedVariables false
set_option linter.unusedSimpArgs false

theorem index_list (T : List UInt8) (k : Nat) (h : k < T.length) (W : World) :
    (Instr.index 9 (.string ⟨T.toArray⟩) (.int .i64 (k : Int))).run Tryd.prog W = .ok (.int .u8 ((T[k].toNat : Nat) : Int)) W := by
  have hs : (⟨T.toArray⟩ : ByteArray).size = T.length := by simp [ByteArray.size]
  rw [run_index_string (h := Tryd.underlying9), dif_pos ⟨by omega, by omega⟩]
  rfl

theorem count_take_succ (T : List UInt8) (c : UInt8) (k : Nat) (h : k < T.length) : (T.take (k + 1)).count c = (T.take k).count c + if T[k] = c then 1 else 0 := by
  rw [List.take_succ_eq_append_getElem h, List.count_append]
  by_cases hc : T[k] = c <;> simp [List.count_cons, hc]

set_option maxHeartbeats 1000000 in
set_option maxRecDepth 100000 in
theorem Families.walk (six : Bool) (hi lo : Int) (h0 : 0 ≤ hi) (h1 : hi ≤ 18446744073709551615) (l0 : 0 ≤ lo) (l1 : lo ≤ 18446744073709551615) (w : World) (ht : Tabs w) :
    Calls Tryd.prog 6 #[.agg #[.bool six, .int .u64 hi, .int .u64 lo]] w fun e w' => e = .returned (.bool true) ∧ Below w.heap.size w w' := by
  obtain ⟨o1, o2, o3, o4, o5⟩ := of_ok six hi lo h0 h1 l0 l1
  have c0 := addrOfRaw_calls six hi lo h0 l0 l1
  obtain ⟨H, hH⟩ := Int.eq_ofNat_of_zero_le o1
  obtain ⟨L, hL⟩ := Int.eq_ofNat_of_zero_le o3
  have c1 := text_calls six H L (by omega) (by omega)
  obtain ⟨T, hT⟩ : ∃ T, textL six H L = T := ⟨_, rfl⟩
  have hE : textE six H L = 0 := by
    cases six
    · rw [hH, hL] at o5
      simp [mayB] at o5
      simp [textE]; omega
    · rfl
  have hfacts : T.length ≤ 39 ∧ (if six then T.count 46 = 0 ∧ 2 ≤ T.count 58 ∧ T.count 58 ≤ 7 ∧ T.length ≤ 39 else T.count 58 = 0 ∧ T.count 46 = 3 ∧ T.length ≤ 15 ∧ 7 ≤ T.length) := by
    rw [← hT]
    cases six
    · rw [hH, hL] at o5
      simp [mayB] at o5
      have hh : textL false H L = Lib.join (fourT L) [46] := by simp [textL]; omega
      rw [hh]
      have := four_facts L
      exact ⟨by omega, by simpa using this⟩
    · have := six_facts (grpP H L) rfl
      have hh : textL true H L = sixT (grpP H L) := rfl
      rw [hh]
      exact ⟨this.2.2.2, by simpa using this⟩
  rw [hT, hE] at c1
  rw [hH, hL] at c0
  have C0 := Lib.hid c0
  have C1 := Lib.hid c1
  have HT := Lib.hid ht
  have HF := Lib.hid hfacts.2
  have hlen := hfacts.1
  clear c0 c1 ht hfacts hT hE hH hL o1 o2 o3 o4 o5
  go_enter Tryd.func6, Tryd.ntmps6
  go_wp2_with (first
    | (go_at_call 11; refine (C0.out _).mono ?_; rintro e w1 ⟨rfl, hb1⟩; have T1 := Tabs.keep (HT.out.alloc _) hb1)
    | (go_at_call 7; refine (C1.out _ (T1.alloc _)).mono ?_; rintro e w2 ⟨rfl, hb2⟩; have A2 := AddrAt.keep (by exact AddrAt.new w1 six H L 24) hb2; obtain ⟨a0, a1, a2, a3⟩ := A2))
  have bb := thenBelow ((thenBelow ((Below.refl _ w).alloc (Nat.le_refl _) _) hb1).alloc (by have := hb1.size; simp at this; omega) _) hb2
  have hsz : (⟨T.toArray⟩ : ByteArray).size = T.length := by simp [ByteArray.size]
  have BB := Lib.hid bb
  clear hb1 hb2 T1 HT C0 C1 bb
  go_loop [6, 7, 8] (fun c d i => ∃ k : Nat, k ≤ T.length ∧ i = .int .i64 k ∧ c = .int .i64 ((T.take k).count 58 : Nat) ∧ d = .int .i64 ((T.take k).count 46 : Nat)) (fun _ _ i => T.length - (intOf i).toNat)
  case atStart => exact ⟨0, by omega, rfl, rfl, rfl⟩
  case round =>
    obtain ⟨k, hk, rfl, rfl, rfl⟩ := hrel
    by_cases hlt : k < T.length
    · have hx := index_list T k hlt
      have s58 := count_take_succ T 58 k hlt
      have s46 := count_take_succ T 46 k hlt
      have b58 : (T.take k).count 58 ≤ k := Nat.le_trans List.count_le_length (by simp; omega)
      have b46 : (T.take k).count 46 ≤ k := Nat.le_trans List.count_le_length (by simp; omega)
      obtain ⟨x, ex⟩ : ∃ x, T[k] = x := ⟨_, rfl⟩
      rw [ex] at hx s58 s46
      obtain ⟨u, eu⟩ : ∃ u, (T.take k).count 58 = u := ⟨_, rfl⟩
      obtain ⟨v, ev⟩ : ∃ v, (T.take k).count 46 = v := ⟨_, rfl⟩
      rw [eu] at s58 b58 ⊢
      rw [ev] at s46 b46 ⊢
      clear eu ev ex
      have hlt2 : (k : Int) < (T.length : Int) := by omega
      by_cases x58 : x = 58
      · subst x58
        rw [if_pos rfl] at s58
        rw [if_neg (by decide)] at s46
        have S58 := Lib.hid s58; have S46 := Lib.hid s46
        clear s58 s46
        go_wp2
        go_round
        case rel => exact ⟨k + 1, by omega, by go_num, by rw [S58.out]; go_num, by rw [S46.out]; rfl⟩
        case measure => simp [intOf]; omega
      · by_cases x46 : x = 46
        · subst x46
          rw [if_neg (by decide)] at s58
          rw [if_pos rfl] at s46
          have S58 := Lib.hid s58; have S46 := Lib.hid s46
          clear s58 s46 x58
          go_wp2
          go_round
          case rel => exact ⟨k + 1, by omega, by go_num, by rw [S58.out]; rfl, by rw [S46.out]; go_num⟩
          case measure => simp [intOf]; omega
        · rw [if_neg x58] at s58
          rw [if_neg x46] at s46
          have n58 : (((x.toNat : Nat) : Int) == 58) = false := by
            simp only [beq_eq_false_iff_ne]; intro h; exact x58 (UInt8.toNat_inj.1 (by show x.toNat = 58; omega))
          have n46 : (((x.toNat : Nat) : Int) == 46) = false := by
            simp only [beq_eq_false_iff_ne]; intro h; exact x46 (UInt8.toNat_inj.1 (by show x.toNat = 46; omega))
          have S58 := Lib.hid s58; have S46 := Lib.hid s46
          clear s58 s46 x58 x46
          go_wp2
          go_round
          case rel => exact ⟨k + 1, by omega, by go_num, by rw [S58.out]; rfl, by rw [S46.out]; rfl⟩
          case measure => simp [intOf]; omega
    · obtain rfl : k = T.length := by omega
      rw [List.take_length]
      obtain ⟨u, eu⟩ : ∃ u, T.count 58 = u := ⟨_, rfl⟩
      obtain ⟨v, ev⟩ : ∃ v, T.count 46 = v := ⟨_, rfl⟩
      have hf := HF.out
      rw [eu, ev] at hf ⊢
      clear eu ev HF
      cases six
      · simp only [Bool.false_eq_true, if_false] at hf
        obtain ⟨rfl, rfl, f3, f4⟩ := hf
        go_wp2
        go_ret
        exact ⟨by simp; omega, BB.out⟩
      · simp only [if_true] at hf
        obtain ⟨rfl, f2, f3, f4⟩ := hf
        go_wp2
        go_ret
        exact ⟨by simp; omega, BB.out⟩

theorem Families.own : ownKnob Tryd.prog.godebug = none := by kernel_rfl
set_option maxRecDepth 100000 in
theorem Families.lifted (os : Os) (started : os.Started) (H : Type) (enc : TypeId × Value → H) :
    ReturnsInHanded {} Tryd.checked os 6 .any (fun w args => (Rows.addrFamiliesSpec.pre enc Tryd.prog Tryd.f6 [] false w args ∧ laidMetH Tryd.prog Rows.addrFamiliesRow.laid w) ∧ sizedMet enc Tryd.prog Tryd.f6 (OpenSpec.ofChange Rows.addrFamiliesSpec) false w args) (Rows.addrFamiliesSpec.post enc Tryd.prog Tryd.f6 false true false false) := by
  refine returnsInHanded_of_change_and (C := Tryd.checked) (X := fun w _ => laidMetH Tryd.prog Rows.addrFamiliesRow.laid w) (fun _ _ _ hh h => h.of_heap hh) Families.own started (by kernel_rfl) Tryd.func6
    (ChangeSpec.witness_at (enc := enc) (C := Tryd.checked) (os := os) (X := fun w _ => laidMetH Tryd.prog Rows.addrFamiliesRow.laid w) false (Laid3.world os) #[.agg #[.bool false, .int .u64 0, .int .u64 0]] 8 rfl (by kernel_rfl) (by kernel_rfl) (by kernel_rfl) (by kernel_rfl) (by kernel_rfl) (Laid3.met os _)) ?_
  intro W base args ds gs before hval0 hW hcnd _ hL _
  have hT : Laid3.Tabs W := Laid3.of hL
  have hval : ∀ (j : Nat) t v, Tryd.f6.params[j]? = some t → args[j]? = some v → Value.okWide Tryd.prog W .any base t v := hval0
  have hW' := hW
  obtain ⟨p, q, hA0, hV, rfl, hfz, hnd⟩ := hW
  have hA : DataW.TrodAll enc Tryd.prog W 0 (fun _ => true) true Tryd.f6.params.toList args.toList ds p := hA0
  rw [Tryd.params6] at hA hval
  obtain ⟨v0, vs0, d0, ds0, p0, q0, hargs, rfl, rfl, rd0, r0⟩ := trodAll_cons hA
  obtain ⟨rfl, rfl, rfl⟩ := trodAll_nil r0
  obtain rfl : args = #[v0] := by cases args; simp_all
  obtain ⟨rfl, rfl⟩ := trodVars_none hV
  obtain ⟨s0, h0, l0, rfl, rfl, rfl, wa0, wb0⟩ := openRaw (hval 0 32 v0 rfl rfl) rd0
  clear hA0 hval0
  simp only [List.append_nil] at hW'
  refine (Families.walk s0 h0 l0 (u64_of_wf wa0).1 (u64_of_wf wa0).2 (u64_of_wf wb0).1 (u64_of_wf wb0).2 W hT).mono fun e W' ⟨he, hb⟩ => ?_
  subst he
  exact ⟨_, rfl, postBelow (pa := []) (pv := []) hW' hb (fun _ _ _ => trodAll_cons_mk (shut_bool Tryd.underlying4 _) trodAll_mk0) (fun sp _ => trodAll_cons_mk (shutRaw wa0 wb0) trodAll_mk0) (fun _ _ => rfl) rfl⟩

theorem Families.holds : Rows.AddrFamiliesSaid :=
  OpenClaim.holds_of_wide 6 Tryd.f6 rfl rfl rfl rfl rfl rfl rfl ⟨rfl, rfl, rfl, rfl, rfl⟩ rfl rfl rfl rfl rfl (by kernel_rfl) Tryd.func6 (by kernel_rfl)
    (of_decide_eq_true (by kernel_rfl)) (by unfold Func.isWrapper; first | (rw [if_pos (by decide +kernel)]; kernel_rfl) | (rw [if_neg (by decide +kernel)]; exact ⟨rfl, rfl⟩))
    (fun os started H enc _ => Families.lifted os started H enc)
#print axioms Families.holds
theorem Families.card : Rows.AddrFamiliesCardSaid :=
  Claim7.holds_tied_plain_at .later [] Rows.addrFamiliesCard.laidKinds true Rows.addrFamiliesCard.stood.harness true
    Families.holds (fun _ h => by cases h) (by kernel_rfl) (fun _ h => by cases h) addrFamilies_row_tie rfl ⟨rfl, rfl⟩ (by kernel_rfl) rfl
    (fun f fn hf hfn => by
      obtain rfl : f = 6 := Option.some.inj ((show Tryd.prog.funcNamed "whipcord/whipcordkeep.AddrFamilies" = some 6 by kernel_rfl).symm.trans hf) |>.symm
      obtain rfl : fn = Tryd.f6 := (Option.some.inj (Tryd.func6.symm.trans hfn)).symm
      exact ⟨by kernel_rfl, fun j t ht => by
        rw [Tryd.params6] at ht
        match j, ht with
        | 0, ht => obtain rfl := Option.some.inj ht; exact (show Tryd.prog.wantsStandIn 32 = false by kernel_rfl)
        | j + 1, ht => simp at ht⟩)
    (by kernel_rfl)
#print axioms Families.card
end Go.Proofs.YtnmocjlleejijaaDoor
