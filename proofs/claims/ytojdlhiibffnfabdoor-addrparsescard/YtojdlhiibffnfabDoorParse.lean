/-
  addr.read, addr.Parse.
-/
import Derived.Test.YtojdlhiibffnfabDoorReadSix
namespace Go.Proofs.YtojdlhiibffnfabDoor
open Go.RowKit Go.Sort
set_option linter.unusedVariables false
set_option linter.unusedSimpArgs false

/-- What addr.read reads. -/
def readOf (s : List UInt8) : Option (Bool × Nat × Nat) := if 0 ≤ Lib.indexByte s 58 then sixOf s else fourOf (numsOf 10 255 46 s)

theorem sixOf_lt {s : List UInt8} {six : Bool} {H L : Nat} (h : sixOf s = some (six, H, L)) : H < 18446744073709551616 ∧ L < 18446744073709551616 := by
  obtain ⟨gs, hg, e⟩ := Option.map_eq_some_iff.1 h
  simp only [Prod.mk.injEq] at e
  obtain ⟨rfl, rfl, rfl⟩ := e
  have key : gs.length = 8 ∧ ∀ x ∈ gs, x < 65536 := by
    unfold sixFrom at hg
    split at hg
    · rename_i l r hl hr
      split at hg
      · cases hg
      · rename_i hb
        cases hg
        have h1 := grpsOf_lt hl
        have h2 := grpsOf_lt hr
        refine ⟨by simp; omega, fun x hx => ?_⟩
        rcases List.mem_append.1 hx with hx | hx
        · rcases List.mem_append.1 hx with hx | hx
          · exact h1 x hx
          · rw [List.eq_of_mem_replicate hx]; omega
        · exact h2 x hx
    · cases hg
  have a := hor_lt (gs.take 4) (fun x hx => key.2 x (List.mem_of_mem_take hx))
  have b := hor_lt (gs.drop 4) (fun x hx => key.2 x (List.mem_of_mem_drop hx))
  rw [List.length_take, key.1] at a
  rw [List.length_drop, key.1] at b
  exact ⟨by simpa using a, by simpa using b⟩
theorem fourOf_lt {s : List UInt8} {six : Bool} {H L : Nat} (h : fourOf (numsOf 10 255 46 s) = some (six, H, L)) : H < 18446744073709551616 ∧ L < 18446744073709551616 := by
  unfold fourOf at h
  split at h
  · rename_i a b c d hn
    have := numsOf_le hn
    have ha := this a (by simp)
    have hb := this b (by simp)
    have hc := this c (by simp)
    have hd := this d (by simp)
    simp only [Option.some.injEq, Prod.mk.injEq] at h
    obtain ⟨rfl, rfl, rfl⟩ := h
    omega
  · cases h
theorem readOf_lt {s : List UInt8} {six : Bool} {H L : Nat} (h : readOf s = some (six, H, L)) : H < 18446744073709551616 ∧ L < 18446744073709551616 := by
  unfold readOf at h
  split at h
  · exact sixOf_lt h
  · exact fourOf_lt h

set_option maxHeartbeats 1000000 in
set_option maxRecDepth 100000 in
theorem read_calls (s : List UInt8) (hl : s.length ≤ 600) (w : World) (hr : RTabs w) :
    Calls Tryd.prog 9 #[.string ⟨s.toArray⟩] w fun e w' => ReadOut (readOf s) e ∧ Below w.heap.size w w' := by
  have CC := Lib.hid (Tryd.strings_Contains_one ⟨s.toArray⟩ 58 (w.alloc (.cells #[.bool false, .int .u64 0, .int .u64 0] 24)))
  have RA := hr.alloc (.cells #[.bool false, .int .u64 0, .int .u64 0] 24)
  have C6 := Lib.hid (readSix_calls ⟨s.toArray⟩ s rfl hl _ RA)
  have C4 := Lib.hid (readFour_calls ⟨s.toArray⟩ s rfl hl _ RA)
  have A1 : AddrW (w.alloc (.cells #[.bool false, .int .u64 0, .int .u64 0] 24)) w.heap.size false 0 0 := ⟨AddrAt.new w false 0 0 24, fun o => by simp [go_sem]⟩
  have b1 : Below w.heap.size w (w.alloc (.cells #[.bool false, .int .u64 0, .int .u64 0] 24)) := (Below.refl _ w).alloc (Nat.le_refl _) _
  have HA := Lib.hid A1; have HB := Lib.hid b1
  clear RA hr A1 b1 hl
  by_cases h0 : 0 ≤ Lib.indexByte s 58
  · have hd : decide (0 ≤ Lib.indexByte (⟨s.toArray⟩ : ByteArray).data.toList 58) = true := decide_eq_true h0
    have e1 : readOf s = sixOf s := if_pos h0
    rw [e1]
    rw [hd] at CC
    obtain ⟨R, hR⟩ : ∃ R, sixOf s = R := ⟨_, rfl⟩
    rw [hR] at C6 ⊢
    clear C4 h0 hd e1 hR
    go_enter Tryd.func9, Tryd.ntmps9
    go_wp2_with (go_at_call 18; refine CC.out.mono ?_; rintro e w1 ⟨rfl, rfl⟩)
    refine C6.out.mono ?_
    rintro e w2 ⟨he, hb2⟩
    have A2 := HA.out.keep hb2
    have b2 := thenBelow HB.out hb2
    have ⟨⟨z0, z1, z2, zs⟩, zf⟩ := A2
    have f0 := zf 0; have f1 := zf 1; have f2 := zf 2
    clear C6 CC HA HB zf
    cases R with
    | none =>
      obtain rfl : e = _ := he
      go_wp2
      try simp only [Exit.inBlock, Exit.then]
      refine bodyPost_ret (by simp [results, Tryd.results9, go_sem, z0, z1, z2]; try rfl) rfl ?_
      exact ⟨rfl, ((b2.setCell (by simp) _).setCell (by simp) _).setCell (by simp) _⟩
    | some x =>
      obtain ⟨six, H, L⟩ := x
      obtain rfl : e = _ := he
      go_wp2
      try simp only [Exit.inBlock, Exit.then]
      refine bodyPost_ret (by simp [results, Tryd.results9, go_sem, z0, z1, z2]; try rfl) rfl ?_
      exact ⟨rfl, ((b2.setCell (by simp) _).setCell (by simp) _).setCell (by simp) _⟩
  · have hd : decide (0 ≤ Lib.indexByte (⟨s.toArray⟩ : ByteArray).data.toList 58) = false := decide_eq_false h0
    have e1 : readOf s = fourOf (numsOf 10 255 46 s) := if_neg h0
    rw [e1]
    rw [hd] at CC
    obtain ⟨R, hR⟩ : ∃ R, fourOf (numsOf 10 255 46 s) = R := ⟨_, rfl⟩
    rw [hR] at C4 ⊢
    clear C6 h0 hd e1 hR
    go_enter Tryd.func9, Tryd.ntmps9
    go_wp2_with (go_at_call 18; refine CC.out.mono ?_; rintro e w1 ⟨rfl, rfl⟩)
    refine C4.out.mono ?_
    rintro e w2 ⟨he, hb2⟩
    have A2 := HA.out.keep hb2
    have b2 := thenBelow HB.out hb2
    have ⟨⟨z0, z1, z2, zs⟩, zf⟩ := A2
    have f0 := zf 0; have f1 := zf 1; have f2 := zf 2
    clear C4 CC HA HB zf
    cases R with
    | none =>
      obtain rfl : e = _ := he
      go_wp2
      try simp only [Exit.inBlock, Exit.then]
      refine bodyPost_ret (by simp [results, Tryd.results9, go_sem, z0, z1, z2]; try rfl) rfl ?_
      exact ⟨rfl, ((b2.setCell (by simp) _).setCell (by simp) _).setCell (by simp) _⟩
    | some x =>
      obtain ⟨six, H, L⟩ := x
      obtain rfl : e = _ := he
      go_wp2
      try simp only [Exit.inBlock, Exit.then]
      refine bodyPost_ret (by simp [results, Tryd.results9, go_sem, z0, z1, z2]; try rfl) rfl ?_
      exact ⟨rfl, ((b2.setCell (by simp) _).setCell (by simp) _).setCell (by simp) _⟩

/-- What addr.Parse reads. -/
def parseOf (s : List UInt8) : Option (Bool × Nat × Nat) := match readOf s with
  | some (six, H, L) => if textE six H L = 0 ∧ textL six H L = s then some (six, H, L) else none
  | none => none
def ParseOut (r : Option (Bool × Nat × Nat)) (e : Ending) : Prop := match r with
  | some (six, H, L) => e = .returned (.tuple #[.agg #[.bool six, .int .u64 (H : Int), .int .u64 (L : Int)], .int .i64 0])
  | none => e = .returned (.tuple #[.agg #[.bool false, .int .u64 0, .int .u64 0], .int .i64 4])

set_option maxHeartbeats 1000000 in
set_option maxRecDepth 100000 in
/-- Too long. -/
theorem parse_long (s : List UInt8) (hl : 600 < s.length) (hm : s.length ≤ 9223372036854775807) (w : World) :
    Calls Tryd.prog 5 #[.string ⟨s.toArray⟩] w fun e w' => e = .returned (.tuple #[.agg #[.bool false, .int .u64 0, .int .u64 0], .int .i64 1]) ∧ Below w.heap.size w w' := by
  have hsz : (⟨s.toArray⟩ : ByteArray).size = s.length := by simp [ByteArray.size]
  have hli : 600 < (s.length : Int) := by omega
  go_enter Tryd.func5, Tryd.ntmps5
  go_wp2
  go_returns
  exact ⟨rfl, by go_grown⟩

set_option maxHeartbeats 1000000 in
set_option maxRecDepth 100000 in
theorem parse_calls (s : List UInt8) (hl : s.length ≤ 600) (w : World) (hr : RTabs w) :
    Calls Tryd.prog 5 #[.string ⟨s.toArray⟩] w fun e w' => ParseOut (parseOf s) e ∧ Below w.heap.size w w' := by
  have RA := hr.alloc (.cells #[.bool false, .int .u64 0, .int .u64 0] 24)
  have C := Lib.hid (read_calls s hl _ RA)
  have A1 : AddrW (w.alloc (.cells #[.bool false, .int .u64 0, .int .u64 0] 24)) w.heap.size false 0 0 := ⟨AddrAt.new w false 0 0 24, fun o => by simp [go_sem]⟩
  have b1 : Below w.heap.size w (w.alloc (.cells #[.bool false, .int .u64 0, .int .u64 0] 24)) := (Below.refl _ w).alloc (Nat.le_refl _) _
  have HA := Lib.hid A1; have HB := Lib.hid b1; have HRA := Lib.hid RA
  have hsz : (⟨s.toArray⟩ : ByteArray).size = s.length := by simp [ByteArray.size]
  have hli : (s.length : Int) ≤ 600 := by omega
  obtain ⟨P, hP⟩ : ∃ P, parseOf s = P := ⟨_, rfl⟩
  have hPd : parseOf s = match readOf s with
    | some (six, H, L) => if textE six H L = 0 ∧ textL six H L = s then some (six, H, L) else none
    | none => none := rfl
  have hlt : ∀ six H L, readOf s = some (six, H, L) → H < 18446744073709551616 ∧ L < 18446744073709551616 := fun _ _ _ => readOf_lt
  rw [hP] at hPd ⊢
  obtain ⟨R, hR⟩ : ∃ R, readOf s = R := ⟨_, rfl⟩
  rw [hR] at C hPd hlt
  have HPD := Lib.hid hPd; have HLT := Lib.hid hlt
  clear RA hr A1 b1 hP hR hPd hlt
  go_enter Tryd.func5, Tryd.ntmps5
  go_wp2_with fail
  refine C.out.mono ?_
  rintro e w2 ⟨he, hb2⟩
  have A2 := HA.out.keep hb2
  have b2 := thenBelow HB.out hb2
  have R2 := HRA.out.keep hb2
  clear C HA HB HRA
  cases R with
  | none =>
    obtain rfl : e = _ := he
    have hP2 : P = none := HPD.out
    subst hP2
    have ⟨⟨z0, z1, z2, zs⟩, zf⟩ := A2
    have f0 := zf 0; have f1 := zf 1; have f2 := zf 2
    clear zf HPD HLT R2
    go_wp2
    try simp only [Exit.inBlock, Exit.then]
    refine bodyPost_ret (by simp [results, Tryd.results5, go_sem, z0, z1, z2, zs]; try rfl) rfl ?_
    exact ⟨rfl, (((b2.setCell (by simp) _).setCell (by simp) _).setCell (by simp) _).alloc (by simp; have := b2.size; omega) _⟩
  | some x =>
    obtain ⟨six, H, L⟩ := x
    obtain rfl : e = _ := he
    obtain ⟨hH, hL⟩ := HLT.out six H L rfl
    have hP0 : P = if textE six H L = 0 ∧ textL six H L = s then some (six, H, L) else none := HPD.out
    have CT := Lib.hid (text_calls six H L hH hL (w2.alloc (.cells #[.bool six, .int .u64 (H : Int), .int .u64 (L : Int)] 24)) (R2.1.alloc _))
    obtain ⟨T, hT⟩ : ∃ T, textL six H L = T := ⟨_, rfl⟩
    obtain ⟨E, hE⟩ : ∃ E, textE six H L = E := ⟨_, rfl⟩
    rw [hT, hE] at CT hP0
    have A3 := A2.keep ((Below.refl _ w2).alloc (Nat.le_refl _) (.cells #[.bool six, .int .u64 (H : Int), .int .u64 (L : Int)] 24))
    have b3 := b2.alloc b2.size (.cells #[.bool six, .int .u64 (H : Int), .int .u64 (L : Int)] 24)
    have N3 := AddrAt.new w2 six H L 24
    have HP0 := Lib.hid hP0; have HA3 := Lib.hid A3; have HB3 := Lib.hid b3; have HN3 := Lib.hid N3
    clear hP0 HPD HLT R2 A2 b2 A3 b3 N3 hT hE hb2
    by_cases hgood : E = 0 ∧ T = s
    · obtain ⟨rfl, rfl⟩ := hgood
      have hP2 : P = some (six, H, L) := by rw [HP0.out, if_pos ⟨rfl, rfl⟩]
      subst hP2
      clear HP0
      go_wp2_with (go_at_call 10; refine CT.out.mono ?_; rintro e w3 ⟨rfl, hb3⟩; have A4 := HA3.out.keep hb3; have ⟨⟨z0, z1, z2, zs⟩, zf⟩ := A4; have f0 := zf 0; have f1 := zf 1; have f2 := zf 2; have N4 := HN3.out.keep hb3; have ⟨n0, n1, n2, ns⟩ := N4; have b4 := thenBelow HB3.out hb3; clear zf)
      try simp only [Exit.inBlock, Exit.then]
      refine bodyPost_ret (by simp [results, Tryd.results5, go_sem, z0, z1, z2]; try rfl) rfl ?_
      exact ⟨rfl, ((b4.setCell (by simp) _).setCell (by simp) _).setCell (by simp) _⟩
    · have hP2 : P = none := by rw [HP0.out, if_neg hgood]
      subst hP2
      clear HP0
      by_cases hE0 : E = 0
      · subst hE0
        have hne : ¬ T = s := fun h => hgood ⟨rfl, h⟩
        have hneb : (T == s) = false := by simpa using hne
        clear hgood
        go_wp2_with (go_at_call 10; refine CT.out.mono ?_; rintro e w3 ⟨rfl, hb3⟩; have A4 := HA3.out.keep hb3; have ⟨⟨z0, z1, z2, zs⟩, zf⟩ := A4; have f0 := zf 0; have f1 := zf 1; have f2 := zf 2; have N4 := HN3.out.keep hb3; have ⟨n0, n1, n2, ns⟩ := N4; have b4 := thenBelow HB3.out hb3; clear zf)
        try simp only [Exit.inBlock, Exit.then]
        refine bodyPost_ret (by simp [results, Tryd.results5, go_sem, z0, z1, z2]; try rfl) rfl ?_
        exact ⟨rfl, ((b4.setCell (by simp) _).setCell (by simp) _).setCell (by simp) _⟩
      · have hbe : (E != 0) = true := by simpa using hE0
        clear hgood
        go_wp2_with (go_at_call 10; refine CT.out.mono ?_; rintro e w3 ⟨rfl, hb3⟩; have A4 := HA3.out.keep hb3; have ⟨⟨z0, z1, z2, zs⟩, zf⟩ := A4; have f0 := zf 0; have f1 := zf 1; have f2 := zf 2; have N4 := HN3.out.keep hb3; have ⟨n0, n1, n2, ns⟩ := N4; have b4 := thenBelow HB3.out hb3; clear zf)
        try simp only [Exit.inBlock, Exit.then]
        refine bodyPost_ret (by simp [results, Tryd.results5, go_sem, z0, z1, z2]; try rfl) rfl ?_
        exact ⟨rfl, ((b4.setCell (by simp) _).setCell (by simp) _).setCell (by simp) _⟩
end Go.Proofs.YtojdlhiibffnfabDoor
