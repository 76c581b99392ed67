/-
  Laid together: ReadSix, Parse, BackA, BackB.
-/
import Derived.Test.YtojdlhiibffnfabDoorReadFour
import Derived.Laws.CopyOwn
import Derived.Test.YtojdlhiibffnfabDoorChars
/-
  addr.readGroups, addr.readSix.
-/
namespace Go.Proofs.YtojdlhiibffnfabDoor
open Go.RowKit Go.Sort
set_option linter.unusedVariables false
set_option linter.unusedSimpArgs false

def grpsOf (s : List UInt8) : Option (List Nat) := if s = [] then some [] else numsOf 16 65535 58 s
theorem grpsOf_lt {s : List UInt8} {ns : List Nat} (h : grpsOf s = some ns) : ∀ n ∈ ns, n < 65536 := by
  unfold grpsOf at h
  split at h
  · cases h; intro n hn; cases hn
  · intro n hn; have := numsOf_le h n hn; omega

theorem split_len (s : List UInt8) (c : UInt8) : (Lib.split s [c]).length ≤ s.length + 1 := by
  have h1 := congrArg List.length (Lib.splitB_data ⟨#[c]⟩ 0 (Lib.countB ⟨s.toArray⟩ ⟨#[c]⟩) ⟨s.toArray⟩)
  have h2 := Lib.splitB_length_le ⟨#[c]⟩ 0 (Lib.countB ⟨s.toArray⟩ ⟨#[c]⟩) ⟨s.toArray⟩
  have h3 := Lib.countB_le ⟨#[c]⟩ (one_sz c) (⟨s.toArray⟩ : ByteArray).size ⟨s.toArray⟩ (Nat.le_refl _)
  have h4 : (⟨s.toArray⟩ : ByteArray).size = s.length := by simp [ByteArray.size]
  rw [List.length_map] at h1
  have h5 : (Lib.split s [c]).length = (Lib.splitB ⟨#[c]⟩ 0 (Lib.countB ⟨s.toArray⟩ ⟨#[c]⟩) ⟨s.toArray⟩).length := h1.symm
  omega
theorem grps_len {s : List UInt8} {ns : List Nat} (h : grpsOf s = some ns) : ns.length ≤ s.length + 1 := by
  unfold grpsOf at h
  split at h
  · cases h; simp
  · rw [nums_length h]; exact split_len s 58

set_option maxHeartbeats 1000000 in
set_option maxRecDepth 100000 in
theorem readGroups_calls (t : ByteArray) (s : List UInt8) (hs : t.data.toList = s) (hl : s.length ≤ 600) (w : World) (hr : RTabs w) :
    Calls Tryd.prog 33 #[.string t] w fun e w' => NumsOut w.heap.size (grpsOf s) e w' ∧ Below w.heap.size w w' := by
  by_cases h0 : s = []
  · have ht : t = ⟨#[]⟩ := by
      apply ByteArray.ext
      have : t.data.toList = [] := by rw [hs, h0]
      simpa using this
    have hg : grpsOf s = some [] := by rw [grpsOf, if_pos h0]
    rw [hg]
    subst ht
    clear hs hl h0 hg
    go_enter Tryd.func33, Tryd.ntmps33
    go_wp2
    go_ret2
    exact ⟨⟨_, rfl, by simpa using World.ownsRow_nil _ _ _ _⟩, Below.refl _ _⟩
  · have hg : grpsOf s = numsOf 16 65535 58 s := by rw [grpsOf, if_neg h0]
    rw [hg]
    have hsz : t.size ≠ 0 := by rw [Lib.size_eq, hs]; exact fun h => h0 (List.eq_nil_of_length_eq_zero h)
    have hemp : t.toList.isEmpty = false := by
      rw [← decide_eq_emptyBytes]
      exact decide_eq_false (fun h => hsz (by rw [h]; rfl))
    have C := Lib.hid (readNumbers_calls 16 16 65535 (.inr ⟨rfl, rfl, rfl⟩) 58 t s hs hl w hr)
    obtain ⟨R, hR⟩ : ∃ R, numsOf 16 65535 58 s = R := ⟨_, rfl⟩
    rw [hR] at C ⊢
    clear hg hR hs hl h0 hsz hr
    go_enter Tryd.func33, Tryd.ntmps33
    go_wp2_with fail
    refine C.out.mono ?_
    rintro e w1 ⟨he, hb⟩
    clear C
    cases R with
    | none =>
      obtain rfl : e = _ := he
      go_wp2
      go_ret2
      exact ⟨rfl, hb⟩
    | some ns =>
      obtain ⟨v, rfl, hown⟩ := he
      have HO := Lib.hid hown
      clear hown
      go_wp2
      go_ret2
      exact ⟨⟨_, rfl, HO.out⟩, hb⟩

/-- What addr.readSix reads. -/
def sixFrom (sh : Bool) : Option (List Nat) → Option (List Nat) → Option (List Nat)
  | some l, some r => if 8 < l.length + r.length ∨ (sh = false ∧ l.length + r.length < 8) then none else some (l ++ List.replicate (8 - l.length - r.length) 0 ++ r)
  | _, _ => none
theorem sixFrom_bad {sh : Bool} {l r : List Nat} (h : 8 < l.length + r.length ∨ (sh = false ∧ l.length + r.length < 8)) : sixFrom sh (some l) (some r) = none := if_pos h
theorem sixFrom_ok {sh : Bool} {l r : List Nat} (h : ¬ (8 < l.length + r.length ∨ (sh = false ∧ l.length + r.length < 8))) : sixFrom sh (some l) (some r) = some (l ++ List.replicate (8 - l.length - r.length) 0 ++ r) := if_neg h
def sixOf (s : List UInt8) : Option (Bool × Nat × Nat) :=
  (sixFrom (Lib.cut s [58, 58]).2.2 (grpsOf (Lib.cut s [58, 58]).1) (grpsOf (Lib.cut s [58, 58]).2.1)).map fun gs => (true, hor (gs.take 4), hor (gs.drop 4))

theorem AddrW.keep {w w' : World} {b : Nat} {s : Bool} {h l : Int} (a : AddrW w b s h l) (hb : Below w.heap.size w w') : AddrW w' b s h l :=
  ⟨a.1.keep hb, fun o => (hb.frozen (p := ⟨b, o, none⟩) a.1.2.2.2).trans (a.2 o)⟩
theorem own_form {w : World} {base : Nat} {e : TypeId} {v : Value} {n : Nat} {xs : List Value} (h : w.ownsRow base e 1 v n xs) :
    ∃ (p : Option Addr) (cap : Nat), v = .slice p n cap ∧ n ≤ maxLen ∧ (0 < n → ∃ g, p = some ⟨g, 0, none⟩ ∧ base ≤ g ∧ g < w.heap.size ∧ ∀ j x, xs[j]? = some x → w.cell? ⟨g, j, none⟩ = some x) := by
  rcases h.2 with ⟨rfl, h0⟩ | ⟨g, cap, cur, rfl, hb, hc⟩
  · exact ⟨none, 0, by rw [h0], by rw [h0]; exact Nat.zero_le _, fun h => by omega⟩
  · refine ⟨some ⟨g, 0, none⟩, cap, rfl, Nat.le_trans hc.2.1 hc.2.2.1, fun hn => ⟨g, rfl, hb, ?_, ?_⟩⟩
    · exact (h.lt g rfl).2
    · intro j x hx
      have hj : j < n := by
        have := (List.getElem?_eq_some_iff.1 hx).1
        have h1 := h.1
        omega
      rw [h.cellAt j (by omega)]; exact hx
theorem list8 (l : List Nat) (h : l.length = 8) : ∃ g0 g1 g2 g3 g4 g5 g6 g7, l = [g0, g1, g2, g3, g4, g5, g6, g7] := by
  match l, h with
  | [g0, g1, g2, g3, g4, g5, g6, g7], _ => exact ⟨g0, g1, g2, g3, g4, g5, g6, g7, rfl⟩
theorem addr_add (g j : Nat) : (⟨g, 0, none⟩ : Addr).add j = ⟨g, j, none⟩ := by
  unfold Addr.add
  split <;> simp_all
theorem slice_tail (b t : Nat) (ht : t ≤ 8) (W : World) : (Instr.sliceAt 62 (.pointer (some ⟨b, 0, none⟩)) (some (.int .i64 (t : Int))) none none).run Tryd.prog W = .ok (.slice (some ⟨b, if t < 8 then t else 0, none⟩) (8 - t) (8 - t)) W := by
  have hal : Tryd.prog.arrayLen 62 = 8 := by kernel_rfl
  rw [run_sliceAt_array_l W 62 ⟨b, 0, none⟩ (by kernel_rfl) .i64 (t : Int) (by omega) (by rw [hal]; omega), hal]
  by_cases h8 : t < 8
  · rw [if_pos h8]
    have : ¬ 8 = t := by omega
    go_simp
  · obtain rfl : t = 8 := by omega
    go_simp
theorem cut_len (s sep : List UInt8) : (Lib.cut s sep).1.length ≤ s.length ∧ (Lib.cut s sep).2.1.length ≤ s.length := by
  unfold Lib.cut
  split
  · exact ⟨by simp [List.length_take]; omega, by simp [List.length_drop]⟩
  · exact ⟨by simp, by simp⟩
theorem two_splices (l r : List Value) (z : Value) (h : l.length + r.length ≤ 8) :
    splice (splice (List.replicate 8 z) 0 l) (8 - r.length) r = l ++ List.replicate (8 - l.length - r.length) z ++ r := by
  unfold splice
  have h1 : (List.replicate 8 z).take 0 ++ (l ++ (List.replicate 8 z).drop (0 + l.length)) = l ++ List.replicate (8 - l.length) z := by rw [Nat.zero_add, List.drop_replicate]; rfl
  rw [h1, List.take_append, List.drop_append, List.take_of_length_le (by omega : l.length ≤ 8 - r.length), List.drop_of_length_le (by omega : l.length ≤ 8 - r.length + r.length)]
  simp
  rw [show min (8 - r.length - l.length) (8 - l.length) = 8 - l.length - r.length by omega, show 8 - l.length - (8 - r.length + r.length - l.length) = 0 by omega]
  simp

set_option maxHeartbeats 4000000 in
set_option maxRecDepth 100000 in
theorem readSix_calls (t : ByteArray) (s : List UInt8) (hs : t.data.toList = s) (hl : s.length ≤ 600) (w : World) (hr : RTabs w) :
    Calls Tryd.prog 19 #[.string t] w fun e w' => ReadOut (sixOf s) e ∧ Below w.heap.size w w' := by
  obtain ⟨m, hm⟩ := (hr.alloc (.cells #[.bool false, .int .u64 0, .int .u64 0] 24)).2.1
  have C := Tryd.strings_Cut t ⟨#[58, 58]⟩ m (w.alloc (.cells #[.bool false, .int .u64 0, .int .u64 0] 24)) (by rw [Lib.size_eq, hs]; omega) hm
  rw [hs] at C
  have hcl := cut_len s [58, 58]
  have hS : sixOf s = (sixFrom (Lib.cut s [58, 58]).2.2 (grpsOf (Lib.cut s [58, 58]).1) (grpsOf (Lib.cut s [58, 58]).2.1)).map fun gs => (true, hor (gs.take 4), hor (gs.drop 4)) := rfl
  obtain ⟨S, hSS⟩ : ∃ S, sixOf s = S := ⟨_, rfl⟩
  rw [hSS] at hS ⊢
  have C' : Hid (Calls Tryd.prog 27 #[.string t, .string ⟨#[58, 58]⟩] (w.alloc (.cells #[.bool false, .int .u64 0, .int .u64 0] 24)) fun e w' => e = .returned (.tuple #[.string ⟨(Lib.cut s [58, 58]).1.toArray⟩, .string ⟨(Lib.cut s [58, 58]).2.1.toArray⟩, .bool (Lib.cut s [58, 58]).2.2]) ∧ ∃ n, w' = (w.alloc (.cells #[.bool false, .int .u64 0, .int .u64 0] 24)).drewN n) := C
  obtain ⟨hd, hhd⟩ : ∃ x, (Lib.cut s [58, 58]).1 = x := ⟨_, rfl⟩
  obtain ⟨tl, htl⟩ : ∃ x, (Lib.cut s [58, 58]).2.1 = x := ⟨_, rfl⟩
  obtain ⟨sh, hsh⟩ : ∃ x, (Lib.cut s [58, 58]).2.2 = x := ⟨_, rfl⟩
  rw [hhd, htl, hsh] at C' hS
  rw [hhd, htl] at hcl
  have HS := Lib.hid hS; have HR := Lib.hid hr; have HCL := Lib.hid hcl; have HL := Lib.hid hl
  clear C hm hhd htl hsh hSS hS hr hcl hs hl
  go_enter Tryd.func19, Tryd.ntmps19
  go_wp2_with fail
  refine C'.out.mono ?_
  rintro e w1 ⟨rfl, n, rfl⟩
  have b1 : Below w.heap.size w ((w.alloc (.cells #[.bool false, .int .u64 0, .int .u64 0] 24)).drewN n) := below_drewN ((Below.refl _ w).alloc (Nat.le_refl _) _) n
  have R1 : RTabs ((w.alloc (.cells #[.bool false, .int .u64 0, .int .u64 0] 24)).drewN n) := HR.out.keep b1
  have A1 : AddrW ((w.alloc (.cells #[.bool false, .int .u64 0, .int .u64 0] 24)).drewN n) w.heap.size false 0 0 := ⟨AddrAt.new w false 0 0 24, fun o => by
    show (w.alloc (.cells #[.bool false, .int .u64 0, .int .u64 0] 24)).frozen? _ = false
    simp [go_sem]⟩
  obtain ⟨W1, hW1⟩ : ∃ W1, (w.alloc (.cells #[.bool false, .int .u64 0, .int .u64 0] 24)).drewN n = W1 := ⟨_, rfl⟩
  rw [hW1] at b1 R1 A1 ⊢
  clear hW1 C' HR
  have C1 := Lib.hid (readGroups_calls ⟨hd.toArray⟩ hd (by simp) (by have := HCL.out; have := HL.out; omega) W1 R1)
  obtain ⟨gl, hgl⟩ : ∃ x, grpsOf hd = x := ⟨_, rfl⟩
  rw [hgl] at C1 HS
  go_wp2_with fail
  refine C1.out.mono ?_
  rintro e w2 ⟨he, hb2⟩
  have R2 := R1.keep hb2
  have A2 := A1.keep hb2
  have b2 := thenBelow b1 hb2
  clear C1 R1 A1
  cases gl with
  | none =>
    obtain rfl : e = _ := he
    have hS2 : S = none := by rw [HS.out]; rfl
    subst hS2
    have ⟨⟨z0, z1, z2, zs⟩, zf⟩ := A2
    have f0 := zf 0; have f1 := zf 1; have f2 := zf 2
    clear zf HS
    go_wp2
    try simp only [Exit.inBlock, Exit.then]
    refine bodyPost_ret (by simp [results, Tryd.results19, go_sem, z0, z1, z2]; try rfl) rfl ?_
    exact ⟨rfl, ((b2.setCell (by simp) _).setCell (by simp) _).setCell (by simp) _⟩
  | some l =>
    obtain ⟨v, rfl, hown⟩ := he
    obtain ⟨p, cap, rfl, _, hp⟩ := own_form hown
    have HP := Lib.hid hp
    have hl16 := Lib.hid (grpsOf_lt hgl)
    have hlm : l.length ≤ 601 := by have := grps_len hgl; have := HCL.out; have := HL.out; omega
    clear hown hp
    have C2 := Lib.hid (readGroups_calls ⟨tl.toArray⟩ tl (by simp) (by have := HCL.out; have := HL.out; omega) w2 R2)
    obtain ⟨gr, hgr⟩ : ∃ x, grpsOf tl = x := ⟨_, rfl⟩
    rw [hgr] at C2 HS
    go_wp2_with fail
    refine C2.out.mono ?_
    rintro e w3 ⟨he, hb3⟩
    have A3 := A2.keep hb3
    have b3 := thenBelow b2 hb3
    clear C2 R2 A2
    cases gr with
    | none =>
      obtain rfl : e = _ := he
      have hS2 : S = none := by rw [HS.out]; rfl
      subst hS2
      have ⟨⟨z0, z1, z2, zs⟩, zf⟩ := A3
      have f0 := zf 0; have f1 := zf 1; have f2 := zf 2
      clear zf HS
      go_wp2
      try simp only [Exit.inBlock, Exit.then]
      refine bodyPost_ret (by simp [results, Tryd.results19, go_sem, z0, z1, z2]; try rfl) rfl ?_
      exact ⟨rfl, ((b3.setCell (by simp) _).setCell (by simp) _).setCell (by simp) _⟩
    | some r =>
      obtain ⟨v, rfl, hown⟩ := he
      obtain ⟨q, cap2, rfl, _, hq⟩ := own_form hown
      have HQ := Lib.hid hq
      have hr16 := Lib.hid (grpsOf_lt hgr)
      have hrm : r.length ≤ 601 := by have := grps_len hgr; have := HCL.out; have := HL.out; omega
      clear hown hq
      have ⟨⟨z0, z1, z2, zs⟩, zf⟩ := A3
      have f0 := zf 0; have f1 := zf 1; have f2 := zf 2
      clear zf
      by_cases h8 : 8 < l.length + r.length
      · have hS2 : S = none := by rw [HS.out]; rw [sixFrom_bad (.inl h8)]; rfl
        subst hS2
        have h8i : 8 < (l.length : Int) + (r.length : Int) := by omega
        clear HS h8
        go_wp2
        try simp only [Exit.inBlock, Exit.then]
        refine bodyPost_ret (by simp [results, Tryd.results19, go_sem, z0, z1, z2]; try rfl) rfl ?_
        exact ⟨rfl, ((b3.setCell (by simp) _).setCell (by simp) _).setCell (by simp) _⟩
      by_cases hbad : sh = false ∧ l.length + r.length < 8
      · have hS2 : S = none := by rw [HS.out]; rw [sixFrom_bad (.inr hbad)]; rfl
        subst hS2
        obtain ⟨rfl, hlt⟩ := hbad
        have h8i : (l.length : Int) + (r.length : Int) < 8 := by omega
        clear HS
        go_wp2
        try simp only [Exit.inBlock, Exit.then]
        refine bodyPost_ret (by simp [results, Tryd.results19, go_sem, z0, z1, z2]; try rfl) rfl ?_
        exact ⟨rfl, ((b3.setCell (by simp) _).setCell (by simp) _).setCell (by simp) _⟩
      have hlen : (l ++ List.replicate (8 - l.length - r.length) 0 ++ r).length = 8 := by simp; omega
      obtain ⟨gs, hgs⟩ : ∃ gs, l ++ List.replicate (8 - l.length - r.length) 0 ++ r = gs := ⟨_, rfl⟩
      have hS2 : S = some (true, hor (gs.take 4), hor (gs.drop 4)) := by rw [HS.out]; rw [sixFrom_ok (fun h => h.elim h8 hbad), hgs]; rfl
      have h16 : ∀ x ∈ gs, x < 65536 := by
        rw [← hgs]
        intro x hx
        rcases List.mem_append.1 hx with hx | hx
        · rcases List.mem_append.1 hx with hx | hx
          · exact hl16.out x hx
          · rw [List.eq_of_mem_replicate hx]; omega
        · exact hr16.out x hx
      rw [hgs] at hlen
      obtain ⟨cl, hcl⟩ : ∃ c, (l.map fun n => Value.int .u64 ((n : Nat) : Int)) = c := ⟨_, rfl⟩
      obtain ⟨cr, hcr⟩ : ∃ c, (r.map fun n => Value.int .u64 ((n : Nat) : Int)) = c := ⟨_, rfl⟩
      obtain ⟨z8, hz8⟩ : ∃ c, List.replicate 8 (Value.int .u64 0) = c := ⟨_, rfl⟩
      have hmap : splice (splice z8 0 cl) (8 - r.length) cr = gs.map fun n => Value.int .u64 ((n : Nat) : Int) := by
        have := two_splices (l.map fun n => Value.int .u64 ((n : Nat) : Int)) (r.map fun n => Value.int .u64 ((n : Nat) : Int)) (.int .u64 0) (by simp; omega)
        rw [List.length_map, List.length_map] at this
        rw [← hcl, ← hcr, ← hz8, this, ← hgs]
        simp
      have hll : cl.length = l.length := by rw [← hcl, List.length_map]
      have hrl : cr.length = r.length := by rw [← hcr, List.length_map]
      have hzl : z8.length = 8 := by rw [← hz8]; rfl
      have ol : ∀ v ∈ cl, v.oneCell' = true := by
        rw [← hcl]; intro v hv; obtain ⟨x, _, rfl⟩ := List.mem_map.1 hv; rfl
      have or' : ∀ v ∈ cr, v.oneCell' = true := by
        rw [← hcr]; intro v hv; obtain ⟨x, _, rfl⟩ := List.mem_map.1 hv; rfl
      have hspl : (splice z8 0 cl).length = 8 := by simp [splice, hzl, hll]; omega
      rw [hcl] at HP
      rw [hcr] at HQ
      have HMAP := Lib.hid hmap; have H16 := Lib.hid h16; have HS2 := Lib.hid hS2; have HLEN := Lib.hid hlen; have HA3 := Lib.hid A3; have HB3 := Lib.hid b3
      have HLL := Lib.hid hll; have HRL := Lib.hid hrl; have HZL := Lib.hid hzl; have OL := Lib.hid ol; have OR := Lib.hid or'; have HSPL := Lib.hid hspl
      have hsum : (l.length : Int) + (r.length : Int) ≤ 8 := by omega
      have key : sh = true ∨ (sh = false ∧ l.length + r.length = 8) := by
        cases sh
        · exact .inr ⟨rfl, by have : ¬ (l.length + r.length < 8) := fun h => hbad ⟨rfl, h⟩; omega⟩
        · exact .inl rfl
      have hl8 : l.length ≤ 8 := by omega
      have hr8 : r.length ≤ 8 := by omega
      have hb3' := Lib.hid hb3
      have ba := Lib.hid ((Below.refl w3.heap.size w3).alloc (Nat.le_refl _) (.cells #[.int .u64 0, .int .u64 0, .int .u64 0, .int .u64 0, .int .u64 0, .int .u64 0, .int .u64 0, .int .u64 0] 62))
      have HZE : Hid ((w3.alloc (.cells #[.int .u64 0, .int .u64 0, .int .u64 0, .int .u64 0, .int .u64 0, .int .u64 0, .int .u64 0, .int .u64 0] 62)).heap[w3.heap.size]? = some (.cells z8.toArray 62 (0, 0))) := Lib.hid (by rw [← hz8]; show (w3.heap.push _)[w3.heap.size]? = _; rw [Array.getElem?_push_size]; rfl)
      have P1 : Hid (0 < cl.length → ∃ ad, p = some ad ∧ ∀ j v, cl[j]? = some v → (w3.alloc (.cells #[.int .u64 0, .int .u64 0, .int .u64 0, .int .u64 0, .int .u64 0, .int .u64 0, .int .u64 0, .int .u64 0] 62)).cell? (ad.add j) = some v) := Lib.hid (fun hn => by
        rw [HLL.out] at hn
        obtain ⟨g, e1, e2, e3, e4⟩ := HP.out hn
        refine ⟨_, e1, fun j x hx => ?_⟩
        have h1 := (hb3'.out.cell (p := ⟨g, j, none⟩) e3).trans (e4 j x hx)
        have h2 := ba.out.cell (p := ⟨g, j, none⟩) (Nat.lt_of_lt_of_le e3 hb3'.out.size)
        have h3 : (⟨g, 0, none⟩ : Addr).add j = ⟨g, j, none⟩ := addr_add g j
        rw [h3]
        exact h2.trans h1)
      have hal : Tryd.prog.arrayLen 62 = 8 := by kernel_rfl
      obtain ⟨o2, ho2⟩ : ∃ o, (if 8 - r.length < 8 then 8 - r.length else 0) = o := ⟨_, rfl⟩
      have HO2 : Hid (0 < cr.length → o2 = 8 - r.length) := Lib.hid (fun h => by rw [HRL.out] at h; rw [← ho2, if_pos (by omega)])
      have hsl : ∀ W, (Instr.sliceAt 62 (.pointer (some ⟨w3.heap.size, 0, none⟩)) (some (.int .i64 (8 - (r.length : Int)))) none none).run Tryd.prog W = .ok (.slice (some ⟨w3.heap.size, o2, none⟩) r.length r.length) W := fun W => by
        have := slice_tail w3.heap.size (8 - r.length) (by omega) W
        rw [show ((8 - r.length : Nat) : Int) = 8 - (r.length : Int) by omega, ho2, show 8 - (8 - r.length) = r.length by omega] at this
        exact this
      clear HS hmap h16 hS2 hlen hgs hbad h8 HCL HL A3 b1 b2 b3 hb2 hb3 hlm hrm hll hrl hzl ol or' hspl hz8 hcl hcr
      rcases key with rfl | ⟨rfl, hsh⟩
      · go_wp2_with (first
          | ((refine wpList_copy_splice rfl _ _ _ _ rfl 22 Tryd.underlying59 (by kernel_rfl) (some ⟨w3.heap.size, 0, none⟩) p 8 8 l.length cap rfl rfl w3.heap.size 0 z8 62 HZE.out cl ?g2 ?g3 ?g4 OL.out w3.heap.size w3 ba.out (Nat.le_refl _) ?_)))
        case g2 => rw [HLL.out]; exact (Nat.min_eq_left hl8).symm
        case g3 => first | exact P1.out | exact fun h => ⟨rfl, P1.out h⟩
        case g4 => rw [HLL.out, HZL.out]; omega
        intro w4 hh4 hb4
        have P2 : Hid (0 < cr.length → ∃ ad, q = some ad ∧ ∀ j v, cr[j]? = some v → w4.cell? (ad.add j) = some v) := Lib.hid (fun hn => by
          rw [HRL.out] at hn
          obtain ⟨g, e1, e2, e3, e4⟩ := HQ.out hn
          refine ⟨_, e1, fun j x hx => ?_⟩
          have h3 : (⟨g, 0, none⟩ : Addr).add j = ⟨g, j, none⟩ := addr_add g j
          rw [h3]
          exact (hb4.cell (p := ⟨g, j, none⟩) e3).trans (e4 j x hx))
        have hb4' := Lib.hid hb4
        clear hb4
        go_wp2_with (first
          | ((refine wpList_copy_splice rfl _ _ _ _ rfl 22 Tryd.underlying59 (by kernel_rfl) (some ⟨w3.heap.size, o2, none⟩) q r.length r.length r.length cap2 rfl rfl w3.heap.size (8 - r.length) (splice z8 0 cl) 62 hh4.out cr ?g2 ?g3 ?g4 OR.out w3.heap.size w3 hb4'.out (Nat.le_refl _) ?_)))
        case g2 => rw [HRL.out]; exact (Nat.min_self _).symm
        case g3 => first | exact fun h => ⟨by rw [HO2.out h], P2.out h⟩ | exact P2.out
        case g4 => rw [HRL.out, HSPL.out]; omega
        intro w5 hh5 hb5
        have hb5' := Lib.hid hb5
        obtain ⟨g0, g1, g2, g3, g4, g5, g6, g7, hg8⟩ : ∃ g0 g1 g2 g3 g4 g5 g6 g7, gs = [g0, g1, g2, g3, g4, g5, g6, g7] := list8 gs HLEN.out
        have hcells := hh5.out
        rw [HMAP.out, hg8] at hcells
        have c : ∀ i v, [Value.int .u64 (g0 : Int), .int .u64 (g1 : Int), .int .u64 (g2 : Int), .int .u64 (g3 : Int), .int .u64 (g4 : Int), .int .u64 (g5 : Int), .int .u64 (g6 : Int), .int .u64 (g7 : Int)][i]? = some v → w5.cell? ⟨w3.heap.size, i, none⟩ = some v := fun i v hv => by
          unfold World.cell?
          rw [hcells]
          simpa using hv
        have k0 := c 0 _ rfl; have k1 := c 1 _ rfl; have k2 := c 2 _ rfl; have k3 := c 3 _ rfl; have k4 := c 4 _ rfl; have k5 := c 5 _ rfl; have k6 := c 6 _ rfl; have k7 := c 7 _ rfl
        have CJ := Lib.hid (joined_calls g0 g1 g2 g3 g4 g5 g6 g7 gs hg8.symm H16.out w5)
        obtain ⟨hh, ehh⟩ : ∃ x, hor (gs.take 4) = x := ⟨_, rfl⟩
        obtain ⟨ll, ell⟩ : ∃ x, hor (gs.drop 4) = x := ⟨_, rfl⟩
        rw [ehh, ell] at CJ HS2
        have A5 := HA3.out.keep hb5
        have b5 := thenBelow HB3.out hb5
        clear c hcells hh5 hh4 hg8 ehh ell hb5 P1 P2 hsl HMAP
        go_wp2_with (go_at_call 34; refine CJ.out.mono ?_; rintro e w6 ⟨rfl, hb6⟩; have A6 := A5.keep hb6; have ⟨⟨y0, y1, y2, ys⟩, yf⟩ := A6; have u0 := yf 0; have u1 := yf 1; have u2 := yf 2)
        try simp only [Exit.inBlock, Exit.then]
        refine bodyPost_ret (by simp [results, Tryd.results19, go_sem, y0, y1, y2]; try rfl) rfl ?_
        exact ⟨by rw [HS2.out]; rfl, (((thenBelow b5 hb6).setCell (by simp) _).setCell (by simp) _).setCell (by simp) _⟩
      · have h8e : ¬ ((l.length : Int) + (r.length : Int) < 8) := by omega
        go_wp2_with (first
          | ((refine wpList_copy_splice rfl _ _ _ _ rfl 22 Tryd.underlying59 (by kernel_rfl) (some ⟨w3.heap.size, 0, none⟩) p 8 8 l.length cap rfl rfl w3.heap.size 0 z8 62 HZE.out cl ?g2 ?g3 ?g4 OL.out w3.heap.size w3 ba.out (Nat.le_refl _) ?_)))
        case g2 => rw [HLL.out]; exact (Nat.min_eq_left hl8).symm
        case g3 => first | exact P1.out | exact fun h => ⟨rfl, P1.out h⟩
        case g4 => rw [HLL.out, HZL.out]; omega
        intro w4 hh4 hb4
        have P2 : Hid (0 < cr.length → ∃ ad, q = some ad ∧ ∀ j v, cr[j]? = some v → w4.cell? (ad.add j) = some v) := Lib.hid (fun hn => by
          rw [HRL.out] at hn
          obtain ⟨g, e1, e2, e3, e4⟩ := HQ.out hn
          refine ⟨_, e1, fun j x hx => ?_⟩
          have h3 : (⟨g, 0, none⟩ : Addr).add j = ⟨g, j, none⟩ := addr_add g j
          rw [h3]
          exact (hb4.cell (p := ⟨g, j, none⟩) e3).trans (e4 j x hx))
        have hb4' := Lib.hid hb4
        clear hb4
        go_wp2_with (first
          | ((refine wpList_copy_splice rfl _ _ _ _ rfl 22 Tryd.underlying59 (by kernel_rfl) (some ⟨w3.heap.size, o2, none⟩) q r.length r.length r.length cap2 rfl rfl w3.heap.size (8 - r.length) (splice z8 0 cl) 62 hh4.out cr ?g2 ?g3 ?g4 OR.out w3.heap.size w3 hb4'.out (Nat.le_refl _) ?_)))
        case g2 => rw [HRL.out]; exact (Nat.min_self _).symm
        case g3 => first | exact fun h => ⟨by rw [HO2.out h], P2.out h⟩ | exact P2.out
        case g4 => rw [HRL.out, HSPL.out]; omega
        intro w5 hh5 hb5
        have hb5' := Lib.hid hb5
        obtain ⟨g0, g1, g2, g3, g4, g5, g6, g7, hg8⟩ : ∃ g0 g1 g2 g3 g4 g5 g6 g7, gs = [g0, g1, g2, g3, g4, g5, g6, g7] := list8 gs HLEN.out
        have hcells := hh5.out
        rw [HMAP.out, hg8] at hcells
        have c : ∀ i v, [Value.int .u64 (g0 : Int), .int .u64 (g1 : Int), .int .u64 (g2 : Int), .int .u64 (g3 : Int), .int .u64 (g4 : Int), .int .u64 (g5 : Int), .int .u64 (g6 : Int), .int .u64 (g7 : Int)][i]? = some v → w5.cell? ⟨w3.heap.size, i, none⟩ = some v := fun i v hv => by
          unfold World.cell?
          rw [hcells]
          simpa using hv
        have k0 := c 0 _ rfl; have k1 := c 1 _ rfl; have k2 := c 2 _ rfl; have k3 := c 3 _ rfl; have k4 := c 4 _ rfl; have k5 := c 5 _ rfl; have k6 := c 6 _ rfl; have k7 := c 7 _ rfl
        have CJ := Lib.hid (joined_calls g0 g1 g2 g3 g4 g5 g6 g7 gs hg8.symm H16.out w5)
        obtain ⟨hh, ehh⟩ : ∃ x, hor (gs.take 4) = x := ⟨_, rfl⟩
        obtain ⟨ll, ell⟩ : ∃ x, hor (gs.drop 4) = x := ⟨_, rfl⟩
        rw [ehh, ell] at CJ HS2
        have A5 := HA3.out.keep hb5
        have b5 := thenBelow HB3.out hb5
        clear c hcells hh5 hh4 hg8 ehh ell hb5 P1 P2 hsl HMAP
        go_wp2_with (go_at_call 34; refine CJ.out.mono ?_; rintro e w6 ⟨rfl, hb6⟩; have A6 := A5.keep hb6; have ⟨⟨y0, y1, y2, ys⟩, yf⟩ := A6; have u0 := yf 0; have u1 := yf 1; have u2 := yf 2)
        try simp only [Exit.inBlock, Exit.then]
        refine bodyPost_ret (by simp [results, Tryd.results19, go_sem, y0, y1, y2]; try rfl) rfl ?_
        exact ⟨by rw [HS2.out]; rfl, (((thenBelow b5 hb6).setCell (by simp) _).setCell (by simp) _).setCell (by simp) _⟩
end Go.Proofs.YtojdlhiibffnfabDoor
/-
  addr.read, addr.Parse.
-/
namespace Go.Proofs.YtojdlhiibffnfabDoor
open Go.RowKit Go.Sort
set_option linter.unusedVariables false
set_option linter.unusedSimpArgs false

/-- What addr.read reads. -/
def readOf (s : List UInt8) : Option (Bool × Nat × Nat) := if 0 ≤ Lib.indexByte s 58 then sixOf s else fourOf (numsOf 10 255 46 s)

theorem sixOf_lt {s : List UInt8} {six : Bool} {H L : Nat} (h : sixOf s = some (six, H, L)) : H < 18446744073709551616 ∧ L < 18446744073709551616 := by
  obtain ⟨gs, hg, e⟩ := Option.map_eq_some_iff.1 h
  simp only [Prod.mk.injEq] at e
  obtain ⟨rfl, rfl, rfl⟩ := e
  have key : gs.length = 8 ∧ ∀ x ∈ gs, x < 65536 := by
    unfold sixFrom at hg
    split at hg
    · rename_i l r hl hr
      split at hg
      · cases hg
      · rename_i hb
        cases hg
        have h1 := grpsOf_lt hl
        have h2 := grpsOf_lt hr
        refine ⟨by simp; omega, fun x hx => ?_⟩
        rcases List.mem_append.1 hx with hx | hx
        · rcases List.mem_append.1 hx with hx | hx
          · exact h1 x hx
          · rw [List.eq_of_mem_replicate hx]; omega
        · exact h2 x hx
    · cases hg
  have a := hor_lt (gs.take 4) (fun x hx => key.2 x (List.mem_of_mem_take hx))
  have b := hor_lt (gs.drop 4) (fun x hx => key.2 x (List.mem_of_mem_drop hx))
  rw [List.length_take, key.1] at a
  rw [List.length_drop, key.1] at b
  exact ⟨by simpa using a, by simpa using b⟩
theorem fourOf_lt {s : List UInt8} {six : Bool} {H L : Nat} (h : fourOf (numsOf 10 255 46 s) = some (six, H, L)) : H < 18446744073709551616 ∧ L < 18446744073709551616 := by
  unfold fourOf at h
  split at h
  · rename_i a b c d hn
    have := numsOf_le hn
    have ha := this a (by simp)
    have hb := this b (by simp)
    have hc := this c (by simp)
    have hd := this d (by simp)
    simp only [Option.some.injEq, Prod.mk.injEq] at h
    obtain ⟨rfl, rfl, rfl⟩ := h
    omega
  · cases h
theorem readOf_lt {s : List UInt8} {six : Bool} {H L : Nat} (h : readOf s = some (six, H, L)) : H < 18446744073709551616 ∧ L < 18446744073709551616 := by
  unfold readOf at h
  split at h
  · exact sixOf_lt h
  · exact fourOf_lt h

set_option maxHeartbeats 1000000 in
set_option maxRecDepth 100000 in
theorem read_calls (s : List UInt8) (hl : s.length ≤ 600) (w : World) (hr : RTabs w) :
    Calls Tryd.prog 9 #[.string ⟨s.toArray⟩] w fun e w' => ReadOut (readOf s) e ∧ Below w.heap.size w w' := by
  have CC := Lib.hid (Tryd.strings_Contains_one ⟨s.toArray⟩ 58 (w.alloc (.cells #[.bool false, .int .u64 0, .int .u64 0] 24)))
  have RA := hr.alloc (.cells #[.bool false, .int .u64 0, .int .u64 0] 24)
  have C6 := Lib.hid (readSix_calls ⟨s.toArray⟩ s rfl hl _ RA)
  have C4 := Lib.hid (readFour_calls ⟨s.toArray⟩ s rfl hl _ RA)
  have A1 : AddrW (w.alloc (.cells #[.bool false, .int .u64 0, .int .u64 0] 24)) w.heap.size false 0 0 := ⟨AddrAt.new w false 0 0 24, fun o => by simp [go_sem]⟩
  have b1 : Below w.heap.size w (w.alloc (.cells #[.bool false, .int .u64 0, .int .u64 0] 24)) := (Below.refl _ w).alloc (Nat.le_refl _) _
  have HA := Lib.hid A1; have HB := Lib.hid b1
  clear RA hr A1 b1 hl
  by_cases h0 : 0 ≤ Lib.indexByte s 58
  · have hd : decide (0 ≤ Lib.indexByte (⟨s.toArray⟩ : ByteArray).data.toList 58) = true := decide_eq_true h0
    have e1 : readOf s = sixOf s := if_pos h0
    rw [e1]
    rw [hd] at CC
    obtain ⟨R, hR⟩ : ∃ R, sixOf s = R := ⟨_, rfl⟩
    rw [hR] at C6 ⊢
    clear C4 h0 hd e1 hR
    go_enter Tryd.func9, Tryd.ntmps9
    go_wp2_with (go_at_call 18; refine CC.out.mono ?_; rintro e w1 ⟨rfl, rfl⟩)
    refine C6.out.mono ?_
    rintro e w2 ⟨he, hb2⟩
    have A2 := HA.out.keep hb2
    have b2 := thenBelow HB.out hb2
    have ⟨⟨z0, z1, z2, zs⟩, zf⟩ := A2
    have f0 := zf 0; have f1 := zf 1; have f2 := zf 2
    clear C6 CC HA HB zf
    cases R with
    | none =>
      obtain rfl : e = _ := he
      go_wp2
      try simp only [Exit.inBlock, Exit.then]
      refine bodyPost_ret (by simp [results, Tryd.results9, go_sem, z0, z1, z2]; try rfl) rfl ?_
      exact ⟨rfl, ((b2.setCell (by simp) _).setCell (by simp) _).setCell (by simp) _⟩
    | some x =>
      obtain ⟨six, H, L⟩ := x
      obtain rfl : e = _ := he
      go_wp2
      try simp only [Exit.inBlock, Exit.then]
      refine bodyPost_ret (by simp [results, Tryd.results9, go_sem, z0, z1, z2]; try rfl) rfl ?_
      exact ⟨rfl, ((b2.setCell (by simp) _).setCell (by simp) _).setCell (by simp) _⟩
  · have hd : decide (0 ≤ Lib.indexByte (⟨s.toArray⟩ : ByteArray).data.toList 58) = false := decide_eq_false h0
    have e1 : readOf s = fourOf (numsOf 10 255 46 s) := if_neg h0
    rw [e1]
    rw [hd] at CC
    obtain ⟨R, hR⟩ : ∃ R, fourOf (numsOf 10 255 46 s) = R := ⟨_, rfl⟩
    rw [hR] at C4 ⊢
    clear C6 h0 hd e1 hR
    go_enter Tryd.func9, Tryd.ntmps9
    go_wp2_with (go_at_call 18; refine CC.out.mono ?_; rintro e w1 ⟨rfl, rfl⟩)
    refine C4.out.mono ?_
    rintro e w2 ⟨he, hb2⟩
    have A2 := HA.out.keep hb2
    have b2 := thenBelow HB.out hb2
    have ⟨⟨z0, z1, z2, zs⟩, zf⟩ := A2
    have f0 := zf 0; have f1 := zf 1; have f2 := zf 2
    clear C4 CC HA HB zf
    cases R with
    | none =>
      obtain rfl : e = _ := he
      go_wp2
      try simp only [Exit.inBlock, Exit.then]
      refine bodyPost_ret (by simp [results, Tryd.results9, go_sem, z0, z1, z2]; try rfl) rfl ?_
      exact ⟨rfl, ((b2.setCell (by simp) _).setCell (by simp) _).setCell (by simp) _⟩
    | some x =>
      obtain ⟨six, H, L⟩ := x
      obtain rfl : e = _ := he
      go_wp2
      try simp only [Exit.inBlock, Exit.then]
      refine bodyPost_ret (by simp [results, Tryd.results9, go_sem, z0, z1, z2]; try rfl) rfl ?_
      exact ⟨rfl, ((b2.setCell (by simp) _).setCell (by simp) _).setCell (by simp) _⟩

/-- What addr.Parse reads. -/
def parseOf (s : List UInt8) : Option (Bool × Nat × Nat) := match readOf s with
  | some (six, H, L) => if textE six H L = 0 ∧ textL six H L = s then some (six, H, L) else none
  | none => none
def ParseOut (r : Option (Bool × Nat × Nat)) (e : Ending) : Prop := match r with
  | some (six, H, L) => e = .returned (.tuple #[.agg #[.bool six, .int .u64 (H : Int), .int .u64 (L : Int)], .int .i64 0])
  | none => e = .returned (.tuple #[.agg #[.bool false, .int .u64 0, .int .u64 0], .int .i64 4])

set_option maxHeartbeats 1000000 in
set_option maxRecDepth 100000 in
/-- Too long. -/
theorem parse_long (s : List UInt8) (hl : 600 < s.length) (hm : s.length ≤ 9223372036854775807) (w : World) :
    Calls Tryd.prog 5 #[.string ⟨s.toArray⟩] w fun e w' => e = .returned (.tuple #[.agg #[.bool false, .int .u64 0, .int .u64 0], .int .i64 1]) ∧ Below w.heap.size w w' := by
  have hsz : (⟨s.toArray⟩ : ByteArray).size = s.length := by simp [ByteArray.size]
  have hli : 600 < (s.length : Int) := by omega
  go_enter Tryd.func5, Tryd.ntmps5
  go_wp2
  go_returns
  exact ⟨rfl, by go_grown⟩

set_option maxHeartbeats 1000000 in
set_option maxRecDepth 100000 in
theorem parse_calls (s : List UInt8) (hl : s.length ≤ 600) (w : World) (hr : RTabs w) :
    Calls Tryd.prog 5 #[.string ⟨s.toArray⟩] w fun e w' => ParseOut (parseOf s) e ∧ Below w.heap.size w w' := by
  have RA := hr.alloc (.cells #[.bool false, .int .u64 0, .int .u64 0] 24)
  have C := Lib.hid (read_calls s hl _ RA)
  have A1 : AddrW (w.alloc (.cells #[.bool false, .int .u64 0, .int .u64 0] 24)) w.heap.size false 0 0 := ⟨AddrAt.new w false 0 0 24, fun o => by simp [go_sem]⟩
  have b1 : Below w.heap.size w (w.alloc (.cells #[.bool false, .int .u64 0, .int .u64 0] 24)) := (Below.refl _ w).alloc (Nat.le_refl _) _
  have HA := Lib.hid A1; have HB := Lib.hid b1; have HRA := Lib.hid RA
  have hsz : (⟨s.toArray⟩ : ByteArray).size = s.length := by simp [ByteArray.size]
  have hli : (s.length : Int) ≤ 600 := by omega
  obtain ⟨P, hP⟩ : ∃ P, parseOf s = P := ⟨_, rfl⟩
  have hPd : parseOf s = match readOf s with
    | some (six, H, L) => if textE six H L = 0 ∧ textL six H L = s then some (six, H, L) else none
    | none => none := rfl
  have hlt : ∀ six H L, readOf s = some (six, H, L) → H < 18446744073709551616 ∧ L < 18446744073709551616 := fun _ _ _ => readOf_lt
  rw [hP] at hPd ⊢
  obtain ⟨R, hR⟩ : ∃ R, readOf s = R := ⟨_, rfl⟩
  rw [hR] at C hPd hlt
  have HPD := Lib.hid hPd; have HLT := Lib.hid hlt
  clear RA hr A1 b1 hP hR hPd hlt
  go_enter Tryd.func5, Tryd.ntmps5
  go_wp2_with fail
  refine C.out.mono ?_
  rintro e w2 ⟨he, hb2⟩
  have A2 := HA.out.keep hb2
  have b2 := thenBelow HB.out hb2
  have R2 := HRA.out.keep hb2
  clear C HA HB HRA
  cases R with
  | none =>
    obtain rfl : e = _ := he
    have hP2 : P = none := HPD.out
    subst hP2
    have ⟨⟨z0, z1, z2, zs⟩, zf⟩ := A2
    have f0 := zf 0; have f1 := zf 1; have f2 := zf 2
    clear zf HPD HLT R2
    go_wp2
    try simp only [Exit.inBlock, Exit.then]
    refine bodyPost_ret (by simp [results, Tryd.results5, go_sem, z0, z1, z2, zs]; try rfl) rfl ?_
    exact ⟨rfl, (((b2.setCell (by simp) _).setCell (by simp) _).setCell (by simp) _).alloc (by simp; have := b2.size; omega) _⟩
  | some x =>
    obtain ⟨six, H, L⟩ := x
    obtain rfl : e = _ := he
    obtain ⟨hH, hL⟩ := HLT.out six H L rfl
    have hP0 : P = if textE six H L = 0 ∧ textL six H L = s then some (six, H, L) else none := HPD.out
    have CT := Lib.hid (text_calls six H L hH hL (w2.alloc (.cells #[.bool six, .int .u64 (H : Int), .int .u64 (L : Int)] 24)) (R2.1.alloc _))
    obtain ⟨T, hT⟩ : ∃ T, textL six H L = T := ⟨_, rfl⟩
    obtain ⟨E, hE⟩ : ∃ E, textE six H L = E := ⟨_, rfl⟩
    rw [hT, hE] at CT hP0
    have A3 := A2.keep ((Below.refl _ w2).alloc (Nat.le_refl _) (.cells #[.bool six, .int .u64 (H : Int), .int .u64 (L : Int)] 24))
    have b3 := b2.alloc b2.size (.cells #[.bool six, .int .u64 (H : Int), .int .u64 (L : Int)] 24)
    have N3 := AddrAt.new w2 six H L 24
    have HP0 := Lib.hid hP0; have HA3 := Lib.hid A3; have HB3 := Lib.hid b3; have HN3 := Lib.hid N3
    clear hP0 HPD HLT R2 A2 b2 A3 b3 N3 hT hE hb2
    by_cases hgood : E = 0 ∧ T = s
    · obtain ⟨rfl, rfl⟩ := hgood
      have hP2 : P = some (six, H, L) := by rw [HP0.out, if_pos ⟨rfl, rfl⟩]
      subst hP2
      clear HP0
      go_wp2_with (go_at_call 10; refine CT.out.mono ?_; rintro e w3 ⟨rfl, hb3⟩; have A4 := HA3.out.keep hb3; have ⟨⟨z0, z1, z2, zs⟩, zf⟩ := A4; have f0 := zf 0; have f1 := zf 1; have f2 := zf 2; have N4 := HN3.out.keep hb3; have ⟨n0, n1, n2, ns⟩ := N4; have b4 := thenBelow HB3.out hb3; clear zf)
      try simp only [Exit.inBlock, Exit.then]
      refine bodyPost_ret (by simp [results, Tryd.results5, go_sem, z0, z1, z2]; try rfl) rfl ?_
      exact ⟨rfl, ((b4.setCell (by simp) _).setCell (by simp) _).setCell (by simp) _⟩
    · have hP2 : P = none := by rw [HP0.out, if_neg hgood]
      subst hP2
      clear HP0
      by_cases hE0 : E = 0
      · subst hE0
        have hne : ¬ T = s := fun h => hgood ⟨rfl, h⟩
        have hneb : (T == s) = false := by simpa using hne
        clear hgood
        go_wp2_with (go_at_call 10; refine CT.out.mono ?_; rintro e w3 ⟨rfl, hb3⟩; have A4 := HA3.out.keep hb3; have ⟨⟨z0, z1, z2, zs⟩, zf⟩ := A4; have f0 := zf 0; have f1 := zf 1; have f2 := zf 2; have N4 := HN3.out.keep hb3; have ⟨n0, n1, n2, ns⟩ := N4; have b4 := thenBelow HB3.out hb3; clear zf)
        try simp only [Exit.inBlock, Exit.then]
        refine bodyPost_ret (by simp [results, Tryd.results5, go_sem, z0, z1, z2]; try rfl) rfl ?_
        exact ⟨rfl, ((b4.setCell (by simp) _).setCell (by simp) _).setCell (by simp) _⟩
      · have hbe : (E != 0) = true := by simpa using hE0
        clear hgood
        go_wp2_with (go_at_call 10; refine CT.out.mono ?_; rintro e w3 ⟨rfl, hb3⟩; have A4 := HA3.out.keep hb3; have ⟨⟨z0, z1, z2, zs⟩, zf⟩ := A4; have f0 := zf 0; have f1 := zf 1; have f2 := zf 2; have N4 := HN3.out.keep hb3; have ⟨n0, n1, n2, ns⟩ := N4; have b4 := thenBelow HB3.out hb3; clear zf)
        try simp only [Exit.inBlock, Exit.then]
        refine bodyPost_ret (by simp [results, Tryd.results5, go_sem, z0, z1, z2]; try rfl) rfl ?_
        exact ⟨rfl, ((b4.setCell (by simp) _).setCell (by simp) _).setCell (by simp) _⟩
end Go.Proofs.YtojdlhiibffnfabDoor
/-
  Reading undoes writing: numbers, pieces, two colons. Plain facts.
-/
namespace Go.Proofs.YtojdlhiibffnfabDoor
open Go.RowKit
set_option linter.unusedVariables false
set_option linter.unusedSimpArgs false

theorem dv_dig (B d : Nat) (hB : B ≤ 16) (hd : d < B) : dv B (dig d) = some d := by
  have h : ∀ k : Fin 16, (if 48 ≤ (dig k.1).toNat ∧ (dig k.1).toNat ≤ 57 then (dig k.1).toNat - 48 = k.1 else (97 ≤ low (dig k.1) ∧ low (dig k.1) ≤ 122 ∧ low (dig k.1) - 87 = k.1)) := by decide +kernel
  have := h ⟨d, by omega⟩
  unfold dv
  simp only at this
  split at this
  · rename_i h1
    rw [if_pos h1, this, if_pos hd]
  · rename_i h1
    rw [if_neg h1, if_pos ⟨this.1, this.2.1⟩, this.2.2, if_pos hd]
theorem pu_app (B M : Nat) : ∀ (l r : List UInt8) (acc : Nat), pu B M acc (l ++ r) = (pu B M acc l).bind fun a => pu B M a r
  | [], r, acc => rfl
  | c :: l, r, acc => by
    rw [List.cons_append]
    cases hd : dv B c with
    | none => rw [pu_none hd, pu_none hd]; rfl
    | some d =>
      by_cases hm : acc * B + d ≤ M
      · rw [pu_step hd hm, pu_step hd hm]; exact pu_app B M l r _
      · rw [pu_over hd hm, pu_over hd hm]; rfl
theorem pu_num (B M : Nat) (hB : B ≤ 16) (hB2 : 2 ≤ B) : ∀ (f n : Nat), n < B ^ (f + 1) → n ≤ M → pu B M 0 (numText B (f + 1) n) = some n
  | f, n, h, hm => by
    unfold numText
    split
    · rename_i hlt
      rw [pu_step (dv_dig B n hB hlt) (by omega)]
      simp [pu]
    · rename_i hge
      have hpos : 0 < B := by omega
      cases f with
      | zero => simp at h; omega
      | succ f =>
        have h1 : n / B < B ^ (f + 1) := by
          rw [Nat.div_lt_iff_lt_mul hpos]
          rw [Nat.pow_succ] at h; exact h
        have h2 : n / B ≤ M := Nat.le_trans (Nat.div_le_self _ _) hm
        have h3 : n % B < B := Nat.mod_lt _ hpos
        have h4 : n / B * B + n % B = n := by rw [Nat.mul_comm]; exact Nat.div_add_mod n B
        rw [pu_app, pu_num B M hB hB2 f (n / B) h1 h2]
        show pu B M (n / B) [dig (n % B)] = some n
        rw [pu_step (dv_dig B _ hB h3) (by omega), h4]
        rfl
theorem puE_num (B M f n : Nat) (hB : B ≤ 16) (hB2 : 2 ≤ B) (h : n < B ^ (f + 1)) (hm : n ≤ M) : puE B M (numText B (f + 1) n) = some n := by
  unfold puE
  rw [if_neg (fun e => by have := numText_pos B f n; rw [e] at this; simp at this)]
  exact pu_num B M hB hB2 f n h hm
theorem nums_map (B M f : Nat) (hB : B ≤ 16) (hB2 : 2 ≤ B) : ∀ (ns : List Nat), (∀ n ∈ ns, n < B ^ (f + 1) ∧ n ≤ M) → nums (puE B M) (ns.map (numText B (f + 1))) = some ns
  | [], _ => rfl
  | n :: ns, h => by
    have h1 := h n (.head _)
    have h2 := nums_map B M f hB hB2 ns (fun x hx => h x (.tail _ hx))
    rw [List.map_cons]
    unfold nums
    rw [puE_num B M f n hB hB2 h1.1 h1.2, h2]
    rfl

theorem indexByte_in (c : UInt8) (rest : List UInt8) : ∀ (t : List UInt8), t.count c = 0 → Lib.indexByte (t ++ c :: rest) c = t.length
  | [], _ => by simp [Lib.indexByte]
  | x :: t, h => by
    have hx : ¬ x = c := fun e => by rw [e, List.count_cons_self] at h; omega
    have ht : t.count c = 0 := by rw [List.count_cons] at h; omega
    have ih := indexByte_in c rest t ht
    rw [List.cons_append]
    unfold Lib.indexByte
    rw [if_neg (by simpa using hx), ih, if_neg (by simp)]
    simp
theorem indexByte_out (c : UInt8) : ∀ (t : List UInt8), t.count c = 0 → Lib.indexByte t c = -1
  | [], _ => rfl
  | x :: t, h => by
    have hx : ¬ x = c := fun e => by rw [e, List.count_cons_self] at h; omega
    have ht : t.count c = 0 := by rw [List.count_cons] at h; omega
    unfold Lib.indexByte
    rw [if_neg (by simpa using hx), indexByte_out c t ht]
    rfl
theorem indexByte_pos (c : UInt8) : ∀ (t : List UInt8), 0 < t.count c → 0 ≤ Lib.indexByte t c
  | [], h => by simp at h
  | x :: t, h => by
    unfold Lib.indexByte
    by_cases hx : x = c
    · rw [if_pos (by simpa using hx)]; omega
    · rw [if_neg (by simpa using hx)]
      have := indexByte_pos c t (by rw [List.count_cons, if_neg (by simpa using hx)] at h; exact h)
      rw [if_neg (by simp; omega)]
      omega

theorem split_join (c : UInt8) : ∀ (ts : List (List UInt8)), ts ≠ [] → (∀ t ∈ ts, t.count c = 0) → Lib.split (Lib.join ts [c]) [c] = ts
  | [], h, _ => absurd rfl h
  | [t], _, h => by
    have h1 := h t (.head _)
    rw [Lib.join_one]
    unfold Lib.split
    rw [Lib.count_miss (by rw [Lib.index_one]; exact indexByte_out c t h1)]
    rfl
  | t :: u :: r, _, h => by
    have h1 := h t (.head _)
    have ih := split_join c (u :: r) (by simp) (fun x hx => h x (.tail _ hx))
    have e : Lib.join (t :: u :: r) [c] = t ++ c :: Lib.join (u :: r) [c] := by
      simp [Lib.join_cons, Lib.joinTail]
    have hi : Lib.index (t ++ c :: Lib.join (u :: r) [c]) [c] = t.length := by rw [Lib.index_one]; exact indexByte_in c _ t h1
    have hd : (t ++ c :: Lib.join (u :: r) [c]).drop (t.length + [c].length) = Lib.join (u :: r) [c] := by
      rw [List.drop_append]; simp
    rw [e]
    unfold Lib.split
    rw [Lib.count_hit (by simp) hi, hd, Nat.add_comm 1]
    unfold Lib.splitK
    rw [if_neg (by rw [hi]; simp), hi, Int.toNat_natCast, hd]
    unfold Lib.split at ih
    rw [ih]
    simp

/-- No two colons side by side, and none at the end. -/
def okc : List UInt8 → Prop
  | [] => True
  | [x] => x ≠ 58
  | x :: y :: l => (x = 58 → y ≠ 58) ∧ okc (y :: l)
theorem index_on {x : UInt8} {l : List UInt8} {n : Nat} (hp : ([58, 58] : List UInt8).isPrefixOf (x :: l) = false) (h : Lib.index l [58, 58] = n) : Lib.index (x :: l) [58, 58] = (n + 1 : Nat) := by
  unfold Lib.index
  rw [hp, h, if_neg (by simp), if_neg (by simp)]
  simp
theorem index_off {x : UInt8} {l : List UInt8} (hp : ([58, 58] : List UInt8).isPrefixOf (x :: l) = false) (h : Lib.index l [58, 58] = -1) : Lib.index (x :: l) [58, 58] = -1 := by
  unfold Lib.index
  rw [hp, h]
  rfl
theorem pre2 {x y : UInt8} {l : List UInt8} (h : x = 58 → y ≠ 58) : ([58, 58] : List UInt8).isPrefixOf (x :: y :: l) = false := by
  by_cases hx : x = 58
  · have hy := h hx
    have : ((58 : UInt8) == y) = false := by simpa using fun e => hy e.symm
    simp [List.isPrefixOf, this]
  · have : ((58 : UInt8) == x) = false := by simpa using fun e => hx e.symm
    simp [List.isPrefixOf, this]
theorem cc_in (rest : List UInt8) : ∀ (p : List UInt8), okc p → Lib.index (p ++ 58 :: 58 :: rest) [58, 58] = p.length
  | [], _ => by simp [Lib.index]
  | [x], h => index_on (n := 0) (pre2 (fun e => absurd e h)) (cc_in rest [] trivial)
  | x :: y :: l, h => index_on (n := (y :: l).length) (pre2 h.1) (cc_in rest (y :: l) h.2)
theorem cc_out : ∀ (p : List UInt8), okc p → Lib.index p [58, 58] = -1
  | [], _ => rfl
  | [x], h => by
    have : ((58 : UInt8) == x) = false := by simpa using fun e => h e.symm
    exact index_off (by simp [List.isPrefixOf, this]) rfl
  | x :: y :: l, h => index_off (pre2 h.1) (cc_out (y :: l) h.2)

theorem okc_no : ∀ (t : List UInt8), t.count 58 = 0 → okc t
  | [], _ => trivial
  | [x], h => fun e => by rw [e] at h; simp at h
  | x :: y :: l, h => by
    have hx : ¬ x = 58 := fun e => by rw [e, List.count_cons_self] at h; omega
    exact ⟨fun e => absurd e hx, okc_no (y :: l) (by rw [List.count_cons] at h; omega)⟩
theorem okc_mid (y : UInt8) (q : List UInt8) (hy : y ≠ 58) (hq : okc (y :: q)) : ∀ (t : List UInt8), t ≠ [] → t.count 58 = 0 → okc (t ++ 58 :: y :: q)
  | [], h, _ => absurd rfl h
  | [x], _, h => by
    have hx : ¬ x = 58 := fun e => by rw [e] at h; simp at h
    exact ⟨fun e => absurd e hx, fun _ => hy, hq⟩
  | x :: z :: l, _, h => by
    have hx : ¬ x = 58 := fun e => by rw [e, List.count_cons_self] at h; omega
    exact ⟨fun e => absurd e hx, okc_mid y q hy hq (z :: l) (by simp) (by rw [List.count_cons] at h; omega)⟩
theorem okc_join : ∀ (ts : List (List UInt8)), (∀ t ∈ ts, t ≠ [] ∧ t.count 58 = 0) → okc (Lib.join ts [58])
  | [], _ => trivial
  | [t], h => by rw [Lib.join_one]; exact okc_no t (h t (.head _)).2
  | t :: u :: r, h => by
    have ih := okc_join (u :: r) (fun x hx => h x (.tail _ hx))
    have e : Lib.join (t :: u :: r) [58] = t ++ 58 :: Lib.join (u :: r) [58] := by simp [Lib.join_cons, Lib.joinTail]
    have hu := h u (.tail _ (.head _))
    have e2 : ∃ y q, Lib.join (u :: r) [58] = y :: q ∧ y ≠ 58 := by
      match u, hu with
      | [], hu => exact absurd rfl hu.1
      | y :: u, hu =>
        refine ⟨y, u ++ Lib.joinTail [58] r, by rw [Lib.join_cons]; rfl, fun e => ?_⟩
        have := hu.2
        rw [e, List.count_cons_self] at this
        omega
    obtain ⟨y, q, e3, hy⟩ := e2
    rw [e3] at ih
    rw [e, e3]
    exact okc_mid y q hy ih t (h t (.head _)).1 (h t (.head _)).2
end Go.Proofs.YtojdlhiibffnfabDoor
/-
  The text of an address is read back as that address. Plain facts.
-/
namespace Go.Proofs.YtojdlhiibffnfabDoor
open Go.RowKit
set_option linter.unusedVariables false
set_option linter.unusedSimpArgs false

theorem fourP_is (L : Nat) : fourP L = [L / 16777216 % 256, L / 65536 % 256, L / 256 % 256, L / 1 % 256] := rfl
theorem back_four (L : Nat) (h : L < 4294967296) : readOf (Lib.join (fourT L) [46]) = some (false, 0, L) := by
  have hf := four_facts L
  unfold readOf
  rw [if_neg (by rw [indexByte_out 58 _ hf.1]; decide)]
  have h1 : numsOf 10 255 46 (Lib.join (fourT L) [46]) = some (fourP L) := by
    unfold numsOf
    rw [split_join 46 (fourT L) (by simp [fourT, fourP]) (fourT_count L 46 (.inl rfl))]
    refine nums_map 10 255 2 (by omega) (by omega) (fourP L) (fun n hn => ?_)
    rw [fourP_is] at hn
    simp only [List.mem_cons, List.mem_nil_iff, or_false] at hn
    have h3 : (10 : Nat) ^ (2 + 1) = 1000 := by decide
    rw [h3]
    omega
  rw [h1, fourP_is]
  show some (false, 0, _) = _
  congr 3
  omega

theorem grps_join (l : List Nat) (h : ∀ x ∈ l, x < 65536) : grpsOf (Lib.join (hexT l) [58]) = some l := by
  unfold grpsOf
  by_cases hl : l = []
  · subst hl
    rw [if_pos (by simp [hexT, Lib.join_nil])]
  · have hne : hexT l ≠ [] := by simpa [hexT] using hl
    have hlen : 1 ≤ (hexT l).length := by cases e : hexT l with | nil => exact absurd e hne | cons _ _ => simp
    have hj := join_len 58 4 (hexT l) (hexT_lens l) hlen
    rw [if_neg (fun e => by rw [e] at hj; simp at hj; omega)]
    unfold numsOf
    rw [split_join 58 (hexT l) hne (hexT_count l 58 (.inr rfl))]
    refine nums_map 16 65535 3 (by omega) (by omega) l (fun n hn => ?_)
    have := h n hn
    have h3 : (16 : Nat) ^ (3 + 1) = 65536 := by decide
    rw [h3]
    omega
theorem hex_ok (l : List Nat) : okc (Lib.join (hexT l) [58]) :=
  okc_join _ (fun t ht => ⟨fun e => by have := (hexT_lens l t ht).1; rw [e] at this; simp at this, hexT_count l 58 (.inr rfl) t ht⟩)

theorem lz_zero : ∀ b0 b1 b2 b3 b4 b5 b6 b7 : Bool, ∀ j : Fin 8, (lzTo [b0, b1, b2, b3, b4, b5, b6, b7] 8).2.1 ≤ (j.1 : Int) → (j.1 : Int) < (lzTo [b0, b1, b2, b3, b4, b5, b6, b7] 8).2.2 → [b0, b1, b2, b3, b4, b5, b6, b7].getD j.1 false = true := by decide +kernel
theorem mid_zero (gs : List Nat) (hl : gs.length = 8) (f t : Nat) (hft : f ≤ t) (ht : t ≤ 8) (hz : ∀ j, f ≤ j → j < t → gs.getD j 0 = 0) : gs.take f ++ List.replicate (8 - f - (8 - t)) 0 ++ gs.drop t = gs := by
  apply List.ext_getElem?
  intro j
  by_cases h1 : j < f
  · rw [List.append_assoc, List.getElem?_append_left (by rw [List.length_take]; omega), List.getElem?_take_of_lt h1]
  · by_cases h2 : j < t
    · rw [List.getElem?_append_left (by rw [List.length_append, List.length_take, List.length_replicate]; omega), List.getElem?_append_right (by rw [List.length_take]; omega), List.getElem?_replicate, if_pos (by rw [List.length_take]; omega)]
      have := hz j (by omega) h2
      rw [List.getD_eq_getElem?_getD, List.getElem?_eq_getElem (by omega)] at this
      rw [List.getElem?_eq_getElem (by omega)]
      simpa using this.symm
    · rw [List.getElem?_append_right (by rw [List.length_append, List.length_take, List.length_replicate]; omega), List.getElem?_drop]
      congr 1
      rw [List.length_append, List.length_take, List.length_replicate]
      omega

theorem hor_grp (H L : Nat) (h1 : H < 18446744073709551616) (l1 : L < 18446744073709551616) : hor ((grpP H L).take 4) = H ∧ hor ((grpP H L).drop 4) = L := by
  constructor
  · show hor [H / 281474976710656 % 65536, H / 4294967296 % 65536, H / 65536 % 65536, H % 65536] = H
    simp only [hor, List.foldl]
    omega
  · show hor [L / 281474976710656 % 65536, L / 4294967296 % 65536, L / 65536 % 65536, L % 65536] = L
    simp only [hor, List.foldl]
    omega

theorem back_six (H L : Nat) (h1 : H < 18446744073709551616) (l1 : L < 18446744073709551616) : readOf (sixT (grpP H L)) = some (true, H, L) := by
  have hgl : (grpP H L).length = 8 := rfl
  have hg16 : ∀ u ∈ grpP H L, u < 65536 := by
    intro u hu
    simp only [grpP, List.mem_cons, List.mem_nil_iff, or_false] at hu
    omega
  have hfacts := six_facts (grpP H L) hgl
  have hhor := hor_grp H L h1 l1
  have hbd := lzTo_bd (zeroP (grpP H L)) 8
  have hz8 := lz_zero (H / 281474976710656 % 65536 == 0) (H / 4294967296 % 65536 == 0) (H / 65536 % 65536 == 0) (H % 65536 == 0) (L / 281474976710656 % 65536 == 0) (L / 4294967296 % 65536 == 0) (L / 65536 % 65536 == 0) (L % 65536 == 0)
  have hz : ∀ j : Nat, j < 8 → (lzTo (zeroP (grpP H L)) 8).2.1 ≤ (j : Int) → (j : Int) < (lzTo (zeroP (grpP H L)) 8).2.2 → (grpP H L).getD j 0 = 0 := by
    intro j hj a b
    have := hz8 ⟨j, hj⟩ a b
    have e := getD_zero (grpP H L) j (by rw [hgl]; exact hj)
    have e2 : ((grpP H L).map (· == 0)).getD j false = true := this
    rw [e] at e2
    simpa using e2
  unfold readOf
  rw [if_pos (indexByte_pos 58 _ (by omega))]
  have key : sixFrom (Lib.cut (sixT (grpP H L)) [58, 58]).2.2 (grpsOf (Lib.cut (sixT (grpP H L)) [58, 58]).1) (grpsOf (Lib.cut (sixT (grpP H L)) [58, 58]).2.1) = some (grpP H L) := by
    generalize grpP H L = gs at *
    by_cases hft : (lzTo (zeroP gs) 8).2.2 - (lzTo (zeroP gs) 8).2.1 < 2
    · have hs : sixT gs = Lib.join (hexT gs) [58] := by unfold sixT; simp only; rw [if_pos hft]
      rw [hs]
      have hc : Lib.cut (Lib.join (hexT gs) [58]) [58, 58] = (Lib.join (hexT gs) [58], [], false) := by
        unfold Lib.cut
        rw [cc_out _ (hex_ok gs), if_neg (by decide)]
      rw [hc]
      show sixFrom false (grpsOf (Lib.join (hexT gs) [58])) (grpsOf []) = some gs
      rw [grps_join gs hg16, show grpsOf [] = some [] from rfl, sixFrom_ok (by rw [hgl]; simp), hgl]
      simp
    · obtain ⟨f, hf⟩ := Int.eq_ofNat_of_zero_le hbd.2.2.1
      obtain ⟨t, ht⟩ := Int.eq_ofNat_of_zero_le (Int.le_trans hbd.2.2.1 hbd.2.2.2.1)
      have ht8 := hbd.2.2.2.2
      rw [hf, ht] at hft hz
      rw [ht] at ht8
      have hs : sixT gs = Lib.join (hexT (gs.take f)) [58] ++ 58 :: 58 :: Lib.join (hexT (gs.drop t)) [58] := by
        unfold sixT
        simp only
        rw [hf, ht, if_neg hft]
        simp
      rw [hs]
      generalize hA : Lib.join (hexT (gs.take f)) [58] = A
      generalize hB : Lib.join (hexT (gs.drop t)) [58] = B
      have hi : Lib.index (A ++ 58 :: 58 :: B) [58, 58] = A.length := cc_in B A (by rw [← hA]; exact hex_ok _)
      have hc : Lib.cut (A ++ 58 :: 58 :: B) [58, 58] = (A, B, true) := by
        unfold Lib.cut
        rw [hi, if_pos (by omega), Int.toNat_natCast]
        simp
      rw [hc]
      show sixFrom true (grpsOf A) (grpsOf B) = some gs
      rw [← hA, ← hB, grps_join _ (fun x hx => hg16 x (List.mem_of_mem_take hx)), grps_join _ (fun x hx => hg16 x (List.mem_of_mem_drop hx))]
      have e1 : (gs.take f).length = f := by rw [List.length_take, hgl]; omega
      have e2 : (gs.drop t).length = 8 - t := by rw [List.length_drop, hgl]
      rw [sixFrom_ok (by rw [e1, e2]; simp; omega), e1, e2]
      rw [mid_zero gs hgl f t (by omega) (by omega) (fun j a b => hz j (by omega) (by omega) (by omega))]
  unfold sixOf
  rw [key, Option.map_some, hhor.1, hhor.2]

/-- Reading undoes writing. -/
theorem back_all (six : Bool) (H L : Nat) (h1 : H < 18446744073709551616) (l1 : L < 18446744073709551616) (hE : textE six H L = 0) : readOf (textL six H L) = some (six, H, L) := by
  cases six
  · have hm : H = 0 ∧ L < 4294967296 := by
      unfold textE at hE
      rw [if_neg (by decide)] at hE
      split at hE
      · assumption
      · cases hE
    have e1 : textL false H L = Lib.join (fourT L) [46] := by simp [textL, hm]
    rw [e1, back_four L hm.2, hm.1]
  · exact back_six H L h1 l1
theorem parse_back (six : Bool) (H L : Nat) (h1 : H < 18446744073709551616) (l1 : L < 18446744073709551616) (hE : textE six H L = 0) : parseOf (textL six H L) = some (six, H, L) := by
  unfold parseOf
  rw [back_all six H L h1 l1 hE]
  show (if textE six H L = 0 ∧ textL six H L = textL six H L then some (six, H, L) else none) = _
  rw [if_pos ⟨hE, rfl⟩]
theorem text_inj {six six2 : Bool} {H L H2 L2 : Nat} (h1 : H < 18446744073709551616) (l1 : L < 18446744073709551616) (hE : textE six H L = 0) (h2 : H2 < 18446744073709551616) (l2 : L2 < 18446744073709551616) (hE2 : textE six2 H2 L2 = 0)
    (h : textL six H L = textL six2 H2 L2) : six = six2 ∧ H = H2 ∧ L = L2 := by
  have a := back_all six H L h1 l1 hE
  rw [h, back_all six2 H2 L2 h2 l2 hE2] at a
  simp only [Option.some.injEq, Prod.mk.injEq] at a
  exact ⟨a.1.symm, a.2.1.symm, a.2.2.symm⟩
end Go.Proofs.YtojdlhiibffnfabDoor
