/-
  addr.readGroups, addr.readSix.
-/
import Derived.Test.YtojdlhiibffnfabDoorReadFour
import Derived.Laws.CopyOwn
namespace Go.Proofs.YtojdlhiibffnfabDoor
open Go.RowKit Go.Sort
set_option linter.unusedVariables false
set_option linter.unusedSimpArgs false

def grpsOf (s : List UInt8) : Option (List Nat) := if s = [] then some [] else numsOf 16 65535 58 s
theorem grpsOf_lt {s : List UInt8} {ns : List Nat} (h : grpsOf s = some ns) : ∀ n ∈ ns, n < 65536 := by
  unfold grpsOf at h
  split at h
  · cases h; intro n hn; cases hn
  · intro n hn; have := numsOf_le h n hn; omega

theorem split_len (s : List UInt8) (c : UInt8) : (Lib.split s [c]).length ≤ s.length + 1 := by
  have h1 := congrArg List.length (Lib.splitB_data ⟨#[c]⟩ 0 (Lib.countB ⟨s.toArray⟩ ⟨#[c]⟩) ⟨s.toArray⟩)
  have h2 := Lib.splitB_length_le ⟨#[c]⟩ 0 (Lib.countB ⟨s.toArray⟩ ⟨#[c]⟩) ⟨s.toArray⟩
  have h3 := Lib.countB_le ⟨#[c]⟩ (one_sz c) (⟨s.toArray⟩ : ByteArray).size ⟨s.toArray⟩ (Nat.le_refl _)
  have h4 : (⟨s.toArray⟩ : ByteArray).size = s.length := by simp [ByteArray.size]
  rw [List.length_map] at h1
  have h5 : (Lib.split s [c]).length = (Lib.splitB ⟨#[c]⟩ 0 (Lib.countB ⟨s.toArray⟩ ⟨#[c]⟩) ⟨s.toArray⟩).length := h1.symm
  omega
theorem grps_len {s : List UInt8} {ns : List Nat} (h : grpsOf s = some ns) : ns.length ≤ s.length + 1 := by
  unfold grpsOf at h
  split at h
  · cases h; simp
  · rw [nums_length h]; exact split_len s 58

set_option maxHeartbeats 1000000 in
set_option maxRecDepth 100000 in
theorem readGroups_calls (t : ByteArray) (s : List UInt8) (hs : t.data.toList = s) (hl : s.length ≤ 600) (w : World) (hr : RTabs w) :
    Calls Tryd.prog 33 #[.string t] w fun e w' => NumsOut w.heap.size (grpsOf s) e w' ∧ Below w.heap.size w w' := by
  by_cases h0 : s = []
  · have ht : t = ⟨#[]⟩ := by
      apply ByteArray.ext
      have : t.data.toList = [] := by rw [hs, h0]
      simpa using this
    have hg : grpsOf s = some [] := by rw [grpsOf, if_pos h0]
    rw [hg]
    subst ht
    clear hs hl h0 hg
    go_enter Tryd.func33, Tryd.ntmps33
    go_wp2
    go_ret2
    exact ⟨⟨_, rfl, by simpa using World.ownsRow_nil _ _ _ _⟩, Below.refl _ _⟩
  · have hg : grpsOf s = numsOf 16 65535 58 s := by rw [grpsOf, if_neg h0]
    rw [hg]
    have hsz : t.size ≠ 0 := by rw [Lib.size_eq, hs]; exact fun h => h0 (List.eq_nil_of_length_eq_zero h)
    have hemp : t.toList.isEmpty = false := by
      rw [← decide_eq_emptyBytes]
      exact decide_eq_false (fun h => hsz (by rw [h]; rfl))
    have C := Lib.hid (readNumbers_calls 16 16 65535 (.inr ⟨rfl, rfl, rfl⟩) 58 t s hs hl w hr)
    obtain ⟨R, hR⟩ : ∃ R, numsOf 16 65535 58 s = R := ⟨_, rfl⟩
    rw [hR] at C ⊢
    clear hg hR hs hl h0 hsz hr
    go_enter Tryd.func33, Tryd.ntmps33
    go_wp2_with fail
    refine C.out.mono ?_
    rintro e w1 ⟨he, hb⟩
    clear C
    cases R with
    | none =>
      obtain rfl : e = _ := he
      go_wp2
      go_ret2
      exact ⟨rfl, hb⟩
    | some ns =>
      obtain ⟨v, rfl, hown⟩ := he
      have HO := Lib.hid hown
      clear hown
      go_wp2
      go_ret2
      exact ⟨⟨_, rfl, HO.out⟩, hb⟩

/-- What addr.readSix reads. -/
def sixFrom (sh : Bool) : Option (List Nat) → Option (List Nat) → Option (List Nat)
  | some l, some r => if 8 < l.length + r.length ∨ (sh = false ∧ l.length + r.length < 8) then none else some (l ++ List.replicate (8 - l.length - r.length) 0 ++ r)
  | _, _ => none
theorem sixFrom_bad {sh : Bool} {l r : List Nat} (h : 8 < l.length + r.length ∨ (sh = false ∧ l.length + r.length < 8)) : sixFrom sh (some l) (some r) = none := if_pos h
theorem sixFrom_ok {sh : Bool} {l r : List Nat} (h : ¬ (8 < l.length + r.length ∨ (sh = false ∧ l.length + r.length < 8))) : sixFrom sh (some l) (some r) = some (l ++ List.replicate (8 - l.length - r.length) 0 ++ r) := if_neg h
def sixOf (s : List UInt8) : Option (Bool × Nat × Nat) :=
  (sixFrom (Lib.cut s [58, 58]).2.2 (grpsOf (Lib.cut s [58, 58]).1) (grpsOf (Lib.cut s [58, 58]).2.1)).map fun gs => (true, hor (gs.take 4), hor (gs.drop 4))

theorem AddrW.keep {w w' : World} {b : Nat} {s : Bool} {h l : Int} (a : AddrW w b s h l) (hb : Below w.heap.size w w') : AddrW w' b s h l :=
  ⟨a.1.keep hb, fun o => (hb.frozen (p := ⟨b, o, none⟩) a.1.2.2.2).trans (a.2 o)⟩
theorem own_form {w : World} {base : Nat} {e : TypeId} {v : Value} {n : Nat} {xs : List Value} (h : w.ownsRow base e 1 v n xs) :
    ∃ (p : Option Addr) (cap : Nat), v = .slice p n cap ∧ n ≤ maxLen ∧ (0 < n → ∃ g, p = some ⟨g, 0, none⟩ ∧ base ≤ g ∧ g < w.heap.size ∧ ∀ j x, xs[j]? = some x → w.cell? ⟨g, j, none⟩ = some x) := by
  rcases h.2 with ⟨rfl, h0⟩ | ⟨g, cap, cur, rfl, hb, hc⟩
  · exact ⟨none, 0, by rw [h0], by rw [h0]; exact Nat.zero_le _, fun h => by omega⟩
  · refine ⟨some ⟨g, 0, none⟩, cap, rfl, Nat.le_trans hc.2.1 hc.2.2.1, fun hn => ⟨g, rfl, hb, ?_, ?_⟩⟩
    · exact (h.lt g rfl).2
    · intro j x hx
      have hj : j < n := by
        have := (List.getElem?_eq_some_iff.1 hx).1
        have h1 := h.1
        omega
      rw [h.cellAt j (by omega)]; exact hx
theorem list8 (l : List Nat) (h : l.length = 8) : ∃ g0 g1 g2 g3 g4 g5 g6 g7, l = [g0, g1, g2, g3, g4, g5, g6, g7] := by
  match l, h with
  | [g0, g1, g2, g3, g4, g5, g6, g7], _ => exact ⟨g0, g1, g2, g3, g4, g5, g6, g7, rfl⟩
theorem addr_add (g j : Nat) : (⟨g, 0, none⟩ : Addr).add j = ⟨g, j, none⟩ := by
  unfold Addr.add
  split <;> simp_all
theorem slice_tail (b t : Nat) (ht : t ≤ 8) (W : World) : (Instr.sliceAt 62 (.pointer (some ⟨b, 0, none⟩)) (some (.int .i64 (t : Int))) none none).run Tryd.prog W = .ok (.slice (some ⟨b, if t < 8 then t else 0, none⟩) (8 - t) (8 - t)) W := by
  have hal : Tryd.prog.arrayLen 62 = 8 := by kernel_rfl
  rw [run_sliceAt_array_l W 62 ⟨b, 0, none⟩ (by kernel_rfl) .i64 (t : Int) (by omega) (by rw [hal]; omega), hal]
  by_cases h8 : t < 8
  · rw [if_pos h8]
    have : ¬ 8 = t := by omega
    go_simp
  · obtain rfl : t = 8 := by omega
    go_simp
theorem cut_len (s sep : List UInt8) : (Lib.cut s sep).1.length ≤ s.length ∧ (Lib.cut s sep).2.1.length ≤ s.length := by
  unfold Lib.cut
  split
  · exact ⟨by simp [List.length_take]; omega, by simp [List.length_drop]⟩
  · exact ⟨by simp, by simp⟩
theorem two_splices (l r : List Value) (z : Value) (h : l.length + r.length ≤ 8) :
    splice (splice (List.replicate 8 z) 0 l) (8 - r.length) r = l ++ List.replicate (8 - l.length - r.length) z ++ r := by
  unfold splice
  have h1 : (List.replicate 8 z).take 0 ++ (l ++ (List.replicate 8 z).drop (0 + l.length)) = l ++ List.replicate (8 - l.length) z := by rw [Nat.zero_add, List.drop_replicate]; rfl
  rw [h1, List.take_append, List.drop_append, List.take_of_length_le (by omega : l.length ≤ 8 - r.length), List.drop_of_length_le (by omega : l.length ≤ 8 - r.length + r.length)]
  simp
  rw [show min (8 - r.length - l.length) (8 - l.length) = 8 - l.length - r.length by omega, show 8 - l.length - (8 - r.length + r.length - l.length) = 0 by omega]
  simp

set_option maxHeartbeats 4000000 in
set_option maxRecDepth 100000 in
theorem readSix_calls (t : ByteArray) (s : List UInt8) (hs : t.data.toList = s) (hl : s.length ≤ 600) (w : World) (hr : RTabs w) :
    Calls Tryd.prog 19 #[.string t] w fun e w' => ReadOut (sixOf s) e ∧ Below w.heap.size w w' := by
  obtain ⟨m, hm⟩ := (hr.alloc (.cells #[.bool false, .int .u64 0, .int .u64 0] 24)).2.1
  have C := Tryd.strings_Cut t ⟨#[58, 58]⟩ m (w.alloc (.cells #[.bool false, .int .u64 0, .int .u64 0] 24)) (by rw [Lib.size_eq, hs]; omega) hm
  rw [hs] at C
  have hcl := cut_len s [58, 58]
  have hS : sixOf s = (sixFrom (Lib.cut s [58, 58]).2.2 (grpsOf (Lib.cut s [58, 58]).1) (grpsOf (Lib.cut s [58, 58]).2.1)).map fun gs => (true, hor (gs.take 4), hor (gs.drop 4)) := rfl
  obtain ⟨S, hSS⟩ : ∃ S, sixOf s = S := ⟨_, rfl⟩
  rw [hSS] at hS ⊢
  have C' : Hid (Calls Tryd.prog 27 #[.string t, .string ⟨#[58, 58]⟩] (w.alloc (.cells #[.bool false, .int .u64 0, .int .u64 0] 24)) fun e w' => e = .returned (.tuple #[.string ⟨(Lib.cut s [58, 58]).1.toArray⟩, .string ⟨(Lib.cut s [58, 58]).2.1.toArray⟩, .bool (Lib.cut s [58, 58]).2.2]) ∧ ∃ n, w' = (w.alloc (.cells #[.bool false, .int .u64 0, .int .u64 0] 24)).drewN n) := C
  obtain ⟨hd, hhd⟩ : ∃ x, (Lib.cut s [58, 58]).1 = x := ⟨_, rfl⟩
  obtain ⟨tl, htl⟩ : ∃ x, (Lib.cut s [58, 58]).2.1 = x := ⟨_, rfl⟩
  obtain ⟨sh, hsh⟩ : ∃ x, (Lib.cut s [58, 58]).2.2 = x := ⟨_, rfl⟩
  rw [hhd, htl, hsh] at C' hS
  rw [hhd, htl] at hcl
  have HS := Lib.hid hS; have HR := Lib.hid hr; have HCL := Lib.hid hcl; have HL := Lib.hid hl
  clear C hm hhd htl hsh hSS hS hr hcl hs hl
  go_enter Tryd.func19, Tryd.ntmps19
  go_wp2_with fail
  refine C'.out.mono ?_
  rintro e w1 ⟨rfl, n, rfl⟩
  have b1 : Below w.heap.size w ((w.alloc (.cells #[.bool false, .int .u64 0, .int .u64 0] 24)).drewN n) := below_drewN ((Below.refl _ w).alloc (Nat.le_refl _) _) n
  have R1 : RTabs ((w.alloc (.cells #[.bool false, .int .u64 0, .int .u64 0] 24)).drewN n) := HR.out.keep b1
  have A1 : AddrW ((w.alloc (.cells #[.bool false, .int .u64 0, .int .u64 0] 24)).drewN n) w.heap.size false 0 0 := ⟨AddrAt.new w false 0 0 24, fun o => by
    show (w.alloc (.cells #[.bool false, .int .u64 0, .int .u64 0] 24)).frozen? _ = false
    simp [go_sem]⟩
  obtain ⟨W1, hW1⟩ : ∃ W1, (w.alloc (.cells #[.bool false, .int .u64 0, .int .u64 0] 24)).drewN n = W1 := ⟨_, rfl⟩
  rw [hW1] at b1 R1 A1 ⊢
  clear hW1 C' HR
  have C1 := Lib.hid (readGroups_calls ⟨hd.toArray⟩ hd (by simp) (by have := HCL.out; have := HL.out; omega) W1 R1)
  obtain ⟨gl, hgl⟩ : ∃ x, grpsOf hd = x := ⟨_, rfl⟩
  rw [hgl] at C1 HS
  go_wp2_with fail
  refine C1.out.mono ?_
  rintro e w2 ⟨he, hb2⟩
  have R2 := R1.keep hb2
  have A2 := A1.keep hb2
  have b2 := thenBelow b1 hb2
  clear C1 R1 A1
  cases gl with
  | none =>
    obtain rfl : e = _ := he
    have hS2 : S = none := by rw [HS.out]; rfl
    subst hS2
    have ⟨⟨z0, z1, z2, zs⟩, zf⟩ := A2
    have f0 := zf 0; have f1 := zf 1; have f2 := zf 2
    clear zf HS
    go_wp2
    try simp only [Exit.inBlock, Exit.then]
    refine bodyPost_ret (by simp [results, Tryd.results19, go_sem, z0, z1, z2]; try rfl) rfl ?_
    exact ⟨rfl, ((b2.setCell (by simp) _).setCell (by simp) _).setCell (by simp) _⟩
  | some l =>
    obtain ⟨v, rfl, hown⟩ := he
    obtain ⟨p, cap, rfl, _, hp⟩ := own_form hown
    have HP := Lib.hid hp
    have hl16 := Lib.hid (grpsOf_lt hgl)
    have hlm : l.length ≤ 601 := by have := grps_len hgl; have := HCL.out; have := HL.out; omega
    clear hown hp
    have C2 := Lib.hid (readGroups_calls ⟨tl.toArray⟩ tl (by simp) (by have := HCL.out; have := HL.out; omega) w2 R2)
    obtain ⟨gr, hgr⟩ : ∃ x, grpsOf tl = x := ⟨_, rfl⟩
    rw [hgr] at C2 HS
    go_wp2_with fail
    refine C2.out.mono ?_
    rintro e w3 ⟨he, hb3⟩
    have A3 := A2.keep hb3
    have b3 := thenBelow b2 hb3
    clear C2 R2 A2
    cases gr with
    | none =>
      obtain rfl : e = _ := he
      have hS2 : S = none := by rw [HS.out]; rfl
      subst hS2
      have ⟨⟨z0, z1, z2, zs⟩, zf⟩ := A3
      have f0 := zf 0; have f1 := zf 1; have f2 := zf 2
      clear zf HS
      go_wp2
      try simp only [Exit.inBlock, Exit.then]
      refine bodyPost_ret (by simp [results, Tryd.results19, go_sem, z0, z1, z2]; try rfl) rfl ?_
      exact ⟨rfl, ((b3.setCell (by simp) _).setCell (by simp) _).setCell (by simp) _⟩
    | some r =>
      obtain ⟨v, rfl, hown⟩ := he
      obtain ⟨q, cap2, rfl, _, hq⟩ := own_form hown
      have HQ := Lib.hid hq
      have hr16 := Lib.hid (grpsOf_lt hgr)
      have hrm : r.length ≤ 601 := by have := grps_len hgr; have := HCL.out; have := HL.out; omega
      clear hown hq
      have ⟨⟨z0, z1, z2, zs⟩, zf⟩ := A3
      have f0 := zf 0; have f1 := zf 1; have f2 := zf 2
      clear zf
      by_cases h8 : 8 < l.length + r.length
      · have hS2 : S = none := by rw [HS.out]; rw [sixFrom_bad (.inl h8)]; rfl
        subst hS2
        have h8i : 8 < (l.length : Int) + (r.length : Int) := by omega
        clear HS h8
        go_wp2
        try simp only [Exit.inBlock, Exit.then]
        refine bodyPost_ret (by simp [results, Tryd.results19, go_sem, z0, z1, z2]; try rfl) rfl ?_
        exact ⟨rfl, ((b3.setCell (by simp) _).setCell (by simp) _).setCell (by simp) _⟩
      by_cases hbad : sh = false ∧ l.length + r.length < 8
      · have hS2 : S = none := by rw [HS.out]; rw [sixFrom_bad (.inr hbad)]; rfl
        subst hS2
        obtain ⟨rfl, hlt⟩ := hbad
        have h8i : (l.length : Int) + (r.length : Int) < 8 := by omega
        clear HS
        go_wp2
        try simp only [Exit.inBlock, Exit.then]
        refine bodyPost_ret (by simp [results, Tryd.results19, go_sem, z0, z1, z2]; try rfl) rfl ?_
        exact ⟨rfl, ((b3.setCell (by simp) _).setCell (by simp) _).setCell (by simp) _⟩
      have hlen : (l ++ List.replicate (8 - l.length - r.length) 0 ++ r).length = 8 := by simp; omega
      obtain ⟨gs, hgs⟩ : ∃ gs, l ++ List.replicate (8 - l.length - r.length) 0 ++ r = gs := ⟨_, rfl⟩
      have hS2 : S = some (true, hor (gs.take 4), hor (gs.drop 4)) := by rw [HS.out]; rw [sixFrom_ok (fun h => h.elim h8 hbad), hgs]; rfl
      have h16 : ∀ x ∈ gs, x < 65536 := by
        rw [← hgs]
        intro x hx
        rcases List.mem_append.1 hx with hx | hx
        · rcases List.mem_append.1 hx with hx | hx
          · exact hl16.out x hx
          · rw [List.eq_of_mem_replicate hx]; omega
        · exact hr16.out x hx
      rw [hgs] at hlen
      obtain ⟨cl, hcl⟩ : ∃ c, (l.map fun n => Value.int .u64 ((n : Nat) : Int)) = c := ⟨_, rfl⟩
      obtain ⟨cr, hcr⟩ : ∃ c, (r.map fun n => Value.int .u64 ((n : Nat) : Int)) = c := ⟨_, rfl⟩
      obtain ⟨z8, hz8⟩ : ∃ c, List.replicate 8 (Value.int .u64 0) = c := ⟨_, rfl⟩
      have hmap : splice (splice z8 0 cl) (8 - r.length) cr = gs.map fun n => Value.int .u64 ((n : Nat) : Int) := by
        have := two_splices (l.map fun n => Value.int .u64 ((n : Nat) : Int)) (r.map fun n => Value.int .u64 ((n : Nat) : Int)) (.int .u64 0) (by simp; omega)
        rw [List.length_map, List.length_map] at this
        rw [← hcl, ← hcr, ← hz8, this, ← hgs]
        simp
      have hll : cl.length = l.length := by rw [← hcl, List.length_map]
      have hrl : cr.length = r.length := by rw [← hcr, List.length_map]
      have hzl : z8.length = 8 := by rw [← hz8]; rfl
      have ol : ∀ v ∈ cl, v.oneCell' = true := by
        rw [← hcl]; intro v hv; obtain ⟨x, _, rfl⟩ := List.mem_map.1 hv; rfl
      have or' : ∀ v ∈ cr, v.oneCell' = true := by
        rw [← hcr]; intro v hv; obtain ⟨x, _, rfl⟩ := List.mem_map.1 hv; rfl
      have hspl : (splice z8 0 cl).length = 8 := by simp [splice, hzl, hll]; omega
      rw [hcl] at HP
      rw [hcr] at HQ
      have HMAP := Lib.hid hmap; have H16 := Lib.hid h16; have HS2 := Lib.hid hS2; have HLEN := Lib.hid hlen; have HA3 := Lib.hid A3; have HB3 := Lib.hid b3
      have HLL := Lib.hid hll; have HRL := Lib.hid hrl; have HZL := Lib.hid hzl; have OL := Lib.hid ol; have OR := Lib.hid or'; have HSPL := Lib.hid hspl
      have hsum : (l.length : Int) + (r.length : Int) ≤ 8 := by omega
      have key : sh = true ∨ (sh = false ∧ l.length + r.length = 8) := by
        cases sh
        · exact .inr ⟨rfl, by have : ¬ (l.length + r.length < 8) := fun h => hbad ⟨rfl, h⟩; omega⟩
        · exact .inl rfl
      have hl8 : l.length ≤ 8 := by omega
      have hr8 : r.length ≤ 8 := by omega
      have hb3' := Lib.hid hb3
      have ba := Lib.hid ((Below.refl w3.heap.size w3).alloc (Nat.le_refl _) (.cells #[.int .u64 0, .int .u64 0, .int .u64 0, .int .u64 0, .int .u64 0, .int .u64 0, .int .u64 0, .int .u64 0] 62))
      have HZE : Hid ((w3.alloc (.cells #[.int .u64 0, .int .u64 0, .int .u64 0, .int .u64 0, .int .u64 0, .int .u64 0, .int .u64 0, .int .u64 0] 62)).heap[w3.heap.size]? = some (.cells z8.toArray 62 (0, 0))) := Lib.hid (by rw [← hz8]; show (w3.heap.push _)[w3.heap.size]? = _; rw [Array.getElem?_push_size]; rfl)
      have P1 : Hid (0 < cl.length → ∃ ad, p = some ad ∧ ∀ j v, cl[j]? = some v → (w3.alloc (.cells #[.int .u64 0, .int .u64 0, .int .u64 0, .int .u64 0, .int .u64 0, .int .u64 0, .int .u64 0, .int .u64 0] 62)).cell? (ad.add j) = some v) := Lib.hid (fun hn => by
        rw [HLL.out] at hn
        obtain ⟨g, e1, e2, e3, e4⟩ := HP.out hn
        refine ⟨_, e1, fun j x hx => ?_⟩
        have h1 := (hb3'.out.cell (p := ⟨g, j, none⟩) e3).trans (e4 j x hx)
        have h2 := ba.out.cell (p := ⟨g, j, none⟩) (Nat.lt_of_lt_of_le e3 hb3'.out.size)
        have h3 : (⟨g, 0, none⟩ : Addr).add j = ⟨g, j, none⟩ := addr_add g j
        rw [h3]
        exact h2.trans h1)
      have hal : Tryd.prog.arrayLen 62 = 8 := by kernel_rfl
      obtain ⟨o2, ho2⟩ : ∃ o, (if 8 - r.length < 8 then 8 - r.length else 0) = o := ⟨_, rfl⟩
      have HO2 : Hid (0 < cr.length → o2 = 8 - r.length) := Lib.hid (fun h => by rw [HRL.out] at h; rw [← ho2, if_pos (by omega)])
      have hsl : ∀ W, (Instr.sliceAt 62 (.pointer (some ⟨w3.heap.size, 0, none⟩)) (some (.int .i64 (8 - (r.length : Int)))) none none).run Tryd.prog W = .ok (.slice (some ⟨w3.heap.size, o2, none⟩) r.length r.length) W := fun W => by
        have := slice_tail w3.heap.size (8 - r.length) (by omega) W
        rw [show ((8 - r.length : Nat) : Int) = 8 - (r.length : Int) by omega, ho2, show 8 - (8 - r.length) = r.length by omega] at this
        exact this
      clear HS hmap h16 hS2 hlen hgs hbad h8 HCL HL A3 b1 b2 b3 hb2 hb3 hlm hrm hll hrl hzl ol or' hspl hz8 hcl hcr
      rcases key with rfl | ⟨rfl, hsh⟩
      · go_wp2_with (first
          | ((refine wpList_copy_splice rfl _ _ _ _ rfl 22 Tryd.underlying59 (by kernel_rfl) (some ⟨w3.heap.size, 0, none⟩) p 8 8 l.length cap rfl rfl w3.heap.size 0 z8 62 HZE.out cl ?g2 ?g3 ?g4 OL.out w3.heap.size w3 ba.out (Nat.le_refl _) ?_)))
        case g2 => rw [HLL.out]; exact (Nat.min_eq_left hl8).symm
        case g3 => first | exact P1.out | exact fun h => ⟨rfl, P1.out h⟩
        case g4 => rw [HLL.out, HZL.out]; omega
        intro w4 hh4 hb4
        have P2 : Hid (0 < cr.length → ∃ ad, q = some ad ∧ ∀ j v, cr[j]? = some v → w4.cell? (ad.add j) = some v) := Lib.hid (fun hn => by
          rw [HRL.out] at hn
          obtain ⟨g, e1, e2, e3, e4⟩ := HQ.out hn
          refine ⟨_, e1, fun j x hx => ?_⟩
          have h3 : (⟨g, 0, none⟩ : Addr).add j = ⟨g, j, none⟩ := addr_add g j
          rw [h3]
          exact (hb4.cell (p := ⟨g, j, none⟩) e3).trans (e4 j x hx))
        have hb4' := Lib.hid hb4
        clear hb4
        go_wp2_with (first
          | ((refine wpList_copy_splice rfl _ _ _ _ rfl 22 Tryd.underlying59 (by kernel_rfl) (some ⟨w3.heap.size, o2, none⟩) q r.length r.length r.length cap2 rfl rfl w3.heap.size (8 - r.length) (splice z8 0 cl) 62 hh4.out cr ?g2 ?g3 ?g4 OR.out w3.heap.size w3 hb4'.out (Nat.le_refl _) ?_)))
        case g2 => rw [HRL.out]; exact (Nat.min_self _).symm
        case g3 => first | exact fun h => ⟨by rw [HO2.out h], P2.out h⟩ | exact P2.out
        case g4 => rw [HRL.out, HSPL.out]; omega
        intro w5 hh5 hb5
        have hb5' := Lib.hid hb5
        obtain ⟨g0, g1, g2, g3, g4, g5, g6, g7, hg8⟩ : ∃ g0 g1 g2 g3 g4 g5 g6 g7, gs = [g0, g1, g2, g3, g4, g5, g6, g7] := list8 gs HLEN.out
        have hcells := hh5.out
        rw [HMAP.out, hg8] at hcells
        have c : ∀ i v, [Value.int .u64 (g0 : Int), .int .u64 (g1 : Int), .int .u64 (g2 : Int), .int .u64 (g3 : Int), .int .u64 (g4 : Int), .int .u64 (g5 : Int), .int .u64 (g6 : Int), .int .u64 (g7 : Int)][i]? = some v → w5.cell? ⟨w3.heap.size, i, none⟩ = some v := fun i v hv => by
          unfold World.cell?
          rw [hcells]
          simpa using hv
        have k0 := c 0 _ rfl; have k1 := c 1 _ rfl; have k2 := c 2 _ rfl; have k3 := c 3 _ rfl; have k4 := c 4 _ rfl; have k5 := c 5 _ rfl; have k6 := c 6 _ rfl; have k7 := c 7 _ rfl
        have CJ := Lib.hid (joined_calls g0 g1 g2 g3 g4 g5 g6 g7 gs hg8.symm H16.out w5)
        obtain ⟨hh, ehh⟩ : ∃ x, hor (gs.take 4) = x := ⟨_, rfl⟩
        obtain ⟨ll, ell⟩ : ∃ x, hor (gs.drop 4) = x := ⟨_, rfl⟩
        rw [ehh, ell] at CJ HS2
        have A5 := HA3.out.keep hb5
        have b5 := thenBelow HB3.out hb5
        clear c hcells hh5 hh4 hg8 ehh ell hb5 P1 P2 hsl HMAP
        go_wp2_with (go_at_call 34; refine CJ.out.mono ?_; rintro e w6 ⟨rfl, hb6⟩; have A6 := A5.keep hb6; have ⟨⟨y0, y1, y2, ys⟩, yf⟩ := A6; have u0 := yf 0; have u1 := yf 1; have u2 := yf 2)
        try simp only [Exit.inBlock, Exit.then]
        refine bodyPost_ret (by simp [results, Tryd.results19, go_sem, y0, y1, y2]; try rfl) rfl ?_
        exact ⟨by rw [HS2.out]; rfl, (((thenBelow b5 hb6).setCell (by simp) _).setCell (by simp) _).setCell (by simp) _⟩
      · have h8e : ¬ ((l.length : Int) + (r.length : Int) < 8) := by omega
        go_wp2_with (first
          | ((refine wpList_copy_splice rfl _ _ _ _ rfl 22 Tryd.underlying59 (by kernel_rfl) (some ⟨w3.heap.size, 0, none⟩) p 8 8 l.length cap rfl rfl w3.heap.size 0 z8 62 HZE.out cl ?g2 ?g3 ?g4 OL.out w3.heap.size w3 ba.out (Nat.le_refl _) ?_)))
        case g2 => rw [HLL.out]; exact (Nat.min_eq_left hl8).symm
        case g3 => first | exact P1.out | exact fun h => ⟨rfl, P1.out h⟩
        case g4 => rw [HLL.out, HZL.out]; omega
        intro w4 hh4 hb4
        have P2 : Hid (0 < cr.length → ∃ ad, q = some ad ∧ ∀ j v, cr[j]? = some v → w4.cell? (ad.add j) = some v) := Lib.hid (fun hn => by
          rw [HRL.out] at hn
          obtain ⟨g, e1, e2, e3, e4⟩ := HQ.out hn
          refine ⟨_, e1, fun j x hx => ?_⟩
          have h3 : (⟨g, 0, none⟩ : Addr).add j = ⟨g, j, none⟩ := addr_add g j
          rw [h3]
          exact (hb4.cell (p := ⟨g, j, none⟩) e3).trans (e4 j x hx))
        have hb4' := Lib.hid hb4
        clear hb4
        go_wp2_with (first
          | ((refine wpList_copy_splice rfl _ _ _ _ rfl 22 Tryd.underlying59 (by kernel_rfl) (some ⟨w3.heap.size, o2, none⟩) q r.length r.length r.length cap2 rfl rfl w3.heap.size (8 - r.length) (splice z8 0 cl) 62 hh4.out cr ?g2 ?g3 ?g4 OR.out w3.heap.size w3 hb4'.out (Nat.le_refl _) ?_)))
        case g2 => rw [HRL.out]; exact (Nat.min_self _).symm
        case g3 => first | exact fun h => ⟨by rw [HO2.out h], P2.out h⟩ | exact P2.out
        case g4 => rw [HRL.out, HSPL.out]; omega
        intro w5 hh5 hb5
        have hb5' := Lib.hid hb5
        obtain ⟨g0, g1, g2, g3, g4, g5, g6, g7, hg8⟩ : ∃ g0 g1 g2 g3 g4 g5 g6 g7, gs = [g0, g1, g2, g3, g4, g5, g6, g7] := list8 gs HLEN.out
        have hcells := hh5.out
        rw [HMAP.out, hg8] at hcells
        have c : ∀ i v, [Value.int .u64 (g0 : Int), .int .u64 (g1 : Int), .int .u64 (g2 : Int), .int .u64 (g3 : Int), .int .u64 (g4 : Int), .int .u64 (g5 : Int), .int .u64 (g6 : Int), .int .u64 (g7 : Int)][i]? = some v → w5.cell? ⟨w3.heap.size, i, none⟩ = some v := fun i v hv => by
          unfold World.cell?
          rw [hcells]
          simpa using hv
        have k0 := c 0 _ rfl; have k1 := c 1 _ rfl; have k2 := c 2 _ rfl; have k3 := c 3 _ rfl; have k4 := c 4 _ rfl; have k5 := c 5 _ rfl; have k6 := c 6 _ rfl; have k7 := c 7 _ rfl
        have CJ := Lib.hid (joined_calls g0 g1 g2 g3 g4 g5 g6 g7 gs hg8.symm H16.out w5)
        obtain ⟨hh, ehh⟩ : ∃ x, hor (gs.take 4) = x := ⟨_, rfl⟩
        obtain ⟨ll, ell⟩ : ∃ x, hor (gs.drop 4) = x := ⟨_, rfl⟩
        rw [ehh, ell] at CJ HS2
        have A5 := HA3.out.keep hb5
        have b5 := thenBelow HB3.out hb5
        clear c hcells hh5 hh4 hg8 ehh ell hb5 P1 P2 hsl HMAP
        go_wp2_with (go_at_call 34; refine CJ.out.mono ?_; rintro e w6 ⟨rfl, hb6⟩; have A6 := A5.keep hb6; have ⟨⟨y0, y1, y2, ys⟩, yf⟩ := A6; have u0 := yf 0; have u1 := yf 1; have u2 := yf 2)
        try simp only [Exit.inBlock, Exit.then]
        refine bodyPost_ret (by simp [results, Tryd.results19, go_sem, y0, y1, y2]; try rfl) rfl ?_
        exact ⟨by rw [HS2.out]; rfl, (((thenBelow b5 hb6).setCell (by simp) _).setCell (by simp) _).setCell (by simp) _⟩
end Go.Proofs.YtojdlhiibffnfabDoor
