/-
  cidr.Merge, cidr.Minus, cidr.Both: what they answer.
-/
import Derived.Test.YtifhakoeinalaaaDoorCidrM
namespace Go.Proofs.YtifhakoeinalaaaDoor
open Go.RowKit
set_option linter.unusedVariables false
set_option linter.unusedSimpArgs false

theorem ferr0 : ∀ {l : List PT}, ferr l = 0 → ∀ p ∈ l, chkP p = 0
  | [], _, p, hp => by cases hp
  | q :: t, h, p, hp => by
    unfold ferr at h
    split at h
    · rename_i hq
      cases hp with
      | head => exact hq
      | tail _ ht => exact ferr0 h p ht
    · rename_i hq; exact absurd h hq
theorem chk_al {p : PT} (h : chkP p = 0) : ∃ k, AL p.1 p.2.1 k ∧ p.2.2 = ((wideN p.1 - k : Nat) : Int) ∧ k = wideN p.1 - p.2.2.toNat := by
  obtain ⟨hx, n, hn, hnW, hlow⟩ := chk0 h
  refine ⟨wideN p.1 - n, ⟨by omega, ?_, p.2.1 / 2 ^ (wideN p.1 - n), hlow.symm⟩, by rw [hn]; omega, by rw [hn]; simp⟩
  generalize hk : wideN p.1 - n = k at hlow ⊢
  unfold lowN at hlow
  obtain ⟨c, hc⟩ : ∃ c, p.2.1 / 2 ^ k = c := ⟨_, rfl⟩
  rw [hc] at hlow
  have e : 2 ^ wideN p.1 = 2 ^ (wideN p.1 - k) * 2 ^ k := by rw [← Nat.pow_add]; congr 1; omega
  rw [e] at hx ⊢
  rw [← hlow] at hx ⊢
  have hlt : c < 2 ^ (wideN p.1 - k) := Nat.lt_of_mul_lt_mul_right hx
  have := Nat.mul_le_mul_right (2 ^ k) hlt
  rw [Nat.succ_eq_add_one, Nat.add_mul] at this
  omega
/-- The prefixes of one family, as blocks. -/
def fb (six : Bool) (l : List PT) : BL := (l.filter (·.1 == six)).map fun p => (p.2.1, wideN six - p.2.2.toNat)
def AllOK (l : List PT) : Prop := ∀ p ∈ l, chkP p = 0
theorem fb_map (six : Bool) {l : List PT} (h : AllOK l) : (fb six l).map (bl six) = l.filter (·.1 == six) := by
  unfold fb
  rw [List.map_map]
  conv => rhs; rw [← List.map_id (l.filter (·.1 == six))]
  refine List.map_congr_left fun p hp => ?_
  obtain ⟨hm, hs⟩ := List.mem_filter.1 hp
  have hs : p.1 = six := by simpa using hs
  obtain ⟨k, hA, hn, hk⟩ := chk_al (h p hm)
  obtain ⟨s, x, n⟩ := p
  simp only at hs hA hn hk
  subst hs
  simp only [Function.comp, bl, id, Prod.mk.injEq, true_and]
  have := hA.1
  omega
theorem fb_al (six : Bool) {l : List PT} (h : AllOK l) : AllAL six (fb six l) := by
  intro q hq
  obtain ⟨p, hp, rfl⟩ := List.mem_map.1 hq
  obtain ⟨hm, hs⟩ := List.mem_filter.1 hp
  have hs : p.1 = six := by simpa using hs
  obtain ⟨k, hA, hn, hk⟩ := chk_al (h p hm)
  obtain ⟨s, x, n⟩ := p
  simp only at hs hA hn hk ⊢
  subst hs
  rw [← hk]; exact hA
theorem fb_len (six : Bool) (l : List PT) : (fb six l).length ≤ l.length := by
  unfold fb; rw [List.length_map]; exact List.length_filter_le _ _
/-- The addresses that are chosen, of both families. -/
noncomputable def famE (six : Bool) (c : Bool → Bool → Bool) (l m : List PT) : List PT := cn six (chS c (fb six l) (fb six m)) (wideN six) 0
noncomputable def setE (c : Bool → Bool → Bool) (l m : List PT) : List PT := famE false c l m ++ famE true c l m
noncomputable def ansL (c : Bool → Bool → Bool) (l m : List PT) : List PT := if listsE l m = 0 then setE c l m else []
theorem lists0 {l m : List PT} (h : listsE l m = 0) : l.length ≤ 80 ∧ m.length ≤ 80 ∧ AllOK l ∧ AllOK m := by
  unfold listsE at h
  split at h
  · omega
  · rename_i hs
    split at h
    · rename_i hl; exact ⟨by omega, by omega, ferr0 hl, ferr0 h⟩
    · rename_i hl; exact absurd h hl
theorem famE_len (six : Bool) (c : Bool → Bool → Bool) {l m : List PT} (hl : AllOK l) (hm : AllOK m) (n1 : l.length ≤ 80) (n2 : m.length ≤ 80) : (famE six c l m).length ≤ 100000 := by
  have := cn_len' (fb_al six hl) (fb_al six hm) (c := c) (AL.top six)
  have := fb_len six l
  have := fb_len six m
  unfold famE; omega
theorem cw_fam {F : Nat} {c : Bool → Bool → Bool} (hc : Chooses F c) (six : Bool) {l m : List PT} (hl : AllOK l) (hm : AllOK m) (n1 : l.length ≤ 80) (n2 : m.length ≤ 80) (W : World) (va vb : Value) (h1 : RowP W va (l.filter (·.1 == six))) (h2 : RowP W vb (m.filter (·.1 == six))) :
    Calls Tryd.prog 30 #[.agg #[.bool six, .int .u64 0, .int .u64 0, .int .i64 0], va, vb, .func (.func F) #[] #[]] W (PresOut (famE six c l m) W) := by
  rw [← fb_map six hl] at h1
  rw [← fb_map six hm] at h2
  have l1 := fb_len six l
  have l2 := fb_len six m
  have := cw_calls hc (six := six) (wideN six) 0 (fb six l) (fb six m) (AL.top six) (fb_al six hl) (fb_al six hm) (by omega) (by omega) W va vb h1 h2
  rw [Nat.sub_self] at this
  exact this
theorem combine_calls {F : Nat} {c : Bool → Bool → Bool} (hc : Chooses F c) (l m : List PT) (vl vm : Value) (hn : l.length ≤ 9223372036854775807) (hm : m.length ≤ 9223372036854775807) (wl : Words l) (wm : Words m) (w : World) (rl : RowP w vl l) (rm : RowP w vm m) (hF : FamAt w) :
    Calls Tryd.prog 16 #[vl, vm, .func (.func F) #[] #[]] w (PresOutE (ansL c l m) (listsE l m) w) := by
  have CK : ∀ (W : World) (b : Nat), b < W.heap.size → RowP W vl l → RowP W vm m → W.cell? ⟨b, 0, none⟩ = some vl → W.cell? ⟨b, 1, none⟩ = some vm → Calls Tryd.prog 28 #[.slice (some ⟨b, 0, none⟩) 2 2] W fun e w' => e = .returned (.int .i64 (listsE l m)) ∧ Below W.heap.size W w' :=
    fun W b hb h1 h2 h3 h4 => cidrCheck l m vl vm hn hm wl wm b W hb h1 h2 h3 h4
  unfold ansL
  by_cases h : listsE l m = 0
  · rw [if_pos h, h]
    rw [h] at CK
    obtain ⟨n1, n2, ol, om⟩ := lists0 h
    exact combine_walk l m _ _ _ _ vl vm F (famE false c l m) (famE true c l m) (famE_len false c ol om n1 n2) (famE_len true c ol om n1 n2) (Lib.hid CK) (Lib.hid fun W h => byFam_calls l vl (by omega) W h) (Lib.hid fun W h => byFam_calls m vm (by omega) W h) (Lib.hid fun W va vb h1 h2 => cw_fam hc false ol om n1 n2 W va vb h1 h2) (Lib.hid fun W va vb h1 h2 => cw_fam hc true ol om n1 n2 W va vb h1 h2) w rl rm hF
  · rw [if_neg h]
    exact combine_err l m vl vm F _ (by simpa using h) (Lib.hid CK) w rl rm
theorem enters (F : Nat) (fn : Func) (hf : Tryd.prog.funcs[F]? = some fn) (hn : (fn.name == "runtime.NumGoroutine") = false) (hb : fn.body.isNone = false) (args : Array Value) (W : World) : Sem.run Tryd.prog (callFunc F args) W = .ok (.enter F args) W := by
  have hn' : ¬ fn.name = "runtime.NumGoroutine" := by simpa using hn
  have hb' : ¬ fn.body = none := by intro h; rw [h] at hb; cases hb
  unfold callFunc
  simp [go_sem, hf, hn', hb']
theorem ch_merge : Chooses 17 (fun a _ => a) :=
  ⟨enters _ _ Tryd.func17 (by kernel_rfl) (by kernel_rfl), fun a b W => by
    go_enter Tryd.func17, Tryd.ntmps17
    go_wp2
    go_returns
    exact ⟨rfl, Below.refl _ _⟩⟩
theorem row_nil (w : World) : RowP w (.slice none 0 0) [] := .inl ⟨rfl, none, 0, rfl⟩
theorem words_nil : Words [] := fun p hp => by cases hp
theorem merge_calls (l : List PT) (vl : Value) (hn : l.length ≤ 9223372036854775807) (wl : Words l) (w : World) (rl : RowP w vl l) (hF : FamAt w) :
    Calls Tryd.prog 7 #[vl] w (PresOutE (ansL (fun a _ => a) l []) (listsE l []) w) := by
  have K := Lib.hid (combine_calls ch_merge l [] vl (.slice none 0 0) hn (by simp) wl words_nil w rl (row_nil _) hF)
  generalize ansL (fun a _ => a) l [] = R at K ⊢
  generalize listsE l [] = E at K ⊢
  clear rl hF wl
  go_enter Tryd.func7, Tryd.ntmps7
  go_wp2_with fail
  refine K.out.mono ?_
  rintro e w1 ⟨v, rfl, ho, hb⟩
  go_wp2
  go_returns
  exact ⟨_, rfl, ho, hb⟩
end Go.Proofs.YtifhakoeinalaaaDoor
