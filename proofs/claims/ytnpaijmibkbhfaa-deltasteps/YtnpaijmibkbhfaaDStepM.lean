/-
  Plain mathematics: how many acts a difference has.
-/
import Derived.Test.YtnpaijmibkbhfaaDBackM
namespace Go.Proofs.Ytnpaijmibkbhfaa
open Go.RowKit
set_option linter.unusedVariables false
set_option linter.unusedSimpArgs false
/-- The prefixes of a difference. -/
def difK (S T : List RT) : List PK := (difL S T).map ActT.p
theorem difK_len (S T : List RT) : (difK S T).length = (difL S T).length := List.length_map ..
theorem difK_eq (S T : List RT) : difK S T = (S.filter fun r => !anyP T r).map Prod.fst ++ (wiL T S).map Prod.fst := by
  unfold difK difL
  rw [List.map_append, cutsL, putsL, List.map_map, List.map_map]
  rfl
theorem anyP_iff (T : List RT) (r : RT) : anyP T r = true ↔ ∃ t ∈ T, t.1 = r.1 := by
  rw [anyP, List.any_eq_true]
  exact ⟨fun ⟨t, a, b⟩ => ⟨t, a, of_decide_eq_true b⟩, fun ⟨t, a, b⟩ => ⟨t, a, decide_eq_true b⟩⟩
theorem difK_nodup {S T : List RT} (IS : InvR S) (IT : InvR T) : (difK S T).Nodup := by
  rw [difK_eq, List.nodup_append]
  refine ⟨(keys_inv IS).sublist ((List.filter_sublist).map _), (keys_inv IT).sublist ((List.filter_sublist).map _), ?_⟩
  rintro a ha b hb rfl
  obtain ⟨r, hr, rfl⟩ := List.mem_map.1 ha
  obtain ⟨t, ht, e⟩ := List.mem_map.1 hb
  have h1 := (List.mem_filter.1 hr).2
  rw [(anyP_iff T r).2 ⟨t, (List.mem_filter.1 ht).1, e⟩] at h1
  cases h1
theorem difK_mem {S T : List RT} (IS : InvR S) (IT : InvR T) (k : PK) : k ∈ difK S T ↔ ∃ h, ¬ ((k, h) ∈ S ↔ (k, h) ∈ T) := by
  rw [difK_eq, List.mem_append]
  constructor
  · rintro (h | h)
    · obtain ⟨r, hr, rfl⟩ := List.mem_map.1 h
      obtain ⟨h1, h2⟩ := List.mem_filter.1 hr
      refine ⟨r.2, fun hh => ?_⟩
      rw [(anyP_iff T r).2 ⟨r, hh.1 h1, rfl⟩] at h2
      cases h2
    · obtain ⟨t, ht, rfl⟩ := List.mem_map.1 h
      obtain ⟨h1, h2⟩ := List.mem_filter.1 ht
      have h3 : t ∉ S := by simpa using h2
      exact ⟨t.2, fun hh => h3 (hh.2 h1)⟩
  · rintro ⟨h, hh⟩
    by_cases h1 : (k, h) ∈ S
    · have h2 : (k, h) ∉ T := fun h2 => hh ⟨fun _ => h2, fun _ => h1⟩
      cases hp : anyP T (k, h) with
      | true =>
        obtain ⟨t, ht, e⟩ := (anyP_iff T (k, h)).1 hp
        have hn : t ∉ S := fun hs => h2 (by rw [← IS.sorted.key hs h1 e]; exact ht)
        refine .inr (List.mem_map.2 ⟨t, List.mem_filter.2 ⟨ht, by simpa using hn⟩, e⟩)
      | false => exact .inl (List.mem_map.2 ⟨(k, h), List.mem_filter.2 ⟨h1, by rw [hp]; rfl⟩, rfl⟩)
    · by_cases h2 : (k, h) ∈ T
      · exact .inr (List.mem_map.2 ⟨(k, h), List.mem_filter.2 ⟨h2, by simpa using h1⟩, rfl⟩)
      · exact absurd ⟨fun a => absurd a h1, fun a => absurd a h2⟩ hh
/-- There and back: as many acts. -/
theorem dif_back {S T : List RT} (IS : InvR S) (IT : InvR T) : (difL T S).length = (difL S T).length := by
  rw [← difK_len, ← difK_len]
  refine Nat.le_antisymm (nodup_lenG _ _ (difK_nodup IT IS) fun k hk => ?_) (nodup_lenG _ _ (difK_nodup IS IT) fun k hk => ?_)
  · obtain ⟨h, hh⟩ := (difK_mem IT IS k).1 hk
    exact (difK_mem IS IT k).2 ⟨h, fun e => hh e.symm⟩
  · obtain ⟨h, hh⟩ := (difK_mem IS IT k).1 hk
    exact (difK_mem IT IS k).2 ⟨h, fun e => hh e.symm⟩
/-- No way is shorter than the straight one. -/
theorem dif_way {S T U : List RT} (IS : InvR S) (IT : InvR T) (IU : InvR U) : (difL S U).length ≤ (difL S T).length + (difL T U).length := by
  rw [← difK_len, ← difK_len, ← difK_len, ← List.length_append]
  refine nodup_lenG _ _ (difK_nodup IS IU) fun k hk => ?_
  obtain ⟨h, hh⟩ := (difK_mem IS IU k).1 hk
  by_cases h1 : (k, h) ∈ S ↔ (k, h) ∈ T
  · exact List.mem_append.2 (.inr ((difK_mem IT IU k).2 ⟨h, fun e => hh (h1.trans e)⟩))
  · exact List.mem_append.2 (.inl ((difK_mem IS IT k).2 ⟨h, h1⟩))
end Go.Proofs.Ytnpaijmibkbhfaa
