/-
  Labels that are merged once more stay as they are: the mathematics.
-/
import Derived.Test.YthagpceagifjnaaDoorL3MergeMath
namespace Go.Proofs.YthagpceagifjnaaDoor.L3
open Go.RowKit L1
set_option linter.unusedVariables false

theorem mg_okA {a b : List Lb} (ha : GoodL a) (hb : GoodL b) : ∀ p ∈ mg a b, okL p := fun p hp => by
  rcases (mg_mem _ a b (Nat.le_refl _) (good_upL ha) (good_upL hb) p).1 hp with h | h
  · exact good_memL hb p h
  · exact good_memL ha p h.1
theorem mg_good {a b : List Lb} (ha : GoodL a) (hb : GoodL b) (h6 : (mg a b).length ≤ 6) : GoodL (mg a b) :=
  goodL_of h6 (mg_okA ha hb) (mg_up _ a b (Nat.le_refl _) (good_upL ha) (good_upL hb))
theorem mg_again {a b : List Lb} (ha : GoodL a) (hb : GoodL b) (h6 : (mg a b).length ≤ 6) : mg (mg a b) b = mg a b := by
  have hm := mg_good ha hb h6
  refine upL_uniq (mg_up _ _ _ (Nat.le_refl _) (good_upL hm) (good_upL hb)) (good_upL hm) (fun p => ?_)
  rw [mg_mem _ _ _ (Nat.le_refl _) (good_upL hm) (good_upL hb), mg_mem _ a b (Nat.le_refl _) (good_upL ha) (good_upL hb)]
  constructor
  · rintro (h | ⟨h, hn⟩)
    · exact .inl h
    · rcases (mg_mem _ a b (Nat.le_refl _) (good_upL ha) (good_upL hb) p).1 h with h | h
      · exact .inl h
      · exact .inr h
  · rintro (h | h)
    · exact .inl h
    · exact .inr ⟨(mg_mem _ a b (Nat.le_refl _) (good_upL ha) (good_upL hb) p).2 (.inr h), h.2⟩
/-- What was merged, merged once more with the second ones. -/
theorem mrg_again {a b m : List Lb} (h : mrgRes a b = some m) : GoodL m ∧ mrgRes m b = some m := by
  unfold mrgRes at h
  split at h
  · rename_i hc
    obtain ⟨ha, hb, h6⟩ := hc
    obtain rfl : mg a b = m := by simpa using h
    have hm := mg_good ha hb h6
    refine ⟨hm, ?_⟩
    unfold mrgRes
    rw [mg_again ha hb h6, if_pos ⟨hm, hb, h6⟩]
  · simp at h
end Go.Proofs.YthagpceagifjnaaDoor.L3
