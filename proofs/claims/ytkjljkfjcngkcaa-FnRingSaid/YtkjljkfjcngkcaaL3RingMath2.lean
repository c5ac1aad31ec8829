/-
  Plain mathematics of the owners from a hash on: none twice, and the owner of the hash first. Nothing of the program's text is proved here.
-/
import Derived.Test.YtkjljkfjcngkcaaL3RingMath
import Derived.Test.YtkjljkfjcngkcaaL3Contains
namespace Go.Proofs.Ytkjljkfjcngkcaa.L3
open Go.RowKit L1
set_option linter.unusedVariables false

theorem onL_nodup (l : List (Int × Int)) (f : Nat) (many : Int) : ∀ k, (onL l f many k).Nodup
  | 0 => by simp [onL]
  | k + 1 => by
    have ih := onL_nodup l f many k
    unfold onL
    split
    · rename_i h
      rw [List.nodup_append]
      refine ⟨ih, by simp, fun a ha b hb => ?_⟩
      rw [List.mem_singleton] at hb
      subst hb
      intro e
      subst e
      exact h.2 ha
    · exact ih
theorem onL_head (l : List (Int × Int)) (f : Nat) (many : Int) (hm : 1 ≤ many) (hf : f < l.length) : ∀ k, 1 ≤ k → ∃ t, onL l f many k = (l.getD f (0, 0)).2 :: t
  | 0, h => by omega
  | 1, _ => by
    refine ⟨[], ?_⟩
    have : (f + 0) % l.length = f := by rw [Nat.add_zero, Nat.mod_eq_of_lt hf]
    rw [onL, onL, this, if_pos ⟨by simp; omega, by simp⟩, List.nil_append]
  | k + 2, _ => by
    obtain ⟨t, ht⟩ := onL_head l f many hm hf (k + 1) (by omega)
    rw [onL]
    split
    · exact ⟨t ++ [(l.getD ((f + (k + 1)) % l.length) (0, 0)).2], by rw [ht, List.cons_append]⟩
    · exact ⟨t, ht⟩
/-- The owners from a hash on, where there are as many: as many as were asked for, the first owns the hash, none is there twice. -/
theorem onRes_parts {l : List (Int × Int)} {h many : Int} {r : List Int} (e : onRes l h many = some r) : RingAsk l h ∧ 1 ≤ many ∧ many ≤ 8 ∧ (r.length : Int) = many ∧ r.Nodup ∧ ∃ t, r = ownAt l h :: t := by
  unfold onRes at e
  split at e
  · rename_i hh
    rw [Option.some.injEq] at e
    subst e
    have h1 := onL_len l (fst l h) many (by omega) l.length
    refine ⟨hh.1.1, hh.1.2.1, hh.1.2.2, by omega, onL_nodup _ _ _ _, ?_⟩
    exact onL_head l (fst l h) many hh.1.2.1 (fst_lt l h hh.1.1.1) l.length (by have := hh.1.1.1; omega)
  · cases e
theorem nodup_not_take {r : List Int} (hr : r.Nodup) {i : Nat} (hi : i < r.length) : r.getD i 0 ∉ r.take i := by
  intro hm
  obtain ⟨j, hj, e⟩ := List.getElem_of_mem hm
  rw [List.length_take] at hj
  rw [List.getElem_take] at e
  have : r.getD i 0 = r[i] := by simp [List.getD, hi]
  rw [this] at e
  have := (List.getElem_inj hr).1 e
  omega
end Go.Proofs.Ytkjljkfjcngkcaa.L3
