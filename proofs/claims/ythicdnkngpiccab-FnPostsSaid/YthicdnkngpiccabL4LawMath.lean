/-
  Plain mathematics of chapter 4's law on posts. Nothing of Go stands here.
-/
import Derived.Test.YthicdnkngpiccabL4Math
namespace Go.Proofs.Ythicdnkngpiccab.L4
set_option linter.unusedVariables false

theorem good_of {l : List Int} (h1 : Rise l) (h2 : ∀ y ∈ l, 0 ≤ y ∧ y ≤ 9999) (h3 : l.length ≤ 60) : GoodP l :=
  ⟨h3, fun j hj => ⟨h2 _ (getD_mem hj), fun h0 => rise_get h1 (by omega) hj⟩⟩
theorem good_mem {l : List Int} (h : GoodP l) {y : Int} (hy : y ∈ l) : 0 ≤ y ∧ y ≤ 9999 := by
  obtain ⟨j, hj, rfl⟩ := mem_getD hy
  exact (h.2 j hj).1
theorem those_mem {a b : List Int} {s : Bool} {y : Int} : y ∈ those b s a ↔ y ∈ a ∧ (decide (y ∈ b) == s) = true := by simp [those, List.mem_filter]
theorem those_rise {a b : List Int} {s : Bool} (h : Rise a) : Rise (those b s a) := h.sublist List.filter_sublist
theorem good_those {a b : List Int} {s : Bool} (h : GoodP a) : GoodP (those b s a) :=
  good_of (those_rise (good_rise h)) (fun y hy => good_mem h (those_mem.1 hy).1) (Nat.le_trans (those_len a b s) h.1)
theorem less_less (a b : List Int) : those (those b false a) false a = those b true a := by
  unfold those
  refine List.filter_congr fun x hx => ?_
  by_cases hb : x ∈ b
  · simp [hb]
  · simp [hb, hx]
theorem meet_swap {a b : List Int} (ha : Rise a) (hb : Rise b) : those a true b = those b true a :=
  rise_uniq (those_rise hb) (those_rise ha) fun x => by
    rw [those_mem, those_mem]
    simp
    exact And.comm
theorem part_len (a b : List Int) : (those b true a).length + (those b false a).length = a.length := by
  induction a with
  | nil => rfl
  | cons x a ih =>
    unfold those at ih ⊢
    by_cases h : x ∈ b
    · simp [h] at ih ⊢; omega
    · simp [h] at ih ⊢; omega
theorem rise_nodup {l : List Int} (h : Rise l) : l.Nodup := h.imp fun h => by omega
theorem join_count {a b : List Int} (ha : Rise a) (hb : Rise b) : (joinL a b).length = (those b false a).length + b.length := by
  have hp : (joinL a b).Perm (those b false a ++ b) := by
    refine (List.perm_ext_iff_of_nodup (rise_nodup (joinL_rise b a ha)) ?_).2 fun x => ?_
    · refine List.nodup_append.2 ⟨rise_nodup (those_rise ha), rise_nodup hb, fun x hx y hy e => ?_⟩
      subst e
      have := (those_mem.1 hx).2
      simp [hy] at this
    · rw [joinL_mem, List.mem_append, those_mem]
      by_cases h : x ∈ b
      · simp [h]
      · simp [h]
  rw [hp.length_eq, List.length_append]
end Go.Proofs.Ythicdnkngpiccab.L4
