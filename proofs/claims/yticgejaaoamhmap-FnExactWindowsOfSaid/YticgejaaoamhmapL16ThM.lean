/-
  Samples without those that lie between. Nothing of Go stands here.
-/
import Derived.Test.YticgejaaoamhmapL16Math
namespace Go.Proofs.Yticgejaaoamhmap.L16
open L1
set_option linter.unusedVariables false

/-- A sample lies between the one ahead and the one behind. -/
def Ndl (l : List (Int × Int)) (k : Nat) : Prop := 0 < k ∧ k + 1 < l.length ∧ vl l (k - 1) ≤ vl l k ∧ vl l k ≤ vl l (k + 1)
open Classical in
/-- The first k, without those. -/
noncomputable def thn (l : List (Int × Int)) : Nat → List (Int × Int)
  | 0 => []
  | k + 1 => thn l k ++ (if Ndl l k then [] else [l.getD k (0, 0)])
theorem thn_yes {l : List (Int × Int)} {k : Nat} (h : Ndl l k) : thn l (k + 1) = thn l k := by rw [thn, if_pos h, List.append_nil]
theorem thn_no {l : List (Int × Int)} {k : Nat} (h : ¬ Ndl l k) : thn l (k + 1) = thn l k ++ [l.getD k (0, 0)] := by rw [thn, if_neg h]
theorem thn_len (l : List (Int × Int)) : ∀ k, (thn l k).length ≤ k
  | 0 => Nat.le_refl _
  | k + 1 => by
    have := thn_len l k
    by_cases h : Ndl l k
    · rw [thn_yes h]; omega
    · rw [thn_no h, List.length_append]; simp; omega
open Classical in
/-- What ThinOut answers. -/
noncomputable def thR (l : List (Int × Int)) : Option (List (Int × Int)) := if Ctr l then some (thn l l.length) else none
theorem thR_le (l : List (Int × Int)) : ((thR l).getD []).length ≤ 40 := by
  unfold thR
  split
  · next h => have h1 := thn_len l l.length; have h2 := h.len; simp only [Option.getD_some]; omega
  · exact Nat.zero_le _
end Go.Proofs.Yticgejaaoamhmap.L16
