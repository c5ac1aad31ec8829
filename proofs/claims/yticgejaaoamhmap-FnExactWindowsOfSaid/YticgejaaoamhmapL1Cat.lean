/-
  Plain mathematics: the digits of some numbers, one behind the other; numbers within their bounds.
-/
import Derived.Test.YticgejaaoamhmapL1Sl
namespace Go.Proofs.Yticgejaaoamhmap.L1
open Go.RowKit
set_option linter.unusedVariables false

/-- All digits, one number's behind the other's. -/
def cat : List Int → List Int
  | [] => []
  | n :: l => vd (zig n) ++ cat l
theorem cat_append (l m : List Int) : cat (l ++ m) = cat l ++ cat m := by
  induction l with
  | nil => rfl
  | cons x l ih => simp [cat, ih]
theorem cat_len (l : List Int) : (cat l).length ≤ 6 * l.length := by
  induction l with
  | nil => simp [cat]
  | cons x l ih =>
    have h : (vd (zig x)).length ≤ 6 := vdf_le 5 (zig x)
    simp only [cat, List.length_append, List.length_cons]
    omega
theorem ltake_one (t : List Int) (k : Nat) (h : k < t.length) : t.take (k + 1) = t.take k ++ [t.getD k 0] := by
  rw [List.take_succ_eq_append_getElem h]; simp [List.getD, List.getElem?_eq_getElem h]
theorem cat_take (l : List Int) (k : Nat) (h : k < l.length) : cat (l.take (k + 1)) = cat (l.take k) ++ vd (zig (l.getD k 0)) := by
  rw [ltake_one l k h, cat_append]
  simp [cat]
theorem str_append (l m : List Int) : strOfNums (l ++ m) = strOfNums l ++ strOfNums m := by
  apply ByteArray.ext
  simp [strOfNums, ByteArray.data_append]

/-- All are in -1000000000000..1000000000000. -/
def OkL (xs : List Int) : Prop := ∀ j, j < xs.length → -1000000000000 ≤ xs.getD j 0 ∧ xs.getD j 0 ≤ 1000000000000
end Go.Proofs.Yticgejaaoamhmap.L1
