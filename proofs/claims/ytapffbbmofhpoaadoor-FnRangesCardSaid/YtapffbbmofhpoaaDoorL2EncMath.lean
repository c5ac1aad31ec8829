/-
  What EncodeChunk answers of samples that may not be there.
-/
import Derived.Test.YtapffbbmofhpoaaDoorL2Dec
import Derived.Test.YtapffbbmofhpoaaDoorL2SpecDec
import Derived.Test.YtapffbbmofhpoaaDoorL2Enc
namespace Go.Proofs.YtapffbbmofhpoaaDoor.L1
open Go.RowKit
set_option linter.unusedVariables false

def both : Option (List (Int × Int)) → Option (List (Int × Int)) → Option (List (Int × Int))
  | some l, some m => some (l ++ m)
  | _, _ => none
theorem both_left (m : Option (List (Int × Int))) : both none m = none := by cases m <;> rfl
theorem both_right (l : List (Int × Int)) : both (some l) none = none := rfl
open Classical in
noncomputable def encT (r : Option (List (Int × Int))) : ByteArray := match r with
  | none => ⟨#[]⟩
  | some l => if GoodS l then strOfNums (cat (nums l)) else ⟨#[]⟩
open Classical in
noncomputable def encB (r : Option (List (Int × Int))) : Bool := match r with
  | none => false
  | some l => if GoodS l then true else false
theorem encT_none : encT none = ⟨#[]⟩ := rfl
theorem encB_none : encB none = false := rfl
theorem encT_yes {l m : List (Int × Int)} (h : GoodS (l ++ m)) : encT (both (some l) (some m)) = strOfNums (cat (nums (l ++ m))) := by simp only [both, encT]; rw [if_pos h]
theorem encB_yes {l m : List (Int × Int)} (h : GoodS (l ++ m)) : encB (both (some l) (some m)) = true := by simp only [both, encB]; rw [if_pos h]
theorem encT_no {l m : List (Int × Int)} (h : ¬ GoodS (l ++ m)) : encT (both (some l) (some m)) = ⟨#[]⟩ := by simp only [both, encT]; rw [if_neg h]
theorem encB_no {l m : List (Int × Int)} (h : ¬ GoodS (l ++ m)) : encB (both (some l) (some m)) = false := by simp only [both, encB]; rw [if_neg h]
end Go.Proofs.YtapffbbmofhpoaaDoor.L1
