/-
  What a follower finds among rising starts.
-/
import Derived.Test.YtdnmklcnlndmhbbL7Math
import Derived.Test.YtdnmklcnlndmhbbL7Sta
namespace Go.Proofs.Ytdnmklcnlndmhbb.L7
open Go.RowKit L1
set_option linter.unusedVariables false

theorem sts_le (l : List En) : (sts l).length ≤ l.length := stsK_len l l.length
theorem idx_gt {st : List (Int × Int)} {e : Int} (hR : Rise st) (k : Nat) (hk : k < st.length) (h1 : ∀ j, j < k → (st.getD j (0, 0)).1 < e) (h2 : e < (st.getD k (0, 0)).1) : idx st e = none :=
  idx_none st e (fun j hj => by
    by_cases e1 : j < k
    · have := h1 j e1; omega
    · by_cases e2 : j = k
      · rw [e2]; omega
      · have := hR k j (by omega) hj; omega)
end Go.Proofs.Ytdnmklcnlndmhbb.L7
