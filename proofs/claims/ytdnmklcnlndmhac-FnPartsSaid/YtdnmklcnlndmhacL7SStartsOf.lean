/-
  Contract: spec.StartsOf.
-/
import Derived.Test.YtdnmklcnlndmhacL7StsR
import Derived.Test.YtdnmklcnlndmhacL7SSts
import Derived.Test.YtdnmklcnlndmhacL7SGood
namespace Go.Proofs.Ytdnmklcnlndmhac.L7
open Go.RowKit L1
set_option linter.unusedVariables false

set_option maxRecDepth 100000 in
set_option maxHeartbeats 2000000 in
theorem specStartsOf_any (a : Option Addr) (l : List En) (n cap : Nat) (w : World) (hn : l.length = n) (hs : SlE w a l) (hn2 : n ≤ 1048576) (hst : ∀ j, j < l.length → (l.getD j eE).2.size ≤ 9223372036854775807) (r : Option (List (Int × Int))) (hr : r = stsR l) :
    Calls Try.prog 17 #[.slice a n cap] w fun e w' => RetT7 w r e w' := by
  have HS := hide hs
  by_cases hg : GoodE l
  · have C := hide (specGoodEntries_any a l n cap w hn hs hn2 hst true (by simp [hg]))
    have D := hide (fun w hs => l7Starts_any a l n cap w hn hs hn2)
    have hr' : r = some (sts l) := by rw [hr]; unfold stsR; rw [if_pos hg]
    obtain ⟨q, hq⟩ : ∃ q, q = sts l := ⟨_, rfl⟩
    rw [← hq] at hr' D
    have HR := hide hr'
    clear hr hr' hq hs hn hst hg
    go_enter Try.func17, Try.ntmps17
    go_wp2_with fail
    refine (C.out).mono ?_
    rintro e w1 ⟨rfl, hb⟩
    have S_1 := hide (HS.out.below hb)
    have B_1 := hide hb
    clear hb HS
    go_wp2_with fail
    refine (D.out _ S_1.out).mono ?_
    rintro e w2 ⟨v, rfl, ho, hb⟩
    have B2 := hide (B_1.out.trans (hb.mono B_1.out.size))
    have HO := hide (own_baseT ho B_1.out.size)
    clear hb ho
    go_wp2
    go_ret2
    exact ⟨_, by rw [HR.out]; rfl, by rw [HR.out]; exact HO.out, B2.out⟩
  · have C := hide (specGoodEntries_any a l n cap w hn hs hn2 hst false (by simp [hg]))
    have hr' : r = none := by rw [hr]; unfold stsR; rw [if_neg hg]
    have HR := hide hr'
    clear hr hr' hs hn hst hg
    go_enter Try.func17, Try.ntmps17
    go_wp2_with fail
    refine C.out.mono ?_
    rintro e w1 ⟨rfl, hb1⟩
    go_wp2
    go_ret2
    exact ⟨_, by rw [HR.out]; rfl, by rw [HR.out]; exact World.ownsRow_nil _ _ _ _, hb1⟩
end Go.Proofs.Ytdnmklcnlndmhac.L7
