/-
  Contract: spec.PartAt.
-/
import Derived.Test.YtdnmklcnlndmhacL7PrtR
import Derived.Test.YtdnmklcnlndmhacL7SPrt
import Derived.Test.YtdnmklcnlndmhacL7Both
namespace Go.Proofs.Ytdnmklcnlndmhac.L7
open Go.RowKit L1
set_option linter.unusedVariables false

set_option maxRecDepth 100000 in
set_option maxHeartbeats 2000000 in
theorem specPartAt_any (a b : Option Addr) (l m : List En) (n c1 k c2 : Nat) (w : World) (hn : l.length = n) (hs : SlE w a l) (hn2 : n ≤ 1048576) (hst : ∀ j, j < l.length → (l.getD j eE).2.size ≤ 9223372036854775807) (hk : m.length = k) (ht : SlE w b m) (hk2 : k ≤ 1048576) (htt : ∀ j, j < m.length → (m.getD j eE).2.size ≤ 9223372036854775807) (v : Int) (ok : Bool) (hv : prtR l m = (v, ok)) :
    Calls Try.prog 7 #[.slice a n c1, .slice b k c2] w fun e w' => e = .returned (.tuple #[.int .i64 v, .bool ok]) ∧ Below w.heap.size w w' := by
  have HS := hide hs
  have HT := hide ht
  by_cases hg : GoodE l ∧ GoodE m
  · have C := hide (l7Both_any a b l m n c1 k c2 w hn hs hn2 hst hk ht hk2 htt true (by simp [hg]))
    have hr : (v, ok) = ((prt l m : Int), true) := by rw [← hv]; unfold prtR; rw [if_pos hg]
    have G := hide (fun w hs ht => l7Part_any a b l m n c1 k c2 w hn hk hs ht hn2 hk2)
    obtain ⟨q, hq⟩ : ∃ q, q = (prt l m : Int) := ⟨_, rfl⟩
    rw [← hq] at hr G
    cases hr
    clear hv hg hq
    clear hs hn hst ht hk htt
    go_enter Try.func7, Try.ntmps7
    go_wp2_with fail
    refine (C.out).mono ?_
    rintro e w1 ⟨rfl, hb⟩
    have S_1 := hide (HS.out.below hb)
    have T_1 := hide (HT.out.below hb)
    have B_1 := hide hb
    clear hb HS HT
    go_wp2_with fail
    refine (G.out _ S_1.out T_1.out).mono ?_
    rintro e w2 ⟨rfl, hb⟩
    have S_2 := hide (S_1.out.below hb)
    have T_2 := hide (T_1.out.below hb)
    have B_2 := hide (B_1.out.trans (hb.mono B_1.out.size))
    clear hb S_1 T_1 B_1
    go_wp2
    go_ret2
    exact ⟨rfl, B_2.out⟩
  · have C := hide (l7Both_any a b l m n c1 k c2 w hn hs hn2 hst hk ht hk2 htt false (by simp [hg]))
    have hr : (v, ok) = (0, false) := by rw [← hv]; unfold prtR; rw [if_neg hg]
    cases hr
    clear hv hs hn hst ht hk htt hg
    go_enter Try.func7, Try.ntmps7
    go_wp2_with fail
    refine (C.out).mono ?_
    rintro e w1 ⟨rfl, hb⟩
    have B_1 := hide hb
    clear hb 
    go_wp2
    go_ret2
    exact ⟨rfl, B_1.out⟩
end Go.Proofs.Ytdnmklcnlndmhac.L7
