/-
  Contract: spec.IsNewer.
-/
import Derived.Test.YtdnmklcnlndmhbbL7MatR
import Derived.Test.YtdnmklcnlndmhbbL7SNewer
import Derived.Test.YtdnmklcnlndmhbbL7Both
namespace Go.Proofs.Ytdnmklcnlndmhbb.L7
open Go.RowKit L1
set_option linter.unusedVariables false

set_option maxRecDepth 100000 in
set_option maxHeartbeats 2000000 in
theorem specIsNewer_any (a b : Option Addr) (l m : List En) (n c1 k c2 : Nat) (w : World) (hn : l.length = n) (hs : SlE w a l) (hn2 : n ≤ 1048576) (hst : ∀ j, j < l.length → (l.getD j eE).2.size ≤ 9223372036854775807) (hk : m.length = k) (ht : SlE w b m) (hk2 : k ≤ 1048576) (htt : ∀ j, j < m.length → (m.getD j eE).2.size ≤ 9223372036854775807) (v ok : Bool) (hv : newR l m = (v, ok)) :
    Calls Try.prog 25 #[.slice a n c1, .slice b k c2] w fun e w' => e = .returned (.tuple #[.bool v, .bool ok]) ∧ Below w.heap.size w w' := by
  have HS := hide hs
  have HT := hide ht
  by_cases hg : GoodE l ∧ GoodE m
  · have C := hide (l7Both_any a b l m n c1 k c2 w hn hs hn2 hst hk ht hk2 htt true (by simp [hg]))
    have hr : ∃ bb : Bool, (v, ok) = (bb, true) ∧ (bb = true ↔ NewE l m) := by
      refine ⟨_, by rw [← hv]; unfold newR; rw [if_pos hg], ?_⟩
      simp
    obtain ⟨bb, hr, hbb⟩ := hr
    cases hr
    have G := hide (fun w hs ht => l7Newer_any a b l m n c1 k c2 w hn hs hn2 hk ht hk2 v hbb)
    clear hv hg hbb
    clear hs hn hst ht hk htt
    go_enter Try.func25, Try.ntmps25
    go_wp2_with fail
    refine (C.out).mono ?_
    rintro e w1 ⟨rfl, hb⟩
    have S_1 := hide (HS.out.below hb)
    have T_1 := hide (HT.out.below hb)
    have B_1 := hide hb
    clear hb HS HT
    go_wp2_with fail
    refine (G.out _ S_1.out T_1.out).mono ?_
    rintro e wq ⟨rfl, rfl⟩
    go_wp2
    go_ret2
    exact ⟨rfl, B_1.out⟩
  · have C := hide (l7Both_any a b l m n c1 k c2 w hn hs hn2 hst hk ht hk2 htt false (by simp [hg]))
    have hr : (v, ok) = (false, false) := by rw [← hv]; unfold newR; rw [if_neg hg]
    cases hr
    clear hv hs hn hst ht hk htt hg
    go_enter Try.func25, Try.ntmps25
    go_wp2_with fail
    refine (C.out).mono ?_
    rintro e w1 ⟨rfl, hb⟩
    have B_1 := hide hb
    clear hb 
    go_wp2
    go_ret2
    exact ⟨rfl, B_1.out⟩
end Go.Proofs.Ytdnmklcnlndmhbb.L7
