/-
  Contract: impl.PartAt.
-/
import Derived.Test.YtdnmklcnlndmhbbL7PrtR
import Derived.Test.YtdnmklcnlndmhbbL7Prt
import Derived.Test.YtdnmklcnlndmhbbL7Good
namespace Go.Proofs.Ytdnmklcnlndmhbb.L7
open Go.RowKit L1
set_option linter.unusedVariables false

set_option maxRecDepth 100000 in
set_option maxHeartbeats 2000000 in
theorem implPartAt_any (a b : Option Addr) (l m : List En) (n c1 k c2 : Nat) (w : World) (hn : l.length = n) (hs : SlE w a l) (hn2 : n ≤ 1048576) (hst : ∀ j, j < l.length → (l.getD j eE).2.size ≤ 9223372036854775807) (hk : m.length = k) (ht : SlE w b m) (hk2 : k ≤ 1048576) (htt : ∀ j, j < m.length → (m.getD j eE).2.size ≤ 9223372036854775807) (v : Int) (ok : Bool) (hv : prtR l m = (v, ok)) :
    Calls Try.prog 15 #[.slice a n c1, .slice b k c2] w fun e w' => e = .returned (.tuple #[.int .i64 v, .bool ok]) ∧ Below w.heap.size w w' := by
  have HS := hide hs
  have HT := hide ht
  by_cases hg : GoodE l
  · have C := hide (goodEntries_any a l n c1 w hn hs hn2 hst true (by simp [hg]))
    by_cases hh : GoodE m
    · have D := hide (fun w ht => goodEntries_any b m k c2 w hk ht hk2 htt true (by simp [hh]))
      have hr : (v, ok) = ((prt l m : Int), true) := by rw [← hv]; unfold prtR; rw [if_pos ⟨hg, hh⟩]
      have G := hide (fun w hs ht => partAt_any a b l m n c1 k c2 w hn hk hs ht hn2 hk2)
      obtain ⟨q, hq⟩ : ∃ q, q = (prt l m : Int) := ⟨_, rfl⟩
      rw [← hq] at hr G
      cases hr
      clear hv hg hq hh
      clear hs hn hst ht hk htt
      go_enter Try.func15, Try.ntmps15
      go_wp2_with fail
      refine (C.out).mono ?_
      rintro e w1 ⟨rfl, hb⟩
      have S_1 := hide (HS.out.below hb)
      have T_1 := hide (HT.out.below hb)
      have B_1 := hide hb
      clear hb HS HT
      go_wp2_with fail
      refine (D.out _ T_1.out).mono ?_
      rintro e w2 ⟨rfl, hb⟩
      have S_2 := hide (S_1.out.below hb)
      have T_2 := hide (T_1.out.below hb)
      have B_2 := hide (B_1.out.trans (hb.mono B_1.out.size))
      clear hb S_1 T_1 B_1
      go_wp2_with fail
      refine (G.out _ S_2.out T_2.out).mono ?_
      rintro e w3 ⟨rfl, hb⟩
      have S_3 := hide (S_2.out.below hb)
      have T_3 := hide (T_2.out.below hb)
      have B_3 := hide (B_2.out.trans (hb.mono B_2.out.size))
      clear hb S_2 T_2 B_2
      go_wp2
      go_ret2
      exact ⟨rfl, B_3.out⟩
    · have D := hide (fun w ht => goodEntries_any b m k c2 w hk ht hk2 htt false (by simp [hh]))
      have hr : (v, ok) = (0, false) := by rw [← hv]; unfold prtR; rw [if_neg (fun h => hh h.2)]
      cases hr
      clear hv hs hn hst ht hk htt hg hh
      go_enter Try.func15, Try.ntmps15
      go_wp2_with fail
      refine (C.out).mono ?_
      rintro e w1 ⟨rfl, hb⟩
      have T_1 := hide (HT.out.below hb)
      have B_1 := hide hb
      clear hb HT
      go_wp2_with fail
      refine (D.out _ T_1.out).mono ?_
      rintro e w2 ⟨rfl, hb⟩
      have T_2 := hide (T_1.out.below hb)
      have B_2 := hide (B_1.out.trans (hb.mono B_1.out.size))
      clear hb T_1 B_1
      go_wp2
      go_ret2
      exact ⟨rfl, B_2.out⟩
  · have C := hide (goodEntries_any a l n c1 w hn hs hn2 hst false (by simp [hg]))
    have hr : (v, ok) = (0, false) := by rw [← hv]; unfold prtR; rw [if_neg (fun h => hg h.1)]
    cases hr
    clear hv hs hn hst ht hk htt hg
    go_enter Try.func15, Try.ntmps15
    go_wp2_with fail
    refine (C.out).mono ?_
    rintro e w1 ⟨rfl, hb⟩
    have B_1 := hide hb
    clear hb 
    go_wp2
    go_ret2
    exact ⟨rfl, B_1.out⟩
end Go.Proofs.Ytdnmklcnlndmhbb.L7
