/-
  Contract: spec.EndOfEpoch.
-/
import Derived.Test.YtdnmklcnlndmhbbL7EndR
import Derived.Test.YtdnmklcnlndmhbbL7SEnd
import Derived.Test.YtdnmklcnlndmhbbL7SGood
namespace Go.Proofs.Ytdnmklcnlndmhbb.L7
open Go.RowKit L1
set_option linter.unusedVariables false

set_option maxRecDepth 100000 in
set_option maxHeartbeats 2000000 in
theorem specEndOf_any (a : Option Addr) (l : List En) (n cap : Nat) (ep : Int) (w : World) (hn : l.length = n) (hs : SlE w a l) (hn2 : n ≤ 1048576) (hst : ∀ j, j < l.length → (l.getD j eE).2.size ≤ 9223372036854775807) (v : Int) (ok : Bool) (hv : endR l ep = (v, ok)) :
    Calls Try.prog 10 #[.slice a n cap, .int .i64 ep] w fun e w' => e = .returned (.tuple #[.int .i64 v, .bool ok]) ∧ Below w.heap.size w w' := by
  have HS := hide hs
  by_cases hg : GoodE l
  · have C := hide (specGoodEntries_any a l n cap w hn hs hn2 hst true (by simp [hg]))
    by_cases h1 : ep < 0
    · have hr : (v, ok) = (0, false) := by rw [← hv]; unfold endR; rw [if_neg (by omega)]
      cases hr
      have CX := hide (fun w => l1In_any ep 0 1000 w false (by simp; omega))
      clear hv hs hn hst hg
      go_enter Try.func10, Try.ntmps10
      go_wp2_with fail
      refine (C.out).mono ?_
      rintro e w1 ⟨rfl, hb⟩
      have B_1 := hide hb
      clear hb 
      go_wp2_with fail
      refine (CX.out _).mono ?_
      rintro e wq ⟨rfl, rfl⟩
      go_wp2
      go_ret2
      exact ⟨rfl, B_1.out⟩
    · by_cases h2 : 1000 < ep
      · have hr : (v, ok) = (0, false) := by rw [← hv]; unfold endR; rw [if_neg (by omega)]
        cases hr
        have CX := hide (fun w => l1In_any ep 0 1000 w false (by simp; omega))
        clear hv hs hn hst hg
        go_enter Try.func10, Try.ntmps10
        go_wp2_with fail
        refine (C.out).mono ?_
        rintro e w1 ⟨rfl, hb⟩
        have B_1 := hide hb
        clear hb 
        go_wp2_with fail
        refine (CX.out _).mono ?_
        rintro e wq ⟨rfl, rfl⟩
        go_wp2
        go_ret2
        exact ⟨rfl, B_1.out⟩
      · have hr : (v, ok) = ((endE l ep : Int), true) := by rw [← hv]; unfold endR; rw [if_pos ⟨hg, by omega, by omega⟩]
        have D := hide (fun w hs => l7End_any a l n cap ep w hn hs hn2)
        obtain ⟨q, hq⟩ : ∃ q, q = (endE l ep : Int) := ⟨_, rfl⟩
        rw [← hq] at hr D
        cases hr
        have CX := hide (fun w => l1In_any ep 0 1000 w true (by simp; omega))
        clear hv hs hn hst hg hq
        go_enter Try.func10, Try.ntmps10
        go_wp2_with fail
        refine (C.out).mono ?_
        rintro e w1 ⟨rfl, hb⟩
        have S_1 := hide (HS.out.below hb)
        have B_1 := hide hb
        clear hb HS
        go_wp2_with fail
        refine (CX.out _).mono ?_
        rintro e wq ⟨rfl, rfl⟩
        go_wp2_with fail
        refine (D.out _ S_1.out).mono ?_
        rintro e w2 ⟨rfl, hb⟩
        have S_2 := hide (S_1.out.below hb)
        have B_2 := hide (B_1.out.trans (hb.mono B_1.out.size))
        clear hb S_1 B_1
        go_wp2
        go_ret2
        exact ⟨rfl, B_2.out⟩
  · have hr : (v, ok) = (0, false) := by rw [← hv]; unfold endR; rw [if_neg (fun h => hg h.1)]
    cases hr
    have C := hide (specGoodEntries_any a l n cap w hn hs hn2 hst false (by simp [hg]))
    clear hv hs hn hst hg
    go_enter Try.func10, Try.ntmps10
    go_wp2_with fail
    refine (C.out).mono ?_
    rintro e w1 ⟨rfl, hb⟩
    have B_1 := hide hb
    clear hb 
    go_wp2
    go_ret2
    exact ⟨rfl, B_1.out⟩
end Go.Proofs.Ytdnmklcnlndmhbb.L7
