/-
  Contract: spec.FindPart.
-/
import Derived.Test.YtdnmklcnlndmhbbL7FindR
import Derived.Test.YtdnmklcnlndmhbbL7SFnd
import Derived.Test.YtdnmklcnlndmhbbL7SGood
import Derived.Test.YtdnmklcnlndmhbbL7SGoodS
namespace Go.Proofs.Ytdnmklcnlndmhbb.L7
open Go.RowKit L1
set_option linter.unusedVariables false

set_option maxRecDepth 100000 in
set_option maxHeartbeats 2000000 in
theorem specFindPart_any (a b : Option Addr) (l : List En) (st : List (Int × Int)) (n c1 k c2 : Nat) (en : Int) (w : World) (hn : l.length = n) (hs : SlE w a l) (hn2 : n ≤ 1048576) (hst : ∀ j, j < l.length → (l.getD j eE).2.size ≤ 9223372036854775807) (hk : st.length = k) (ht : SlS w b st) (hk2 : k ≤ 1048576) (p q : Int) (ok : Bool) (hv : fndR l st en = (p, q, ok)) :
    Calls Try.prog 17 #[.slice a n c1, .slice b k c2, .int .i64 en] w fun e w' => e = .returned (.tuple #[.int .i64 p, .int .i64 q, .bool ok]) ∧ Below w.heap.size w w' := by
  have HS := hide hs
  have HT := hide ht
  by_cases hg : GoodE l
  · have C := hide (specGoodEntries_any a l n c1 w hn hs hn2 hst true (by simp [hg]))
    by_cases hh : GoodS st en
    · have D := hide (fun w ht => l7GoodStarts_any b st k c2 en w hk ht hk2 true (by simp [hh]))
      have hr : (p, q, ok) = ((find l st en).1, (find l st en).2, true) := by rw [← hv]; unfold fndR; rw [if_pos ⟨hg, hh⟩]
      cases hr
      have G := fun w hs ht => l7Find_any a b l st n c1 k c2 en w hn hs hn2 hk ht hk2 (find l st en).1 (find l st en).2 rfl
      obtain ⟨P, hP⟩ : ∃ P, P = (find l st en).1 := ⟨_, rfl⟩
      obtain ⟨Q, hQ⟩ : ∃ Q, Q = (find l st en).2 := ⟨_, rfl⟩
      simp only [← hP, ← hQ] at G
      rw [← hP, ← hQ]
      have HG := hide G
      clear hv hs hn hst ht hk hg hh G hP hQ
      go_enter Try.func17, Try.ntmps17
      go_wp2_with fail
      refine (C.out).mono ?_
      rintro e w1 ⟨rfl, hb⟩
      have S_1 := hide (HS.out.below hb)
      have T_1 := hide (HT.out.below hb)
      have B_1 := hide hb
      clear hb HS HT
      go_wp2_with fail
      refine (D.out _ T_1.out).mono ?_
      rintro e w2 ⟨rfl, hb⟩
      have S_2 := hide (S_1.out.below hb)
      have T_2 := hide (T_1.out.below hb)
      have B_2 := hide (B_1.out.trans (hb.mono B_1.out.size))
      clear hb S_1 T_1 B_1
      go_wp2_with fail
      refine (HG.out _ S_2.out T_2.out).mono ?_
      rintro e w3 ⟨rfl, hb⟩
      have S_3 := hide (S_2.out.below hb)
      have T_3 := hide (T_2.out.below hb)
      have B_3 := hide (B_2.out.trans (hb.mono B_2.out.size))
      clear hb S_2 T_2 B_2
      go_wp2
      go_ret3
      exact ⟨rfl, B_3.out⟩
    · have D := hide (fun w ht => l7GoodStarts_any b st k c2 en w hk ht hk2 false (by simp [hh]))
      have hr : (p, q, ok) = (0, 0, false) := by rw [← hv]; unfold fndR; rw [if_neg (fun h => hh h.2)]
      cases hr
      clear hv hs hn hst ht hk hg hh
      go_enter Try.func17, Try.ntmps17
      go_wp2_with fail
      refine (C.out).mono ?_
      rintro e w1 ⟨rfl, hb⟩
      have T_1 := hide (HT.out.below hb)
      have B_1 := hide hb
      clear hb HT
      go_wp2_with fail
      refine (D.out _ T_1.out).mono ?_
      rintro e w2 ⟨rfl, hb⟩
      have T_2 := hide (T_1.out.below hb)
      have B_2 := hide (B_1.out.trans (hb.mono B_1.out.size))
      clear hb T_1 B_1
      go_wp2
      go_ret3
      exact ⟨rfl, B_2.out⟩
  · have C := hide (specGoodEntries_any a l n c1 w hn hs hn2 hst false (by simp [hg]))
    have hr : (p, q, ok) = (0, 0, false) := by rw [← hv]; unfold fndR; rw [if_neg (fun h => hg h.1)]
    cases hr
    clear hv hs hn hst ht hk hg
    go_enter Try.func17, Try.ntmps17
    go_wp2_with fail
    refine (C.out).mono ?_
    rintro e w1 ⟨rfl, hb⟩
    have B_1 := hide hb
    clear hb 
    go_wp2
    go_ret3
    exact ⟨rfl, B_1.out⟩
end Go.Proofs.Ytdnmklcnlndmhbb.L7
