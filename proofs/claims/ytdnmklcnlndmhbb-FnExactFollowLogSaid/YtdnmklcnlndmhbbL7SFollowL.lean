/-
  Contract: spec.FollowLog.
-/
import Derived.Test.YtdnmklcnlndmhbbL7SFollow
import Derived.Test.YtdnmklcnlndmhbbL7Both
namespace Go.Proofs.Ytdnmklcnlndmhbb.L7
open Go.RowKit L1
set_option linter.unusedVariables false

set_option maxRecDepth 100000 in
set_option maxHeartbeats 2000000 in
theorem specFollow_any (a b : Option Addr) (l m : List En) (n c1 k c2 : Nat) (w : World) (hn : l.length = n) (hs : SlE w a l) (hn2 : n ≤ 1048576) (hst : ∀ j, j < l.length → (l.getD j eE).2.size ≤ 9223372036854775807) (hk : m.length = k) (ht : SlE w b m) (hk2 : k ≤ 1048576) (htt : ∀ j, j < m.length → (m.getD j eE).2.size ≤ 9223372036854775807) (hca : n ≤ c1) (hca0 : a = none → c1 = 0) (hcb : k ≤ c2) (hcb0 : b = none → c2 = 0) (ys : List En) (p : Int) (ok : Bool) (hv : folR l m = (ys, p, ok)) :
    Calls Try.prog 21 #[.slice a n c1, .slice b k c2] w fun e w' => RetF w ys p ok e w' := by
  have HS := hide hs
  have HT := hide ht
  by_cases hg : GoodE l ∧ GoodE m
  · have C := hide (l7Both_any a b l m n c1 k c2 w hn hs hn2 hst hk ht hk2 htt true (by simp [hg]))
    have hr : (ys, p, ok) = ((fol l m).1, (fol l m).2, true) := by rw [← hv]; unfold folR; rw [if_pos hg]
    have D := fun w hs ht => l7Follow_any a b l m n c1 k c2 w hn hs hn2 hk ht hk2 hca hca0 hcb hcb0 hg.2.mono (fol l m).1 (fol l m).2 rfl
    cases hr
    obtain ⟨Y, hY⟩ : ∃ Y, Y = (fol l m).1 := ⟨_, rfl⟩
    obtain ⟨P, hP⟩ : ∃ P, P = (fol l m).2 := ⟨_, rfl⟩
    simp only [← hY, ← hP] at D
    rw [← hY, ← hP]
    have HD := hide D
    clear hv hs hn hst ht hk htt hg hY hP D
    go_enter Try.func21, Try.ntmps21
    go_wp2_with fail
    refine (C.out).mono ?_
    rintro e w1 ⟨rfl, hb⟩
    have S_1 := hide (HS.out.below hb)
    have T_1 := hide (HT.out.below hb)
    have B_1 := hide hb
    clear hb HS HT
    go_wp2_with fail
    refine (HD.out _ S_1.out T_1.out).mono ?_
    rintro e w2 ⟨v, rfl, ho, hb⟩
    have B2 := hide (B_1.out.trans (hb.mono B_1.out.size))
    have HO := hide (own_baseT ho B_1.out.size)
    clear hb ho
    go_wp2
    go_ret3
    exact ⟨_, rfl, HO.out, B2.out⟩
  · have C := hide (l7Both_any a b l m n c1 k c2 w hn hs hn2 hst hk ht hk2 htt false (by simp [hg]))
    have hr : (ys, p, ok) = ([], 0, false) := by rw [← hv]; unfold folR; rw [if_neg hg]
    cases hr
    clear hv hs hn hst ht hk htt hg
    go_enter Try.func21, Try.ntmps21
    go_wp2_with fail
    refine (C.out).mono ?_
    rintro e w1 ⟨rfl, hb⟩
    have B_1 := hide hb
    clear hb 
    go_wp2
    go_ret3
    exact ⟨_, rfl, World.ownsRow_nil _ _ _ _, B_1.out⟩
end Go.Proofs.Ytdnmklcnlndmhbb.L7
