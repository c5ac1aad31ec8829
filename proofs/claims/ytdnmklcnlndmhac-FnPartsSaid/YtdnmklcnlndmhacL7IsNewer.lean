/-
  Contract: impl.IsNewer.
-/
import Derived.Test.YtdnmklcnlndmhacL7MatR
import Derived.Test.YtdnmklcnlndmhacL7Last
import Derived.Test.YtdnmklcnlndmhacL7Good
namespace Go.Proofs.Ytdnmklcnlndmhac.L7
open Go.RowKit L1
set_option linter.unusedVariables false

set_option maxRecDepth 100000 in
set_option maxHeartbeats 2000000 in
theorem implIsNewer_any (a b : Option Addr) (l m : List En) (n c1 k c2 : Nat) (w : World) (hn : l.length = n) (hs : SlE w a l) (hn2 : n ≤ 1048576) (hst : ∀ j, j < l.length → (l.getD j eE).2.size ≤ 9223372036854775807) (hk : m.length = k) (ht : SlE w b m) (hk2 : k ≤ 1048576) (htt : ∀ j, j < m.length → (m.getD j eE).2.size ≤ 9223372036854775807) (v ok : Bool) (hv : newR l m = (v, ok)) :
    Calls Try.prog 10 #[.slice a n c1, .slice b k c2] w fun e w' => e = .returned (.tuple #[.bool v, .bool ok]) ∧ Below w.heap.size w w' := by
  have HS := hide hs
  have HT := hide ht
  by_cases hg : GoodE l
  · have C := hide (goodEntries_any a l n c1 w hn hs hn2 hst true (by simp [hg]))
    by_cases hh : GoodE m
    · have D := hide (fun w ht => goodEntries_any b m k c2 w hk ht hk2 htt true (by simp [hh]))
      have hr : ∃ bb : Bool, (v, ok) = (bb, true) ∧ (bb = true ↔ NewE l m) := by
        refine ⟨_, by rw [← hv]; unfold newR; rw [if_pos ⟨hg, hh⟩], ?_⟩
        simp
      obtain ⟨bb, hr, hbb⟩ := hr
      cases hr
      obtain ⟨x, hx⟩ : ∃ x, lastE l = x := ⟨_, rfl⟩
      obtain ⟨y, hy⟩ : ∃ y, lastE m = y := ⟨_, rfl⟩
      have CA := hide (fun w hs => lastEpoch_any a l n c1 w hn hs hn2 x hx)
      have CB := hide (fun w ht => lastEpoch_any b m k c2 w hk ht hk2 y hy)
      unfold NewE at hbb
      rw [hx, hy, hn, hk] at hbb
      have HBB := hide hbb
      clear hv hg hh hbb hx hy
      clear hs hn hst ht hk htt
      go_enter Try.func10, Try.ntmps10
      go_wp2_with fail
      refine (C.out).mono ?_
      rintro e w1 ⟨rfl, hb⟩
      have S_1 := hide (HS.out.below hb)
      have T_1 := hide (HT.out.below hb)
      have B_1 := hide hb
      clear hb HS HT
      go_wp2_with fail
      refine (D.out _ T_1.out).mono ?_
      rintro e w2 ⟨rfl, hb⟩
      have S_2 := hide (S_1.out.below hb)
      have T_2 := hide (T_1.out.below hb)
      have B_2 := hide (B_1.out.trans (hb.mono B_1.out.size))
      clear hb S_1 T_1 B_1
      go_wp2_with fail
      refine (CA.out _ S_2.out).mono ?_
      rintro e wq ⟨rfl, rfl⟩
      go_wp2_with fail
      refine (CB.out _ T_2.out).mono ?_
      rintro e wq ⟨rfl, rfl⟩
      by_cases h1 : y < x
      · obtain rfl : v = true := HBB.out.2 (.inl h1)
        go_wp2
        go_ret2
        exact ⟨by first | rfl | (simp; omega), B_2.out⟩
      · by_cases h2 : x = y
        · subst h2
          have h2' : (x == x) = true := by simp
          by_cases h3 : (k : Int) < (n : Int)
          · obtain rfl : v = true := HBB.out.2 (.inr ⟨rfl, by omega⟩)
            go_wp2
            go_ret2
            exact ⟨by first | rfl | (simp; omega), B_2.out⟩
          · obtain rfl : v = false := bool_noT HBB.out (by omega)
            go_wp2
            go_ret2
            exact ⟨by first | rfl | (simp; omega), B_2.out⟩
        · have h2' : (x == y) = false := by simpa using h2
          obtain rfl : v = false := bool_noT HBB.out (by omega)
          clear h2
          go_wp2
          go_ret2
          exact ⟨by first | rfl | (simp; omega), B_2.out⟩
    · have D := hide (fun w ht => goodEntries_any b m k c2 w hk ht hk2 htt false (by simp [hh]))
      have hr : (v, ok) = (false, false) := by rw [← hv]; unfold newR; rw [if_neg (fun h => hh h.2)]
      cases hr
      clear hv hs hn hst ht hk htt hg hh
      go_enter Try.func10, Try.ntmps10
      go_wp2_with fail
      refine (C.out).mono ?_
      rintro e w1 ⟨rfl, hb⟩
      have T_1 := hide (HT.out.below hb)
      have B_1 := hide hb
      clear hb HT
      go_wp2_with fail
      refine (D.out _ T_1.out).mono ?_
      rintro e w2 ⟨rfl, hb⟩
      have T_2 := hide (T_1.out.below hb)
      have B_2 := hide (B_1.out.trans (hb.mono B_1.out.size))
      clear hb T_1 B_1
      go_wp2
      go_ret2
      exact ⟨rfl, B_2.out⟩
  · have C := hide (goodEntries_any a l n c1 w hn hs hn2 hst false (by simp [hg]))
    have hr : (v, ok) = (false, false) := by rw [← hv]; unfold newR; rw [if_neg (fun h => hg h.1)]
    cases hr
    clear hv hs hn hst ht hk htt hg
    go_enter Try.func10, Try.ntmps10
    go_wp2_with fail
    refine (C.out).mono ?_
    rintro e w1 ⟨rfl, hb⟩
    have B_1 := hide hb
    clear hb 
    go_wp2
    go_ret2
    exact ⟨rfl, B_1.out⟩
end Go.Proofs.Ytdnmklcnlndmhac.L7
