/-
  The walk of the law FnExactGoodPosts: it returns true at every list of ints; memory that was there stays as it was.
-/
import Derived.Test.YthicdnkngpiccawL4Good
import Derived.Test.YthicdnkngpiccawL1Lists
namespace Go.Proofs.Ythicdnkngpiccaw.fnExactGoodPosts
open Go.RowKit L1 L4
set_option linter.unusedVariables false

open Classical in
set_option maxRecDepth 100000 in
set_option maxHeartbeats 2000000 in
theorem walk (a0 : Option Addr) (len0 cap0 : Nat) (z0 : List Int) (w : World) (w0 : IsRow .i64 w a0 len0 cap0 z0) :
    Calls Try.prog 4 #[.slice a0 len0 cap0] w fun e w' => e = .returned (.bool true) ∧ Below w.heap.size w w' := by
  obtain ⟨hs, hn, hm⟩ := sl_of_row w0
  obtain ⟨xs, hxs⟩ : ∃ xs, xs = z0.take len0 := ⟨_, rfl⟩
  rw [← hxs] at hs hn
  have HS := hide hs
  have HN := hide hn
  clear hs hn w0 hxs
  unfold maxLen at hm
  by_cases hsz' : 1048576 < (len0 : Int)
  · go_enter Try.func4, Try.ntmps4
    go_wp2
    go_ret
    exact ⟨rfl, Below.refl _ _⟩
  have hsz : len0 ≤ 1048576 := by omega
  obtain ⟨bb, hbb⟩ : ∃ bb : Bool, bb = true ↔ GoodP xs := ⟨decide (GoodP xs), by simp⟩
  have C1 := hide (fun a cap w hs => specGoodPosts_any a xs len0 cap w HN.out hs hsz bb hbb)
  have C2 := hide (fun a cap w hs => goodPosts_any a xs len0 cap w HN.out hs hsz bb hbb)
  clear hbb
  go_enter Try.func4, Try.ntmps4
  go_wp2_with fail
  refine (toIntS_any a0 xs len0 cap0 _ HN.out HS.out hsz).mono ?_
  rintro e w1 ⟨rfl, ho1, hb1⟩
  have S1 := hide (own_slI ho1)
  have B1 := hide hb1
  clear ho1 hb1
  go_wp2_with fail
  refine (C1.out _ _ _ S1.out).mono ?_
  rintro e w2 ⟨rfl, rfl⟩
  clear S1
  go_wp2_with fail
  refine (toIntS_any a0 xs len0 cap0 _ HN.out (HS.out.below B1.out) hsz).mono ?_
  rintro e w3 ⟨rfl, ho3, hb3⟩
  have S3 := hide (own_slI ho3)
  have B3 := hide (B1.out.trans (hb3.mono B1.out.size))
  clear ho3 hb3 B1
  go_wp2_with fail
  refine (C2.out _ _ _ S3.out).mono ?_
  rintro e w4 ⟨rfl, rfl⟩
  go_wp2_with fail
  refine (toIntS_any a0 xs len0 cap0 _ HN.out (HS.out.below B3.out) hsz).mono ?_
  rintro e w5 ⟨rfl, ho5, hb5⟩
  have S5 := hide (own_slI ho5)
  have T5 := hide (S3.out.below hb5)
  have B5 := hide (B3.out.trans (hb5.mono B3.out.size))
  clear ho5 hb5 S3 B3
  go_wp2_with fail
  refine (eqIntS_same _ _ xs len0 _ _ _ HN.out T5.out S5.out hsz).mono ?_
  rintro e w6 ⟨rfl, hb6⟩
  have B6 := hide (B5.out.trans (hb6.mono B5.out.size))
  clear hb6
  go_wp2
  go_ret
  exact ⟨rfl, B6.out⟩
end Go.Proofs.Ythicdnkngpiccaw.fnExactGoodPosts
