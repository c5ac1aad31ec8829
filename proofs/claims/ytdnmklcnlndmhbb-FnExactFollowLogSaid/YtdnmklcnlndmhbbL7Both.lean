/-
  Contract: spec.l7Both.
-/
import Derived.Test.YtdnmklcnlndmhbbL7SGood
namespace Go.Proofs.Ytdnmklcnlndmhbb.L7
open Go.RowKit L1
set_option linter.unusedVariables false

set_option maxRecDepth 100000 in
set_option maxHeartbeats 2000000 in
theorem l7Both_any (a b : Option Addr) (l m : List En) (n c1 k c2 : Nat) (w : World) (hn : l.length = n) (hs : SlE w a l) (hn2 : n ≤ 1048576) (hst : ∀ j, j < l.length → (l.getD j eE).2.size ≤ 9223372036854775807) (hk : m.length = k) (ht : SlE w b m) (hk2 : k ≤ 1048576) (htt : ∀ j, j < m.length → (m.getD j eE).2.size ≤ 9223372036854775807) (bb : Bool) (hbb : bb = true ↔ GoodE l ∧ GoodE m) :
    Calls Try.prog 37 #[.slice a n c1, .slice b k c2] w fun e w' => e = .returned (.bool bb) ∧ Below w.heap.size w w' := by
  have HT := hide ht
  by_cases hg : GoodE l
  · have C := hide (specGoodEntries_any a l n c1 w hn hs hn2 hst true (by simp [hg]))
    by_cases hh : GoodE m
    · have D := hide (fun w ht => specGoodEntries_any b m k c2 w hk ht hk2 htt true (by simp [hh]))
      obtain rfl : bb = true := hbb.2 ⟨hg, hh⟩
      clear hbb hs hn hst ht hk htt hg hh
      go_enter Try.func37, Try.ntmps37
      go_wp2_with fail
      refine (C.out).mono ?_
      rintro e w1 ⟨rfl, hb⟩
      have T_1 := hide (HT.out.below hb)
      have B_1 := hide hb
      clear hb HT
      go_wp2_with fail
      refine (D.out _ T_1.out).mono ?_
      rintro e w2 ⟨rfl, hb⟩
      have T_2 := hide (T_1.out.below hb)
      have B_2 := hide (B_1.out.trans (hb.mono B_1.out.size))
      clear hb T_1 B_1
      go_wp2
      go_ret
      exact ⟨rfl, B_2.out⟩
    · have D := hide (fun w ht => specGoodEntries_any b m k c2 w hk ht hk2 htt false (by simp [hh]))
      obtain rfl : bb = false := bool_noT hbb (fun h => hh h.2)
      clear hbb hs hn hst ht hk htt hg hh
      go_enter Try.func37, Try.ntmps37
      go_wp2_with fail
      refine (C.out).mono ?_
      rintro e w1 ⟨rfl, hb⟩
      have T_1 := hide (HT.out.below hb)
      have B_1 := hide hb
      clear hb HT
      go_wp2_with fail
      refine (D.out _ T_1.out).mono ?_
      rintro e w2 ⟨rfl, hb⟩
      have T_2 := hide (T_1.out.below hb)
      have B_2 := hide (B_1.out.trans (hb.mono B_1.out.size))
      clear hb T_1 B_1
      go_wp2
      go_ret
      exact ⟨rfl, B_2.out⟩
  · have C := hide (specGoodEntries_any a l n c1 w hn hs hn2 hst false (by simp [hg]))
    obtain rfl : bb = false := bool_noT hbb (fun h => hg h.1)
    clear hbb hs hn hst ht hk htt hg
    go_enter Try.func37, Try.ntmps37
    go_wp2_with fail
    refine (C.out).mono ?_
    rintro e w1 ⟨rfl, hb⟩
    have B_1 := hide hb
    clear hb 
    go_wp2
    go_ret
    exact ⟨rfl, B_1.out⟩
end Go.Proofs.Ytdnmklcnlndmhbb.L7
