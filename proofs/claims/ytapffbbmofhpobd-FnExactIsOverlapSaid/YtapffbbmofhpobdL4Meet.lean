/-
  Contract: a rising set's meet.
-/
import Derived.Test.YtapffbbmofhpobdL4ChoT
namespace Go.Proofs.Ytapffbbmofhpobd.L4
open Go.RowKit L1
set_option linter.unusedVariables false

set_option maxRecDepth 100000 in
set_option maxHeartbeats 1000000 in
theorem meet_any (a : Option Addr) (xs : List Int) (n cap : Nat) (b : Option Addr) (ys : List Int) (n2 cap2 : Nat) (w : World) (hn : xs.length = n) (hs : SlC w a n cap xs) (hn2 : n ≤ 1048576) (hm : ys.length = n2) (ht : SlC w b n2 cap2 ys) (hm2 : n2 ≤ 1048576) (hrx : Rise xs) (hry : Rise ys) :
    Calls Try.prog 26 #[.slice a n cap, .slice b n2 cap2] w fun e w' => RetN w (those ys true xs) e w' := by
  have C := hide (chosen_true a xs n cap b ys n2 cap2 w hn hs.sl hn2 hm ht hm2 hrx hry)
  clear hn hs hm ht hrx hry
  go_enter Try.func26, Try.ntmps26
  go_wp2_with fail
  refine C.out.mono ?_
  rintro e w1 ⟨v, rfl, ho, hb⟩
  have HO := hide ho
  have HB := hide hb
  obtain ⟨a5, c5, rfl⟩ := own_shapeT ho
  clear ho hb
  go_wp2
  go_ret
  exact ⟨_, rfl, HO.out, HB.out⟩

end Go.Proofs.Ytapffbbmofhpobd.L4
