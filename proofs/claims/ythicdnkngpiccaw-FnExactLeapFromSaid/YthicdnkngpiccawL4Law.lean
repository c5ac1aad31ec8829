/-
  Small facts that the walks of chapter 4's laws share.
-/
import Derived.Test.YthicdnkngpiccawL4Posts
import Derived.Test.YthicdnkngpiccawL1Lists
import Derived.Test.YthicdnkngpiccawL1Marks
import Derived.Test.YthicdnkngpiccawL4IntMarks
namespace Go.Proofs.Ythicdnkngpiccaw.L4
open Go.RowKit L1
set_option linter.unusedVariables false

theorem eqIntS_C (a b : Option Addr) (xs : List Int) (n c1 c2 : Nat) (w : World) (hn : xs.length = n) (ha : SlC w a n c1 xs) (hb : SlC w b n c2 xs) (hn2 : n ≤ 1048576) :
    Calls Try.prog 19 #[.slice a n c1, .slice b n c2] w fun e w' => e = .returned (.bool true) ∧ Below w.heap.size w w' := eqIntS_same a b xs n c1 c2 w hn ha.sl hb.sl hn2
theorem heldIntS_C (a : Option Addr) (n cap : Nat) (w : World) (hn2 : n ≤ 1048576) (hs : SlC w a n cap (marks 1 n)) :
    Calls Try.prog 23 #[.slice a n cap, .int .i64 1] w fun e w' => e = .returned (.int .i64 (1 + (n : Int))) ∧ Below w.heap.size w w' := heldIntS_any a n cap w hn2 hs.sl
end Go.Proofs.Ythicdnkngpiccaw.L4
