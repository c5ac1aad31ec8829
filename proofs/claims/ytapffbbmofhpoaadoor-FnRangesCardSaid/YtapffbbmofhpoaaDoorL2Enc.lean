/-
  Contract: impl.EncodeChunk: of good samples the text of their chunk, and true; of others the empty text and false.
-/
import Derived.Test.YtapffbbmofhpoaaDoorL2Nums
import Derived.Test.YtapffbbmofhpoaaDoorL1PutEach
namespace Go.Proofs.YtapffbbmofhpoaaDoor.L1
open Go.RowKit
set_option linter.unusedVariables false

set_option maxRecDepth 100000 in
set_option maxHeartbeats 400000 in
theorem encodeChunk_yes (a : Option Addr) (l : List (Int × Int)) (n cap : Nat) (w : World) (hn : l.length = n) (hs : Sl2 w a l) (hg : GoodS l) (ht : Tab w) :
    Calls Tryd.prog 35 #[.slice a n cap] w fun e w' => e = .returned (.tuple #[.string (strOfNums (cat (nums l))), .bool true]) ∧ Below w.heap.size w w' := by
  have h40 := hg.1
  have C1 := hide (chunkNumbers_yes a l n cap w hn hs hg)
  have C2 := hide (fun a cap w hs ht => putEach_yes a (nums l) (1 + 2 * n) cap w (by rw [nums_len, hn]) hs (by omega) (okL_nums hg) ht)
  have HT := hide ht
  clear hn hs hg ht h40
  go_enter Tryd.func35, Tryd.ntmps35
  go_wp2_with fail
  refine C1.out.mono ?_
  rintro e w1 ⟨v, rfl, ho, hb1⟩
  obtain ⟨va, vc, rfl, hs, _⟩ := own_form ho
  have HS := hide hs
  have B1 := hide hb1
  clear ho hs hb1
  go_wp2_with fail
  refine (C2.out _ _ _ HS.out (HT.out.below B1.out)).mono ?_
  rintro e w2 ⟨rfl, hb2⟩
  have B2 := hide (B1.out.trans (hb2.mono B1.out.size))
  clear hb2
  go_wp2
  go_ret2
  exact ⟨rfl, B2.out⟩
set_option maxRecDepth 100000 in
set_option maxHeartbeats 400000 in
theorem encodeChunk_no (a : Option Addr) (l : List (Int × Int)) (n cap : Nat) (w : World) (hn : l.length = n) (hs : Sl2 w a l) (hn2 : n ≤ 1048576) (hg : ¬ GoodS l) :
    Calls Tryd.prog 35 #[.slice a n cap] w fun e w' => e = .returned (.tuple #[.string ⟨#[]⟩, .bool false]) ∧ Below w.heap.size w w' := by
  have C1 := hide (chunkNumbers_no a l n cap w hn hs hn2 hg)
  clear hn hs hg
  go_enter Tryd.func35, Tryd.ntmps35
  go_wp2_with fail
  refine C1.out.mono ?_
  rintro e w1 ⟨rfl, hb1⟩
  go_wp2
  go_ret2
  exact ⟨rfl, hb1⟩
end Go.Proofs.YtapffbbmofhpoaaDoor.L1
