/-
  Contracts: the draws of the laws on logs and their epochs.
-/
import Derived.Test.YtdnmklcnlndmhacL7DrawT
namespace Go.Proofs.Ytdnmklcnlndmhac.L7
open Go.RowKit L1
set_option linter.unusedVariables false

theorem alloc_le (w : World) (o : Obj) : w.heap.size ≤ (w.alloc o).heap.size := by simp
set_option maxRecDepth 100000 in
set_option maxHeartbeats 2000000 in
theorem drawPartAt_any (a : Option Addr) (n cap : Nat) (w : World) (h : Slb w w.heap.size a n) (hn : n ≤ 1048576) :
    Calls Try.prog 5 #[.slice a n cap] w fun e w' => ∃ v1 v2, e = .returned (.tuple #[v1, v2]) ∧ OwnEn w' w.heap.size v1 41 2000 ∧ OwnEn w' w.heap.size v2 45 2000 ∧ Below w.heap.size w w' := by
  have HC := hide (cur_new (cap := cap) h hn)
  clear h
  go_enter Try.func5, Try.ntmps5
  go_wp2_with fail
  refine (twoLogs_any _ 0 _ HC.out (by omega)).mono ?_
  rintro e w1 ⟨v1, v2, rfl, h1, h2, _, hg⟩
  have O1 := hide (h1.base (alloc_le w (Obj.cells #[.slice a n cap, .int .i64 0, .int .u64 0] 53)))
  have O2 := hide (h2.base (alloc_le w (Obj.cells #[.slice a n cap, .int .i64 0, .int .u64 0] 53)))
  have B1 := hide (grown_to_below hg)
  clear h1 h2 hg
  go_wp2
  go_ret2
  exact ⟨_, _, rfl, O1.out, O2.out, B1.out⟩
set_option maxRecDepth 100000 in
set_option maxHeartbeats 2000000 in
theorem drawFollow_any (a : Option Addr) (n cap : Nat) (w : World) (h : Slb w w.heap.size a n) (hn : n ≤ 1048576) :
    Calls Try.prog 21 #[.slice a n cap] w fun e w' => ∃ v1 v2, e = .returned (.tuple #[v1, v2]) ∧ OwnEn w' w.heap.size v1 41 2000 ∧ OwnEn w' w.heap.size v2 45 2000 ∧ Below w.heap.size w w' := by
  have HC := hide (drawPartAt_any a n cap w h hn)
  clear h
  go_enter Try.func21, Try.ntmps21
  go_wp2_with fail
  refine HC.out.mono ?_
  rintro e w1 ⟨v1, v2, rfl, h1, h2, hb⟩
  have O1 := hide h1
  have O2 := hide h2
  have B1 := hide hb
  clear h1 h2 hb HC
  go_wp2
  go_ret2
  exact ⟨_, _, rfl, O1.out, O2.out, B1.out⟩
set_option maxRecDepth 100000 in
set_option maxHeartbeats 2000000 in
theorem drawGoodEntries_any (a : Option Addr) (n cap : Nat) (w : World) (h : Slb w w.heap.size a n) (hn : n ≤ 1048576) :
    Calls Try.prog 38 #[.slice a n cap] w fun e w' => ∃ v1, e = .returned v1 ∧ OwnEn w' w.heap.size v1 41 1001 ∧ Below w.heap.size w w' := by
  have HC := hide (cur_new (cap := cap) h hn)
  clear h
  go_enter Try.func38, Try.ntmps38
  go_wp2_with fail
  refine (entries_any _ 0 _ HC.out (by omega)).mono ?_
  rintro e w1 ⟨v1, rfl, h1, _, hg⟩
  have O1 := hide (h1.base (alloc_le w (Obj.cells #[.slice a n cap, .int .i64 0, .int .u64 0] 53)))
  have B1 := hide (grown_to_below hg)
  clear h1 hg
  go_wp2
  go_ret
  exact ⟨_, rfl, O1.out, B1.out⟩
set_option maxRecDepth 100000 in
set_option maxHeartbeats 2000000 in
theorem drawStartsOf_any (a : Option Addr) (n cap : Nat) (w : World) (h : Slb w w.heap.size a n) (hn : n ≤ 1048576) :
    Calls Try.prog 15 #[.slice a n cap] w fun e w' => ∃ v1, e = .returned v1 ∧ OwnEn w' w.heap.size v1 41 1001 ∧ Below w.heap.size w w' := by
  have HC := hide (drawGoodEntries_any a n cap w h hn)
  clear h
  go_enter Try.func15, Try.ntmps15
  go_wp2_with fail
  refine HC.out.mono ?_
  rintro e w1 ⟨v1, rfl, h1, hb⟩
  have O1 := hide h1
  have B1 := hide hb
  clear h1 hb HC
  go_wp2
  go_ret
  exact ⟨_, rfl, O1.out, B1.out⟩
set_option maxRecDepth 100000 in
set_option maxHeartbeats 2000000 in
theorem drawEndOf_any (a : Option Addr) (n cap : Nat) (w : World) (h : Slb w w.heap.size a n) (hn : n ≤ 1048576) :
    Calls Try.prog 19 #[.slice a n cap] w fun e w' => ∃ v1 x, e = .returned (.tuple #[v1, .int .i64 x]) ∧ OwnEn w' w.heap.size v1 41 1001 ∧ Below w.heap.size w w' := by
  have HC := hide (cur_new (cap := cap) h hn)
  clear h
  go_enter Try.func19, Try.ntmps19
  go_wp2_with fail
  refine (entries_any _ 0 _ HC.out (by omega)).mono ?_
  rintro e w1 ⟨v1, rfl, h1, hc1, hg⟩
  have O1 := hide h1
  have C1 := hide hc1
  have G1 := hide hg
  clear h1 hg hc1 HC
  go_wp2_with fail
  refine (pick_any _ _ 9 _ C1.out (by omega) (by omega) (by omega)).mono ?_
  rintro e w2 ⟨x, rfl, hx0, hx1, _, _, hg2⟩
  have B2 := hide (grown_to_below (grown_trans G1.out hg2))
  have O2 := hide ((O1.out.grown hg2 (by simp)).base (alloc_le w (Obj.cells #[.slice a n cap, .int .i64 0, .int .u64 0] 53)))
  clear hg2 O1 C1 G1
  go_wp2
  go_ret2
  exact ⟨_, _, rfl, O2.out, B2.out⟩
end Go.Proofs.Ytdnmklcnlndmhac.L7
