/-
  Contract: impl.PutAll: of at most 60 numbers in -1000000000000..1000000000000 their digits one behind the other, as a text, and true; else the empty text and false.
-/
import Derived.Test.YtphkbnlappbjeaaDoorL1PutEach
namespace Go.Proofs.YtphkbnlappbjeaaDoor.L1
open Go.RowKit
set_option linter.unusedVariables false

set_option maxRecDepth 100000 in
set_option maxHeartbeats 1000000 in
theorem putAll_yes (a : Option Addr) (xs : List Int) (n cap : Nat) (w : World) (hn : xs.length = n) (hs : Sl w a xs) (hn2 : n ≤ 60) (hok : OkL xs) (ht : Tab w) :
    Calls Tryd.prog 19 #[.slice a n cap] w fun e w' => e = .returned (.tuple #[.string (strOfNums (cat xs)), .bool true]) ∧ Below w.heap.size w w' := by
  have c := putEach_yes a xs n cap w hn hs (by omega) hok ht
  have h60 : ¬ 60 < (n : Int) := by omega
  have C := hide c
  clear c hs hn ht hok
  go_enter Tryd.func19, Tryd.ntmps19
  go_wp2_with fail
  refine C.out.mono ?_
  rintro e w1 ⟨rfl, hb1⟩
  go_wp2
  go_ret2
  exact ⟨rfl, hb1⟩

set_option maxRecDepth 100000 in
set_option maxHeartbeats 1000000 in
theorem putAll_long (a : Option Addr) (n cap : Nat) (w : World) (h60 : 60 < (n : Int)) (hn2 : n ≤ 1048576) :
    Calls Tryd.prog 19 #[.slice a n cap] w fun e w' => e = .returned (.tuple #[.string ⟨#[]⟩, .bool false]) ∧ w = w' := by
  go_enter Tryd.func19, Tryd.ntmps19
  go_wp2
  go_ret2
  exact ⟨rfl, rfl⟩

set_option maxRecDepth 100000 in
set_option maxHeartbeats 1000000 in
theorem putAll_no (a : Option Addr) (xs : List Int) (n cap : Nat) (w : World) (hn : xs.length = n) (hs : Sl w a xs) (hn2 : n ≤ 60) (hno : ¬ OkL xs) (ht : Tab w) :
    Calls Tryd.prog 19 #[.slice a n cap] w fun e w' => e = .returned (.tuple #[.string ⟨#[]⟩, .bool false]) ∧ Below w.heap.size w w' := by
  have c := putEach_no a xs n cap w hn hs (by omega) hno ht
  have h60 : ¬ 60 < (n : Int) := by omega
  have C := hide c
  clear c hs hn ht hno
  go_enter Tryd.func19, Tryd.ntmps19
  go_wp2_with fail
  refine C.out.mono ?_
  rintro e w1 ⟨rfl, hb1⟩
  go_wp2
  go_ret2
  exact ⟨rfl, hb1⟩
end Go.Proofs.YtphkbnlappbjeaaDoor.L1
