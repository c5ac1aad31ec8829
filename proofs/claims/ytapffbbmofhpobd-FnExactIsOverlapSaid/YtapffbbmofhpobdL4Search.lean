/-
  The library's contract for slices.BinarySearch over rising sets of ints, laid at this program's numbers: its bodies are the ones that the contract was proved of.
-/
import Derived.Shelf.SlicesG.SearchI
import Derived.Test.YtapffbbmofhpobdL4Base
namespace Go.Proofs.Ytapffbbmofhpobd.L4
open Go.Shelf Go.RowKit L1
set_option linter.unusedVariables false

def bsRen : Ren := ⟨fun | 49 => 68 | 59 => 71 | 60 => 72 | 68 => 73 | n => n,
  fun | 0 => 0 | 3 => 3 | 4 => 4 | 22 => 55 | 23 => 3 | 36 => 56 | 44 => 92 | 45 => 93 | 51 => 97 | 52 => 81 | 53 => 98 | 67 => 106 | 89 => 101 | 90 => 102 | 91 => 103 | 92 => 104 | 93 => 105 | 94 => 107 | 95 => 108 | 96 => 109 | 97 => 110 | 98 => 111 | 99 => 112 | 100 => 113 | 101 => 114 | 102 => 115 | n => n, fun | n => n⟩
theorem bsLays : SlLaysN.n49 Try.prog bsRen := {
  mixed := by kernel_rfl
  f49 := ⟨Try.f68.name, by kernel_rfl, Try.func68.trans (congrArg some (by kernel_rfl))⟩
  f59 := ⟨Try.f71.name, by kernel_rfl, Try.func71.trans (congrArg some (by kernel_rfl))⟩
  f60 := ⟨Try.f72.name, by kernel_rfl, Try.func72.trans (congrArg some (by kernel_rfl))⟩
  f68 := ⟨Try.f73.name, by kernel_rfl, Try.func73.trans (congrArg some (by kernel_rfl))⟩
  t0 := Try.underlying0
  a0 := Try.isAgg0
  z0 := Try.sizeOf0
  v0 := Try.zeroValue0
  t3 := Try.underlying3
  a3 := Try.isAgg3
  z3 := Try.sizeOf3
  v3 := Try.zeroValue3
  t4 := Try.underlying4
  a4 := Try.isAgg4
  z4 := Try.sizeOf4
  v4 := Try.zeroValue4
  t22 := Try.underlying55
  a22 := Try.isAgg55
  z22 := Try.sizeOf55
  v22 := Try.zeroValue55
  t23 := Try.underlying3
  a23 := Try.isAgg3
  z23 := Try.sizeOf3
  v23 := Try.zeroValue3
  t51 := Try.underlying97
  a51 := Try.isAgg97
  z51 := Try.sizeOf97
  v51 := Try.zeroValue97 }

theorem below_drewN (B : Nat) (w : World) : ∀ q, Below B w (w.drewN q)
  | 0 => Below.refl _ _
  | q + 1 => (below_drewN B w q).trans (Below.refl _ _).drew
set_option maxRecDepth 100000 in
set_option maxHeartbeats 1000000 in
theorem search_nil (c : Nat) (a : Option Addr) (x : Int) (w : World) :
    Calls Try.prog 68 #[.slice a 0 c, .int .i64 x] w fun e w' => ∃ ok, e = .returned (.tuple #[.int .i64 0, .bool ok]) ∧ Below w.heap.size w w' := by
  go_enter Try.func68, Try.ntmps68
  go_wp2
  go_loopw [7, 8] (fun s7 s8 wr => s7 = .int .i64 0 ∧ s8 = .int .i64 0 ∧ wr = w) (fun _ _ _ => 0)
  case atStart => exact ⟨rfl, rfl, rfl⟩
  case round =>
    obtain ⟨rfl, rfl, rfl⟩ := hrel
    go_wp2
    go_ret2
    exact ⟨_, rfl, Below.refl _ _⟩
/-- Of a rising list: how many are less. -/
theorem search_any (a : Option Addr) (xs : List Int) (n c : Nat) (x : Int) (w : World) (hn : xs.length = n) (hn2 : n ≤ 1048576) (hs : Sl w a xs) (hr : Rise xs) :
    Calls Try.prog 68 #[.slice a n c, .int .i64 x] w fun e w' => ∃ ok, e = .returned (.tuple #[.int .i64 (lp x xs : Nat), .bool ok]) ∧ Below w.heap.size w w' := by
  by_cases h0 : n = 0
  · subst h0
    obtain rfl : xs = [] := List.eq_nil_of_length_eq_zero hn
    exact search_nil c a x w
  · obtain ⟨b, off, rfl, _⟩ := hs 0 (by omega)
    have key := AnyG.slices_BinarySearch_int bsLays b off n c xs x w (by omega) (by omega) (fun j hj => hs.at j hj) (by rw [List.take_of_length_le (by omega)]; exact hr.imp fun h => by omega)
    refine Calls.mono key ?_
    rintro e w' ⟨rfl, q, rfl⟩
    have hcount : (xs.take n).countP (fun y => decide (y < x)) = lp x xs := by
      rw [List.take_of_length_le (by omega)]
      exact count_lp x hr
    refine ⟨_, by rw [hcount], ?_⟩
    exact below_drewN _ _ q
end Go.Proofs.Ytapffbbmofhpobd.L4
