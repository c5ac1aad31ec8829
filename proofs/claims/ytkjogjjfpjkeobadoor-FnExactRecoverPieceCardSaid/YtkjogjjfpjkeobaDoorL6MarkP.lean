/-
  Contracts of the laws' own helpers: laws.markPiece writes rising numbers into a piece's Index and into nothing else, laws.heldPiece finds them there.
-/
import Derived.Test.YtkjogjjfpjkeobaDoorL6Grown
import Derived.Test.YtkjogjjfpjkeobaDoorL1Marks
namespace Go.Proofs.YtkjogjjfpjkeobaDoor.L6
open Go.RowKit L1
set_option linter.unusedVariables false

set_option maxRecDepth 100000 in
set_option maxHeartbeats 1000000 in
theorem markPiece_any (base : Nat) (f : Int) (s : ByteArray) (a : Option Addr) (n q : Nat) (xs : List Int) (w : World) (hn2 : n ≤ 1048576) (hB : base ≤ w.heap.size) (ho : w.ownsRow base 3 1 (.slice a n q) n (xs.map (Value.int .i64))) :
    Calls Tryd.prog 19 #[.agg #[.int .i64 f, .string s, .slice a n q], .int .i64 1] w fun e w' => e = .returned (.int .i64 (1 + (n : Int))) ∧ w'.ownsRow base 3 1 (.slice a n q) n ((marks 1 n).map (Value.int .i64)) ∧ Below base w w' ∧ w.grownBy w' (Value.slice a n q).ownBlock := by
  have C := hide (fun wx (ho : wx.ownsRow base 3 1 (.slice a n q) n (xs.map (Value.int .i64))) => markIntS_all base (.slice a n q) xs n wx hn2 ho)
  have O := hide ho
  clear ho
  go_enter Tryd.func19, Tryd.ntmps19
  go_wp2_with fail
  refine (C.out _ (own_belowC O.out ((Below.refl _ _).alloc (Nat.le_refl _) _))).mono ?_
  rintro e w1 ⟨rfl, ho1, hb1, hg1⟩
  have H := hide (And.intro ho1 (And.intro (((Below.refl base w).alloc hB _).trans hb1) ((grown_below ((Below.refl w.heap.size w).alloc (Nat.le_refl _) _)).trans hg1)))
  clear ho1 hb1 hg1
  go_wp2
  go_ret
  exact ⟨rfl, H.out⟩

set_option maxRecDepth 100000 in
set_option maxHeartbeats 1000000 in
theorem heldPiece_any (f : Int) (s : ByteArray) (a : Option Addr) (n q : Nat) (w : World) (hn2 : n ≤ 1048576) (hs : Sl w a (marks 1 n)) :
    Calls Tryd.prog 20 #[.agg #[.int .i64 f, .string s, .slice a n q], .int .i64 1] w fun e w' => e = .returned (.int .i64 (1 + (n : Int))) ∧ Below w.heap.size w w' := by
  have C := hide (fun wx hs => heldIntS_any a n q wx hn2 hs)
  have HS := hide hs
  have h0 : ¬ (1 + (n : Int)) < 0 := by omega
  clear hs
  go_enter Tryd.func20, Tryd.ntmps20
  go_wp2_with fail
  refine (C.out _ (HS.out.below ((Below.refl _ _).alloc (Nat.le_refl _) _))).mono ?_
  rintro e w1 ⟨rfl, hb1⟩
  have B1 := hide (((Below.refl w.heap.size w).alloc (Nat.le_refl _) (.cells #[.int .i64 f, .string s, .slice a n q] 37 (0, 0))).trans (hb1.mono (by simp)))
  clear hb1
  go_wp2
  go_ret
  exact ⟨rfl, B1.out⟩
end Go.Proofs.YtkjogjjfpjkeobaDoor.L6
