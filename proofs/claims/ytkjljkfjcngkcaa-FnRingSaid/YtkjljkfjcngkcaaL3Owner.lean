/-
  Contracts: impl.OwnerOf and spec.OwnerOf tell the owner for a hash on a ring, and true; else 0 and false.
-/
import Derived.Test.YtkjljkfjcngkcaaL3First
namespace Go.Proofs.Ytkjljkfjcngkcaa.L3
open Go.RowKit L1
set_option linter.unusedVariables false

set_option maxRecDepth 100000 in
set_option maxHeartbeats 1000000 in
theorem ownerOf_yes (a : Option Addr) (l : List (Int × Int)) (n cap : Nat) (h : Int) (w : World) (hn : l.length = n) (hs : Sl2 w a l) (hn2 : n ≤ 1048576) (hr : RingAsk l h) (o : Int) (ho : (l.getD (fst l h) (0, 0)).2 = o) :
    Calls Try.prog 11 #[.slice a n cap, .int .i64 h] w fun e w' => e = .returned (.tuple #[.int .i64 o, .bool true]) ∧ Below w.heap.size w w' := by
  have C1 := tokenFor_yes a l n cap h w hn hs hn2 hr
  have hf := fst_lt l h hr.1
  obtain ⟨b, off, rfl, _, hd⟩ := hs _ hf
  rw [ho] at hd
  rw [hn] at hf
  obtain ⟨k, hk⟩ : ∃ k, k = fst l h := ⟨_, rfl⟩
  rw [← hk] at C1 hf hd
  have D1 := hide C1
  have HD := hide hd
  have hfI : (k : Int) < (n : Int) := by omega
  clear C1 hk ho hs hn hd
  go_enter Try.func11, Try.ntmps11
  go_wp2_with fail
  refine D1.out.mono ?_
  rintro e w1 ⟨rfl, hb1⟩
  have hd := (hb1.cell (p := ⟨b, off + k * 2 + 1, none⟩) (blk_lt HD.out)).trans HD.out
  have B1 := hide hb1
  clear hb1
  go_wp2
  go_ret2
  exact ⟨rfl, B1.out⟩
set_option maxRecDepth 100000 in
set_option maxHeartbeats 1000000 in
theorem ownerOf_no (a : Option Addr) (l : List (Int × Int)) (n cap : Nat) (h : Int) (w : World) (hn : l.length = n) (hs : Sl2 w a l) (hn2 : n ≤ 1048576) (hr : ¬ RingAsk l h) :
    Calls Try.prog 11 #[.slice a n cap, .int .i64 h] w fun e w' => e = .returned (.tuple #[.int .i64 0, .bool false]) ∧ Below w.heap.size w w' := by
  have D1 := hide (tokenFor_no a l n cap h w hn hs hn2 hr)
  clear hs hn hr
  go_enter Try.func11, Try.ntmps11
  go_wp2_with fail
  refine D1.out.mono ?_
  rintro e w1 ⟨rfl, hb1⟩
  go_wp2
  go_ret2
  exact ⟨rfl, hb1⟩
set_option maxRecDepth 100000 in
set_option maxHeartbeats 1000000 in
theorem specOwnerOf_yes (a : Option Addr) (l : List (Int × Int)) (n cap : Nat) (h : Int) (w : World) (hn : l.length = n) (hs : Sl2 w a l) (hn2 : n ≤ 1048576) (hr : RingAsk l h) (o : Int) (ho : (l.getD (fst l h) (0, 0)).2 = o) :
    Calls Try.prog 14 #[.slice a n cap, .int .i64 h] w fun e w' => e = .returned (.tuple #[.int .i64 o, .bool true]) ∧ Below w.heap.size w w' := by
  have C0 := hide (l3Ring_any a l n cap h w hn hs hn2 true (by simp [hr]))
  have C1 := fun w hs => l3First_any a l n cap h w hn hs hn2
  have hf := fst_lt l h hr.1
  have HS := hide hs
  obtain ⟨b, off, rfl, _, hd⟩ := hs _ hf
  rw [ho] at hd
  rw [hn] at hf
  obtain ⟨k, hk⟩ : ∃ k, k = fst l h := ⟨_, rfl⟩
  rw [← hk] at hf hd
  simp only [← hk] at C1
  have D1 := hide C1
  have HD := hide hd
  have hfI : (k : Int) < (n : Int) := by omega
  clear C1 hk ho hs hn hd hr
  go_enter Try.func14, Try.ntmps14
  go_wp2_with fail
  refine C0.out.mono ?_
  rintro e w1 ⟨rfl, hb1⟩
  have B1 := hide hb1
  clear hb1
  go_wp2_with fail
  refine (D1.out _ (HS.out.below B1.out)).mono ?_
  rintro e w2 ⟨rfl, hb2⟩
  have hb3 := B1.out.trans (hb2.mono B1.out.size)
  have hd := (hb3.cell (p := ⟨b, off + k * 2 + 1, none⟩) (blk_lt HD.out)).trans HD.out
  have B3 := hide hb3
  clear hb3 hb2
  go_wp2
  go_ret2
  exact ⟨rfl, B3.out⟩
set_option maxRecDepth 100000 in
set_option maxHeartbeats 1000000 in
theorem specOwnerOf_no (a : Option Addr) (l : List (Int × Int)) (n cap : Nat) (h : Int) (w : World) (hn : l.length = n) (hs : Sl2 w a l) (hn2 : n ≤ 1048576) (hr : ¬ RingAsk l h) :
    Calls Try.prog 14 #[.slice a n cap, .int .i64 h] w fun e w' => e = .returned (.tuple #[.int .i64 0, .bool false]) ∧ Below w.heap.size w w' := by
  have D1 := hide (l3Ring_any a l n cap h w hn hs hn2 false (by simp [hr]))
  clear hs hn hr
  go_enter Try.func14, Try.ntmps14
  go_wp2_with fail
  refine D1.out.mono ?_
  rintro e w1 ⟨rfl, hb1⟩
  go_wp2
  go_ret2
  exact ⟨rfl, hb1⟩
open Classical in
/-- The owner, where the ring is asked rightly. -/
noncomputable def ownRes (l : List (Int × Int)) (h : Int) : Option Int := if RingAsk l h then some (l.getD (fst l h) (0, 0)).2 else none
theorem ownerOf_any (a : Option Addr) (l : List (Int × Int)) (n cap : Nat) (h : Int) (w : World) (hn : l.length = n) (hs : Sl2 w a l) (hn2 : n ≤ 1048576) :
    Calls Try.prog 11 #[.slice a n cap, .int .i64 h] w fun e w' => e = .returned (.tuple #[.int .i64 ((ownRes l h).getD 0), .bool (ownRes l h).isSome]) ∧ Below w.heap.size w w' := by
  unfold ownRes
  by_cases hr : RingAsk l h
  · rw [if_pos hr]; exact ownerOf_yes a l n cap h w hn hs hn2 hr _ rfl
  · rw [if_neg hr]; exact ownerOf_no a l n cap h w hn hs hn2 hr
theorem specOwnerOf_any (a : Option Addr) (l : List (Int × Int)) (n cap : Nat) (h : Int) (w : World) (hn : l.length = n) (hs : Sl2 w a l) (hn2 : n ≤ 1048576) :
    Calls Try.prog 14 #[.slice a n cap, .int .i64 h] w fun e w' => e = .returned (.tuple #[.int .i64 ((ownRes l h).getD 0), .bool (ownRes l h).isSome]) ∧ Below w.heap.size w w' := by
  unfold ownRes
  by_cases hr : RingAsk l h
  · rw [if_pos hr]; exact specOwnerOf_yes a l n cap h w hn hs hn2 hr _ rfl
  · rw [if_neg hr]; exact specOwnerOf_no a l n cap h w hn hs hn2 hr
end Go.Proofs.Ytkjljkfjcngkcaa.L3
