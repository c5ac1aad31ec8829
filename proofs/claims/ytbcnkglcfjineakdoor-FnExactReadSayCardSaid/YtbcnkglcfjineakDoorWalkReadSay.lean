/-
  The walk of the law FnExactReadSay: it returns true at every text; memory that was there stays as it was.
-/
import Derived.Test.YtbcnkglcfjineakDoorL13RsS
namespace Go.Proofs.YtbcnkglcfjineakDoor.fnExactReadSay
open Go.RowKit L1 L13
set_option linter.unusedVariables false

set_option maxRecDepth 100000 in
set_option maxHeartbeats 1000000 in
theorem eqSay_same (s : ByteArray) (x y : Int) (w : World) :
    Calls Tryd.prog 13 #[.agg #[.string s, .int .i64 x, .int .i64 y], .agg #[.string s, .int .i64 x, .int .i64 y]] w fun e w' => e = .returned (.bool true) ∧ Below w.heap.size w w' := by
  go_enter Tryd.func13, Tryd.ntmps13
  go_wp2
  go_ret
  exact ⟨rfl, ((Below.refl _ _).alloc (Nat.le_refl _) _).alloc (by simp) _⟩
/-- Both sides end alike. -/
theorem alike {s n1 n2 : ByteArray} {x1 y1 x2 y2 : Int} {o1 o2 : Bool} (h1 : IsSay s n1 x1 y1 o1) (h2 : IsSay s n2 x2 y2 o2) (z1 : o1 = false → n1 = ByteArray.empty ∧ x1 = 0 ∧ y1 = 0) (z2 : o2 = false → n2 = ByteArray.empty ∧ x2 = 0 ∧ y2 = 0) : n2 = n1 ∧ x2 = x1 ∧ y2 = y1 ∧ o2 = o1 := by
  obtain ⟨e, h⟩ := isSay_same h1 h2
  cases o1 with
  | true =>
    obtain ⟨a, b, c⟩ := h rfl
    exact ⟨a, b, c, e.symm⟩
  | false =>
    obtain ⟨a, b, c⟩ := z1 rfl
    obtain ⟨a2, b2, c2⟩ := z2 e.symm
    exact ⟨by rw [a, a2], by rw [b, b2], by rw [c, c2], e.symm⟩
set_option maxRecDepth 100000 in
set_option maxHeartbeats 2000000 in
theorem walk (s : ByteArray) (w : World) (w0 : s.size ≤ maxLen) (hl : Lib13 w) :
    Calls Tryd.prog 4 #[.string s] w fun e w' => e = .returned (.bool true) ∧ Below w.heap.size w w' := by
  unfold maxLen at w0
  by_cases hfit : (s.size : Int) ≤ 1048576
  · have CS := hide (fun wx => specReadSay_any s wx (by omega))
    have CI := hide (fun wx (hb : Below w.heap.size w wx) => implReadSay_any s wx (by omega) (hl.below hb))
    have CE := hide eqSay_same
    clear hl
    go_enter Tryd.func4, Tryd.ntmps4
    go_wp2_with fail
    refine (CS.out _).mono ?_
    rintro e w1 ⟨n1, x1, y1, o1, rfl, h1, z1, hb1⟩
    have B1 := hide hb1
    have A2 := hide (L8.blk_new w1 (syO 27 n1 x1 y1))
    have B2 := hide (B1.out.alloc B1.out.size (syO 27 n1 x1 y1))
    have H1 := hide h1
    have Z1 := hide z1
    clear CS hb1 h1 z1
    go_wp2_with fail
    refine (CI.out _ B2.out).mono ?_
    rintro e w2 ⟨n2, x2, y2, o2, rfl, h2, z2, hb2⟩
    obtain ⟨rfl, rfl, rfl, rfl⟩ := alike H1.out h2 Z1.out z2
    have A3 := hide ((hb2.block w1.heap.size (by simp)).trans A2.out)
    have B3 := hide (B2.out.trans (hb2.mono B2.out.size))
    clear CI hb2 h2 z2 A2 B1 B2 H1 Z1
    go_upto_region 5 with fail
    obtain ⟨W5, hW5⟩ : ∃ W5, w2.alloc (syO 27 n2 x2 y2) = W5 := ⟨_, rfl⟩
    have A5 := hide (show W5.heap[w1.heap.size]? = some (syO 27 n2 x2 y2) by rw [← hW5]; exact blk_old A3.out)
    have C5 := hide (show W5.heap[w2.heap.size]? = some (syO 27 n2 x2 y2) by rw [← hW5]; exact L8.blk_new _ _)
    have B5 := hide (show Below w.heap.size w W5 by rw [← hW5]; exact B3.out.alloc B3.out.size _)
    rw [hW5]
    clear hW5 A3 B3
    obtain ⟨k0, k1, k2, _, _, _⟩ := blk3f A5.out
    obtain ⟨j0, j1, j2, _, _, _⟩ := blk3f C5.out
    have hoo : (o2 != o2) = false := by simp
    go_wp2_with fail
    refine (CE.out _ _ _ _).mono ?_
    rintro e w6 ⟨rfl, hb⟩
    have B6 := hide (B5.out.trans (hb.mono B5.out.size))
    clear hb A5 B5 C5 k0 k1 k2 j0 j1 j2
    go_wp2
    go_ret
    exact ⟨rfl, B6.out⟩
  · clear hl
    go_enter Tryd.func4, Tryd.ntmps4
    go_wp2
    go_ret
    exact ⟨rfl, Below.refl _ _⟩
end Go.Proofs.YtbcnkglcfjineakDoor.fnExactReadSay
