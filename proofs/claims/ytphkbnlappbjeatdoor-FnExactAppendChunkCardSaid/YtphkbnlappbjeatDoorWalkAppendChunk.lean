/-
  The walk of the law FnExactAppendChunk: it returns true at every text and every sample, where the table of worths lies in memory; memory that was there stays as it was.
-/
import Derived.Test.YtphkbnlappbjeatDoorL2App
import Derived.Test.YtphkbnlappbjeatDoorL2Lists
namespace Go.Proofs.YtphkbnlappbjeatDoor.fnExactAppendChunk
open Go.RowKit L1
set_option linter.unusedVariables false

set_option maxRecDepth 100000 in
set_option maxHeartbeats 2000000 in
theorem walk (a0 : ByteArray) (x1 y1 : Int) (w : World) (w0 : a0.size ≤ maxLen) (ht : Tab w) :
    Calls Tryd.prog 5 #[.string a0, .agg #[.int .i64 x1, .int .i64 y1]] w fun e w' => e = .returned (.bool true) ∧ Below w.heap.size w w' := by
  have HT := hide ht
  clear ht
  unfold maxLen at w0
  by_cases hsz : 1048576 < (a0.size : Int)
  · go_enter Tryd.func5, Tryd.ntmps5
    go_wp2
    go_ret
    exact ⟨rfl, (Below.refl _ _).alloc (Nat.le_refl _) _⟩
  have c1 := fun w => specAppend_any a0 x1 y1 w (by omega)
  have c2 := fun w ht => appendChunk_any a0 x1 y1 w (by omega) ht
  obtain ⟨T, hT⟩ : ∃ T, T = encT (both (dcRes (bts a0 0)) (some [(x1, y1)])) := ⟨_, rfl⟩
  obtain ⟨ok, hok⟩ : ∃ ok, ok = encB (both (dcRes (bts a0 0)) (some [(x1, y1)])) := ⟨_, rfl⟩
  simp only [← hT, ← hok] at c1 c2
  have C1 := hide c1
  have C2 := hide c2
  clear c1 c2 hT hok
  go_enter Tryd.func5, Tryd.ntmps5
  go_wp2_with fail
  refine (toSample_any x1 y1 _).mono ?_
  rintro e w1 ⟨rfl, hb1⟩
  have B0 : Hid (Below w.heap.size w (w.alloc (.cells #[.int .i64 x1, .int .i64 y1] 35))) := (Below.refl _ _).alloc (Nat.le_refl _) _
  have X1 : Hid (w1.cell? ⟨w.heap.size, 0, none⟩ = some (.int .i64 x1)) := (hb1.cell (p := ⟨w.heap.size, 0, none⟩) (by simp)).trans (by simp)
  have Y1 : Hid (w1.cell? ⟨w.heap.size, 1, none⟩ = some (.int .i64 y1)) := (hb1.cell (p := ⟨w.heap.size, 1, none⟩) (by simp)).trans (by simp)
  have B1 := hide (B0.out.trans (hb1.mono B0.out.size))
  clear hb1
  go_wp2_with fail
  refine (C1.out _).mono ?_
  rintro e w2 ⟨rfl, hb2⟩
  have hx2 := (hb2.cell (p := ⟨w.heap.size, 0, none⟩) (blk_lt X1.out)).trans X1.out
  have hy2 := (hb2.cell (p := ⟨w.heap.size, 1, none⟩) (blk_lt Y1.out)).trans Y1.out
  have B2 := hide (B1.out.trans (hb2.mono B1.out.size))
  clear hb2
  go_wp2_with fail
  refine (toSample_any x1 y1 _).mono ?_
  rintro e w3 ⟨rfl, hb3⟩
  have B3 := hide (B2.out.trans (hb3.mono B2.out.size))
  clear hb3
  go_wp2_with fail
  refine (C2.out _ (HT.out.below B3.out)).mono ?_
  rintro e w4 ⟨rfl, hb4⟩
  have B4 := hide (B3.out.trans (hb4.mono B3.out.size))
  clear hb4
  go_wp2
  go_ret
  exact ⟨rfl, B4.out⟩
end Go.Proofs.YtphkbnlappbjeatDoor.fnExactAppendChunk
