/-
  The walk of the law FnExactJoinChunks: it returns true at any two texts, where the table of worths lies in memory; memory that was there stays as it was.
-/
import Derived.Test.YtphkbnlappbjeauDoorL2Join
namespace Go.Proofs.YtphkbnlappbjeauDoor.fnExactJoinChunks
open Go.RowKit L1
set_option linter.unusedVariables false

set_option maxRecDepth 100000 in
set_option maxHeartbeats 2000000 in
theorem walk (a0 a1 : ByteArray) (w : World) (w0 : a0.size ≤ maxLen) (w1 : a1.size ≤ maxLen) (ht : Tab w) :
    Calls Tryd.prog 4 #[.string a0, .string a1] w fun e w' => e = .returned (.bool true) ∧ Below w.heap.size w w' := by
  have HT := hide ht
  clear ht
  unfold maxLen at w0 w1
  by_cases hsz : 1048576 < (a0.size : Int)
  · go_enter Tryd.func4, Tryd.ntmps4
    go_wp2
    go_ret
    exact ⟨rfl, Below.refl _ _⟩
  by_cases hsz1 : 1048576 < (a1.size : Int)
  · go_enter Tryd.func4, Tryd.ntmps4
    go_wp2
    go_ret
    exact ⟨rfl, Below.refl _ _⟩
  have c1 := fun w => specJoin_any a0 a1 w (by omega) (by omega)
  have c2 := fun w ht => joinChunks_any a0 a1 w (by omega) (by omega) ht
  obtain ⟨T, hT⟩ : ∃ T, T = encT (both (dcRes (bts a0 0)) (dcRes (bts a1 0))) := ⟨_, rfl⟩
  obtain ⟨ok, hok⟩ : ∃ ok, ok = encB (both (dcRes (bts a0 0)) (dcRes (bts a1 0))) := ⟨_, rfl⟩
  simp only [← hT, ← hok] at c1 c2
  have C1 := hide c1
  have C2 := hide c2
  clear c1 c2 hT hok
  go_enter Tryd.func4, Tryd.ntmps4
  go_wp2_with fail
  refine (C1.out _).mono ?_
  rintro e w2 ⟨rfl, hb2⟩
  have B2 := hide hb2
  clear hb2
  go_wp2_with fail
  refine (C2.out _ (HT.out.below B2.out)).mono ?_
  rintro e w3 ⟨rfl, hb3⟩
  have B3 := hide (B2.out.trans (hb3.mono B2.out.size))
  clear hb3
  go_wp2
  go_ret
  exact ⟨rfl, B3.out⟩
end Go.Proofs.YtphkbnlappbjeauDoor.fnExactJoinChunks
