/-
  Contract: impl.GetAll: of at most 600 bytes the numbers with this text, at most 60, in new memory, and true; else no list and false.
-/
import Derived.Test.YtphkbnlappbjeaaDoorL1GetEach
namespace Go.Proofs.YtphkbnlappbjeaaDoor.L1
open Go.RowKit
set_option linter.unusedVariables false

set_option maxRecDepth 100000 in
set_option maxHeartbeats 1000000 in
theorem getAll_any (s : ByteArray) (w : World) (hs : s.size ≤ 1048576) (ht : Tab w) :
    Calls Tryd.prog 22 #[.string s] w fun e w' => RetL w (gaRes (bts s 0)) e w' := by
  have hlen := bts_len s 0
  simp only [Nat.sub_zero] at hlen
  by_cases h600 : 600 < (s.size : Int)
  · have e : gaRes (bts s 0) = none := by unfold gaRes; rw [if_neg (by omega)]
    have E := hide e
    clear e hlen ht
    go_enter Tryd.func22, Tryd.ntmps22
    go_wp2
    go_ret2
    exact ⟨_, by rw [E.out]; rfl, by rw [E.out]; exact World.ownsRow_nil _ _ _ _, Below.refl _ _⟩
  · have e : gaRes (bts s 0) = geRes 60 (bts s 0) := by unfold gaRes; rw [if_pos (by omega)]; rfl
    have c := getEach_any 60 (by omega) s w hs ht
    rw [← e] at c
    have C := hide c
    clear c e hlen ht
    go_enter Tryd.func22, Tryd.ntmps22
    go_wp2_with fail
    refine C.out.mono ?_
    rintro e w1 ⟨v, rfl, ho, hb1⟩
    obtain ⟨a, cap, rfl, _, _⟩ := own_form ho
    have HO := hide ho
    clear ho
    go_wp2
    go_ret2
    exact ⟨_, rfl, HO.out, hb1⟩
end Go.Proofs.YtphkbnlappbjeaaDoor.L1
