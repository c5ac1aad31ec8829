/-
  Contract: spec.l1Text.
-/
import Derived.Test.YtbcnkglcfjineakDoorL13Num
namespace Go.Proofs.YtbcnkglcfjineakDoor.L13
open Go.RowKit L1
set_option linter.unusedVariables false

set_option maxRecDepth 100000 in
set_option maxHeartbeats 1000000 in
theorem l1Text_any (n : Int) (w : World) (h0 : -10000000000 ≤ n) (h1 : n ≤ 10000000000) :
    Calls Tryd.prog 49 #[.int .i64 n] w fun e w' => e = .returned (.string (numT n)) ∧ Below w.heap.size w w' := by
  by_cases hn : n < 0
  · have C := hide (fun w => l1Num_any (-n).toNat w (by omega))
    have e : (((-n).toNat : Nat) : Int) = -n := by omega
    rw [e] at C
    have hw : IntKind.i64.wrap (-n) = -n := wrap_in (by omega) (by omega)
    have hs := dgs_sz (-n).toNat (by omega)
    have HT := hide (numT_neg hn)
    obtain ⟨X, hX⟩ : ∃ X, X = strOfNums (dgs (-n).toNat) := ⟨_, rfl⟩
    rw [← hX] at C hs HT
    have q0 : ∀ w : World, (Op.stringOp .add (⟨#[45]⟩ : ByteArray) X).run Tryd.prog w = .ok (.string ((⟨#[45]⟩ : ByteArray) ++ X)) w := fun w => run_string_add_sum w _ _ (by show 1 + X.size ≤ _; omega)
    clear hX hs e
    go_enter Tryd.func49, Tryd.ntmps49
    go_wp2_with fail
    refine (C.out _).mono ?_
    rintro e w1 ⟨rfl, hb⟩
    go_wp2
    go_ret
    exact ⟨by rw [HT.out]; rfl, hb⟩
  · have C := hide (fun w => l1Num_any n.toNat w (by omega))
    have e : ((n.toNat : Nat) : Int) = n := by omega
    rw [e] at C
    have HT := hide (numT_pos (show 0 ≤ n by omega))
    obtain ⟨X, hX⟩ : ∃ X, X = strOfNums (dgs n.toNat) := ⟨_, rfl⟩
    rw [← hX] at C HT
    clear hX e
    go_enter Tryd.func49, Tryd.ntmps49
    go_wp2_with fail
    refine (C.out _).mono ?_
    rintro e w1 ⟨rfl, hb⟩
    go_wp2
    go_ret
    exact ⟨by rw [HT.out]; rfl, hb⟩
end Go.Proofs.YtbcnkglcfjineakDoor.L13
