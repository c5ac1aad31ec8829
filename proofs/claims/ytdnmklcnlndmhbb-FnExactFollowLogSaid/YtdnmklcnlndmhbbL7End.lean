/-
  Contract: impl.endOfEpoch tells how many entries have an Epoch or a lesser one.
-/
import Derived.Test.YtdnmklcnlndmhbbL7Math
namespace Go.Proofs.Ytdnmklcnlndmhbb.L7
open Go.RowKit L1
set_option linter.unusedVariables false

set_option maxRecDepth 100000 in
set_option maxHeartbeats 2000000 in
theorem endOfEpoch_any (a : Option Addr) (l : List En) (n cap : Nat) (ep : Int) (w : World) (hn : l.length = n) (hs : SlE w a l) (hn2 : n ≤ 1048576) (hM : Mono l) :
    Calls Try.prog 35 #[.slice a n cap, .int .i64 ep] w fun e w' => e = .returned (.int .i64 (endE l ep : Int)) ∧ Below w.heap.size w w' := by
  have HS := hide hs
  have HN := hide hn
  have HM := hide hM
  clear hs hn hM
  go_enter Try.func35, Try.ntmps35
  go_wp2
  go_loopw [5] (fun i wr => ∃ k : Nat, k ≤ n ∧ i = .int .i64 k ∧ Hid (∀ j, k ≤ j → j < n → ep < (l.getD j eE).1) ∧ Below w.heap.size w wr) (fun i _ => (intOf i).toNat)
  case atStart => exact ⟨n, Nat.le_refl _, rfl, fun j h1 h2 => by omega, Below.refl _ _⟩
  case round =>
    obtain ⟨k, hk, rfl, HJ, hbel⟩ := hrel
    cases k with
    | zero =>
      have E : Hid (endE l ep = 0) := endE_back l ep 0 HM.out (Nat.zero_le _) (fun j h1 h2 => HJ.out j h1 (by rw [HN.out] at h2; exact h2)) (.inl rfl)
      go_wp2
      go_ret
      exact ⟨by rw [E.out]; rfl, hbel⟩
    | succ j =>
      obtain ⟨b, off, rfl, hc0, _⟩ := HS.out j (by rw [HN.out]; omega)
      have hc := (hbel.cell (p := ⟨b, off + j * 2, none⟩) (blk_lt hc0)).trans hc0
      obtain ⟨x, hx⟩ : ∃ x, x = (l.getD j eE).1 := ⟨_, rfl⟩
      rw [← hx] at hc
      have hjI : (j : Int) < (n : Int) := by omega
      have hj0 : (0 : Int) ≤ (j : Int) := by omega
      have hjp : (0 : Int) < (j : Int) + 1 := by omega
      have hwj : IntKind.i64.wrap (j : Int) = (j : Int) := by
        simp only [IntKind.wrap, IntKind.bits, IntKind.signed]
        simp
        omega
      have HX := hide hx
      have B0 := hide hbel
      clear hx hc0 hbel
      by_cases hg : ep < x
      · have HG := hide hg
        go_wp2
        go_roundw
        case rel =>
          refine ⟨j, by omega, by go_num, fun i h1 h2 => ?_, B0.out⟩
          by_cases e : i = j
          · rw [e, ← HX.out]; exact HG.out
          · exact HJ.out i (by omega) h2
        case measure => simp [intOf]
      · have E : Hid (endE l ep = j + 1) := endE_back l ep (j + 1) HM.out (by rw [HN.out]; omega) (fun i h1 h2 => HJ.out i h1 (by rw [HN.out] at h2; exact h2)) (.inr (by rw [Nat.add_sub_cancel, ← HX.out]; omega))
        go_wp2
        go_ret
        exact ⟨by rw [E.out]; rfl, B0.out⟩
end Go.Proofs.Ytdnmklcnlndmhbb.L7
