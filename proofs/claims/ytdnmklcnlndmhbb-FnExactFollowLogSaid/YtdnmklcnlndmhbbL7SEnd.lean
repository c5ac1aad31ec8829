/-
  Contract: spec.l7End tells how many entries have an Epoch or a lesser one.
-/
import Derived.Test.YtdnmklcnlndmhbbL7Math
namespace Go.Proofs.Ytdnmklcnlndmhbb.L7
open Go.RowKit L1
set_option linter.unusedVariables false

set_option maxRecDepth 100000 in
set_option maxHeartbeats 2000000 in
theorem l7End_any (a : Option Addr) (l : List En) (n cap : Nat) (ep : Int) (w : World) (hn : l.length = n) (hs : SlE w a l) (hn2 : n ≤ 1048576) :
    Calls Try.prog 32 #[.slice a n cap, .int .i64 ep] w fun e w' => e = .returned (.int .i64 (endE l ep : Int)) ∧ Below w.heap.size w w' := by
  have HS := hide hs
  have HN := hide hn
  have HR : Hid (endE l ep = endK l ep n) := by show endE l ep = _; unfold endE; rw [HN.out]
  clear hs hn
  go_enter Try.func32, Try.ntmps32
  go_wp2
  go_loopw [5, 10] (fun t i wr => ∃ k : Nat, k ≤ n ∧ i = .int .i64 k ∧ t = .int .i64 (endK l ep k : Int) ∧ Below w.heap.size w wr) (fun _ i _ => n - (intOf i).toNat)
  case atStart => exact ⟨0, Nat.zero_le _, rfl, rfl, Below.refl _ _⟩
  case round =>
    obtain ⟨k, hk, rfl, rfl, hbel⟩ := hrel
    by_cases hlt : k < n
    · obtain ⟨b, off, rfl, hc0, hd0⟩ := HS.out k (by rw [HN.out]; exact hlt)
      have hc := (hbel.cell (p := ⟨b, off + k * 2, none⟩) (blk_lt hc0)).trans hc0
      have hd := (hbel.cell (p := ⟨b, off + k * 2 + 1, none⟩) (blk_lt hd0)).trans hd0
      have hltI : (k : Int) < (n : Int) := by omega
      have hst : endK l ep (k + 1) = endK l ep k + if (l.getD k eE).1 ≤ ep then 1 else 0 := rfl
      have hle := endK_le l ep k
      obtain ⟨x, hx⟩ : ∃ x, x = (l.getD k eE).1 := ⟨_, rfl⟩
      obtain ⟨y, hy⟩ : ∃ y, y = (l.getD k eE).2 := ⟨_, rfl⟩
      rw [← hx] at hc hst
      rw [← hy] at hd
      obtain ⟨q, hq⟩ : ∃ q, q = endK l ep k := ⟨_, rfl⟩
      rw [← hq] at hst hle ⊢
      have B0 := hide hbel
      clear hc0 hd0 hx hy hq hbel
      by_cases hg : x ≤ ep
      · rw [if_pos hg] at hst
        have HST := hide hst
        clear hst
        go_wp2
        go_roundw
        case rel => exact ⟨k + 1, by omega, by go_num, by rw [HST.out]; go_num, B0.out.alloc B0.out.size _⟩
        case measure => simp [intOf]; omega
      · rw [if_neg hg] at hst
        have HST := hide hst
        clear hst
        go_wp2
        go_roundw
        case rel => exact ⟨k + 1, by omega, by go_num, by rw [HST.out]; rfl, B0.out.alloc B0.out.size _⟩
        case measure => simp [intOf]; omega
    · obtain rfl : k = n := by omega
      have hltI : ¬ (k : Int) < (k : Int) := by omega
      rw [← HR.out]
      go_wp2
      go_ret
      exact ⟨rfl, hbel⟩
end Go.Proofs.Ytdnmklcnlndmhbb.L7
