/-
  Contract of the laws' own helper szStringS.
-/
import Derived.Test.YtfmfnlpajoikmaoStr
namespace Go.Proofs.Ytfmfnlpajoikmao.Str
open Go.RowKit L1
set_option linter.unusedVariables false

set_option maxRecDepth 100000 in
set_option maxHeartbeats 1000000 in
theorem szStringS_any (a : Option Addr) (l : List ByteArray) (n cap : Nat) (L : Int) (w : World) (hn : l.length = n) (hm : n ≤ 9223372036854775807) (hs : SlS w a l) (hst : TxS l) (h0 : 0 ≤ L) (h1 : L ≤ 1048576) (r : Int) (hr : r = if (wtS l : Int) ≤ L then L - (wtS l : Int) else -1) :
    Calls Try.prog 15 #[.slice a n cap, .int .i64 L] w fun e w' => e = .returned (.int .i64 r) ∧ Below w.heap.size w w' := by
  have HR := hide hr
  have HS := hide hs
  have HN := hide hn
  have HST := hide hst
  clear hr hs hn hst
  have HW : Hid (wtS l = n + szsS l) := by show wtS l = n + szsS l; unfold wtS; rw [HN.out]
  by_cases ha : L - (n : Int) < 0
  · go_enter Try.func15, Try.ntmps15
    go_wp2
    go_ret
    exact ⟨by rw [HR.out, HW.out, if_neg (by omega)]; rfl, Below.refl _ _⟩
  · go_enter Try.func15, Try.ntmps15
    go_wp2
    go_loopw [1, 5] (fun t i wr => ∃ k : Nat, k ≤ n ∧ i = .int .i64 k ∧ t = .int .i64 (L - (n : Int) - (szsS (l.take k) : Int)) ∧ Hid ((szsS (l.take k) : Int) ≤ L - (n : Int)) ∧ Below w.heap.size w wr) (fun _ i _ => n - (intOf i).toNat)
    case atStart => exact ⟨0, Nat.zero_le _, rfl, by simp [szsS], by show (szsS (l.take 0) : Int) ≤ L - (n : Int); simp [szsS]; omega, Below.refl _ _⟩
    case round =>
      obtain ⟨k, hk, rfl, rfl, HK, hbel⟩ := hrel
      by_cases hlt : k < n
      · obtain ⟨b, off, rfl, hc0⟩ := HS.out k (by rw [HN.out]; exact hlt)
        have hc := (hbel.cell (p := ⟨b, off + k, none⟩) (blk_lt hc0)).trans hc0
        have hltI : (k : Int) < (n : Int) := by omega
        have hsx := HST.out k (by rw [HN.out]; exact hlt)
        have htk := szsS_take l k (by rw [HN.out]; exact hlt)
        have hle := szsS_le l (k + 1)
        obtain ⟨y, hy⟩ : ∃ y, y = l.getD k e0 := ⟨_, rfl⟩
        rw [← hy] at hc hsx htk
        obtain ⟨c, hcc⟩ : ∃ c, c = L - (n : Int) - (szsS (l.take k) : Int) := ⟨_, rfl⟩
        have hc0 : 0 ≤ c := by have := HK.out; omega
        have hc1 : c ≤ 1048576 := by omega
        rw [← hcc]
        have HC := hide hcc
        have HTK := hide htk
        have HLE := hide hle
        have B0 := hide hbel
        clear hy hcc htk hle hbel
        by_cases hfit : (y.size : Int) ≤ c
        · have hd0 : ¬ c - (y.size : Int) < 0 := by omega
          go_wp2
          go_roundw
          case rel => exact ⟨k + 1, by omega, by go_num, by rw [HC.out, HTK.out]; go_num, by show (szsS (l.take (k + 1)) : Int) ≤ L - (n : Int); have := HC.out; have := HTK.out; omega, B0.out⟩
          case measure => simp [intOf]; omega
        · have hd0 : c - (y.size : Int) < 0 := by omega
          have E : Hid (r = -1) := by show r = -1; have := HC.out; have := HTK.out; have := HLE.out; rw [HR.out, HW.out, if_neg (by omega)]
          go_wp2
          go_ret
          exact ⟨by rw [E.out]; rfl, B0.out⟩
      · obtain rfl : k = n := by omega
        have hltI : ¬ (k : Int) < (k : Int) := by omega
        have e1 : l.take k = l := List.take_of_length_le (by rw [HN.out]; exact Nat.le_refl _)
        rw [e1] at HK ⊢
        have E : Hid (r = L - (k : Int) - (szsS l : Int)) := by show r = _; have := HK.out; rw [HR.out, HW.out, if_pos (by omega)]; omega
        clear e1
        go_wp2
        go_ret
        exact ⟨by rw [E.out]; rfl, hbel⟩
end Go.Proofs.Ytfmfnlpajoikmao.Str
