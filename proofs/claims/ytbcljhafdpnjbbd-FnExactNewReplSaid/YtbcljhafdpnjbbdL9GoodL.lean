/-
  Contract: impl.goodReplLogs.
-/
import Derived.Test.YtbcljhafdpnjbbdL9Math
import Derived.Test.YtbcljhafdpnjbbdL7Good
namespace Go.Proofs.Ytbcljhafdpnjbbd.L9
open Go.RowKit L1 L7
set_option linter.unusedVariables false

set_option maxRecDepth 100000 in
set_option maxHeartbeats 1000000 in
theorem goodReplLogs_any (a : Option Addr) (G : List (List En)) (n cap : Nat) (w : World) (hn : G.length = n) (hs : SlG w a G) (hn2 : n ≤ 1048576) (hls : ∀ i, i < G.length → (G.getD i []).length ≤ 1048576) (htx : TxG G) (bb : Bool) (hbb : bb = true ↔ GoodLs G) :
    Calls Try.prog 60 #[.slice a n cap] w fun e w' => e = .returned (.bool bb) ∧ Below w.heap.size w w' := by
  have HBB := hide hbb
  have HS := hide hs
  have HN := hide hn
  have HLS := hide hls
  have HTX := hide htx
  clear hbb hs hn hls htx
  by_cases h1 : (n : Int) < 1
  · have E : Hid (bb = false) := bool_noT HBB.out (fun h => by have := h.1.1; have := HN.out; omega)
    go_enter Try.func60, Try.ntmps60
    go_wp2
    go_ret
    exact ⟨by rw [E.out]; rfl, Below.refl _ _⟩
  by_cases h5 : (5 : Int) < (n : Int)
  · have E : Hid (bb = false) := bool_noT HBB.out (fun h => by have := h.1.2; have := HN.out; omega)
    go_enter Try.func60, Try.ntmps60
    go_wp2
    go_ret
    exact ⟨by rw [E.out]; rfl, Below.refl _ _⟩
  go_enter Try.func60, Try.ntmps60
  go_wp2
  go_loopw [15] (fun i wr => ∃ k : Nat, k ≤ n ∧ i = .int .i64 k ∧ Hid (∀ j, j < k → GoodE (G.getD j [])) ∧ Below w.heap.size w wr) (fun i _ => n - (intOf i).toNat)
  case atStart => exact ⟨0, Nat.zero_le _, rfl, fun j hj => absurd hj (Nat.not_lt_zero _), Below.refl _ _⟩
  case round =>
    obtain ⟨k, hk, rfl, HK, hbel⟩ := hrel
    by_cases hlt : k < n
    · obtain ⟨b, off, rfl, ai, ci, hc0, hs0⟩ := HS.out k (by rw [HN.out]; exact hlt)
      have hc := (hbel.cell (p := ⟨b, off + k, none⟩) (blk_lt hc0)).trans hc0
      have hs1 := hs0.below hbel
      have hlx := HLS.out k (by rw [HN.out]; exact hlt)
      have htx := (HTX.out k (by rw [HN.out]; exact hlt)).2
      obtain ⟨l, hl⟩ : ∃ l, l = G.getD k [] := ⟨_, rfl⟩
      rw [← hl] at hc hs1 hlx htx
      obtain ⟨m, hmm⟩ : ∃ m, m = l.length := ⟨_, rfl⟩
      rw [← hmm] at hc hlx
      have hltI : (k : Int) < (n : Int) := by omega
      obtain ⟨bk, hbk⟩ : ∃ bk : Bool, bk = true ↔ GoodE l := by classical exact ⟨decide (GoodE l), by simp⟩
      have C := hide (goodEntries_any ai l m ci wr hmm.symm hs1 hlx htx bk hbk)
      have HL := hide hl
      have HB := hide hbk
      have B0 := hide hbel
      clear hc0 hs0 hs1 hl hmm hbk htx hbel
      go_wp2_with fail
      refine C.out.mono ?_
      rintro e w1 ⟨rfl, hb1⟩
      have B1 := hide (B0.out.trans (hb1.mono B0.out.size))
      clear hb1
      cases bk with
      | false =>
        have E : Hid (bb = false) := bool_noT HBB.out (fun h => by
          have h2 := h.2 k (by rw [HN.out]; exact hlt)
          rw [← HL.out] at h2
          have := HB.out.2 h2
          cases this)
        go_wp2
        go_ret
        exact ⟨by rw [E.out]; rfl, B1.out⟩
      | true =>
        go_wp2
        go_roundw
        case rel =>
          refine ⟨k + 1, by omega, by go_num, ?_, B1.out⟩
          intro j hj
          by_cases e : j = k
          · rw [e, ← HL.out]
            exact HB.out.1 (by first | rfl | trivial)
          · exact HK.out j (by omega)
        case measure => simp [intOf]; omega
    · obtain rfl : k = n := by omega
      have hltI : ¬ (k : Int) < (k : Int) := by omega
      have E : Hid (bb = true) := HBB.out.2 ⟨by have := HN.out; omega, fun i hi => HK.out i (by have := HN.out; omega)⟩
      go_wp2
      go_ret
      exact ⟨by rw [E.out]; rfl, hbel⟩
end Go.Proofs.Ytbcljhafdpnjbbd.L9
