/-
  Contract: impl.longerWords: each text's next two, side by side.
-/
import Derived.Test.YtkdiffpbljohkayL5Str
namespace Go.Proofs.Ytkdiffpbljohkay.L5
open Go.RowKit L1 L4
set_option linter.unusedVariables false

set_option maxRecDepth 100000 in
set_option maxHeartbeats 4000000 in
theorem longerWords_any (a : Option Addr) (ws : List ByteArray) (n cap : Nat) (w : World) (hn : ws.length = n) (hn2 : n ≤ 1048576) (hz : ∀ s ∈ ws, s.size ≤ 1000) (hs : SlT w a ws) :
    Calls Try.prog 48 #[.slice a n cap] w fun e w' => ∃ v', e = .returned v' ∧ OwT w' w.heap.size v' (nx ws) ∧ Below w.heap.size w w' := by
  obtain ⟨i1, hi1, hy0, hy1, hy2⟩ := info_parts info_str5
  have HS := hide hs
  have HN := hide hn
  have HZ := hide hz
  clear hs hn hz
  go_enter Try.func48, Try.ntmps48
  go_wp2
  go_loopw [3, 8] (fun v i wr => ∃ j : Nat, j ≤ n ∧ i = .int .i64 j ∧ wr.ownsRow w.heap.size 9 1 v (2 * j) (mapT (nx (ws.take j))) ∧ Below w.heap.size w wr) (fun _ i _ => n - (intOf i).toNat)
  case atStart => exact ⟨0, by omega, rfl, World.ownsRow_nil _ _ _ _, Below.refl _ _⟩
  case round =>
    obtain ⟨j, hj, rfl, hown, hbel⟩ := hrel
    obtain ⟨b1, q1, rfl, _, _⟩ := own_formT hown
    by_cases hlt : j < n
    · obtain ⟨b, off, rfl, hc0⟩ := HS.out j (by rw [HN.out]; exact hlt)
      have hc := (hbel.cell (p := ⟨b, off + j, none⟩) (blk_lt hc0)).trans hc0
      have htk := takeT_snoc ws j (by rw [HN.out]; exact hlt)
      have hz := HZ.out _ (getT_mem ws j (by rw [HN.out]; exact hlt))
      obtain ⟨s, hs⟩ : ∃ s, s = ws.getD j e0 := ⟨_, rfl⟩
      rw [← hs] at hc htk hz
      have q0 : ∀ w : World, (Op.stringOp .add s (⟨#[97]⟩ : ByteArray)).run Try.prog w = .ok (.string (s ++ (⟨#[97]⟩ : ByteArray))) w := fun w => run_string_add_sum w _ _ (by show s.size + 1 ≤ _; omega)
      have q1 : ∀ w : World, (Op.stringOp .add s (⟨#[98]⟩ : ByteArray)).run Try.prog w = .ok (.string (s ++ (⟨#[98]⟩ : ByteArray))) w := fun w => run_string_add_sum w _ _ (by show s.size + 1 ≤ _; omega)
      have hltI : (j : Int) < (n : Int) := by omega
      have hE : nx (ws.take (j + 1)) = nx (ws.take j) ++ two s := by rw [htk, nx_snoc]
      have HE := hide hE
      have O := hide hown
      have B := hide hbel
      clear hs hc0 htk hE hown hbel
      go_wp2_with (first
        | (at_builtin; refine wpList_append_own _ rfl _ _ 34 rfl w.heap.size 9 i1 (.string ByteArray.empty) 1 16 Try.underlying34 hi1 hy0 hy1 hy2 rfl (by decide) _ _ _ rfl (O.out.alloc _) ⟨wr.heap.size, 0, none⟩ 2 2 [.string (s ++ ⟨#[97]⟩), .string (s ++ ⟨#[98]⟩)] rfl rfl (cell_two_newT _ _ rfl _ _ _) (by intro u hu; simp at hu; rcases hu with rfl | rfl <;> rfl) (by unfold maxLen; omega) (by omega) (by have := B.out.size; simp; omega) ?_)
        | go_in)
      intro v6 w6 h6 g6 _
      have hbase : w.heap.size ≤ (wr.alloc (.cells #[.string (s ++ ⟨#[97]⟩), .string (s ++ ⟨#[98]⟩)] 9)).heap.size := by have := B.out.size; simp; omega
      have O6 : w6.ownsRow w.heap.size 9 1 v6 (2 * (j + 1)) (mapT (nx (ws.take (j + 1)))) := by
        rw [HE.out]
        unfold mapT
        rw [List.map_append]
        exact h6
      have B6 := (B.out.alloc (Nat.le_trans B.out.size (Nat.le_refl _)) _).grown g6 hbase (fun k hk => (O.out.lt k hk).1)
      have HR := hide (And.intro O6 B6)
      obtain ⟨a6, c6, rfl, _, _⟩ := own_formT O6
      clear h6 g6 O6 B6 hbase
      go_wp2
      go_roundw
      case rel => exact ⟨j + 1, by omega, by go_num, HR.out⟩
      case measure => simp [intOf]; omega
    · obtain rfl : j = n := by omega
      have hltI : ¬ (j : Int) < (j : Int) := by omega
      have e1 : ws.take j = ws := List.take_of_length_le (by rw [HN.out]; exact Nat.le_refl _)
      rw [e1] at hown
      have hl : (nx ws).length = 2 * j := by rw [nx_len, HN.out]
      have O : OwT wr w.heap.size (.slice b1 (2 * j) q1) (nx ws) := by unfold OwT; rw [hl]; exact hown
      have HO := hide O
      clear O hown e1 hl
      go_wp2
      go_ret
      exact ⟨_, rfl, HO.out, hbel⟩
end Go.Proofs.Ytkdiffpbljohkay.L5
