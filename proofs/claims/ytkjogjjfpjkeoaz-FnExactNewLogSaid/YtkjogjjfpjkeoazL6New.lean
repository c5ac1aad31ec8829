/-
  Contracts: impl.NewLog, spec.NewLog.
-/
import Derived.Test.YtkjogjjfpjkeoazL6Eq
namespace Go.Proofs.Ytkjogjjfpjkeoaz.L6
open Go.RowKit L1
set_option linter.unusedVariables false

set_option maxRecDepth 100000 in
set_option maxHeartbeats 1000000 in
theorem implNewLog_any (w : World) :
    Calls Try.prog 5 #[] w fun e w' => ∃ a c M, e = .returned (.agg #[.slice a 1 c, .int .i64 0]) ∧ pcs M = [eC] ∧ OwC w' w.heap.size (.slice a 1 c) 1 M ∧ Below w.heap.size w w' := by
  obtain ⟨i0, hi, hz0, hz1, hz2⟩ := info_parts info_piece
  obtain ⟨W, hW⟩ : ∃ W, W = w.alloc (.cells #[.slice none 0 0, .int .i64 0] 24 (0, 0)) := ⟨_, rfl⟩
  obtain ⟨w1, hmk, hown1, hg1⟩ := run_make_full (P := Try.prog) W W.heap.size 22 31 i0 (.agg #[.int .i64 0, .string ByteArray.empty, .slice none 0 0]) 3 Try.underlying22 hi hz0 hz1 .i64 .i64 1 (by rw [hz2]; omega) (by unfold maxLen; omega) (Nat.le_refl _)
  rw [made_cs] at hown1
  have hb1 : Below W.heap.size W w1 := (Below.refl _ _).grown hg1 (Nat.le_refl _) (fun k hk => by cases hk)
  have hWs : W.heap.size = w.heap.size + 1 := by rw [hW]; simp
  have O := hide (own_zero hown1)
  obtain ⟨c0, c1, c2, c3⟩ := blkp ((hb1.block w.heap.size (by omega)).trans (show W.heap[w.heap.size]? = some (.cells #[.slice none 0 0, .int .i64 0] 24 (0, 0)) by rw [hW]; exact blk_new _ _))
  have B := hide ((show Below w.heap.size w W by rw [hW]; exact (Below.refl _ _).alloc (Nat.le_refl _) _).trans (hb1.mono (by omega)))
  have HW := hide hWs
  rw [hWs] at hmk O
  subst hW
  rw [show ((1 : Nat) : Int) = 1 from rfl] at hmk
  clear hown1 hg1 hb1 hWs
  go_enter Try.func5, Try.ntmps5
  go_wp2
  refine bodyPost_ret (v := .agg #[.slice (some ⟨w.heap.size + 1, 0, none⟩) 1 1, .int .i64 0]) (by simp [results, Try.f5, go_sem, c0, c1]) rfl ⟨_, _, List.replicate 1 eV, rfl, rfl, ?_, ?_⟩
  · have z : w.heap.size < w.heap.size + 1 := by omega
    exact ((O.out.setC ⟨_, _, none⟩ _ z).setC ⟨_, _, none⟩ _ z).base (by omega)
  · exact (B.out.setCell (p := ⟨_, _, none⟩) (Nat.le_refl _) _).setCell (p := ⟨_, _, none⟩) (Nat.le_refl _) _

set_option maxRecDepth 100000 in
set_option maxHeartbeats 1000000 in
theorem specNewLog_any (w : World) :
    Calls Try.prog 4 #[] w fun e w' => ∃ a c M, e = .returned (.agg #[.slice a 1 c, .int .i64 0]) ∧ pcs M = [eC] ∧ OwC w' w.heap.size (.slice a 1 c) 1 M ∧ Below w.heap.size w w' := by
  have O : OwC ((w.alloc (.cells #[.slice (some ⟨w.heap.size + 1, 0, none⟩) 1 1, .int .i64 0] 24 (0, 0))).alloc (.cells #[.int .i64 0, .string ByteArray.empty, .slice none 0 0] 31 (0, 0))) w.heap.size (.slice (some ⟨w.heap.size + 1, 0, none⟩) 1 1) 1 (List.replicate 1 eV) := by
    refine own_zero ⟨rfl, .inr ⟨w.heap.size + 1, 1, #[.int .i64 0, .string ByteArray.empty, .slice none 0 0], rfl, by omega, ?_, Nat.le_refl _, by unfold maxLen; omega, rfl, rfl⟩⟩
    have := blk_new (w.alloc (.cells #[.slice (some ⟨w.heap.size + 1, 0, none⟩) 1 1, .int .i64 0] 24 (0, 0))) (.cells #[.int .i64 0, .string ByteArray.empty, .slice none 0 0] 31 (0, 0))
    rw [World.size_alloc] at this
    exact this
  have HO := hide O
  clear O
  go_enter Try.func4, Try.ntmps4
  go_wp2
  refine bodyPost_ret (v := .agg #[.slice (some ⟨w.heap.size + 1, 0, none⟩) 1 1, .int .i64 0]) (by simp [results, Try.f4, go_sem]) rfl ⟨_, _, _, rfl, ?_, HO.out, ?_⟩
  · rfl
  · exact ((Below.refl _ _).alloc (Nat.le_refl _) _).alloc (by simp) _
end Go.Proofs.Ytkjogjjfpjkeoaz.L6
