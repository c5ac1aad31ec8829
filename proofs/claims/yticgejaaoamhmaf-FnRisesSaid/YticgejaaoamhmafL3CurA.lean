/-
  Contract: spec.l1Cur.among: one of some numbers.
-/
import Derived.Test.YticgejaaoamhmafL3Cur
namespace Go.Proofs.Yticgejaaoamhmaf.L1
open Go.RowKit
set_option linter.unusedVariables false

set_option maxRecDepth 100000 in
set_option maxHeartbeats 400000 in
theorem among_any (b N g m cap : Nat) (xs : List Int) (w : World) (h : Cur w b N) (hN : N ≤ 1000000000) (hxs : xs.length = m) (h1 : 1 ≤ m) (h2 : m ≤ 1000) (hg : g ≠ b) (hs : Sl w (some ⟨g, 0, none⟩) xs) :
    Calls Try.prog 47 #[.pointer (some ⟨b, 0, none⟩), .slice (some ⟨g, 0, none⟩) m cap] w fun e w' => ∃ j, j < m ∧ e = .returned (.int .i64 (xs.getD j 0)) ∧ Cur w' b (N + 2) ∧ w.grownBy w' (some b) := by
  have HC := hide h
  have HS := hide hs
  have HX := hide hxs
  clear h hs hxs
  go_enter Try.func47, Try.ntmps47
  go_wp2_with fail
  refine (pick_any b N _ _ HC.out hN (by omega) (by omega)).mono ?_
  rintro e w1 ⟨x, rfl, hx0, hx1, hxm, hc1, hg1⟩
  have hxm' : x < (m : Int) := hxm (by omega)
  clear hxm
  obtain ⟨j, rfl⟩ : ∃ j : Nat, x = (j : Int) := ⟨x.toNat, by omega⟩
  have hc0 := HS.out.at j (by rw [HX.out]; omega)
  have hc : w1.cell? ⟨g, 0 + j, none⟩ = some (.int .i64 (xs.getD j 0)) := by
    rw [World.cell?_of_block (w := w) (hg1.block g (blk_lt hc0) (by simpa using hg))]
    exact hc0
  simp only [Nat.zero_add] at hc
  have H1 := hide hc1
  have G1 := hide hg1
  have hj : j < m := by omega
  obtain ⟨y, hy⟩ : ∃ y, y = xs.getD j 0 := ⟨_, rfl⟩
  rw [← hy] at hc
  have HY := hide hy
  clear hc1 hg1 hc0 hy
  go_wp2
  go_ret
  exact ⟨j, hj, by rw [← HY.out]; rfl, H1.out, G1.out⟩

end Go.Proofs.Yticgejaaoamhmaf.L1
