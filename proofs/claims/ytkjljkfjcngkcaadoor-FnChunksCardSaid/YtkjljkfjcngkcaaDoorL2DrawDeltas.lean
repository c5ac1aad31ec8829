/-
  Contract: the draw for DeltasOf and SumsOf: some ints, at most 41, whatever the bytes.
-/
import Derived.Test.YtkjljkfjcngkcaaDoorL1Draws
namespace Go.Proofs.YtkjljkfjcngkcaaDoor.L1
open Go.RowKit
set_option linter.unusedVariables false

set_option maxRecDepth 100000 in
set_option maxHeartbeats 1000000 in
theorem drawDeltasOf_any (a : Option Addr) (n cap : Nat) (w : World) (h : Slb w w.heap.size a n) (hn : n ≤ 1048576) :
    Calls Tryd.prog 45 #[.slice a n cap] w fun e w' => ∃ (v : Value), e = .returned v ∧ ∃ (xs : List Int), xs.length ≤ 41 ∧ w'.ownsRow w.heap.size 3 1 v xs.length (xs.map (Value.int .i64)) ∧ Below w.heap.size w w' := by
  have HC := hide (cur_new (cap := cap) h hn)
  obtain ⟨i0, hi, hz0, hz1, hz2⟩ := info_parts info_int
  clear h
  go_enter Tryd.func45, Tryd.ntmps45
  go_wp2_with fail
  refine (one_any _ 0 _ _ HC.out (by omega) (by omega) (by omega)).mono ?_
  rintro e w1 ⟨t, rfl, hc1, hg1⟩
  have H1 := hide hc1
  have G1 := hide hg1
  clear hc1 hg1
  cases t with
  | true =>
    go_wp2_with fail
    refine (pick_any _ _ _ _ H1.out (by omega) (by omega) (by omega)).mono ?_
    rintro e w2 ⟨x, rfl, hx0, hx1, hx2, _, hg2⟩
    have hx3 : x < 2 := hx2 (by omega)
    obtain ⟨k, rfl⟩ : ∃ k : Nat, x = (k : Int) := ⟨x.toNat, by omega⟩
    have B2 := hide (grown_to_below (grown_trans G1.out hg2))
    have hB : w.heap.size ≤ w2.heap.size := B2.out.size
    obtain ⟨w3, hmk, hown3, hg3⟩ := run_make_full (P := Tryd.prog) w2 w.heap.size 32 3 i0 (.int .i64 0) 1 Tryd.underlying32 hi hz0 hz1 .i64 .i64 (40 + k) (by rw [hz2]; omega) (by unfold maxLen; omega) hB
    rw [made_ints] at hown3
    have hmk' : (Instr.makeSlice 32 (.int .i64 (40 + (k : Int))) (.int .i64 (40 + (k : Int)))).run Tryd.prog w2 = .ok (.slice (some ⟨w2.heap.size, 0, none⟩) (40 + k) (40 + k)) w3 := by
      have e : ((40 + k : Nat) : Int) = 40 + (k : Int) := by omega
      rw [e] at hmk
      exact hmk
    have O3 := hide hown3
    have B3 := hide (B2.out.grown hg3 hB (fun k hk => by cases hk))
    clear hg2 hx2 hmk hown3 hg3
    go_wp2
    go_ret
    exact ⟨_, rfl, List.replicate (40 + k) 0, by simp; omega, by simpa using O3.out, B3.out⟩
  | false =>
    go_wp2_with fail
    refine (values_any _ _ 8 _ H1.out (by omega) (by omega)).mono ?_
    rintro e w2 ⟨v, rfl, xs, hxl, _, ho, _, hg2⟩
    have B2 := hide (grown_to_below (grown_trans G1.out hg2))
    have O2 : Hid (w2.ownsRow w.heap.size 3 1 v xs.length (xs.map (Value.int .i64))) := by
      refine ⟨ho.1, ?_⟩
      rcases ho.2 with h0 | ⟨g, cap, cur, hv, hb, r⟩
      · exact .inl h0
      · exact .inr ⟨g, cap, cur, hv, by have := G1.out.size; simp at this; omega, r⟩
    clear hg2 ho
    go_wp2
    go_ret
    exact ⟨_, rfl, xs, by omega, O2.out, B2.out⟩
end Go.Proofs.YtkjljkfjcngkcaaDoor.L1
