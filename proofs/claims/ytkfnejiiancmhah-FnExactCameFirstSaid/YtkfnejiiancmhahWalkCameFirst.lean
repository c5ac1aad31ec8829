/-
  The walk of the law FnExactCameFirst: it returns true at every three ints and every list of events; memory that was there stays as it was.
-/
import Derived.Test.YtkfnejiiancmhahL11SCame
import Derived.Test.YtkfnejiiancmhahL11EvLists
namespace Go.Proofs.Ytkfnejiiancmhah.fnExactCameFirst
open Go.RowKit L1 L11 Own
set_option linter.unusedVariables false

open Classical in
set_option maxRecDepth 100000 in
set_option maxHeartbeats 4000000 in
theorem walk (a0 : Int) (a1 : Option Addr) (len1 cap1 : Nat) (z1 : List (Int × Int)) (a2 : Int) (a3 : Int) (w : World) (w0 : (Lit.int .i64 a0).wf = true) (w1 : IsRow2 w a1 len1 z1) (w2 : (Lit.int .i64 a2).wf = true) (w3 : (Lit.int .i64 a3).wf = true) :
    Calls Try.prog 5 #[.int .i64 a0, .slice a1 len1 cap1, .int .i64 a2, .int .i64 a3] w fun e w' => e = .returned (.bool true) ∧ Below w.heap.size w w' := by
  obtain ⟨hn, hm, hs⟩ := w1
  have HS := hide hs
  have HN := hide hn
  clear hs hn
  unfold maxLen at hm
  by_cases hsz : len1 ≤ 1048576
  · have C0 := hide (szEventS_in a1 len1 cap1 w hsz)
    have hk0 : ¬ (1048576 - (len1 : Int)) < 0 := by omega
    obtain ⟨c, hc⟩ : ∃ c : Bool, c = true ↔ CFok a0 z1 a2 a3 := ⟨decide (CFok a0 z1 a2 a3), by simp⟩
    obtain ⟨r, hr⟩ : ∃ r : Bool, r = true ↔ CFok a0 z1 a2 a3 ∧ Anc z1 a2.toNat a3.toNat := ⟨decide (CFok a0 z1 a2 a3 ∧ Anc z1 a2.toNat a3.toNat), by simp⟩
    have C1 := hide (fun a cap w hs => specCame_any a0 a z1 len1 cap a2 a3 w HN.out hs hsz (bounds_i64 w0).2 c r hc hr)
    have C2 := hide (fun a cap w hs => cameFirst_any a0 a z1 len1 cap a2 a3 w HN.out hs hsz c r hc hr)
    clear hc hr w0 w2 w3
    go_enter Try.func5, Try.ntmps5
    go_wp2_with fail
    refine C0.out.mono ?_
    rintro e w1 ⟨rfl, rfl⟩
    go_wp2_with fail
    refine (toEventS_any a1 z1 len1 cap1 _ HN.out HS.out hsz).mono ?_
    rintro e w1 ⟨rfl, ho, hb⟩
    have B_1 := hide hb
    have P0_1 := hide (own_sl2 ho)
    clear hb  ho
    go_wp2_with fail
    refine (C1.out _ _ _ P0_1.out).mono ?_
    rintro e w2 ⟨rfl, hb⟩
    clear P0_1
    have B_2 := hide (B_1.out.trans (hb.mono B_1.out.size))
    clear hb
    go_wp2_with fail
    refine (toEventS_any a1 z1 len1 cap1 _ HN.out (HS.out.below B_2.out) hsz).mono ?_
    rintro e w3 ⟨rfl, ho, hb⟩
    have B_3 := hide (B_2.out.trans (hb.mono B_2.out.size))
    have X0_3 := hide (own_sl2 ho)
    clear hb  ho
    go_wp2_with fail
    refine (C2.out _ _ _ X0_3.out).mono ?_
    rintro e w4 ⟨rfl, hb⟩
    have X0_4 := hide (X0_3.out.below hb)
    have B_4 := hide (B_3.out.trans (hb.mono B_3.out.size))
    clear hb X0_3 
    go_wp2_with fail
    refine (toEventS_any a1 z1 len1 cap1 _ HN.out (HS.out.below B_4.out) hsz).mono ?_
    rintro e w5 ⟨rfl, ho, hb⟩
    have X0_5 := hide (X0_4.out.below hb)
    have B_5 := hide (B_4.out.trans (hb.mono B_4.out.size))
    have S_5 := hide (own_sl2 ho)
    clear hb X0_4 ho
    go_wp2_with fail
    refine (eqEventS_same _ _ z1 len1 _ _ _ HN.out X0_5.out S_5.out hsz).mono ?_
    rintro e w6 ⟨rfl, hb⟩
    have X0_6 := hide (X0_5.out.below hb)
    have S_6 := hide (S_5.out.below hb)
    have B_6 := hide (B_5.out.trans (hb.mono B_5.out.size))
    clear hb X0_5 S_5 
    clear S_6
    go_wp2
    go_ret
    exact ⟨rfl, B_6.out⟩
  · have C0 := hide (szEventS_out a1 len1 cap1 w (by omega) (by omega))
    go_enter Try.func5, Try.ntmps5
    go_wp2_with fail
    refine C0.out.mono ?_
    rintro e w1 ⟨rfl, rfl⟩
    go_wp2
    go_ret
    exact ⟨rfl, Below.refl _ _⟩
end Go.Proofs.Ytkfnejiiancmhah.fnExactCameFirst
