/-
  The walk of the law FnExactSayText: it returns true at every say; memory that was there stays as it was.
-/
import Derived.Test.YtbcnkglcfjineakDoorL13SayIT
import Derived.Test.YtbcnkglcfjineakDoorL13SaySP
namespace Go.Proofs.YtbcnkglcfjineakDoor.fnExactSayText
open Go.RowKit L1 L13
set_option linter.unusedVariables false

set_option maxRecDepth 100000 in
set_option maxHeartbeats 2000000 in
theorem walk (s0 : ByteArray) (x0 y0 : Int) (w : World) (w0 : s0.size ≤ maxLen) (ht : Pow10 w) :
    Calls Tryd.prog 3 #[.agg #[.string s0, .int .i64 x0, .int .i64 y0]] w fun e w' => e = .returned (.bool true) ∧ Below w.heap.size w w' := by
  unfold maxLen at w0
  have HA := L8.blk_new w (syO 23 s0 x0 y0)
  have BA := (Below.refl w.heap.size w).alloc (Nat.le_refl _) (syO 23 s0 x0 y0)
  obtain ⟨r, hr⟩ : ∃ r : Int, r = if (s0.size : Int) ≤ 1048576 then 1048576 - (s0.size : Int) else -1 := ⟨_, rfl⟩
  have C0 := hide (fun wx => szSay_any s0 x0 y0 1048576 wx (by omega) (by omega) (by omega) r hr)
  by_cases hfit : (s0.size : Int) ≤ 1048576
  · have hr0 : ¬ r < 0 := by rw [hr, if_pos hfit]; omega
    obtain ⟨ok, hok⟩ := boolP (okSay s0 x0 y0)
    obtain ⟨t, htx⟩ : ∃ t, t = if ok then sayT s0 x0 y0 else ByteArray.empty := ⟨_, rfl⟩
    have CS := hide (fun wx => specSayText_any s0 x0 y0 wx (by omega) t ok hok htx)
    have CI := hide (fun wx (hb : Below w.heap.size w wx) => implSayText_any s0 x0 y0 wx (by omega) (ht.below hb) t ok hok htx)
    have CT := hide (toSay_any s0 x0 y0)
    have hoo : (ok != ok) = false := by simp
    have HA' := hide HA
    have BA' := hide BA
    clear HA BA hr hok htx ht hfit
    go_enter Tryd.func3, Tryd.ntmps3
    go_wp2_with fail
    refine (C0.out _).mono ?_
    rintro e w1 ⟨rfl, hb⟩
    have A1 := hide ((hb.block w.heap.size (by simp)).trans HA'.out)
    have B1 := hide (BA'.out.trans (hb.mono (by simp)))
    clear hb HA' BA'
    obtain ⟨k0, k1, k2⟩ := blk3s A1.out
    go_wp2_with fail
    refine (CT.out _).mono ?_
    rintro e w2 ⟨rfl, hb⟩
    have A2 := hide ((hb.block w.heap.size (Array.getElem?_eq_some_iff.1 A1.out).1).trans A1.out)
    have B2 := hide (B1.out.trans (hb.mono B1.out.size))
    clear hb k0 k1 k2 A1 B1
    go_wp2_with fail
    refine (CS.out _).mono ?_
    rintro e w3 ⟨rfl, hb⟩
    have A3 := hide ((hb.block w.heap.size (Array.getElem?_eq_some_iff.1 A2.out).1).trans A2.out)
    have B3 := hide (B2.out.trans (hb.mono B2.out.size))
    clear hb A2 B2
    obtain ⟨k0, k1, k2⟩ := blk3s A3.out
    go_wp2_with fail
    refine (CT.out _).mono ?_
    rintro e w4 ⟨rfl, hb⟩
    have B4 := hide (B3.out.trans (hb.mono B3.out.size))
    clear hb k0 k1 k2 A3 B3
    go_wp2_with fail
    refine (CI.out _ B4.out).mono ?_
    rintro e w5 ⟨rfl, hb⟩
    have B5 := hide (B4.out.trans (hb.mono B4.out.size))
    clear hb B4
    go_wp2
    go_ret
    exact ⟨rfl, B5.out⟩
  · have hr0 : r < 0 := by rw [hr, if_neg hfit]; omega
    have BA' := hide BA
    clear HA BA hr ht hfit
    go_enter Tryd.func3, Tryd.ntmps3
    go_wp2_with fail
    refine (C0.out _).mono ?_
    rintro e w1 ⟨rfl, hb⟩
    have B1 := hide (BA'.out.trans (hb.mono (by simp)))
    clear hb
    go_wp2
    go_ret
    exact ⟨rfl, B1.out⟩
end Go.Proofs.YtbcnkglcfjineakDoor.fnExactSayText
