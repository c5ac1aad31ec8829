/-
  The walk of the law FnExactFitsForm: it returns true at every list of parts; memory that was there stays as it was.
-/
import Derived.Test.YtkdiffpbljohkayL5Fits
import Derived.Test.YtkdiffpbljohkayL5Match
import Derived.Test.YtkdiffpbljohkayL5Lists
namespace Go.Proofs.Ytkdiffpbljohkay.fnExactFitsForm
open Go.RowKit L1 L4 L5
set_option linter.unusedVariables false

open Classical in
set_option maxRecDepth 100000 in
set_option maxHeartbeats 4000000 in
theorem walk (a0 : Option Addr) (len0 cap0 : Nat) (z0 : List Pr) (a1 : ByteArray) (w : World) (w0 : IsRowP w a0 len0 z0) (w1 : a1.size ≤ maxLen) :
    Calls Try.prog 4 #[.slice a0 len0 cap0, .string a1] w fun e w' => e = .returned (.bool true) ∧ Below w.heap.size w w' := by
  obtain ⟨⟨hn, hm, hs⟩, hst⟩ := w0
  have HS := hide hs
  have HN := hide hn
  have HST := hide hst
  unfold maxLen at hm w1
  by_cases hbig : 1048576 < (a1.size : Int)
  · clear hs hn hst w1
    go_enter Try.func4, Try.ntmps4
    go_wp2
    go_ret
    exact ⟨rfl, Below.refl _ _⟩
  have hsmall : a1.size ≤ 1048576 := by omega
  have C0 := hide (fun r hr => szPartS_any a0 z0 len0 cap0 1048576 w hn (by omega) hs hst (by omega) (by omega) r hr)
  clear hs hn hst
  by_cases hfit : (L5.wt z0 : Int) ≤ 1048576
  · have hsz : len0 ≤ 1048576 := by have := HN.out; unfold L5.wt at hfit; omega
    have hk0 : ¬ (1048576 - (L5.wt z0 : Int)) < 0 := by omega
    obtain ⟨b2, h2⟩ : ∃ bb : Bool, bb = true ↔ GoodF z0 ∧ a1.size ≤ 12 ∧ Let a1 := ⟨decide (GoodF z0 ∧ a1.size ≤ 12 ∧ Let a1), by simp⟩
    obtain ⟨b1, h1⟩ : ∃ bb : Bool, bb = true ↔ b2 = true ∧ Mt (whole z0) (bts a1 0) := ⟨decide (b2 = true ∧ Mt (whole z0) (bts a1 0)), by simp⟩
    have C1 := hide (fun a cap w hs => specFitsForm_any a z0 len0 cap a1 w HN.out hs hsz HST.out (by omega) b1 b2 h2 h1)
    have C2 := hide (fun a cap w hs => implFitsForm_any a z0 len0 cap a1 w HN.out hs hsz HST.out (by omega) b1 b2 h2 h1)
    clear h1 h2
    go_enter Try.func4, Try.ntmps4
    go_wp2_with fail
    refine (C0.out (1048576 - (L5.wt z0 : Int)) (by rw [if_pos (by omega)])).mono ?_
    rintro e w1 ⟨rfl, hb0⟩
    have B_00 := hide hb0
    clear hb0
    go_wp2_with fail
    refine (toPartS_any a0 z0 len0 cap0 _ HN.out (HS.out.below B_00.out) hsz).mono ?_
    rintro e w1 ⟨rfl, ho1, hb1⟩
    have S1 := hide (own_slP ho1)
    have B1 := hide (B_00.out.trans (hb1.mono B_00.out.size))
    clear ho1 hb1
    go_wp2_with fail
    refine (C1.out _ _ _ S1.out).mono ?_
    rintro e w2 ⟨rfl, hb2⟩
    have B2 := hide (B1.out.trans (hb2.mono B1.out.size))
    clear hb2 S1 B1
    go_wp2_with fail
    refine (toPartS_any a0 z0 len0 cap0 _ HN.out (HS.out.below B2.out) hsz).mono ?_
    rintro e w3 ⟨rfl, ho3, hb3⟩
    have S3 := hide (own_slP ho3)
    have B3 := hide (B2.out.trans (hb3.mono B2.out.size))
    clear ho3 hb3 B2
    go_wp2_with fail
    refine (C2.out _ _ _ S3.out).mono ?_
    rintro e w4 ⟨rfl, hb4⟩
    have S4 := hide (S3.out.below hb4)
    have B4 := hide (B3.out.trans (hb4.mono B3.out.size))
    clear hb4 S3 B3
    go_wp2_with fail
    refine (toPartS_any a0 z0 len0 cap0 _ HN.out (HS.out.below B4.out) hsz).mono ?_
    rintro e w5 ⟨rfl, ho5, hb5⟩
    have S5 := hide (own_slP ho5)
    have T5 := hide (S4.out.below hb5)
    have B5 := hide (B4.out.trans (hb5.mono B4.out.size))
    clear ho5 hb5 S4 B4
    go_wp2_with fail
    refine (eqPartS_same _ _ z0 len0 _ _ _ HN.out T5.out S5.out hsz).mono ?_
    rintro e w6 ⟨rfl, hb6⟩
    have B6 := hide (B5.out.trans (hb6.mono B5.out.size))
    clear hb6
    go_wp2
    go_ret
    exact ⟨rfl, B6.out⟩
  · go_enter Try.func4, Try.ntmps4
    go_wp2_with fail
    refine (C0.out (-1) (by rw [if_neg (by omega)])).mono ?_
    rintro e w1 ⟨rfl, hb0⟩
    go_wp2
    go_ret
    exact ⟨rfl, hb0⟩
end Go.Proofs.Ytkdiffpbljohkay.fnExactFitsForm
