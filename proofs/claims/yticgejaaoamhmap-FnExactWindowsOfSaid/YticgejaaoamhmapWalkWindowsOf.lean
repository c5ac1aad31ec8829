/-
  The walk of the law FnExactWindowsOf: it returns true at every list of samples and every int; memory that was there stays as it was.
-/
import Derived.Test.YticgejaaoamhmapL16WinO
import Derived.Test.YticgejaaoamhmapL16SWin
import Derived.Test.YticgejaaoamhmapL16Law
import Derived.Test.YticgejaaoamhmapL16WinL
import Derived.Test.YticgejaaoamhmapL2Lists2
namespace Go.Proofs.Yticgejaaoamhmap.fnExactWindowsOf
open Go.RowKit L1 L16
set_option linter.unusedVariables false

open Classical in
set_option maxRecDepth 100000 in
set_option maxHeartbeats 4000000 in
theorem walk (a0 : Option Addr) (len0 cap0 : Nat) (z0 : List (Int × Int)) (a1 : Int) (w : World) (w0 : IsRow2 w a0 len0 z0) (w1 : (Lit.int .i64 a1).wf = true) :
    Calls Try.prog 4 #[.slice a0 len0 cap0, .int .i64 a1] w fun e w' => e = .returned (.bool true) ∧ Below w.heap.size w w' := by
  obtain ⟨hn, hm, hs⟩ := w0
  have HS := hide hs
  have HN := hide hn
  clear hs hn
  unfold maxLen at hm
  by_cases hsz : len0 ≤ 1048576
  · have C0 := hide (szSampleS_in a0 len0 cap0 w hsz)
    have hk0 : ¬ (1048576 - (len0 : Int)) < 0 := by omega
    obtain ⟨r, hr⟩ : ∃ r, r = winR z0 a1 := ⟨_, rfl⟩
    have c1 := fun (b off : Nat) w hs => sWindowsOf_any b off z0 len0 len0 a1 w HN.out hs hsz (Nat.le_refl _) r hr
    have c2 := fun (b off : Nat) w hs => windowsOf_any b off z0 len0 len0 a1 w HN.out hs hsz (Nat.le_refl _) r hr
    have hle := winR_le z0 a1
    rw [← hr] at hle
    obtain ⟨ys, hy⟩ : ∃ ys, ys = r.getD [] := ⟨_, rfl⟩
    obtain ⟨m, hmm⟩ : ∃ m, m = ys.length := ⟨_, rfl⟩
    obtain ⟨ok, hok⟩ : ∃ ok, ok = r.isSome := ⟨_, rfl⟩
    simp only [RetW, ← hy, ← hmm, ← hok] at c1 c2
    rw [← hy, ← hmm] at hle
    have hm2 : m ≤ 1048576 := by omega
    have hq0 : ¬ (1 + 2 * (len0 : Int)) < 0 := by omega
    have hq1 : ¬ (1 + 5 * (m : Int)) < 0 := by omega
    have C1 := hide c1
    have C2 := hide c2
    have HM := hide hmm.symm
    clear c1 c2 hr hy hmm hok
    go_enter Try.func4, Try.ntmps4
    go_wp2_with fail
    refine C0.out.mono ?_
    rintro e w1 ⟨rfl, rfl⟩
    go_wp2_with fail
    refine (toSampleS_any a0 z0 len0 cap0 _ HN.out HS.out hsz).mono ?_
    rintro e w1 ⟨rfl, ho, hb⟩
    have B_1 := hide hb
    have Z_1 := hide hb.size
    have P0_1 := hide (own_sl2 ho)
    clear hb  ho
    go_wp2_with fail
    refine (C1.out _ _ _ P0_1.out).mono ?_
    rintro e w2 ⟨v0, rfl, ho, hb⟩
    clear P0_1
    obtain ⟨b0, q0, rfl, s0, _⟩ := own_formW ho
    have B_2 := hide (B_1.out.trans (hb.mono B_1.out.size))
    have Z_2 := hide hb.size
    have U_2 := hide s0
    have KU := hide (fun (x : Addr) (hx : b0 = some x) => (ho.lt x.block (by rw [hx]; rfl)).2)
    clear hb  ho s0
    go_wp2_with fail
    refine (toSampleS_any a0 z0 len0 cap0 _ HN.out (HS.out.below B_2.out) hsz).mono ?_
    rintro e w3 ⟨rfl, ho, hb⟩
    have U_3 := hide (U_2.out.below hb)
    have B_3 := hide (B_2.out.trans (hb.mono B_2.out.size))
    have Z_3 := hide hb.size
    have X0_3 := hide ho
    have L_X0 := hide ((ho.lt w2.heap.size rfl).2)
    clear hb U_2 ho
    go_wp2_with fail
    refine (C2.out _ _ _ (own_sl2 X0_3.out)).mono ?_
    rintro e w4 ⟨v1, rfl, ho, hb⟩
    obtain ⟨b1, q1, rfl, _, _⟩ := own_formW ho
    have U_4 := hide (U_3.out.below hb)
    have X0_4 := hide (own_belowW X0_3.out hb)
    have B_4 := hide (B_3.out.trans (hb.mono B_3.out.size))
    have Z_4 := hide hb.size
    have G_4 := hide ho
    clear hb U_3 X0_3 ho
    go_wp2_with fail
    refine (eqWindowS_same _ _ ys m _ _ _ HM.out (own_slW G_4.out) U_4.out hm2).mono ?_
    rintro e w5 ⟨rfl, hb⟩
    have U_5 := hide (U_4.out.below hb)
    have X0_5 := hide (own_belowW X0_4.out hb)
    have G_5 := hide (own_belowW G_4.out hb)
    have B_5 := hide (B_4.out.trans (hb.mono B_4.out.size))
    have Z_5 := hide hb.size
    clear hb U_4 X0_4 G_4 
    go_wp2_with fail
    refine (toSampleS_any a0 z0 len0 cap0 _ HN.out (HS.out.below B_5.out) hsz).mono ?_
    rintro e w6 ⟨rfl, ho, hb⟩
    have U_6 := hide (U_5.out.below hb)
    have X0_6 := hide (own_belowW X0_5.out hb)
    have G_6 := hide (own_belowW G_5.out hb)
    have B_6 := hide (B_5.out.trans (hb.mono B_5.out.size))
    have Z_6 := hide hb.size
    have S_6 := hide (own_sl2 ho)
    clear hb U_5 X0_5 G_5 ho
    go_wp2_with fail
    refine (eqSampleS_same _ _ z0 len0 _ _ _ HN.out (own_sl2 X0_6.out) S_6.out hsz).mono ?_
    rintro e w7 ⟨rfl, hb⟩
    have U_7 := hide (U_6.out.below hb)
    have X0_7 := hide (own_belowW X0_6.out hb)
    have G_7 := hide (own_belowW G_6.out hb)
    have S_7 := hide (S_6.out.below hb)
    have B_7 := hide (B_6.out.trans (hb.mono B_6.out.size))
    have Z_7 := hide hb.size
    clear hb U_6 X0_6 G_6 S_6 
    clear S_7
    go_wp2_with fail
    refine (markSampleS_all w2.heap.size _ z0 len0 _ hsz X0_7.out).mono ?_
    rintro e w8 ⟨rfl, _, hb, hg⟩
    have U_8 := hide (slW_base U_7.out hb (fun x hx => Nat.lt_of_lt_of_le (KU.out x hx) (Nat.le_refl _)))
    have G_8 := hide (G_7.out.kept hg (own_neG G_7.out (Nat.lt_of_lt_of_le L_X0.out (Nat.le_refl _))))
    have B_8 := hide (B_7.out.trans (hb.mono B_2.out.size))
    have Z_8 := hide hb.size
    clear hb U_7 G_7 hg X0_7
    go_wp2_with fail
    refine (eqWindowS_same _ _ ys m _ _ _ HM.out (own_slW G_8.out) U_8.out hm2).mono ?_
    rintro e w9 ⟨rfl, hb⟩
    have U_9 := hide (U_8.out.below hb)
    have G_9 := hide (own_belowW G_8.out hb)
    have B_9 := hide (B_8.out.trans (hb.mono B_8.out.size))
    have Z_9 := hide hb.size
    clear hb U_8 G_8 
    go_wp2_with fail
    refine (markWindowS_all w3.heap.size _ ys m _ hm2 G_9.out).mono ?_
    rintro e w10 ⟨rfl, ho, hb, hg⟩
    have U_10 := hide (slW_base U_9.out hb (fun x hx => Nat.lt_of_lt_of_le (KU.out x hx) Z_3.out))
    have B_10 := hide (B_9.out.trans (hb.mono B_3.out.size))
    have Z_10 := hide hb.size
    have H_10 := hide (own_slW ho)
    clear hb U_9 hg ho G_9
    go_wp2_with fail
    refine (heldWindowS_any _ m _ _ hm2 H_10.out).mono ?_
    rintro e w11 ⟨rfl, hb⟩
    have U_11 := hide (U_10.out.below hb)
    have H_11 := hide (H_10.out.below hb)
    have B_11 := hide (B_10.out.trans (hb.mono B_10.out.size))
    have Z_11 := hide hb.size
    clear hb U_10 H_10 
    go_wp2_with fail
    refine (toSampleS_any a0 z0 len0 cap0 _ HN.out (HS.out.below B_11.out) hsz).mono ?_
    rintro e w12 ⟨rfl, ho, hb⟩
    have U_12 := hide (U_11.out.below hb)
    have H_12 := hide (H_11.out.below hb)
    have B_12 := hide (B_11.out.trans (hb.mono B_11.out.size))
    have Z_12 := hide hb.size
    have P0_12 := hide (own_sl2 ho)
    clear hb U_11 H_11 ho
    go_wp2_with fail
    refine (C2.out _ _ _ P0_12.out).mono ?_
    rintro e w13 ⟨v2, rfl, ho, hb⟩
    clear P0_12
    obtain ⟨b2, q2, rfl, s2, _⟩ := own_formW ho
    have U_13 := hide (U_12.out.below hb)
    have H_13 := hide (H_12.out.below hb)
    have B_13 := hide (B_12.out.trans (hb.mono B_12.out.size))
    have Z_13 := hide hb.size
    have V_13 := hide s2
    clear hb U_12 H_12 ho s2
    go_wp2_with fail
    refine (eqWindowS_same _ _ ys m _ _ _ HM.out V_13.out U_13.out hm2).mono ?_
    rintro e w14 ⟨rfl, hb⟩
    have U_14 := hide (U_13.out.below hb)
    have H_14 := hide (H_13.out.below hb)
    have V_14 := hide (V_13.out.below hb)
    have B_14 := hide (B_13.out.trans (hb.mono B_13.out.size))
    have Z_14 := hide hb.size
    clear hb U_13 H_13 V_13 
    clear V_14
    clear U_14
    go_wp2_with fail
    refine (heldWindowS_any _ m _ _ hm2 H_14.out).mono ?_
    rintro e w15 ⟨rfl, hb⟩
    have H_15 := hide (H_14.out.below hb)
    have B_15 := hide (B_14.out.trans (hb.mono B_14.out.size))
    have Z_15 := hide hb.size
    clear hb H_14 
    go_wp2
    go_ret
    exact ⟨rfl, B_15.out⟩
  · have C0 := hide (szSampleS_out a0 len0 cap0 w (by omega) (by omega))
    go_enter Try.func4, Try.ntmps4
    go_wp2_with fail
    refine C0.out.mono ?_
    rintro e w1 ⟨rfl, rfl⟩
    go_wp2
    go_ret
    exact ⟨rfl, Below.refl _ _⟩
end Go.Proofs.Yticgejaaoamhmap.fnExactWindowsOf
