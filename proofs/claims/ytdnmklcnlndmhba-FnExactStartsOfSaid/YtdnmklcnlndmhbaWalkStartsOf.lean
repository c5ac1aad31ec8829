/-
  The walk of the law FnExactStartsOf: it returns true at every list of entries; memory that was there stays as it was.
-/
import Derived.Test.YtdnmklcnlndmhbaL7StartsOf
import Derived.Test.YtdnmklcnlndmhbaL7SStartsOf
import Derived.Test.YtdnmklcnlndmhbaL7EntTo
import Derived.Test.YtdnmklcnlndmhbaL7EntEq
import Derived.Test.YtdnmklcnlndmhbaL7EntSize
import Derived.Test.YtdnmklcnlndmhbaL7EntMark
import Derived.Test.YtdnmklcnlndmhbaL7StaEq
import Derived.Test.YtdnmklcnlndmhbaL7StaMarks
import Derived.Test.YtdnmklcnlndmhbaL7Ne
namespace Go.Proofs.Ytdnmklcnlndmhba.fnExactStartsOf
open Go.RowKit L1 L7
set_option linter.unusedVariables false

open Classical in
set_option maxRecDepth 100000 in
set_option maxHeartbeats 8000000 in
theorem walk (a0 : Option Addr) (len0 cap0 : Nat) (z0 : List En) (w : World) (w0 : IsRowES w a0 len0 z0) :
    Calls Try.prog 4 #[.slice a0 len0 cap0] w fun e w' => e = .returned (.bool true) ∧ Below w.heap.size w w' := by
  obtain ⟨⟨hn0, hm0, hs0⟩, hst0⟩ := w0
  have HST0 := hide hst0
  clear hst0
  have HS0 := hide hs0
  have HN0 := hide hn0
  clear hs0 hn0
  unfold maxLen at hm0
  by_cases hwt0 : (wt z0 : Int) ≤ 1048576
  case neg =>
    have C00 := hide (fun w hs => szEntryS_any a0 z0 len0 cap0 1048576 w HN0.out hm0 hs HST0.out (by omega) (by omega) _ (if_neg hwt0).symm)
    clear hwt0
    go_enter Try.func4, Try.ntmps4
    go_wp2_with fail
    refine (C00.out _ HS0.out).mono ?_
    rintro e wz0 ⟨rfl, hbz⟩
    have BZ0 := hide hbz
    clear hbz
    go_wp2
    go_ret
    exact ⟨rfl, BZ0.out⟩
  have hsz0 : len0 ≤ 1048576 := by unfold wt at hwt0; rw [HN0.out] at hwt0; omega
  have C00 := hide (fun w hs => szEntryS_any a0 z0 len0 cap0 1048576 w HN0.out hm0 hs HST0.out (by omega) (by omega) _ (if_pos hwt0).symm)
  obtain ⟨lf0, hlf0⟩ : ∃ lf, lf = 1048576 - (wt z0 : Int) := ⟨_, rfl⟩
  rw [← hlf0] at C00
  have hk0 : ¬ lf0 < 0 := by omega
  have hu0 : lf0 ≤ 1048576 := by omega
  clear hlf0 hwt0
  obtain ⟨r, hr⟩ : ∃ r, r = stsR z0 := ⟨_, rfl⟩
  have c1 := fun a cap w hs => specStartsOf_any a z0 len0 cap w HN0.out hs hsz0 HST0.out r hr
  have c2 := fun a cap w hs => implStartsOf_any a z0 len0 cap w HN0.out hs hsz0 HST0.out r hr
  have hle := stsR_len z0
  rw [← hr] at hle
  obtain ⟨ys, hy⟩ : ∃ ys, ys = r.getD [] := ⟨_, rfl⟩
  obtain ⟨m, hmm⟩ : ∃ m, m = ys.length := ⟨_, rfl⟩
  obtain ⟨ok, hok⟩ : ∃ ok, ok = r.isSome := ⟨_, rfl⟩
  simp only [RetT7, ← hy, ← hmm, ← hok] at c1 c2
  rw [← hy, ← hmm] at hle
  have hm2 : m ≤ 1048576 := by omega
  have hq0 : ¬ (1 + 2 * (len0 : Int)) < 0 := by omega
  have hq1 : ¬ (1 + 2 * (m : Int)) < 0 := by omega
  have C1 := hide c1
  have C2 := hide c2
  have HM := hide hmm.symm
  clear c1 c2 hr hy hmm hok hle
  go_enter Try.func4, Try.ntmps4
  go_wp2_with fail
  refine (C00.out _ HS0.out).mono ?_
  rintro e wz0 ⟨rfl, hbz⟩
  have BZ0 := hide hbz
  clear hbz
  have FIN : Hid (∀ w' : World, Below wz0.heap.size wz0 w' → Below w.heap.size w w') := fun w' h => BZ0.out.trans (h.mono BZ0.out.size)
  have HSZ0 := hide (HS0.out.below BZ0.out)
  clear HS0 BZ0 C00
  go_wp2_with fail
  refine (toEntryS_any a0 z0 len0 cap0 _ HN0.out HSZ0.out hsz0).mono ?_
  rintro e w1 ⟨rfl, ho, hb⟩
  have B_1 := hide hb
  have Z_1 := hide hb.size
  have P0_1 := hide (own_slE ho)
  clear hb  ho
  go_wp2_with fail
  refine (C1.out _ _ _ P0_1.out).mono ?_
  rintro e w2 ⟨v0, rfl, ho, hb⟩
  clear P0_1
  obtain ⟨b0, q0, rfl, s0, _⟩ := own_formS ho
  have B_2 := hide (B_1.out.trans (hb.mono B_1.out.size))
  have Z_2 := hide hb.size
  have U_2 := hide s0
  have KU := hide (fun (x : Addr) (hx : b0 = some x) => (ho.lt x.block (by rw [hx]; rfl)).2)
  clear hb  ho s0
  go_wp2_with fail
  refine (toEntryS_any a0 z0 len0 cap0 _ HN0.out (HSZ0.out.below B_2.out) hsz0).mono ?_
  rintro e w3 ⟨rfl, ho, hb⟩
  have U_3 := hide (U_2.out.below hb)
  have B_3 := hide (B_2.out.trans (hb.mono B_2.out.size))
  have Z_3 := hide hb.size
  have X0_3 := hide ho
  have L_X0 := hide ((ho.lt w2.heap.size rfl).2)
  clear hb U_2 ho
  go_wp2_with fail
  refine (C2.out _ _ _ (own_slE X0_3.out)).mono ?_
  rintro e w4 ⟨v1, rfl, ho, hb⟩
  obtain ⟨b1, q1, rfl, _, _⟩ := own_formS ho
  have U_4 := hide (U_3.out.below hb)
  have X0_4 := hide (own_belowT X0_3.out hb)
  have B_4 := hide (B_3.out.trans (hb.mono B_3.out.size))
  have Z_4 := hide hb.size
  have G_4 := hide ho
  clear hb U_3 X0_3 ho
  go_wp2_with fail
  refine (eqStartS_same _ _ ys m _ _ _ HM.out (own_slS G_4.out) U_4.out hm2).mono ?_
  rintro e w5 ⟨rfl, hb⟩
  have U_5 := hide (U_4.out.below hb)
  have X0_5 := hide (own_belowT X0_4.out hb)
  have G_5 := hide (own_belowT G_4.out hb)
  have B_5 := hide (B_4.out.trans (hb.mono B_4.out.size))
  have Z_5 := hide hb.size
  clear hb U_4 X0_4 G_4 
  go_wp2_with fail
  refine (toEntryS_any a0 z0 len0 cap0 _ HN0.out (HSZ0.out.below B_5.out) hsz0).mono ?_
  rintro e w6 ⟨rfl, ho, hb⟩
  have U_6 := hide (U_5.out.below hb)
  have X0_6 := hide (own_belowT X0_5.out hb)
  have G_6 := hide (own_belowT G_5.out hb)
  have B_6 := hide (B_5.out.trans (hb.mono B_5.out.size))
  have Z_6 := hide hb.size
  have S_6 := hide (own_slE ho)
  clear hb U_5 X0_5 G_5 ho
  go_wp2_with fail
  refine (eqEntryS_same _ _ z0 len0 _ _ _ HN0.out (own_slE X0_6.out) S_6.out hsz0).mono ?_
  rintro e w7 ⟨rfl, hb⟩
  have U_7 := hide (U_6.out.below hb)
  have X0_7 := hide (own_belowT X0_6.out hb)
  have G_7 := hide (own_belowT G_6.out hb)
  have S_7 := hide (S_6.out.below hb)
  have B_7 := hide (B_6.out.trans (hb.mono B_6.out.size))
  have Z_7 := hide hb.size
  clear hb U_6 X0_6 G_6 S_6 
  clear S_7
  go_wp2_with fail
  refine (markEntryS_all w2.heap.size _ z0 len0 _ hsz0 X0_7.out (Nat.le_trans (Nat.le_trans (Nat.le_trans (Nat.le_trans Z_3.out Z_4.out) Z_5.out) Z_6.out) Z_7.out)).mono ?_
  rintro e w8 ⟨rfl, _, hb, hg⟩
  have U_8 := hide (slS_base U_7.out hb (fun x hx => Nat.lt_of_lt_of_le (KU.out x hx) (Nat.le_refl _)))
  have G_8 := hide (G_7.out.kept hg (own_neG G_7.out (Nat.lt_of_lt_of_le L_X0.out (Nat.le_refl _))))
  have B_8 := hide (B_7.out.trans (hb.mono B_2.out.size))
  have Z_8 := hide hb.size
  clear hb U_7 G_7 hg X0_7
  go_wp2_with fail
  refine (eqStartS_same _ _ ys m _ _ _ HM.out (own_slS G_8.out) U_8.out hm2).mono ?_
  rintro e w9 ⟨rfl, hb⟩
  have U_9 := hide (U_8.out.below hb)
  have G_9 := hide (own_belowT G_8.out hb)
  have B_9 := hide (B_8.out.trans (hb.mono B_8.out.size))
  have Z_9 := hide hb.size
  clear hb U_8 G_8 
  go_wp2_with fail
  refine (markStartS_all w3.heap.size _ ys m _ hm2 G_9.out).mono ?_
  rintro e w10 ⟨rfl, ho, hb, hg⟩
  have U_10 := hide (slS_base U_9.out hb (fun x hx => Nat.lt_of_lt_of_le (KU.out x hx) Z_3.out))
  have B_10 := hide (B_9.out.trans (hb.mono B_3.out.size))
  have Z_10 := hide hb.size
  have H_10 := hide (own_slS ho)
  clear hb U_9 hg ho G_9
  go_wp2_with fail
  refine (heldStartS_any _ m _ _ hm2 H_10.out).mono ?_
  rintro e w11 ⟨rfl, hb⟩
  have U_11 := hide (U_10.out.below hb)
  have H_11 := hide (H_10.out.below hb)
  have B_11 := hide (B_10.out.trans (hb.mono B_10.out.size))
  have Z_11 := hide hb.size
  clear hb U_10 H_10 
  go_wp2_with fail
  refine (toEntryS_any a0 z0 len0 cap0 _ HN0.out (HSZ0.out.below B_11.out) hsz0).mono ?_
  rintro e w12 ⟨rfl, ho, hb⟩
  have U_12 := hide (U_11.out.below hb)
  have H_12 := hide (H_11.out.below hb)
  have B_12 := hide (B_11.out.trans (hb.mono B_11.out.size))
  have Z_12 := hide hb.size
  have P0_12 := hide (own_slE ho)
  clear hb U_11 H_11 ho
  go_wp2_with fail
  refine (C2.out _ _ _ P0_12.out).mono ?_
  rintro e w13 ⟨v2, rfl, ho, hb⟩
  clear P0_12
  obtain ⟨b2, q2, rfl, s2, _⟩ := own_formS ho
  have U_13 := hide (U_12.out.below hb)
  have H_13 := hide (H_12.out.below hb)
  have B_13 := hide (B_12.out.trans (hb.mono B_12.out.size))
  have Z_13 := hide hb.size
  have V_13 := hide s2
  clear hb U_12 H_12 ho s2
  go_wp2_with fail
  refine (eqStartS_same _ _ ys m _ _ _ HM.out V_13.out U_13.out hm2).mono ?_
  rintro e w14 ⟨rfl, hb⟩
  have U_14 := hide (U_13.out.below hb)
  have H_14 := hide (H_13.out.below hb)
  have V_14 := hide (V_13.out.below hb)
  have B_14 := hide (B_13.out.trans (hb.mono B_13.out.size))
  have Z_14 := hide hb.size
  clear hb U_13 H_13 V_13 
  clear V_14
  clear U_14
  go_wp2_with fail
  refine (heldStartS_any _ m _ _ hm2 H_14.out).mono ?_
  rintro e w15 ⟨rfl, hb⟩
  have H_15 := hide (H_14.out.below hb)
  have B_15 := hide (B_14.out.trans (hb.mono B_14.out.size))
  have Z_15 := hide hb.size
  clear hb H_14 
  go_wp2
  go_ret
  exact ⟨rfl, FIN.out _ B_15.out⟩
end Go.Proofs.Ytdnmklcnlndmhba.fnExactStartsOf
