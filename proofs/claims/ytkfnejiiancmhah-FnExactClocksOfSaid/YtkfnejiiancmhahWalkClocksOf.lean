/-
  The walk of the law FnExactClocksOf: it returns true at every int and every list of events; memory that was there stays as it was.
-/
import Derived.Test.YtkfnejiiancmhahL11ClkS
import Derived.Test.YtkfnejiiancmhahL11ClkI
import Derived.Test.YtkfnejiiancmhahSSIL
import Derived.Test.YtkfnejiiancmhahL11Law
namespace Go.Proofs.Ytkfnejiiancmhah.fnExactClocksOf
open Go.RowKit L1 L11 Own
set_option linter.unusedVariables false

open Classical in
set_option maxRecDepth 100000 in
set_option maxHeartbeats 4000000 in
theorem walk (a0 : Int) (a1 : Option Addr) (len1 cap1 : Nat) (z1 : List (Int × Int)) (w : World) (w0 : (Lit.int .i64 a0).wf = true) (w1 : IsRow2 w a1 len1 z1) :
    Calls Try.prog 4 #[.int .i64 a0, .slice a1 len1 cap1] w fun e w' => e = .returned (.bool true) ∧ Below w.heap.size w w' := by
  obtain ⟨hn, hm, hs⟩ := w1
  have HS := hide hs
  have HN := hide hn
  clear hs hn
  unfold maxLen at hm
  by_cases hsz : len1 ≤ 1048576
  · have C0 := hide (szEventS_in a1 len1 cap1 w hsz)
    have hk0 : ¬ (1048576 - (len1 : Int)) < 0 := by omega
    obtain ⟨b, hb⟩ : ∃ b : Bool, b = true ↔ GoodV a0 z1 := ⟨decide (GoodV a0 z1), by simp⟩
    obtain ⟨m, hm⟩ : ∃ m, m = if b then len1 else 0 := ⟨_, rfl⟩
    obtain ⟨Nn, hNn⟩ : ∃ Nn, Nn = if b then a0.toNat else 0 := ⟨_, rfl⟩
    obtain ⟨G, hG⟩ : ∃ G : Nat → Nat → Int, G = cE z1 := ⟨_, rfl⟩
    have hcv : ∀ w e w', RetS w b m a0.toNat (cE z1) e w' → RetS w b m Nn G e w' := fun w e w' h => by
      obtain ⟨v, h1, h2, h3⟩ := h
      refine ⟨v, h1, ?_, h3⟩
      rw [hG]
      cases b with
      | true => rw [hNn]; exact h2
      | false =>
        have h0 : m = 0 := hm
        rw [h0] at h2 ⊢
        exact h2.zero
    have c1 := fun a cap w hs => (specClocks_any a0 a z1 len1 cap w HN.out hs hsz (bounds_i64 w0).2 b hb m hm).mono (hcv w)
    have c2 := fun a cap w hs => (clocksOfI_any a0 a z1 len1 cap w HN.out hs hsz b hb m hm).mono (hcv w)
    have hle : m ≤ 40 ∧ Nn ≤ 5 := by
      cases b with
      | true =>
        have hg := hb.1 rfl
        have h1 := hg.2.2.1
        have h2 := hg.2.1
        have h3 := HN.out
        have h4 : m = len1 := hm
        have h5 : Nn = a0.toNat := hNn
        omega
      | false =>
        have h4 : m = 0 := hm
        have h5 : Nn = 0 := hNn
        omega
    have hm2 : m ≤ 1000 := by omega
    have hN2 : Nn ≤ 1000 := by omega
    have hm3 : m ≤ 1048576 := by omega
    have hN3 : Nn ≤ 1048576 := by omega
    have hzz : 0 ≤ (m : Int) * (Nn : Int) := Int.mul_nonneg (by omega) (by omega)
    obtain ⟨z, hz⟩ : ∃ z, z = 1 + (m : Int) * (Nn : Int) := ⟨_, rfl⟩
    have cm := fun v B T w h => markIntSS_all v m Nn G B T w hm2 hN2 h
    have ch := fun v B T w h => heldIntSS_any v m Nn B T w hm2 hN2 h
    simp only [← hz] at cm ch
    have hq1 : ¬ z < 0 := by omega
    have hq2 : (z != z) = false := by simp
    have hq0 : ¬ (1 + 2 * (len1 : Int)) < 0 := by omega
    have C1 := hide c1
    have C2 := hide c2
    have CM := hide cm
    have CH := hide ch
    clear c1 c2 cm ch hcv hz hzz hb hm hNn hG hle w0
    go_enter Try.func4, Try.ntmps4
    go_wp2_with fail
    refine C0.out.mono ?_
    rintro e w1 ⟨rfl, rfl⟩
    go_wp2_with fail
    refine (toEventS_any a1 z1 len1 cap1 _ HN.out HS.out hsz).mono ?_
    rintro e w1 ⟨rfl, ho, hb⟩
    have B_1 := hide hb
    have P_1 := hide (own_sl2 ho)
    clear hb ho
    go_wp2_with fail
    refine (C1.out _ _ _ P_1.out).mono ?_
    rintro e w2 ⟨v0, rfl, hu, hb⟩
    have B_2 := hide (B_1.out.trans (hb.mono B_1.out.size))
    have U_2 := hide hu
    clear hb hu P_1
    go_wp2_with fail
    refine (toEventS_any a1 z1 len1 cap1 _ HN.out (HS.out.below B_2.out) hsz).mono ?_
    rintro e w3 ⟨rfl, ho, hb⟩
    have U_3 := hide (U_2.out.below hb)
    have B_3 := hide (B_2.out.trans (hb.mono B_2.out.size))
    have X_3 := hide ho
    have LX := hide ((ho.lt w2.heap.size rfl).2)
    clear hb ho U_2
    go_wp2_with fail
    refine (C2.out _ _ _ (own_sl2 X_3.out)).mono ?_
    rintro e w4 ⟨v1, rfl, hg, hb⟩
    have U_4 := hide (U_3.out.below hb)
    have X_4 := hide (own_belowT X_3.out hb)
    have B_4 := hide (B_3.out.trans (hb.mono B_3.out.size))
    have G_4 := hide hg
    have Z4 := hide hb.size
    clear hb hg U_3 X_3
    go_wp2_with fail
    refine (eqIntSS_same v1 v0 m Nn G _ _ _ _ _ hm3 hN3 G_4.out U_4.out).mono ?_
    rintro e w5 ⟨rfl, hb⟩
    have U_5 := hide (U_4.out.below hb)
    have X_5 := hide (own_belowT X_4.out hb)
    have G_5 := hide (G_4.out.below hb)
    have B_5 := hide (B_4.out.trans (hb.mono B_4.out.size))
    have Z5 := hide hb.size
    clear hb U_4 X_4 G_4
    go_wp2_with fail
    refine (toEventS_any a1 z1 len1 cap1 _ HN.out (HS.out.below B_5.out) hsz).mono ?_
    rintro e w6 ⟨rfl, ho, hb⟩
    have U_6 := hide (U_5.out.below hb)
    have X_6 := hide (own_belowT X_5.out hb)
    have G_6 := hide (G_5.out.below hb)
    have B_6 := hide (B_5.out.trans (hb.mono B_5.out.size))
    have S_6 := hide (own_sl2 ho)
    have Z6 := hide (Nat.le_trans Z5.out hb.size)
    clear hb ho U_5 X_5 G_5
    go_wp2_with fail
    refine (eqEventS_same _ _ z1 len1 _ _ _ HN.out (own_sl2 X_6.out) S_6.out hsz).mono ?_
    rintro e w7 ⟨rfl, hb⟩
    have U_7 := hide (U_6.out.below hb)
    have X_7 := hide (own_belowT X_6.out hb)
    have G_7 := hide (G_6.out.below hb)
    have B_7 := hide (B_6.out.trans (hb.mono B_6.out.size))
    have Z7 := hide (Nat.le_trans Z6.out hb.size)
    clear hb U_6 X_6 G_6 S_6
    go_wp2_with fail
    refine (markEventS_all w2.heap.size _ z1 len1 _ hsz X_7.out).mono ?_
    rintro e w8 ⟨rfl, _, hb, hg⟩
    have U_8 := hide (U_7.out.keep (fun q _ h2 => hb.block q h2))
    have G_8 := hide (G_7.out.keep (fun q h1 h2 => hg.block q (Nat.lt_of_lt_of_le h2 Z7.out) (by simp [Value.ownBlock]; have := LX.out; omega)))
    have B_8 := hide (B_7.out.trans (hb.mono B_2.out.size))
    clear hb hg U_7 G_7 X_7
    go_wp2_with fail
    refine (eqIntSS_same v1 v0 m Nn G _ _ _ _ _ hm3 hN3 G_8.out U_8.out).mono ?_
    rintro e w9 ⟨rfl, hb⟩
    have U_9 := hide (U_8.out.below hb)
    have G_9 := hide (G_8.out.below hb)
    have B_9 := hide (B_8.out.trans (hb.mono B_8.out.size))
    clear hb U_8 G_8
    go_wp2_with fail
    refine (CM.out v1 _ _ _ G_9.out).mono ?_
    rintro e w10 ⟨rfl, hh, hb⟩
    have U_10 := hide (U_9.out.keep (fun q _ h2 => hb.block q (Nat.lt_of_lt_of_le h2 (Nat.le_of_lt LX.out))))
    have H_10 := hide hh
    have B_10 := hide (B_9.out.trans (hb.mono B_3.out.size))
    clear hb hh U_9 G_9
    go_wp2_with fail
    refine (CH.out v1 _ _ _ H_10.out).mono ?_
    rintro e w11 ⟨rfl, hb⟩
    have U_11 := hide (U_10.out.below hb)
    have H_11 := hide (H_10.out.below hb)
    have B_11 := hide (B_10.out.trans (hb.mono B_10.out.size))
    clear hb U_10 H_10
    go_wp2_with fail
    refine (toEventS_any a1 z1 len1 cap1 _ HN.out (HS.out.below B_11.out) hsz).mono ?_
    rintro e w12 ⟨rfl, ho, hb⟩
    have U_12 := hide (U_11.out.below hb)
    have H_12 := hide (H_11.out.below hb)
    have B_12 := hide (B_11.out.trans (hb.mono B_11.out.size))
    have P_12 := hide (own_sl2 ho)
    clear hb ho U_11 H_11
    go_wp2_with fail
    refine (C2.out _ _ _ P_12.out).mono ?_
    rintro e w13 ⟨v2, rfl, hv, hb⟩
    have U_13 := hide (U_12.out.below hb)
    have H_13 := hide (H_12.out.below hb)
    have B_13 := hide (B_12.out.trans (hb.mono B_12.out.size))
    have V_13 := hide hv
    clear hb hv U_12 H_12 P_12
    go_wp2_with fail
    refine (eqIntSS_same v2 v0 m Nn G _ _ _ _ _ hm3 hN3 V_13.out U_13.out).mono ?_
    rintro e w14 ⟨rfl, hb⟩
    have H_14 := hide (H_13.out.below hb)
    have B_14 := hide (B_13.out.trans (hb.mono B_13.out.size))
    clear hb H_13 V_13 U_13
    go_wp2_with fail
    refine (CH.out v1 _ _ _ H_14.out).mono ?_
    rintro e w15 ⟨rfl, hb⟩
    have B_15 := hide (B_14.out.trans (hb.mono B_14.out.size))
    clear hb
    go_wp2
    go_ret
    exact ⟨rfl, B_15.out⟩
  · have C0 := hide (szEventS_out a1 len1 cap1 w (by omega) (by omega))
    go_enter Try.func4, Try.ntmps4
    go_wp2_with fail
    refine C0.out.mono ?_
    rintro e w1 ⟨rfl, rfl⟩
    go_wp2
    go_ret
    exact ⟨rfl, Below.refl _ _⟩
end Go.Proofs.Ytkfnejiiancmhah.fnExactClocksOf
