/-
  Contracts: impl.RateOf with the first and the last one of a run.
-/
import Derived.Test.YticgejaaoamhmapL16FL
import Derived.Test.YticgejaaoamhmapL16RisA
import Derived.Test.YticgejaaoamhmapL8Gen
import Derived.Deep.RegionHeld3
namespace Go.Proofs.Yticgejaaoamhmap.L16
open Go.RowKit L1
set_option linter.unusedVariables false

theorem rate_bd {r p d : Int} (hr : 0 ≤ r ∧ r ≤ 40000000000) (hp : 1 ≤ p ∧ p ≤ 1000000) (hd : 1 ≤ d) : 0 ≤ r * p ∧ r * p ≤ 40000000000000000 ∧ 0 ≤ r * p / d ∧ r * p / d ≤ 40000000000000000 ∧ Int.tdiv (r * p) d = r * p / d := by
  have h1 : 0 ≤ r * p := Int.mul_nonneg hr.1 (by omega)
  have h2 : r * p ≤ 40000000000 * 1000000 := Int.mul_le_mul hr.2 hp.2 (by omega) (by omega)
  have h3 := Int.ediv_nonneg h1 (show 0 ≤ d by omega)
  have h4 := Int.ediv_le_self d h1
  exact ⟨h1, by omega, h3, by omega, Int.tdiv_eq_ediv_of_nonneg h1⟩
/-- What RateOf takes. -/
def RateOk (l : List (Int × Int)) (p : Int) : Prop := Ctr l ∧ 2 ≤ l.length ∧ 1 ≤ p ∧ p ≤ 1000000
open Classical in
/-- What RateOf answers. -/
noncomputable def rateR (l : List (Int × Int)) (p : Int) : Int := if RateOk l p then ris l l.length * p / (at_ l (l.length - 1) - at_ l 0) else 0
set_option maxRecDepth 100000 in
set_option maxHeartbeats 2000000 in
theorem rateOf_any (a : Option Addr) (l : List (Int × Int)) (n cap : Nat) (p : Int) (w : World) (hn : l.length = n) (hs : Sl2 w a l) (hn2 : n ≤ 1048576) (r : Int) (hr : r = rateR l p) (bb : Bool) (hbb : bb = true ↔ RateOk l p) :
    Calls Try.prog 21 #[.slice a n cap, .int .i64 p] w fun e w' => e = .returned (.tuple #[.int .i64 r, .bool bb]) ∧ Below w.heap.size w w' := by
  obtain ⟨c, hc⟩ : ∃ c : Bool, c = true ↔ Ctr l := by classical exact ⟨decide (Ctr l), by simp⟩
  have CO := hide (counterOk_any a l n cap w hn hs hn2 c hc)
  have HS := hide hs
  have neg : ¬ RateOk l p → r = 0 ∧ bb = false := fun h => ⟨by rw [hr]; unfold rateR; rw [if_neg h], bool_no hbb h⟩
  cases hq : c with
  | false =>
    obtain ⟨rfl, rfl⟩ := neg (fun h => by have := hc.2 h.1; rw [hq] at this; cases this)
    subst hq
    clear hc
    clear hbb hr neg hs hn
    go_enter Try.func21, Try.ntmps21
    go_wp2_with fail
    refine CO.out.mono ?_
    rintro e w1 ⟨rfl, hb1⟩
    have B1 := hide hb1
    clear hb1
    go_wp2
    go_ret2
    exact ⟨rfl, B1.out⟩
  | true =>
  have hct := hc.1 hq
  have HCT := hide hct
  subst hq
  clear hc
  by_cases h2 : (n : Int) < 2
  · obtain ⟨rfl, rfl⟩ := neg (fun h => by have := h.2.1; omega)
    clear hct
    clear hbb hr neg hs hn
    go_enter Try.func21, Try.ntmps21
    go_wp2_with fail
    refine CO.out.mono ?_
    rintro e w1 ⟨rfl, hb1⟩
    have B1 := hide hb1
    clear hb1
    go_wp2
    go_ret2
    exact ⟨rfl, B1.out⟩
  by_cases p1 : p < 1
  · obtain ⟨rfl, rfl⟩ := neg (fun h => by have := h.2.2; omega)
    clear hct
    clear hbb hr neg hs hn
    go_enter Try.func21, Try.ntmps21
    go_wp2_with fail
    refine CO.out.mono ?_
    rintro e w1 ⟨rfl, hb1⟩
    have B1 := hide hb1
    clear hb1
    go_wp2
    go_ret2
    exact ⟨rfl, B1.out⟩
  by_cases p2 : 1000000 < p
  · obtain ⟨rfl, rfl⟩ := neg (fun h => by have := h.2.2; omega)
    clear hct
    clear hbb hr neg hs hn
    go_enter Try.func21, Try.ntmps21
    go_wp2_with fail
    refine CO.out.mono ?_
    rintro e w1 ⟨rfl, hb1⟩
    have B1 := hide hb1
    clear hb1
    go_wp2
    go_ret2
    exact ⟨rfl, B1.out⟩
  clear neg
  have hok : RateOk l p := ⟨hct, by omega, by omega, by omega⟩
  obtain rfl : bb = true := hbb.2 hok
  rw [show rateR l p = ris l n * p / (at_ l (n - 1) - at_ l 0) by unfold rateR; rw [if_pos hok, hn]] at hr
  obtain ⟨h40, hv, hrr⟩ := ctr_val hct hn
  have CR := hide (fun wx hs => rise_any a l n cap wx hn hs h40 hv hrr)
  have CL := hide (fun wx hs => last_any a l n cap wx hn hs hn2 (by omega))
  have CF := hide (fun wx hs => first_any a l n cap wx hn hs hn2 (by omega))
  have hx0 := hct.at_ (k := 0) (by omega)
  have hx1 := hct.at_ (k := n - 1) (by omega)
  have hlt := hct.mono (n - 1) 0 (by omega) (by omega)
  have hrn := hrr n (Nat.le_refl _)
  obtain ⟨s, hss⟩ : ∃ s, s = ris l n := ⟨_, rfl⟩
  obtain ⟨x0, hxx⟩ : ∃ x, x = at_ l 0 := ⟨_, rfl⟩
  obtain ⟨x1, hyy⟩ : ∃ y, y = at_ l (n - 1) := ⟨_, rfl⟩
  obtain ⟨y0, hy0⟩ : ∃ x, x = vl l 0 := ⟨_, rfl⟩
  obtain ⟨y1, hy1⟩ : ∃ y, y = vl l (n - 1) := ⟨_, rfl⟩
  rw [← hss, ← hxx, ← hyy] at hr
  rw [← hss] at CR hrn
  rw [← hxx] at CF hx0 hlt
  rw [← hyy] at CL hx1 hlt
  rw [← hy0] at CF
  rw [← hy1] at CL
  obtain ⟨b1, b2, b3, b4, b5⟩ := rate_bd (r := s) (p := p) (d := x1 - x0) hrn (by omega) (by omega)
  obtain ⟨A, hA⟩ : ∃ A, A = s * p := ⟨_, rfl⟩
  obtain ⟨D, hD⟩ : ∃ D, D = x1 - x0 := ⟨_, rfl⟩
  have hwD : IntKind.i64.wrap (x1 - x0) = D := by rw [hD]; exact wrap16 (by omega) (by omega)
  rw [← hA, ← hD] at b3 b4 b5 hr
  rw [← hA] at b1 b2
  have hwA : IntKind.i64.wrap (s * p) = A := by rw [← hA]; exact wrap16 (by omega) (by omega)
  have hwQ : IntKind.i64.wrap (Int.tdiv A D) = r := by rw [b5, hr]; exact wrap16 (by omega) (by omega)
  have hwQ2 : A / D = r := hr.symm
  have hD1 : 1 ≤ D := by omega
  have hD0 : ¬ D = 0 := by omega
  clear hss hxx hyy hy0 hy1 hA hr hs hbb hrr hv b5 b3 b4 hok hct hn hD
  go_enter Try.func21, Try.ntmps21
  go_wp2_with fail
  refine CO.out.mono ?_
  rintro e w1 ⟨rfl, hb1⟩
  have B1 := hide hb1
  obtain ⟨W0, hW0⟩ : ∃ W0, BoxR w1 a n cap W0 := ⟨_, rfl⟩
  have K0 := hide hW0.cell
  have HS0 := hide ((HS.out.below hb1).below hW0.below)
  have B0 := hide (hb1.trans (hW0.below.mono hb1.size))
  have HW := hide (show w1.alloc (.cells #[.slice a n cap] 47) = W0 from hW0)
  clear hb1 hW0
  go_upto_region 4 with fail
  rw [HW.out]
  refine wp_region_held_drew (S := (fun wx => (wx.cell? ⟨w1.heap.size, 0, none⟩ = some (.slice a n cap)) ∧ Below W0.heap.size W0 wx)) (by kernel_rfl) ⟨K0.out, (Below.refl _ _).drew⟩ (fun hHeld => ?_)
  refine wpAnyH_take (i := 0) (v := ?v1) rfl (by kernel_rfl) (by kernel_rfl) (by kernel_rfl) (fun _ _ _ h => h) (Or.inl ⟨by rfl, ?y1⟩) (by assumption) ?r1
  case y1 => (intro w hSw; (try dsimp only at hSw); go_simp; try (with_reducible rfl))
  simp only [List.getElem_toArray, List.getElem_cons_zero, Act.put, List.setIfInBounds_toArray, List.set_cons_zero, List.set_cons_succ]
  refine wpAnyH_take (i := 2) (v := ?v2) rfl (by kernel_rfl) (by kernel_rfl) (by kernel_rfl) (fun _ _ _ h => h) (Or.inl ⟨by rfl, ?y2⟩) (by assumption) ?r2
  case y2 => (intro w hSw; (try dsimp only at hSw); go_simp; try (with_reducible rfl))
  simp only [List.getElem_toArray, List.getElem_cons_succ, List.getElem_cons_zero, Act.put, List.setIfInBounds_toArray, List.set_cons_zero, List.set_cons_succ]
  refine wpAnyH_take (i := 4) (v := ?v3) rfl (by kernel_rfl) (by kernel_rfl) (by kernel_rfl) (fun _ _ _ h => h) (Or.inl ⟨by rfl, ?y3⟩) (by assumption) ?r3
  case y3 => (intro w hSw; (try dsimp only at hSw); go_simp; try (with_reducible rfl))
  simp only [List.getElem_toArray, List.getElem_cons_succ, List.getElem_cons_zero, Act.put, List.setIfInBounds_toArray, List.set_cons_zero, List.set_cons_succ]
  refine wpAnyH_take (i := 7) (v := ?v4) rfl (by kernel_rfl) (by kernel_rfl) (by kernel_rfl) (fun _ _ _ h => h) (Or.inl ⟨by rfl, ?y4⟩) (by assumption) ?r4
  case y4 => (intro w hSw; (try dsimp only at hSw); go_simp; try (with_reducible rfl))
  simp only [List.getElem_toArray, List.getElem_cons_succ, List.getElem_cons_zero, Act.put, List.setIfInBounds_toArray, List.set_cons_zero, List.set_cons_succ]
  refine wpAnyH_ready (rs := [1]) (by kernel_rfl) (by simp) ?_
  refine AllReadyH.cons rfl (fun K hK => ?_) AllReadyH.nil
  simp only [List.getElem_toArray, List.getElem_cons_succ, List.getElem_cons_zero]
  go_simp
  go_at_call 39
  refine (CR.out _ (HS0.out.below (Below.refl _ _).drew)).mono ?_
  rintro e w2 ⟨rfl, hb⟩
  have E1 := hide (show Below W0.heap.size W0 w2 from (Below.refl W0.heap.size W0).drew.trans (hb.mono (Nat.le_refl _)))
  clear hb
  dsimp only
  refine hK.out _ _ ?_ (fun hHeld => ?_)
  · exact ⟨(E1.out.cell (p := ⟨w1.heap.size, 0, none⟩) (blk_lt K0.out)).trans K0.out, E1.out⟩
  clear hK K
  try simp only [Act.put, List.setIfInBounds_toArray, List.set_cons_zero, List.set_cons_succ]
  refine wpAnyH_take (i := 3) (v := ?v5) rfl (by kernel_rfl) (by kernel_rfl) (by kernel_rfl) (fun _ _ _ h => h) (Or.inl ⟨by rfl, ?y5⟩) (by assumption) ?r5
  case y5 => (intro w hSw; (try dsimp only at hSw); go_simp; try (with_reducible rfl))
  simp only [List.getElem_toArray, List.getElem_cons_succ, List.getElem_cons_zero, Act.put, List.setIfInBounds_toArray, List.set_cons_zero, List.set_cons_succ]
  refine wpAnyH_ready (rs := [5]) (by kernel_rfl) (by simp) ?_
  refine AllReadyH.cons rfl (fun K hK => ?_) AllReadyH.nil
  simp only [List.getElem_toArray, List.getElem_cons_succ, List.getElem_cons_zero]
  go_simp
  go_at_call 40
  refine (CL.out _ (HS0.out.below E1.out)).mono ?_
  rintro e w3 ⟨rfl, hb⟩
  have E2 := hide (show Below W0.heap.size W0 w3 from E1.out.trans (hb.mono E1.out.size))
  clear hb
  dsimp only
  refine hK.out _ _ ?_ (fun hHeld => ?_)
  · exact ⟨(E2.out.cell (p := ⟨w1.heap.size, 0, none⟩) (blk_lt K0.out)).trans K0.out, E2.out⟩
  clear hK K
  try simp only [Act.put, List.setIfInBounds_toArray, List.set_cons_zero, List.set_cons_succ]
  refine wpAnyH_take (i := 6) (v := ?v6) rfl (by kernel_rfl) (by kernel_rfl) (by kernel_rfl) (fun _ _ _ h => h) (Or.inl ⟨by rfl, ?y6⟩) (by assumption) ?r6
  case y6 => (intro w hSw; (try dsimp only at hSw); go_simp; first | with_reducible rfl | rfl)
  simp only [List.getElem_toArray, List.getElem_cons_succ, List.getElem_cons_zero, Act.put, List.setIfInBounds_toArray, List.set_cons_zero, List.set_cons_succ]
  refine wpAnyH_ready (rs := [8]) (by kernel_rfl) (by simp) ?_
  refine AllReadyH.cons rfl (fun K hK => ?_) AllReadyH.nil
  simp only [List.getElem_toArray, List.getElem_cons_succ, List.getElem_cons_zero]
  go_simp
  go_at_call 41
  refine (CF.out _ (HS0.out.below E2.out)).mono ?_
  rintro e w4 ⟨rfl, hb⟩
  have E3 := hide (show Below W0.heap.size W0 w4 from E2.out.trans (hb.mono E2.out.size))
  clear hb
  dsimp only
  refine hK.out _ _ ?_ (fun hHeld => ?_)
  · exact ⟨(E3.out.cell (p := ⟨w1.heap.size, 0, none⟩) (blk_lt K0.out)).trans K0.out, E3.out⟩
  clear hK K
  try simp only [Act.put, List.setIfInBounds_toArray, List.set_cons_zero, List.set_cons_succ]
  refine wpAnyH_take (i := 9) (v := ?v7) rfl (by kernel_rfl) (by kernel_rfl) (by kernel_rfl) (fun _ _ _ h => h) (Or.inl ⟨by rfl, ?y7⟩) (by assumption) ?r7
  case y7 => (intro w hSw; (try dsimp only at hSw); go_simp; first | with_reducible rfl | rfl)
  simp only [List.getElem_toArray, List.getElem_cons_succ, List.getElem_cons_zero, Act.put, List.setIfInBounds_toArray, List.set_cons_zero, List.set_cons_succ]
  refine wpAnyH_take (i := 10) (v := ?v8) rfl (by kernel_rfl) (by kernel_rfl) (by kernel_rfl) (fun _ _ _ h => h) (Or.inl ⟨by rfl, ?y8⟩) (by assumption) ?r8
  case y8 => (intro w hSw; (try dsimp only at hSw); go_simp; try (with_reducible rfl))
  simp only [List.getElem_toArray, List.getElem_cons_succ, List.getElem_cons_zero, Act.put, List.setIfInBounds_toArray, List.set_cons_zero, List.set_cons_succ]
  refine wpAnyH_take (i := 11) (v := ?v9) rfl (by kernel_rfl) (by kernel_rfl) (by kernel_rfl) (fun _ _ _ h => h) (Or.inl ⟨by rfl, ?y9⟩) (by assumption) ?r9
  case y9 => (intro w hSw; (try dsimp only at hSw); go_simp; try (with_reducible rfl))
  simp only [List.getElem_toArray, List.getElem_cons_succ, List.getElem_cons_zero, Act.put, List.setIfInBounds_toArray, List.set_cons_zero, List.set_cons_succ]
  refine wpAnyH_take (i := 12) (v := ?v10) rfl (by kernel_rfl) (by kernel_rfl) (by kernel_rfl) (fun _ _ _ h => h) (Or.inl ⟨by rfl, ?y10⟩) (by assumption) ?r10
  case y10 => (intro w hSw; (try dsimp only at hSw); go_simp; try (with_reducible rfl))
  simp only [List.getElem_toArray, List.getElem_cons_succ, List.getElem_cons_zero, Act.put, List.setIfInBounds_toArray, List.set_cons_zero, List.set_cons_succ]
  refine wpAnyH_take (i := 13) (v := ?v11) rfl (by kernel_rfl) (by kernel_rfl) (by kernel_rfl) (fun _ _ _ h => h) (Or.inl ⟨by rfl, ?y11⟩) (by assumption) ?r11
  case y11 => (intro w hSw; (try dsimp only at hSw); go_simp; try (with_reducible rfl))
  simp only [List.getElem_toArray, List.getElem_cons_succ, List.getElem_cons_zero, Act.put, List.setIfInBounds_toArray, List.set_cons_zero, List.set_cons_succ]
  refine wpAnyH_done (by kernel_rfl) ?_ _
  clear hHeld
  go_wp2
  go_ret2
  exact ⟨rfl, B0.out.trans (E3.out.mono B0.out.size)⟩
end Go.Proofs.Yticgejaaoamhmap.L16
