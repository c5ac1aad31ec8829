/-
  Contracts: spec.RateOf with spec.l16Size.
-/
import Derived.Test.YticgejaaoamhmapL16SSz
import Derived.Test.YticgejaaoamhmapL16SRi
import Derived.Test.YticgejaaoamhmapL16Rate
namespace Go.Proofs.Yticgejaaoamhmap.L16
open Go.RowKit L1
set_option linter.unusedVariables false

set_option maxRecDepth 100000 in
set_option maxHeartbeats 2000000 in
theorem sRateOf_any (a : Option Addr) (l : List (Int × Int)) (n cap : Nat) (p : Int) (w : World) (hn : l.length = n) (hs : Sl2 w a l) (hn2 : n ≤ 1048576) (r : Int) (hr : r = rateR l p) (bb : Bool) (hbb : bb = true ↔ RateOk l p) :
    Calls Try.prog 20 #[.slice a n cap, .int .i64 p] w fun e w' => e = .returned (.tuple #[.int .i64 r, .bool bb]) ∧ Below w.heap.size w w' := by
  obtain ⟨c, hc⟩ : ∃ c : Bool, c = true ↔ Ctr l := by classical exact ⟨decide (Ctr l), by simp⟩
  obtain ⟨z, hz⟩ : ∃ z : Bool, z = true ↔ 1 ≤ p ∧ p ≤ 1000000 := ⟨decide (1 ≤ p ∧ p ≤ 1000000), by simp⟩
  have CO := hide (sCounterOk_any a l n cap w hn hs hn2 c hc)
  have CZ := hide (fun wx => l16Size_any p wx z hz)
  have HS := hide hs
  have neg : ¬ RateOk l p → r = 0 ∧ bb = false := fun h => ⟨by rw [hr]; unfold rateR; rw [if_neg h], bool_no hbb h⟩
  cases hq : c with
  | false =>
    obtain ⟨rfl, rfl⟩ := neg (fun h => by have := hc.2 h.1; rw [hq] at this; cases this)
    subst hq
    clear hc hz
    clear hbb hr neg hs hn
    go_enter Try.func20, Try.ntmps20
    go_wp2_with fail
    refine CO.out.mono ?_
    rintro e w1 ⟨rfl, hb1⟩
    have B1 := hide hb1
    clear hb1
    go_wp2
    go_ret2
    exact ⟨rfl, B1.out⟩
  | true =>
  have hct := hc.1 hq
  subst hq
  clear hc
  cases hq : z with
  | false =>
    obtain ⟨rfl, rfl⟩ := neg (fun h => by have := hz.2 h.2.2; rw [hq] at this; cases this)
    subst hq
    clear hz hct
    clear hbb hr neg hs hn
    go_enter Try.func20, Try.ntmps20
    go_wp2_with fail
    refine CO.out.mono ?_
    rintro e w1 ⟨rfl, hb1⟩
    have B1 := hide hb1
    clear hb1
    go_wp2_with fail
    refine (CZ.out _).mono ?_
    rintro e w2 ⟨rfl, rfl⟩
    go_wp2
    go_ret2
    exact ⟨rfl, B1.out⟩
  | true =>
  have hp := hz.1 hq
  subst hq
  clear hz
  by_cases h2 : (n : Int) < 2
  · obtain ⟨rfl, rfl⟩ := neg (fun h => by have := h.2.1; omega)
    clear hct
    clear hbb hr neg hs hn
    go_enter Try.func20, Try.ntmps20
    go_wp2_with fail
    refine CO.out.mono ?_
    rintro e w1 ⟨rfl, hb1⟩
    have B1 := hide hb1
    clear hb1
    go_wp2_with fail
    refine (CZ.out _).mono ?_
    rintro e w2 ⟨rfl, rfl⟩
    go_wp2
    go_ret2
    exact ⟨rfl, B1.out⟩
  clear neg
  have hok : RateOk l p := ⟨hct, by omega, hp.1, hp.2⟩
  obtain rfl : bb = true := hbb.2 hok
  rw [show rateR l p = ris l n * p / (at_ l (n - 1) - at_ l 0) by unfold rateR; rw [if_pos hok, hn]] at hr
  obtain ⟨h40, hv, hrr⟩ := ctr_val hct hn
  obtain ⟨s, hss⟩ : ∃ s, s = ris l n := ⟨_, rfl⟩
  have CR := hide (fun a wx hs => l16Rise_any a l n cap wx (Nat.le_of_eq hn.symm) hs h40 hv hrr s hss)
  obtain ⟨b, off, rfl, hc0, _⟩ := sl2_at hs (k := 0) (by omega)
  obtain ⟨b', off', e, hc1, _⟩ := sl2_at hs (k := n - 1) (by omega)
  cases e
  try simp only [Nat.zero_mul, Nat.add_zero] at hc0
  have hx0 := hct.at_ (k := 0) (by omega)
  have hx1 := hct.at_ (k := n - 1) (by omega)
  have hlt := hct.mono (n - 1) 0 (by omega) (by omega)
  have hrn := hrr n (Nat.le_refl _)
  obtain ⟨x0, hxx⟩ : ∃ x, x = at_ l 0 := ⟨_, rfl⟩
  obtain ⟨x1, hyy⟩ : ∃ y, y = at_ l (n - 1) := ⟨_, rfl⟩
  rw [← hss, ← hxx, ← hyy] at hr
  rw [← hss] at hrn
  rw [← hxx] at hx0 hlt hc0
  rw [← hyy] at hx1 hlt hc1
  obtain ⟨b1, b2, b3, b4, b5⟩ := rate_bd (r := s) (p := p) (d := x1 - x0) hrn (by omega) (by omega)
  obtain ⟨A, hA⟩ : ∃ A, A = s * p := ⟨_, rfl⟩
  obtain ⟨D, hD⟩ : ∃ D, D = x1 - x0 := ⟨_, rfl⟩
  have hwD : IntKind.i64.wrap (x1 - x0) = D := by rw [hD]; exact wrap16 (by omega) (by omega)
  rw [← hA, ← hD] at b3 b4 b5 hr
  rw [← hA] at b1 b2
  have hwA : IntKind.i64.wrap (s * p) = A := by rw [← hA]; exact wrap16 (by omega) (by omega)
  have hwQ : IntKind.i64.wrap (Int.tdiv A D) = r := by rw [b5, hr]; exact wrap16 (by omega) (by omega)
  have hwQ2 : A / D = r := hr.symm
  have hD1 : 1 ≤ D := by omega
  have hD0 : ¬ D = 0 := by omega
  obtain ⟨t, ht⟩ : ∃ t, t = n - 1 := ⟨_, rfl⟩
  rw [← ht] at hc1
  have hr1 : (n : Int) - 1 = (t : Int) := by omega
  have hrw2 : IntKind.i64.wrap (t : Int) = (t : Int) := wrap16 (by omega) (by omega)
  have htn : (t : Int) < (n : Int) := by omega
  have h0n : (0 : Int) < (n : Int) := by omega
  have H0 := hide hc0
  have H1 := hide hc1
  clear hss hxx hyy hA hr hs hbb hrr hv b5 b3 b4 hok hct hn hD ht hc0 hc1 hp
  go_enter Try.func20, Try.ntmps20
  go_wp2_with fail
  refine CO.out.mono ?_
  rintro e w1 ⟨rfl, hb1⟩
  have B1 := hide hb1
  have hc0 := (hb1.cell (p := ⟨b, off, none⟩) (blk_lt H0.out)).trans H0.out
  have hc1 := (hb1.cell (p := ⟨b, off + t * 2, none⟩) (blk_lt H1.out)).trans H1.out
  have HS0 := hide (HS.out.below hb1)
  clear hb1
  go_wp2_with fail
  refine (CZ.out _).mono ?_
  rintro e w2 ⟨rfl, rfl⟩
  go_upto_region 3 with fail
  go_quiet (first | (go_at_call 27; refine Calls.quiet_of (CR.out _ _ (HS0.out.below (below_drew16 (Below.refl _ _) _)))) | fail)
  go_wp2
  go_ret2
  exact ⟨rfl, below_drew16 B1.out _⟩
end Go.Proofs.Yticgejaaoamhmap.L16
