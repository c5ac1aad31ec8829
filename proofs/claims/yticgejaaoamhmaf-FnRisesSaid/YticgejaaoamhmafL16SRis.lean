/-
  Contracts: of the model how much a counter rose, how often it began anew: spec.RiseOf, spec.ResetsIn with what they call.
-/
import Derived.Test.YticgejaaoamhmafL16SRi
import Derived.Test.YticgejaaoamhmafL16Ris
namespace Go.Proofs.Yticgejaaoamhmaf.L16
open Go.RowKit L1
set_option linter.unusedVariables false

set_option maxRecDepth 100000 in
set_option maxHeartbeats 1000000 in
theorem sRiseOf_any (a : Option Addr) (l : List (Int × Int)) (n cap : Nat) (w : World) (hn : l.length = n) (hs : Sl2 w a l) (hn2 : n ≤ 1048576) (r : Int) (hr : r = risR l) (bb : Bool) (hbb : bb = true ↔ Ctr l) :
    Calls Try.prog 8 #[.slice a n cap] w fun e w' => e = .returned (.tuple #[.int .i64 r, .bool bb]) ∧ Below w.heap.size w w' := by
  have CO := hide (sCounterOk_any a l n cap w hn hs hn2 bb hbb)
  have HS := hide hs
  cases hq : bb with
  | true =>
    have hc : Ctr l := hbb.1 hq
    obtain ⟨h40, hv, hrr⟩ := ctr_val hc hn
    have CR := hide (fun wx hs => l16Rise_any a l n cap wx (Nat.le_of_eq hn.symm) hs h40 hv hrr r (by rw [hr]; unfold risR; rw [if_pos hc, hn]))
    subst hq
    clear hbb hr hs hn hc hv hrr
    go_enter Try.func8, Try.ntmps8
    go_wp2_with fail
    refine CO.out.mono ?_
    rintro e w1 ⟨rfl, hb1⟩
    have B1 := hide hb1
    clear hb1
    go_wp2_with fail
    refine (CR.out _ (HS.out.below B1.out)).mono ?_
    rintro e w2 ⟨rfl, q, rfl⟩
    go_wp2
    refine bodyPost_ret (v := .tuple #[.int .i64 r, .bool true]) (by simp [results, Try.f8, go_sem]) rfl ⟨rfl, below_drew16 B1.out _⟩
  | false =>
    have hc : ¬ Ctr l := fun h => by have := hbb.2 h; rw [hq] at this; cases this
    have HRR := hide (show r = 0 by rw [hr]; unfold risR; rw [if_neg hc])
    subst hq
    clear hbb hr hs hn hc
    go_enter Try.func8, Try.ntmps8
    go_wp2_with fail
    refine CO.out.mono ?_
    rintro e w1 ⟨rfl, hb1⟩
    have B1 := hide hb1
    clear hb1
    go_wp2
    refine bodyPost_ret (v := .tuple #[.int .i64 0, .bool false]) (by simp [results, Try.f8, go_sem]) rfl ⟨by rw [HRR.out], B1.out⟩
set_option maxRecDepth 100000 in
set_option maxHeartbeats 1000000 in
theorem sResetsIn_any (a : Option Addr) (l : List (Int × Int)) (n cap : Nat) (w : World) (hn : l.length = n) (hs : Sl2 w a l) (hn2 : n ≤ 1048576) (r : Int) (hr : r = rstR l) (bb : Bool) (hbb : bb = true ↔ Ctr l) :
    Calls Try.prog 10 #[.slice a n cap] w fun e w' => e = .returned (.tuple #[.int .i64 r, .bool bb]) ∧ Below w.heap.size w w' := by
  have CO := hide (sCounterOk_any a l n cap w hn hs hn2 bb hbb)
  have HS := hide hs
  have HN := hide hn
  cases hq : bb with
  | true =>
    have hc : Ctr l := hbb.1 hq
    obtain ⟨h40, hv, hrr⟩ := ctr_val hc hn
    have HRR := hide (show r = rst l n by rw [hr]; unfold rstR; rw [if_pos hc, hn])
    subst hq
    clear hbb hr hs hn hc hv hrr
    go_enter Try.func10, Try.ntmps10
    go_wp2_with fail
    refine CO.out.mono ?_
    rintro e w1 ⟨rfl, hb1⟩
    have B1 := hide hb1
    have HS1 := hide (HS.out.below hb1)
    clear hb1
    go_upto_region 5 with fail
    go_loopw [4, 5] (fun s i wr => ∃ k : Nat, 0 < k ∧ (k ≤ n ∨ k = 1) ∧ i = .int .i64 k ∧ s = .int .i64 (rst l k) ∧ Hid (∃ q, wr = w1.drewN q)) (fun _ i _ => n - (intOf i).toNat)
    case atStart => exact ⟨1, Nat.one_pos, .inr rfl, rfl, by rw [rst_one], 0, rfl⟩
    case round =>
      obtain ⟨k, hk0, hk, rfl, rfl, HD⟩ := hrel
      by_cases hlt : k < n
      · obtain ⟨b, off, rfl, _, hy0⟩ := sl2_at HS1.out (k := k) (by rw [HN.out]; omega)
        obtain ⟨b', off', e, _, hx0⟩ := sl2_at HS1.out (k := k - 1) (by rw [HN.out]; omega)
        cases e
        have hltI : (k : Int) < (n : Int) := by omega
        have hsu := rst_succ l hk0
        have hr1 := rst_bd l k
        obtain ⟨r', hrr⟩ : ∃ r', r' = k - 1 := ⟨_, rfl⟩
        rw [← hrr] at hx0 hsu
        have hr1x : (k : Int) - 1 = (r' : Int) := by omega
        have hrw : IntKind.i64.wrap ((k : Int) - 1) = (r' : Int) := by rw [hr1x]; exact wrap16 (by omega) (by omega)
        have hrn : (r' : Int) < (n : Int) := by omega
        have hrw2 : IntKind.i64.wrap (r' : Int) = (r' : Int) := wrap16 (by omega) (by omega)
        obtain ⟨x, hxx⟩ : ∃ x, x = vl l r' := ⟨_, rfl⟩
        obtain ⟨y, hyy⟩ : ∃ y, y = vl l k := ⟨_, rfl⟩
        obtain ⟨s, hss⟩ : ∃ s, s = rst l k := ⟨_, rfl⟩
        rw [← hxx] at hx0 hsu
        rw [← hyy] at hy0 hsu
        rw [← hss] at hsu hr1
        rw [← hss]

        have hx := drew_cell HD.out hx0
        have hy := drew_cell HD.out hy0
        have hw : IntKind.i64.wrap (s + 1) = s + 1 := wrap16 (by omega) (by omega)
        by_cases hyx : y < x
        · rw [if_pos hyx] at hsu
          have HT := hide hsu
          clear hss hsu hr1 hrr hxx hyy hx0 hy0
          go_wp2
          go_quiet (fail)
          go_wp2
          go_roundw
          case rel => exact ⟨k + 1, by omega, .inl (by omega), by go_num, by rw [HT.out], drew_more HD.out _⟩
          case measure => simp [intOf]; omega
        · rw [if_neg hyx] at hsu
          have HT := hide hsu
          clear hss hsu hr1 hrr hxx hyy hx0 hy0
          go_wp2
          go_quiet (fail)
          go_wp2
          go_roundw
          case rel => exact ⟨k + 1, by omega, .inl (by omega), by go_num, by rw [HT.out]; simp, drew_more HD.out _⟩
          case measure => simp [intOf]; omega
      · have hltI : ¬ (k : Int) < (n : Int) := by omega
        have e : rst l k = rst l n := by
          rcases hk with h | h
          · rw [show k = n by omega]
          · subst h
            have : n = 0 ∨ n = 1 := by omega
            rcases this with h | h
            · subst h; rw [rst_one]; rfl
            · subst h; rfl
        rw [e, ← HRR.out]
        clear e
        go_wp2
        refine bodyPost_ret (v := .tuple #[.int .i64 r, .bool true]) (by simp [results, Try.f10, go_sem]) rfl ⟨rfl, drew_below B1.out HD.out⟩
  | false =>
    have hc : ¬ Ctr l := fun h => by have := hbb.2 h; rw [hq] at this; cases this
    have HRR := hide (show r = 0 by rw [hr]; unfold rstR; rw [if_neg hc])
    subst hq
    clear hbb hr hs hn hc
    go_enter Try.func10, Try.ntmps10
    go_wp2_with fail
    refine CO.out.mono ?_
    rintro e w1 ⟨rfl, hb1⟩
    have B1 := hide hb1
    clear hb1
    go_wp2
    refine bodyPost_ret (v := .tuple #[.int .i64 0, .bool false]) (by simp [results, Try.f10, go_sem]) rfl ⟨by rw [HRR.out], B1.out⟩
end Go.Proofs.Yticgejaaoamhmaf.L16
