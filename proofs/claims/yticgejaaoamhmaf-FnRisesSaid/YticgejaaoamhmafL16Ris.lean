/-
  Contracts: of the program how much a counter rose, how often it began anew: impl.RiseOf, impl.ResetsIn with what they call.
-/
import Derived.Test.YticgejaaoamhmafL16RisA
import Derived.Test.YticgejaaoamhmafL16Box
import Derived.Test.YticgejaaoamhmafL16Ctr
import Derived.Deep.Cut
namespace Go.Proofs.Yticgejaaoamhmaf.L16
open Go.RowKit L1
set_option linter.unusedVariables false

set_option maxRecDepth 100000 in
set_option maxHeartbeats 1000000 in
theorem resets_any (a : Option Addr) (l : List (Int × Int)) (n cap : Nat) (w : World) (hn : l.length = n) (hs : Sl2 w a l) (h40 : n ≤ 40) :
    Calls Try.prog 36 #[.agg #[.slice a n cap]] w fun e w' => e = .returned (.int .i64 (rst l n)) ∧ Below w.heap.size w w' := by
  obtain ⟨W0, hW0⟩ : ∃ W0, BoxR w a n cap W0 := ⟨_, rfl⟩
  have K0 := hide hW0.cell
  have B0 := hide hW0.below
  have HW := hide (show w.alloc (.cells #[.slice a n cap] 56) = W0 from hW0)
  have HS := hide (hs.below hW0.below)
  have HN := hide hn
  clear hW0 hs hn
  go_enter Try.func36, Try.ntmps36
  go_upto_region 3 with fail
  rw [HW.out]
  go_loopw [3, 4] (fun s i wr => ∃ k : Nat, 0 < k ∧ (k ≤ n ∨ k = 1) ∧ i = .int .i64 k ∧ s = .int .i64 (rst l k) ∧ Hid (Below W0.heap.size W0 wr)) (fun _ i _ => n - (intOf i).toNat)
  case atStart => exact ⟨1, Nat.one_pos, .inr rfl, rfl, by rw [rst_one], Below.refl _ _⟩
  case round =>
    obtain ⟨k, hk0, hk, rfl, rfl, BW⟩ := hrel
    have k1 := (BW.out.cell (p := ⟨w.heap.size, 0, none⟩) (blk_lt K0.out)).trans K0.out
    by_cases hlt : k < n
    · have hltI : (k : Int) < (n : Int) := by omega
      have hsu := rst_succ l hk0
      have hr1 := rst_bd l k
      obtain ⟨bb, hbb⟩ : ∃ bb, bb = decide (vl l k < vl l (k - 1)) := ⟨_, rfl⟩
      have CA := hide (fun wx hs => isReset_any a l n cap k wx HN.out hs (by omega) hk0 hlt bb hbb)
      obtain ⟨s, hss⟩ : ∃ s, s = rst l k := ⟨_, rfl⟩
      rw [← hss] at hsu
      rw [← hss] at hr1
      rw [← hss]
      have hw : IntKind.i64.wrap (s + 1) = s + 1 := wrap16 (by omega) (by omega)
      cases hq : bb with
      | true =>
        rw [if_pos (by rw [hq] at hbb; exact of_decide_eq_true hbb.symm)] at hsu
        have HT := hide hsu
        subst hq
        clear hss hsu hr1 hbb
        go_wp2_with fail
        refine (CA.out _ (HS.out.below BW.out)).mono ?_
        rintro e w1 ⟨rfl, hb1⟩
        have B1 := hide (BW.out.trans (hb1.mono BW.out.size))
        clear hb1 k1
        go_wp2
        go_roundw
        case rel => exact ⟨k + 1, by omega, .inl (by omega), by go_num, by rw [HT.out], B1.out⟩
        case measure => simp [intOf]; omega
      | false =>
        rw [if_neg (by rw [hq] at hbb; exact of_decide_eq_false hbb.symm)] at hsu
        have HT := hide hsu
        subst hq
        clear hss hsu hr1 hbb
        go_wp2_with fail
        refine (CA.out _ (HS.out.below BW.out)).mono ?_
        rintro e w1 ⟨rfl, hb1⟩
        have B1 := hide (BW.out.trans (hb1.mono BW.out.size))
        clear hb1 k1
        go_wp2
        go_roundw
        case rel => exact ⟨k + 1, by omega, .inl (by omega), by go_num, by rw [HT.out]; simp, B1.out⟩
        case measure => simp [intOf]; omega
    · have hltI : ¬ (k : Int) < (n : Int) := by omega
      have e : rst l k = rst l n := by
        rcases hk with h | h
        · rw [show k = n by omega]
        · subst h
          have : n = 0 ∨ n = 1 := by omega
          rcases this with h | h
          · subst h; rw [rst_one]; rfl
          · subst h; rfl
      rw [e]
      obtain ⟨s, hss⟩ : ∃ s, s = rst l n := ⟨_, rfl⟩
      rw [← hss]
      have HSS := hide hss
      have B1 := hide (B0.out.trans (BW.out.mono B0.out.size))
      clear e hss
      go_wp2
      go_ret
      exact ⟨by rw [← HSS.out]; rfl, B1.out⟩
set_option maxRecDepth 100000 in
set_option maxHeartbeats 1000000 in
theorem riseOf_any (a : Option Addr) (l : List (Int × Int)) (n cap : Nat) (w : World) (hn : l.length = n) (hs : Sl2 w a l) (hn2 : n ≤ 1048576) (r : Int) (hr : r = risR l) (bb : Bool) (hbb : bb = true ↔ Ctr l) :
    Calls Try.prog 7 #[.slice a n cap] w fun e w' => e = .returned (.tuple #[.int .i64 r, .bool bb]) ∧ Below w.heap.size w w' := by
  have CO := hide (counterOk_any a l n cap w hn hs hn2 bb hbb)
  have HS := hide hs
  cases hq : bb with
  | true =>
    have hc : Ctr l := hbb.1 hq
    obtain ⟨h40, hv, hrr⟩ := ctr_val hc hn
    have CR := hide (fun wx hs => rise_any a l n cap wx hn hs h40 hv hrr)
    have HRR := hide (show r = ris l n by rw [hr]; unfold risR; rw [if_pos hc, hn])
    subst hq
    clear hbb hr hs hn hc hv hrr
    go_enter Try.func7, Try.ntmps7
    go_wp2_with fail
    refine CO.out.mono ?_
    rintro e w1 ⟨rfl, hb1⟩
    have B1 := hide hb1
    clear hb1
    go_wp2_with fail
    refine (CR.out _ (HS.out.below B1.out)).mono ?_
    rintro e w2 ⟨rfl, hb2⟩
    have B2 := hide (B1.out.trans (hb2.mono B1.out.size))
    clear hb2
    go_wp2
    refine bodyPost_ret (v := .tuple #[.int .i64 (ris l n), .bool true]) (by simp [results, Try.f7, go_sem]) rfl ⟨by rw [HRR.out], B2.out⟩
  | false =>
    have hc : ¬ Ctr l := fun h => by have := hbb.2 h; rw [hq] at this; cases this
    have HRR := hide (show r = 0 by rw [hr]; unfold risR; rw [if_neg hc])
    subst hq
    clear hbb hr hs hn hc
    go_enter Try.func7, Try.ntmps7
    go_wp2_with fail
    refine CO.out.mono ?_
    rintro e w1 ⟨rfl, hb1⟩
    have B1 := hide hb1
    clear hb1
    go_wp2
    refine bodyPost_ret (v := .tuple #[.int .i64 0, .bool false]) (by simp [results, Try.f7, go_sem]) rfl ⟨by rw [HRR.out], B1.out⟩
set_option maxRecDepth 100000 in
set_option maxHeartbeats 1000000 in
theorem resetsIn_any (a : Option Addr) (l : List (Int × Int)) (n cap : Nat) (w : World) (hn : l.length = n) (hs : Sl2 w a l) (hn2 : n ≤ 1048576) (r : Int) (hr : r = rstR l) (bb : Bool) (hbb : bb = true ↔ Ctr l) :
    Calls Try.prog 9 #[.slice a n cap] w fun e w' => e = .returned (.tuple #[.int .i64 r, .bool bb]) ∧ Below w.heap.size w w' := by
  have CO := hide (counterOk_any a l n cap w hn hs hn2 bb hbb)
  have HS := hide hs
  cases hq : bb with
  | true =>
    have hc : Ctr l := hbb.1 hq
    obtain ⟨h40, hv, hrr⟩ := ctr_val hc hn
    have CR := hide (fun wx hs => resets_any a l n cap wx hn hs h40)
    have HRR := hide (show r = rst l n by rw [hr]; unfold rstR; rw [if_pos hc, hn])
    subst hq
    clear hbb hr hs hn hc hv hrr
    go_enter Try.func9, Try.ntmps9
    go_wp2_with fail
    refine CO.out.mono ?_
    rintro e w1 ⟨rfl, hb1⟩
    have B1 := hide hb1
    clear hb1
    go_wp2_with fail
    refine (CR.out _ (HS.out.below B1.out)).mono ?_
    rintro e w2 ⟨rfl, hb2⟩
    have B2 := hide (B1.out.trans (hb2.mono B1.out.size))
    clear hb2
    go_wp2
    refine bodyPost_ret (v := .tuple #[.int .i64 (rst l n), .bool true]) (by simp [results, Try.f9, go_sem]) rfl ⟨by rw [HRR.out], B2.out⟩
  | false =>
    have hc : ¬ Ctr l := fun h => by have := hbb.2 h; rw [hq] at this; cases this
    have HRR := hide (show r = 0 by rw [hr]; unfold rstR; rw [if_neg hc])
    subst hq
    clear hbb hr hs hn hc
    go_enter Try.func9, Try.ntmps9
    go_wp2_with fail
    refine CO.out.mono ?_
    rintro e w1 ⟨rfl, hb1⟩
    have B1 := hide hb1
    clear hb1
    go_wp2
    refine bodyPost_ret (v := .tuple #[.int .i64 0, .bool false]) (by simp [results, Try.f9, go_sem]) rfl ⟨by rw [HRR.out], B1.out⟩
end Go.Proofs.Yticgejaaoamhmaf.L16
