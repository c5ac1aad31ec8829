/-
  Contract: spec.GoodSketch.
-/
import Derived.Test.YtfmfnlpajoikmanL15Good
import Derived.Deep.DeepCutAuto
import Derived.Deep.QuietTactic
import Derived.BigQuiet
namespace Go.Proofs.Ytfmfnlpajoikman.L15
open Go.RowKit L1 Own Sli
set_option linter.unusedVariables false

theorem calls_symm {P : Program} {f : FuncId} {args : Array Value} {w : World} {v : Value} (h : Calls P f args w fun e w' => e = .returned v ∧ w = w') : Calls P f args w fun e w' => e = .returned v ∧ w' = w := h.mono fun _ _ ⟨a, b⟩ => ⟨a, b.symm⟩
set_option maxRecDepth 100000 in
set_option maxHeartbeats 4000000 in
theorem specGoodSketch_any (a : Option Addr) (L : List (List Int)) (n cap : Nat) (T : Int) (w : World) (hn : L.length = n) (hn2 : n ≤ 1048576) (hs : SlSI w a L) (hsz : ∀ i, i < L.length → (L.getD i []).length ≤ 1048576) (bb : Bool) (hbb : bb = true ↔ GoodS L T) :
    Calls Try.prog 32 #[.agg #[.slice a n cap, .int .i64 T]] w fun e w' => e = .returned (.bool bb) ∧ Below w.heap.size w w' := by
  have BX := (Below.refl w.heap.size w).alloc (Nat.le_refl _) (.cells #[.slice a n cap, .int .i64 T] 26 (0, 0))
  have g0 := L8.blk_new w (.cells #[.slice a n cap, .int .i64 T] 26 (0, 0))
  obtain ⟨W0, hW0⟩ : ∃ W0, W0 = w.alloc (.cells #[.slice a n cap, .int .i64 T] 26 (0, 0)) := ⟨_, rfl⟩
  rw [← hW0] at BX g0
  obtain ⟨k0, k1, _, _⟩ := blkp g0
  have HK : Hid (W0.cell? ⟨w.heap.size, 0, none⟩ = some (.slice a n cap) ∧ W0.cell? ⟨w.heap.size, 1, none⟩ = some (.int .i64 T)) := hide ⟨k0, k1⟩
  have HW := hide hW0
  have HS := hide (hs.below BX)
  have B0 := hide BX
  have HN := hide hn
  have HBB := hide hbb
  have HSZ := hide hsz
  clear hbb hs hsz hn BX g0 hW0
  go_enter Try.func32, Try.ntmps32
  go_upto_region 1 with fail
  rw [← HW.out]
  go_wp2
  clear k0 k1
  go_loopw [8] (fun t wr => ∃ k : Nat, k ≤ n ∧ t = .int .i64 k ∧ Hid (∀ j, j < k → RowOk (gi L j) ∧ sm (gi L j) 11 = T) ∧ Hid (Below W0.heap.size W0 wr)) (fun t _ => n - (intOf t).toNat)
  case atStart => exact ⟨0, Nat.zero_le _, rfl, fun j hj => absurd hj (Nat.not_lt_zero _), Below.refl _ _⟩
  case round =>
    obtain ⟨k, hk, rfl, HJ, HD⟩ := hrel
    have k0 : wr.cell? ⟨w.heap.size, 0, none⟩ = some (.slice a n cap) := (HD.out.cell (p := ⟨w.heap.size, 0, none⟩) (blk_ltO HK.out.1)).trans HK.out.1
    have k1 : wr.cell? ⟨w.heap.size, 1, none⟩ = some (.int .i64 T) := (HD.out.cell (p := ⟨w.heap.size, 1, none⟩) (blk_ltO HK.out.2)).trans HK.out.2
    by_cases hlt : k < n
    · have hS := HS.out.below HD.out
      obtain ⟨b, off, rfl, ai, ci, hcell, hsl⟩ := hS k (by rw [HN.out]; exact hlt)
      have hltI : (k : Int) < (n : Int) := by omega
      have hz := HSZ.out k (by rw [HN.out]; exact hlt)
      obtain ⟨l, hl⟩ : ∃ l, l = L.getD k [] := ⟨_, rfl⟩
      rw [← hl] at hcell hsl hz
      obtain ⟨m, hm⟩ : ∃ m, m = l.length := ⟨_, rfl⟩
      rw [← hm] at hcell hz
      have HL := hide hl
      have HM := hide hm
      have HSL := hide hsl
      clear hl hm hsl hS
      by_cases h11 : m = 11
      rotate_left
      · have hd : ((m : Int) != 11) = true := by simp; omega
        have E : Hid (bb = false) := hide (bool_no15 HBB.out (fun g => h11 (by rw [HM.out, HL.out]; exact (g.2 k (by rw [HN.out]; exact hlt)).1.1)))
        go_upto_region 4 with fail
        go_quiet (fail)
        go_wp2
        go_ret
        exact ⟨by rw [E.out]; rfl, below_drewG (B0.out.trans (HD.out.mono B0.out.size)) _⟩
      · subst h11
        obtain ⟨ok, hok⟩ := dec_ex15 (∀ j, j < 11 → 0 ≤ l.getD j 0 ∧ l.getD j 0 ≤ 100000)
        have CA := hide (fun qq => calls_symm (l1All_any ai l 11 ci 0 100000 (wr.drewN qq) HM.out.symm (HSL.out.below (below_drewG (Below.refl _ _) qq)) (by omega) ok hok))
        have HOK := hide hok
        clear hok
        cases ok with
        | false =>
          have E : Hid (bb = false) := hide (bool_no15 HBB.out (fun g => by
            have := HOK.out.2 (fun j hj => by rw [HL.out]; exact (g.2 k (by rw [HN.out]; exact hlt)).1.2 j (by omega))
            cases this))
          go_upto_region 4 with fail
          go_quiet (first | (go_at_call 62; refine Calls.quiet_of_same (CA.out _)) | fail)
          go_wp2
          go_ret
          exact ⟨by rw [E.out]; rfl, below_drewG (B0.out.trans (HD.out.mono B0.out.size)) _⟩
        | true =>
          have hR : RowOk l := ⟨HM.out.symm, fun j hj => HOK.out.1 rfl j hj⟩
          obtain ⟨r, hr⟩ : ∃ r, r = sm l 11 := ⟨_, rfl⟩
          have CS := hide (fun qq => calls_symm (l12Sum_any ai l 11 ci (wr.drewN qq) HM.out.symm (HSL.out.below (below_drewG (Below.refl _ _) qq)) hR.sml r hr))
          have HR := hide hR
          have HRR : Hid (r = sm l 11) := hide hr
          clear hR hr
          by_cases hT : r = T
          · have hT2 : (r != T) = false := by simp [hT]
            have HX : Hid (RowOk (gi L k) ∧ sm (gi L k) 11 = T) := hide ⟨by show RowOk (L.getD k []); rw [← HL.out]; exact HR.out, by show sm (L.getD k []) 11 = T; rw [← HL.out, ← HRR.out]; exact hT⟩
            subst hT
            go_upto_region 4 with fail
            go_quiet (first | (go_at_call 62; refine Calls.quiet_of_same (CA.out _)) | (go_at_call 56; refine Calls.quiet_of_same (CS.out _)))
            go_wp2
            go_roundw
            case rel => exact ⟨k + 1, by omega, by go_num, fun j hj => by
              by_cases e : j = k
              · subst e; exact HX.out
              · exact HJ.out j (by omega), below_drewG HD.out _⟩
            case measure => simp [intOf]; omega
          · have hT2 : (r != T) = true := by simp [hT]
            have E : Hid (bb = false) := hide (bool_no15 HBB.out (fun g => hT (by
              have h5 := (g.2 k (by rw [HN.out]; exact hlt)).2
              rw [HRR.out, HL.out]; exact h5)))
            go_upto_region 4 with fail
            go_quiet (first | (go_at_call 62; refine Calls.quiet_of_same (CA.out _)) | (go_at_call 56; refine Calls.quiet_of_same (CS.out _)))
            go_wp2
            go_ret
            exact ⟨by rw [E.out]; rfl, below_drewG (B0.out.trans (HD.out.mono B0.out.size)) _⟩
    · obtain rfl : k = n := by omega
      have hltI : ¬ (k : Int) < (k : Int) := by omega
      have C := hide (fun wx => l1In_any (k : Int) 1 3 wx bb (by
        rw [HBB.out]
        exact ⟨fun g => by have h := g.1; rw [HN.out] at h; omega, fun h => ⟨by rw [HN.out]; omega, by rw [HN.out]; exact HJ.out⟩⟩))
      go_wp2_with fail
      refine (C.out _).mono ?_
      rintro e w1 ⟨rfl, rfl⟩
      go_wp2
      go_ret
      exact ⟨rfl, B0.out.trans (HD.out.mono B0.out.size)⟩
end Go.Proofs.Ytfmfnlpajoikman.L15
