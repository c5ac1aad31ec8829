/-
  Contracts: spec.l12Way, spec.GoodBank.
-/
import Derived.Test.YtfjbiihiaoobhajL12SGM
import Derived.Test.YtfjbiihiaoobhajL12Bel
import Derived.Test.YtfjbiihiaoobhajAllI
import Derived.Test.YtfjbiihiaoobhajIn
import Derived.Deep.DeepCutAuto
namespace Go.Proofs.Ytfjbiihiaoobhaj.L12
open Go.RowKit L1 L9 Own Sli
set_option linter.unusedVariables false

set_option maxRecDepth 100000 in
set_option maxHeartbeats 4000000 in
theorem l12Way_any (a : Option Addr) (l : List Int) (n cap : Nat) (w : World) (hn : l.length = n) (hs : Sl w a l) (hn2 : n ≤ 1048576) (b : Bool) (hb : b = true ↔ n ≤ 40 ∧ ∀ j, j < n → 0 ≤ l.getD j 0 ∧ l.getD j 0 ≤ 50) :
    Calls Try.prog 37 #[.slice a n cap] w fun e w' => e = .returned (.bool b) ∧ w = w' := by
  obtain ⟨c, hc⟩ := dec_ex12 (∀ j, j < n → 0 ≤ l.getD j 0 ∧ l.getD j 0 ≤ 50)
  have C := hide (fun wx hs => l1All_any a l n cap 0 50 wx hn hs hn2 c hc)
  have HS := hide hs
  by_cases h : (n : Int) ≤ 40
  · obtain rfl : b = c := by
      have : b = true ↔ c = true := by rw [hb, hc]; exact ⟨fun h => h.2, fun h2 => ⟨by omega, h2⟩⟩
      cases b <;> cases c <;> simp_all
    clear hb hc hs hn
    go_enter Try.func37, Try.ntmps37
    go_wp2_with fail
    refine (C.out _ HS.out).mono ?_
    rintro e w1 ⟨rfl, rfl⟩
    go_wp2
    go_ret
    exact ⟨rfl, rfl⟩
  · obtain rfl : b = false := bool_no12 hb (fun h2 => h (by omega))
    clear hb hc hs hn
    go_enter Try.func37, Try.ntmps37
    go_wp2
    go_ret
    exact ⟨rfl, rfl⟩
set_option maxRecDepth 100000 in
set_option maxHeartbeats 4000000 in
theorem sGoodBank_any (aC : Option Addr) (nC cC : Nat) (aW : Option Addr) (nW cW : Nat) (aK : Option Addr) (nK cK : Nat) (aH : Option Addr) (nH cH : Nat) (aF : Option Addr) (nF cF : Nat) (m : Bk) (w : World) (hz : BkZ m nC nW nK nH nF) (hF : BkF w aC aW aK aH aF m) (b : Bool) (hb : b = true ↔ GoodB m) :
    Calls Try.prog 21 #[bkV aC nC cC aW nW cW aK nK cK aH nH cH aF nF cF] w fun e w' => e = .returned (.bool b) ∧ Below w.heap.size w w' := by
  obtain ⟨W0, hW0⟩ : ∃ W0, w.alloc (bkO aC nC cC aW nW cW aK nK cK aH nH cH aF nF cF) = W0 := ⟨_, rfl⟩
  have BX : Hid (Below w.heap.size w W0) := by rw [← hW0]; exact hide ((Below.refl _ _).alloc (Nat.le_refl _) _)
  have g0 : W0.heap[w.heap.size]? = some (bkO aC nC cC aW nW cW aK nK cK aH nH cH aF nF cF) := by rw [← hW0]; exact blk_newO _ _
  have F0 := hide (hF.below BX.out)
  have HW := hide hW0
  obtain ⟨k0, k1, k2, k3, k4⟩ := blk5 g0
  clear hW0 hF
  rw [good_iff] at hb
  have EZ : Hid (m.n = nC) := hide hz.c
  have EC : Hid (m.c.length = nC) := hide hz.c
  have EKk : Hid (m.k.length = nK) := hide hz.k
  obtain ⟨bc, hbc⟩ := dec_ex12 (∀ j, j < nC → 0 ≤ m.c.getD j 0 ∧ m.c.getD j 0 ≤ 1000)
  obtain ⟨bk, hbk⟩ := dec_ex12 (∀ j, j < nK → -1 ≤ m.k.getD j 0 ∧ m.k.getD j 0 ≤ 1000)
  have CC := hide (l1All_any aC m.c nC cC 0 1000 W0 hz.c F0.out.c hz.bc bc hbc)
  have CK := hide (l1All_any aK m.k nK cK (-1) 1000 W0 hz.k F0.out.k hz.bk bk hbk)
  by_cases c1 : 1 ≤ nC ∧ nC ≤ 5
  rotate_left
  · obtain rfl : b = false := bool_no12 hb (fun h => c1 (by have := h.1.n1; have := h.1.n5; have := EZ.out; omega))
    have CI := hide (fun wx => l1In_any (nC : Int) 1 5 wx false (by simp; omega))
    clear hb g0 hbc hbk c1 CC CK
    go_enter Try.func21, Try.ntmps21
    go_upto_region 1 with fail
    rw [HW.out]
    go_wp2_with fail
    refine (CI.out _).mono ?_
    rintro e w1 ⟨rfl, rfl⟩
    go_wp2
    go_ret
    exact ⟨rfl, BX.out⟩
  obtain ⟨c1a, c1b⟩ := c1
  have CI := hide (fun wx => l1In_any (nC : Int) 1 5 wx true (by simp; omega))
  cases bc with
  | false =>
    obtain rfl : b = false := bool_no12 hb (fun h => absurd (hbc.2 (fun j hj => h.1.c j (by rw [EC.out]; exact hj))) (by simp))
    clear hb g0 hbc hbk CK
    go_enter Try.func21, Try.ntmps21
    go_upto_region 1 with fail
    rw [HW.out]
    go_wp2_with fail
    refine (CI.out _).mono ?_
    rintro e w1 ⟨rfl, rfl⟩
    go_wp2_with fail
    refine CC.out.mono ?_
    rintro e w1 ⟨rfl, rfl⟩
    go_wp2
    go_ret
    exact ⟨rfl, BX.out⟩
  | true =>
    have HBC := hide (hbc.1 rfl)
    clear hbc
    obtain ⟨N2, hN2⟩ : ∃ x : Nat, x = nC * nC := ⟨_, rfl⟩
    have hq : (nC : Int) * (nC : Int) = (N2 : Int) := by rw [hN2]; simp
    have hq2 : N2 ≤ 25 := by rw [hN2]; exact Nat.mul_le_mul c1b c1b
    have HN2 := hide hN2
    clear hN2
    by_cases d1 : nW = N2
    rotate_left
    · obtain rfl : b = false := bool_no12 hb (fun h => d1 (by rw [HN2.out, ← EZ.out, ← hz.W]; exact h.1.W))
      have d1' : ((nW : Int) != (N2 : Int)) = true := by simp; omega
      clear hb g0 d1 hbk CK
      go_enter Try.func21, Try.ntmps21
      go_upto_region 1 with fail
      rw [HW.out]
      go_wp2_with fail
      refine (CI.out _).mono ?_
      rintro e w1 ⟨rfl, rfl⟩
      go_wp2_with fail
      refine CC.out.mono ?_
      rintro e w1 ⟨rfl, rfl⟩
      go_wp2
      go_ret
      exact ⟨rfl, BX.out⟩
    have d1' : ((nW : Int) != (N2 : Int)) = false := by simp; omega
    have D1 := hide d1
    clear d1
    by_cases d2 : nK = nC
    rotate_left
    · obtain rfl : b = false := bool_no12 hb (fun h => d2 (by rw [← EZ.out, ← hz.k]; exact h.1.k))
      have d2' : ((nK : Int) != (nC : Int)) = true := by simp; omega
      clear hb g0 d2 hbk CK
      go_enter Try.func21, Try.ntmps21
      go_upto_region 1 with fail
      rw [HW.out]
      go_wp2_with fail
      refine (CI.out _).mono ?_
      rintro e w1 ⟨rfl, rfl⟩
      go_wp2_with fail
      refine CC.out.mono ?_
      rintro e w1 ⟨rfl, rfl⟩
      go_wp2
      go_ret
      exact ⟨rfl, BX.out⟩
    have d2' : ((nK : Int) != (nC : Int)) = false := by simp; omega
    have D2 := hide d2
    clear d2
    cases bk with
    | false =>
      obtain rfl : b = false := bool_no12 hb (fun h => absurd (hbk.2 (fun j hj => h.1.kv j (by rw [EKk.out]; exact hj))) (by simp))
      clear hb g0 hbk
      go_enter Try.func21, Try.ntmps21
      go_upto_region 1 with fail
      rw [HW.out]
      go_wp2_with fail
      refine (CI.out _).mono ?_
      rintro e w1 ⟨rfl, rfl⟩
      go_wp2_with fail
      refine CC.out.mono ?_
      rintro e w1 ⟨rfl, rfl⟩
      go_wp2_with fail
      refine CK.out.mono ?_
      rintro e w1 ⟨rfl, rfl⟩
      go_wp2
      go_ret
      exact ⟨rfl, BX.out⟩
    | true =>
      have HBK := hide (hbk.1 rfl)
      clear hbk
      by_cases d3 : nH = nC
      rotate_left
      · obtain rfl : b = false := bool_no12 hb (fun h => d3 (by rw [← EZ.out, ← hz.H]; exact h.1.H))
        have d3' : ((nH : Int) != (nC : Int)) = true := by simp; omega
        clear hb g0 d3
        go_enter Try.func21, Try.ntmps21
        go_upto_region 1 with fail
        rw [HW.out]
        go_wp2_with fail
        refine (CI.out _).mono ?_
        rintro e w1 ⟨rfl, rfl⟩
        go_wp2_with fail
        refine CC.out.mono ?_
        rintro e w1 ⟨rfl, rfl⟩
        go_wp2_with fail
        refine CK.out.mono ?_
        rintro e w1 ⟨rfl, rfl⟩
        go_wp2
        go_ret
        exact ⟨rfl, BX.out⟩
      have d3' : ((nH : Int) != (nC : Int)) = false := by simp; omega
      have D3 := hide d3
      clear d3
      by_cases d4 : nF = nC
      rotate_left
      · obtain rfl : b = false := bool_no12 hb (fun h => d4 (by rw [← EZ.out, ← hz.F]; exact h.1.F))
        have d4' : ((nF : Int) != (nC : Int)) = true := by simp; omega
        clear hb g0 d4
        go_enter Try.func21, Try.ntmps21
        go_upto_region 1 with fail
        rw [HW.out]
        go_wp2_with fail
        refine (CI.out _).mono ?_
        rintro e w1 ⟨rfl, rfl⟩
        go_wp2_with fail
        refine CC.out.mono ?_
        rintro e w1 ⟨rfl, rfl⟩
        go_wp2_with fail
        refine CK.out.mono ?_
        rintro e w1 ⟨rfl, rfl⟩
        go_wp2
        go_ret
        exact ⟨rfl, BX.out⟩
      have d4' : ((nF : Int) != (nC : Int)) = false := by simp; omega
      have D4 := hide d4
      clear d4
      have ho : SOut m := ⟨by have := EZ.out; omega, by have := EZ.out; omega, fun j hj => HBC.out j (by rw [EC.out] at hj; exact hj), by rw [hz.W, EZ.out, D1.out, HN2.out], by rw [hz.k, D2.out, EZ.out], fun j hj => HBK.out j (by rw [EKk.out] at hj; exact hj), by rw [hz.H, D3.out, EZ.out], by rw [hz.F, D4.out, EZ.out]⟩
      have YES : Hid ((∀ i, i < nC → SRow m i ∧ ∀ k, k < nC → SCell m i k) → b = true) := hide (fun h => hb.2 ⟨ho, by rw [EZ.out]; exact h⟩)
      have NO : Hid (b = true → ∀ i, i < nC → SRow m i ∧ ∀ k, k < nC → SCell m i k) := hide (fun h => by have := (hb.1 h).2; rw [EZ.out] at this; exact this)
      have LW : Hid (m.W.length = nC * nC) := hide (by rw [hz.W, D1.out, HN2.out])
      have LH : Hid (m.H.length = nC) := hide (by rw [hz.H, D3.out])
      have LF : Hid (m.F.length = nC) := hide (by rw [hz.F, D4.out])
      have LK : Hid (m.k.length = nC) := hide (by rw [hz.k, D2.out])
      have SH : Hid (∀ i, i < m.H.length → (m.H.getD i []).length ≤ 1048576) := hide hz.sH
      have SF : Hid (∀ i, i < m.F.length → (m.F.getD i []).length ≤ 1048576) := hide hz.sF
      have SW : Hid (∀ i, i < m.W.length → (m.W.getD i []).length ≤ 1048576) := hide hz.sW
      have hnW : (nW : Int) = (N2 : Int) := by have := D1.out; omega
      have HNW := hide hnW
      have hnK : (nK : Int) = (nC : Int) := by have := D2.out; omega
      have HNK := hide hnK
      have e3 : nH = nC := D3.out
      have e4 : nF = nC := D4.out
      subst e3
      subst e4
      clear hb g0 hz ho hnW hnK D1 D2 D3 D4
      go_enter Try.func21, Try.ntmps21
      go_upto_region 1 with fail
      rw [HW.out]
      go_wp2_with fail
      refine (CI.out _).mono ?_
      rintro e w1 ⟨rfl, rfl⟩
      go_wp2_with fail
      refine CC.out.mono ?_
      rintro e w1 ⟨rfl, rfl⟩
      go_wp2_with fail
      refine CK.out.mono ?_
      rintro e w1 ⟨rfl, rfl⟩
      go_wp2
      go_loop [4] (fun t => ∃ i : Nat, i ≤ nF ∧ t = .int .i64 i ∧ Hid (∀ x, x < i → SRow m x ∧ ∀ k, k < nF → SCell m x k)) (fun t => nF - (intOf t).toNat)
      case atStart => exact ⟨0, Nat.zero_le _, rfl, fun x hx => absurd hx (Nat.not_lt_zero _)⟩
      case round =>
        obtain ⟨i, hi, rfl, HI⟩ := hrel
        by_cases hlt : i < nF
        rotate_left
        · have hltI : ¬ (i : Int) < (nF : Int) := by omega
          have HM := hide (YES.out (fun x hx => HI.out x (by omega)))
          go_wp2
          go_ret
          exact ⟨by rw [HM.out]; rfl, BX.out⟩
        have hltI : (i : Int) < (nF : Int) := by omega
        have i0 : (0 : Int) ≤ (i : Int) := by omega
        obtain ⟨p2, o2, rfl, x2, q2, h2, s2⟩ := F0.out.H i (by rw [LH.out]; exact hlt)
        obtain ⟨p3, o3, rfl, x3, q3, h3, s3⟩ := F0.out.F i (by rw [LF.out]; exact hlt)
        have sH := SH.out i (by rw [LH.out]; exact hlt)
        have sF := SF.out i (by rw [LF.out]; exact hlt)
        obtain ⟨L2, hL2⟩ : ∃ l, l = (m.H.getD i []).length := ⟨_, rfl⟩
        obtain ⟨L3, hL3⟩ : ∃ l, l = (m.F.getD i []).length := ⟨_, rfl⟩
        rw [← hL2] at h2 sH
        rw [← hL3] at h3 sF
        have BAD : Hid (¬ SRow m i → b = false) := hide (fun h => by
          cases b with
          | false => rfl
          | true => exact absurd (NO.out rfl i hlt).1 h)
        by_cases e1 : L2 = nF
        rotate_left
        · have HM := hide (BAD.out (fun h => e1 (by rw [hL2, h.lh]; exact EZ.out)))
          have e1' : ((L2 : Int) != (nF : Int)) = true := by simp; omega
          clear e1 hL2 hL3 s2 s3
          go_wp2
          go_ret
          exact ⟨by rw [HM.out]; rfl, BX.out⟩
        have e1' : ((L2 : Int) != (nF : Int)) = false := by simp; omega
        have E1 := hide e1
        clear e1
        by_cases e2 : L3 = nF
        rotate_left
        · have HM := hide (BAD.out (fun h => e2 (by rw [hL3, h.lf]; exact EZ.out)))
          have e2' : ((L3 : Int) != (nF : Int)) = true := by simp; omega
          clear e2 hL2 hL3 s2 s3
          go_wp2
          go_ret
          exact ⟨by rw [HM.out]; rfl, BX.out⟩
        have e2' : ((L3 : Int) != (nF : Int)) = false := by simp; omega
        have E2 := hide e2
        clear e2
        obtain ⟨bf, hbf⟩ := dec_ex12 (∀ j, j < L3 → 0 ≤ (m.F.getD i []).getD j 0 ∧ (m.F.getD i []).getD j 0 ≤ 1000)
        have CF := hide (l1All_any x3 (m.F.getD i []) L3 q3 0 1000 W0 hL3.symm s3 sF bf hbf)
        obtain ⟨b4, o4, rfl, h4⟩ := s2 i (by rw [← hL2, E1.out]; exact hlt)
        obtain ⟨y, hy⟩ : ∃ y, y = (m.H.getD i []).getD i false := ⟨_, rfl⟩
        rw [← hy] at h4
        have hltL2 : (i : Int) < (L2 : Int) := by rw [E1.out]; omega
        cases bf with
        | false =>
          have HM := hide (BAD.out (fun h => absurd (hbf.2 (fun j hj => h.f j (by rw [← hL3]; exact hj))) (by simp)))
          clear hL2 hL3 s2 s3 hbf hy
          go_wp2_with fail
          refine CF.out.mono ?_
          rintro e w1 ⟨rfl, rfl⟩
          go_wp2
          go_ret
          exact ⟨by rw [HM.out]; rfl, BX.out⟩
        | true =>
        cases y with
        | true =>
          have HM := hide (BAD.out (fun h => by have h5 : (m.H.getD i []).getD i false = false := h.h; rw [← hy] at h5; cases h5))
          clear hL2 hL3 s2 s3 hbf hy
          go_wp2_with fail
          refine CF.out.mono ?_
          rintro e w1 ⟨rfl, rfl⟩
          go_wp2
          go_ret
          exact ⟨by rw [HM.out]; rfl, BX.out⟩
        | false =>
        have hR : SRow m i := ⟨by rw [← hL2, E1.out]; exact EZ.out.symm, by rw [← hL3, E2.out]; exact EZ.out.symm, fun j hj => hbf.1 rfl j (by rw [← hL3] at hj; exact hj), hy.symm⟩
        have HR := hide hR
        obtain ⟨p, hp⟩ : ∃ p, p = i * nF := ⟨_, rfl⟩
        have hpI : (i : Int) * (nF : Int) = (p : Int) := by rw [hp]; simp
        have HPP := hide hp
        have HL2 := hide hL2
        have HL3 := hide hL3
        have S2 := hide s2
        have S3 := hide s3
        have H2 := hide h2
        have H3 := hide h3
        obtain ⟨b6, o6, rfl, h6⟩ := F0.out.k i (by rw [LK.out]; exact hlt)
        obtain ⟨ki, hki⟩ : ∃ x, x = m.k.getD i 0 := ⟨_, rfl⟩
        rw [← hki] at h6
        have HKI := hide hki
        have hKn : (i : Int) < (nK : Int) := by rw [HNK.out]; omega
        clear hp hL2 hL3 s2 s3 hbf hy hR hki
        go_wp2_with fail
        refine CF.out.mono ?_
        rintro e w1 ⟨rfl, rfl⟩
        go_wp2
        go_loop [5] (fun t => ∃ k : Nat, k ≤ nF ∧ t = .int .i64 k ∧ Hid (∀ x, x < k → SCell m i x)) (fun t => nF - (intOf t).toNat)
        case atStart => exact ⟨0, Nat.zero_le _, rfl, fun x hx => absurd hx (Nat.not_lt_zero _)⟩
        case round =>
          obtain ⟨k, hk, rfl, HK⟩ := hrel
          by_cases hlt2 : k < nF
          rotate_left
          · have hltK : ¬ (k : Int) < (nF : Int) := by omega
            have NX : Hid (∀ x, x < i + 1 → SRow m x ∧ ∀ k, k < nF → SCell m x k) := hide (fun x hx => by
              by_cases e : x = i
              · subst e; exact ⟨HR.out, fun k' hk' => HK.out k' (by omega)⟩
              · exact HI.out x (by omega))
            go_wp2
            go_round
            case rel => exact ⟨i + 1, by omega, by go_num, NX⟩
            case measure => simp [intOf]; omega
          have hltK : (k : Int) < (nF : Int) := by omega
          have k0' : (0 : Int) ≤ (k : Int) := by omega
          obtain ⟨q, hq'⟩ : ∃ q, q = p + k := ⟨_, rfl⟩
          have hqI : (p : Int) + (k : Int) = (q : Int) := by rw [hq']; simp
          have hq2' : q < nF * nF := by rw [hq', HPP.out]; exact way_lt hlt hlt2
          have hwy : m.W.getD q [] = m.wy i k := by show _ = m.W.getD (i * m.n + k) []; rw [EZ.out, hq', HPP.out]
          have hqn : (q : Int) < (nW : Int) := by rw [HNW.out, HN2.out]; omega
          have hqs : (q : Int) ≤ 25 := by rw [← HN2.out] at hq2'; omega
          have hps : (p : Int) ≤ 25 := by omega
          obtain ⟨p7, o7, rfl, x7, q7, h7, s7⟩ := F0.out.W q (by rw [LW.out]; exact hq2')
          have sW := SW.out q (by rw [LW.out]; exact hq2')
          obtain ⟨L, hL⟩ : ∃ L, L = (m.W.getD q []).length := ⟨_, rfl⟩
          rw [← hL] at h7 sW
          obtain ⟨bw, hbw⟩ := dec_ex12 (L ≤ 40 ∧ ∀ j, j < L → 0 ≤ (m.W.getD q []).getD j 0 ∧ (m.W.getD q []).getD j 0 ≤ 50)
          have CW := hide (l12Way_any x7 (m.W.getD q []) L q7 W0 hL.symm s7 sW bw hbw)
          obtain ⟨_, _, e8, h8⟩ := S2.out k (by rw [← HL2.out, E1.out]; exact hlt2)
          cases e8
          obtain ⟨b9, o9, rfl, h9⟩ := S3.out k (by rw [← HL3.out, E2.out]; exact hlt2)
          obtain ⟨_, _, e10, h10⟩ := F0.out.k k (by rw [LK.out]; exact hlt2)
          cases e10
          obtain ⟨y, hy⟩ : ∃ y, y = (m.H.getD i []).getD k false := ⟨_, rfl⟩
          obtain ⟨x, hx⟩ : ∃ x, x = (m.F.getD i []).getD k 0 := ⟨_, rfl⟩
          obtain ⟨kk, hkk⟩ : ∃ x, x = m.k.getD k 0 := ⟨_, rfl⟩
          rw [← hy] at h8
          rw [← hx] at h9
          rw [← hkk] at h10
          have hltL2k : (k : Int) < (L2 : Int) := by rw [E1.out]; omega
          have hltL3k : (k : Int) < (L3 : Int) := by rw [E2.out]; omega
          have hltKk : (k : Int) < (nK : Int) := by rw [HNK.out]; omega
          have CI2 : Hid (SCell m i k ↔ bw = true ∧ ¬ (ki < 0 ∧ 39 < L) ∧ ¬ (i = k ∧ 0 < L) ∧ ¬ (ki < 0 ∧ y = true) ∧ ¬ (0 < x ∧ (i = k ∨ kk < 0))) := hide (by
            rw [hbw, HKI.out, hL, hy, hx, hkk, hwy]
            exact ⟨fun h => ⟨h.w, h.r, h.e, h.h, h.f⟩, fun h => ⟨h.1, h.2.1, h.2.2.1, h.2.2.2.1, h.2.2.2.2⟩⟩)
          have BADc : Hid (¬ (bw = true ∧ ¬ (ki < 0 ∧ 39 < L) ∧ ¬ (i = k ∧ 0 < L) ∧ ¬ (ki < 0 ∧ y = true) ∧ ¬ (0 < x ∧ (i = k ∨ kk < 0))) → b = false) := hide (fun h => by
            cases b with
            | false => rfl
            | true => exact absurd (CI2.out.1 ((NO.out rfl i hlt).2 k hlt2)) h)
          have OKc : Hid ((bw = true ∧ ¬ (ki < 0 ∧ 39 < L) ∧ ¬ (i = k ∧ 0 < L) ∧ ¬ (ki < 0 ∧ y = true) ∧ ¬ (0 < x ∧ (i = k ∨ kk < 0))) → ∀ z, z < k + 1 → SCell m i z) := hide (fun h z hz => by
            by_cases e : z = k
            · subst e; exact CI2.out.2 h
            · exact HK.out z (by omega))
          clear hbw hwy hL hy hx hkk s7 hq' hq2' CI2
          go_upto_region 13 with fail
          dsimp only [List.append]
          go_wp2_with fail
          refine CW.out.mono ?_
          rintro e w1 ⟨rfl, rfl⟩
          cases bw with
          | false =>
            have HM := hide (BADc.out (fun h => by cases h.1))
            go_wp2
            go_ret
            exact ⟨by rw [HM.out]; rfl, BX.out⟩
          | true =>
            by_cases c6 : ki < 0
            · by_cases c7 : 39 < (L : Int)
              · have HM := hide (BADc.out (fun h => h.2.1 ⟨c6, by omega⟩))
                go_wp2
                go_ret
                exact ⟨by rw [HM.out]; rfl, BX.out⟩
              by_cases e5 : i = k
              · have e5' : ((i : Int) == (k : Int)) = true := by simp; omega
                by_cases g0 : 0 < (L : Int)
                · have HM := hide (BADc.out (fun h => h.2.2.1 ⟨e5, by omega⟩))
                  clear e5
                  go_wp2
                  go_ret
                  exact ⟨by rw [HM.out]; rfl, BX.out⟩
                cases y with
                | true =>
                  have HM := hide (BADc.out (fun h => h.2.2.2.1 ⟨c6, rfl⟩))
                  clear e5
                  go_wp2
                  go_ret
                  exact ⟨by rw [HM.out]; rfl, BX.out⟩
                | false =>
                  by_cases f1 : 0 < x
                  · have HM := hide (BADc.out (fun h => h.2.2.2.2 ⟨f1, .inl e5⟩))
                    clear e5
                    go_wp2
                    go_ret
                    exact ⟨by rw [HM.out]; rfl, BX.out⟩
                  · have NX := hide (OKc.out ⟨rfl, (fun h => by omega), (fun h => by omega), (fun h => by cases h.2), (fun h => f1 h.1)⟩)
                    clear e5
                    go_wp2
                    go_round
                    case rel => exact ⟨k + 1, by omega, by go_num, NX⟩
                    case measure => simp [intOf]; omega
              · have e5' : ((i : Int) == (k : Int)) = false := by simp; omega
                cases y with
                | true =>
                  have HM := hide (BADc.out (fun h => h.2.2.2.1 ⟨c6, rfl⟩))
                  clear e5
                  go_wp2
                  go_ret
                  exact ⟨by rw [HM.out]; rfl, BX.out⟩
                | false =>
                  by_cases f1 : 0 < x
                  · by_cases f2 : kk < 0
                    · have HM := hide (BADc.out (fun h => h.2.2.2.2 ⟨f1, .inr f2⟩))
                      clear e5
                      go_wp2
                      go_ret
                      exact ⟨by rw [HM.out]; rfl, BX.out⟩
                    · have NX := hide (OKc.out ⟨rfl, (fun h => by omega), (fun h => e5 h.1), (fun h => by cases h.2), (fun h => h.2.elim e5 f2)⟩)
                      clear e5
                      go_wp2
                      go_round
                      case rel => exact ⟨k + 1, by omega, by go_num, NX⟩
                      case measure => simp [intOf]; omega
                  · have NX := hide (OKc.out ⟨rfl, (fun h => by omega), (fun h => e5 h.1), (fun h => by cases h.2), (fun h => f1 h.1)⟩)
                    clear e5
                    go_wp2
                    go_round
                    case rel => exact ⟨k + 1, by omega, by go_num, NX⟩
                    case measure => simp [intOf]; omega
            · skip
              by_cases e5 : i = k
              · have e5' : ((i : Int) == (k : Int)) = true := by simp; omega
                by_cases g0 : 0 < (L : Int)
                · have HM := hide (BADc.out (fun h => h.2.2.1 ⟨e5, by omega⟩))
                  clear e5
                  go_wp2
                  go_ret
                  exact ⟨by rw [HM.out]; rfl, BX.out⟩
                by_cases f1 : 0 < x
                · have HM := hide (BADc.out (fun h => h.2.2.2.2 ⟨f1, .inl e5⟩))
                  clear e5
                  go_wp2
                  go_ret
                  exact ⟨by rw [HM.out]; rfl, BX.out⟩
                · have NX := hide (OKc.out ⟨rfl, (fun h => by omega), (fun h => by omega), (fun h => by omega), (fun h => f1 h.1)⟩)
                  clear e5
                  go_wp2
                  go_round
                  case rel => exact ⟨k + 1, by omega, by go_num, NX⟩
                  case measure => simp [intOf]; omega
              · have e5' : ((i : Int) == (k : Int)) = false := by simp; omega
                by_cases f1 : 0 < x
                · by_cases f2 : kk < 0
                  · have HM := hide (BADc.out (fun h => h.2.2.2.2 ⟨f1, .inr f2⟩))
                    clear e5
                    go_wp2
                    go_ret
                    exact ⟨by rw [HM.out]; rfl, BX.out⟩
                  · have NX := hide (OKc.out ⟨rfl, (fun h => by omega), (fun h => e5 h.1), (fun h => by omega), (fun h => h.2.elim e5 f2)⟩)
                    clear e5
                    go_wp2
                    go_round
                    case rel => exact ⟨k + 1, by omega, by go_num, NX⟩
                    case measure => simp [intOf]; omega
                · have NX := hide (OKc.out ⟨rfl, (fun h => by omega), (fun h => e5 h.1), (fun h => by omega), (fun h => f1 h.1)⟩)
                  clear e5
                  go_wp2
                  go_round
                  case rel => exact ⟨k + 1, by omega, by go_num, NX⟩
                  case measure => simp [intOf]; omega
end Go.Proofs.Ytfjbiihiaoobhaj.L12
