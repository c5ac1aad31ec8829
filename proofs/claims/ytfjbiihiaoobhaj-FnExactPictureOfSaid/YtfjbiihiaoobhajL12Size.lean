/-
  Contract of the laws' own helper szBank.
-/
import Derived.Test.YtfjbiihiaoobhajL12Mem
import Derived.Test.YtfjbiihiaoobhajSISize
import Derived.Test.YtfjbiihiaoobhajSBSize
namespace Go.Proofs.Ytfjbiihiaoobhaj.L12
open Go.RowKit L1 L9 Own Sli
set_option linter.unusedVariables false

def wtK (m : Bk) : Nat := m.c.length + wtSI m.W + m.k.length + wtSB m.H + wtSI m.F
theorem bkz_of {m : Bk} (h : wtK m ≤ 1048576) : BkZ m m.c.length m.W.length m.k.length m.H.length m.F.length := by
  unfold wtK wtSI wtSB at h
  exact ⟨rfl, rfl, rfl, rfl, rfl, by omega, by omega, by omega, by omega, by omega, fun i hi => by have : (m.W.getD i []).length ≤ wtsI m.W := wtsI_get m.W i hi; omega, fun i hi => by have : (m.H.getD i []).length ≤ wtsB m.H := wtsB_get m.H i hi; omega, fun i hi => by have : (m.F.getD i []).length ≤ wtsI m.F := wtsI_get m.F i hi; omega⟩
set_option maxRecDepth 100000 in
set_option maxHeartbeats 4000000 in
theorem szBank_any (aC : Option Addr) (nC cC : Nat) (aW : Option Addr) (nW cW : Nat) (aK : Option Addr) (nK cK : Nat) (aH : Option Addr) (nH cH : Nat) (aF : Option Addr) (nF cF : Nat) (m : Bk) (w : World) (hC : m.c.length = nC) (hW : m.W.length = nW) (hK : m.k.length = nK) (hH : m.H.length = nH) (hFl : m.F.length = nF) (mC : nC ≤ 9223372036854775807) (mW : nW ≤ 9223372036854775807) (mK : nK ≤ 9223372036854775807) (mH : nH ≤ 9223372036854775807) (mF : nF ≤ 9223372036854775807) (hF : BkF w aC aW aK aH aF m) (xW : TxSI m.W) (xH : TxSB m.H) (xF : TxSI m.F) (L : Int) (h0 : 0 ≤ L) (h1 : L ≤ 1048576) (r : Int) (hr : r = if (wtK m : Int) ≤ L then L - (wtK m : Int) else -1) :
    Calls Try.prog 7 #[bkV aC nC cC aW nW cW aK nK cK aH nH cH aF nF cF, .int .i64 L] w fun e w' => e = .returned (.int .i64 r) ∧ Below w.heap.size w w' := by
  obtain ⟨q2, hq2⟩ : ∃ q, q = wtSI m.W := ⟨_, rfl⟩
  obtain ⟨q4, hq4⟩ : ∃ q, q = wtSB m.H := ⟨_, rfl⟩
  obtain ⟨q5, hq5⟩ : ∃ q, q = wtSI m.F := ⟨_, rfl⟩
  have hw : wtK m = nC + q2 + nK + q4 + q5 := by unfold wtK; rw [hq2, hq4, hq5, hC, hK]
  rw [hw] at hr
  have BX := hide ((Below.refl w.heap.size w).alloc (Nat.le_refl _) (bkL aC nC cC aW nW cW aK nK cK aH nH cH aF nF cF))
  have C1 := hide (fun wx (hb : Below w.heap.size w wx) L' h0 h1 r hr => szIntS_l aC m.c nC cC L' wx hC mC (hF.c.below hb) (by unfold TxI; omega) h0 h1 r hr)
  have C2 := hide (fun wx (hb : Below w.heap.size w wx) L' h0 h1 r hr => szIntSS_any aW m.W nW cW L' wx hW mW (hF.W.below hb) xW h0 h1 r hr)
  have C3 := hide (fun wx (hb : Below w.heap.size w wx) L' h0 h1 r hr => szIntS_l aK m.k nK cK L' wx hK mK (hF.k.below hb) (by unfold TxI; omega) h0 h1 r hr)
  have C4 := hide (fun wx (hb : Below w.heap.size w wx) L' h0 h1 r hr => szBoolSS_any aH m.H nH cH L' wx hH mH (hF.H.below hb) xH h0 h1 r hr)
  have C5 := hide (fun wx (hb : Below w.heap.size w wx) L' h0 h1 r hr => szIntSS_any aF m.F nF cF L' wx hFl mF (hF.F.below hb) xF h0 h1 r hr)
  rw [hC] at C1
  rw [← hq2] at C2
  rw [hK] at C3
  rw [← hq4] at C4
  rw [← hq5] at C5
  have HR := hide hr
  clear hr hC hW hK hH hFl hF xW xH xF hw hq2 hq4 hq5
  by_cases f1 : (nC : Int) ≤ L
  · obtain ⟨L1, hL1⟩ : ∃ x, x = L - (nC : Int) := ⟨_, rfl⟩
    have K1 := hide (fun wx hb => C1.out wx hb L (by omega) (by omega) L1 (by rw [if_pos f1, hL1]))
    have n1 : ¬ L1 < 0 := by omega
    by_cases f2 : (q2 : Int) ≤ L1
    · obtain ⟨L2, hL2⟩ : ∃ x, x = L1 - (q2 : Int) := ⟨_, rfl⟩
      have K2 := hide (fun wx hb => C2.out wx hb L1 (by omega) (by omega) L2 (by rw [if_pos f2, hL2]))
      have n2 : ¬ L2 < 0 := by omega
      by_cases f3 : (nK : Int) ≤ L2
      · obtain ⟨L3, hL3⟩ : ∃ x, x = L2 - (nK : Int) := ⟨_, rfl⟩
        have K3 := hide (fun wx hb => C3.out wx hb L2 (by omega) (by omega) L3 (by rw [if_pos f3, hL3]))
        have n3 : ¬ L3 < 0 := by omega
        by_cases f4 : (q4 : Int) ≤ L3
        · obtain ⟨L4, hL4⟩ : ∃ x, x = L3 - (q4 : Int) := ⟨_, rfl⟩
          have K4 := hide (fun wx hb => C4.out wx hb L3 (by omega) (by omega) L4 (by rw [if_pos f4, hL4]))
          have n4 : ¬ L4 < 0 := by omega
          by_cases f5 : (q5 : Int) ≤ L4
          · obtain ⟨L5, hL5⟩ : ∃ x, x = L4 - (q5 : Int) := ⟨_, rfl⟩
            have K5 := hide (fun wx hb => C5.out wx hb L4 (by omega) (by omega) L5 (by rw [if_pos f5, hL5]))
            have n5 : ¬ L5 < 0 := by omega
            have E : Hid (r = L5) := by show r = L5; rw [HR.out, if_pos (by omega)]; omega
            clear hL1 hL2 hL3 hL4 hL5 C1 C2 C3 C4 C5 f1 f2 f3 f4 f5
            go_enter Try.func7, Try.ntmps7
            go_wp2_with fail
            refine (K1.out _ BX.out).mono ?_
            rintro e w1 ⟨rfl, hb⟩
            have GX1 := hide ((hb.block w.heap.size (by simp)).trans (blk_newO w (bkL aC nC cC aW nW cW aK nK cK aH nH cH aF nF cF)))
            have B1 := hide (BX.out.trans (hb.mono BX.out.size))
            clear hb
            obtain ⟨k0, k1, k2, k3, k4⟩ := blk5 GX1.out
            go_wp2_with fail
            refine (K2.out _ B1.out).mono ?_
            rintro e w2 ⟨rfl, hb⟩
            have GX2 := hide ((hb.block w.heap.size (Array.getElem?_eq_some_iff.1 GX1.out).1).trans GX1.out)
            have B2 := hide (B1.out.trans (hb.mono B1.out.size))
            clear k0 k1 k2 k3 k4
            clear hb
            obtain ⟨k0, k1, k2, k3, k4⟩ := blk5 GX2.out
            go_wp2_with fail
            refine (K3.out _ B2.out).mono ?_
            rintro e w3 ⟨rfl, hb⟩
            have GX3 := hide ((hb.block w.heap.size (Array.getElem?_eq_some_iff.1 GX2.out).1).trans GX2.out)
            have B3 := hide (B2.out.trans (hb.mono B2.out.size))
            clear k0 k1 k2 k3 k4
            clear hb
            obtain ⟨k0, k1, k2, k3, k4⟩ := blk5 GX3.out
            go_wp2_with fail
            refine (K4.out _ B3.out).mono ?_
            rintro e w4 ⟨rfl, hb⟩
            have GX4 := hide ((hb.block w.heap.size (Array.getElem?_eq_some_iff.1 GX3.out).1).trans GX3.out)
            have B4 := hide (B3.out.trans (hb.mono B3.out.size))
            clear k0 k1 k2 k3 k4
            clear hb
            obtain ⟨k0, k1, k2, k3, k4⟩ := blk5 GX4.out
            go_wp2_with fail
            refine (K5.out _ B4.out).mono ?_
            rintro e w5 ⟨rfl, hb⟩
            have GX5 := hide ((hb.block w.heap.size (Array.getElem?_eq_some_iff.1 GX4.out).1).trans GX4.out)
            have B5 := hide (B4.out.trans (hb.mono B4.out.size))
            clear k0 k1 k2 k3 k4
            clear hb
            obtain ⟨k0, k1, k2, k3, k4⟩ := blk5 GX5.out
            go_wp2
            go_ret
            exact ⟨by rw [E.out]; rfl, B5.out⟩
          · have K5 := hide (fun wx hb => C5.out wx hb L4 (by omega) (by omega) (-1) (by rw [if_neg f5]))
            have E : Hid (r = -1) := by show r = -1; rw [HR.out, if_neg (by omega)]
            clear hL1 hL2 hL3 hL4 C1 C2 C3 C4 C5 f1 f2 f3 f4 f5
            go_enter Try.func7, Try.ntmps7
            go_wp2_with fail
            refine (K1.out _ BX.out).mono ?_
            rintro e w1 ⟨rfl, hb⟩
            have GX1 := hide ((hb.block w.heap.size (by simp)).trans (blk_newO w (bkL aC nC cC aW nW cW aK nK cK aH nH cH aF nF cF)))
            have B1 := hide (BX.out.trans (hb.mono BX.out.size))
            clear hb
            obtain ⟨k0, k1, k2, k3, k4⟩ := blk5 GX1.out
            go_wp2_with fail
            refine (K2.out _ B1.out).mono ?_
            rintro e w2 ⟨rfl, hb⟩
            have GX2 := hide ((hb.block w.heap.size (Array.getElem?_eq_some_iff.1 GX1.out).1).trans GX1.out)
            have B2 := hide (B1.out.trans (hb.mono B1.out.size))
            clear k0 k1 k2 k3 k4
            clear hb
            obtain ⟨k0, k1, k2, k3, k4⟩ := blk5 GX2.out
            go_wp2_with fail
            refine (K3.out _ B2.out).mono ?_
            rintro e w3 ⟨rfl, hb⟩
            have GX3 := hide ((hb.block w.heap.size (Array.getElem?_eq_some_iff.1 GX2.out).1).trans GX2.out)
            have B3 := hide (B2.out.trans (hb.mono B2.out.size))
            clear k0 k1 k2 k3 k4
            clear hb
            obtain ⟨k0, k1, k2, k3, k4⟩ := blk5 GX3.out
            go_wp2_with fail
            refine (K4.out _ B3.out).mono ?_
            rintro e w4 ⟨rfl, hb⟩
            have GX4 := hide ((hb.block w.heap.size (Array.getElem?_eq_some_iff.1 GX3.out).1).trans GX3.out)
            have B4 := hide (B3.out.trans (hb.mono B3.out.size))
            clear k0 k1 k2 k3 k4
            clear hb
            obtain ⟨k0, k1, k2, k3, k4⟩ := blk5 GX4.out
            go_wp2_with fail
            refine (K5.out _ B4.out).mono ?_
            rintro e w5 ⟨rfl, hb⟩
            have GX5 := hide ((hb.block w.heap.size (Array.getElem?_eq_some_iff.1 GX4.out).1).trans GX4.out)
            have B5 := hide (B4.out.trans (hb.mono B4.out.size))
            clear k0 k1 k2 k3 k4
            clear hb
            obtain ⟨k0, k1, k2, k3, k4⟩ := blk5 GX5.out
            go_wp2
            go_ret
            exact ⟨by rw [E.out]; rfl, B5.out⟩
        · have K4 := hide (fun wx hb => C4.out wx hb L3 (by omega) (by omega) (-1) (by rw [if_neg f4]))
          have E : Hid (r = -1) := by show r = -1; rw [HR.out, if_neg (by omega)]
          clear hL1 hL2 hL3 C1 C2 C3 C4 C5 f1 f2 f3 f4
          go_enter Try.func7, Try.ntmps7
          go_wp2_with fail
          refine (K1.out _ BX.out).mono ?_
          rintro e w1 ⟨rfl, hb⟩
          have GX1 := hide ((hb.block w.heap.size (by simp)).trans (blk_newO w (bkL aC nC cC aW nW cW aK nK cK aH nH cH aF nF cF)))
          have B1 := hide (BX.out.trans (hb.mono BX.out.size))
          clear hb
          obtain ⟨k0, k1, k2, k3, k4⟩ := blk5 GX1.out
          go_wp2_with fail
          refine (K2.out _ B1.out).mono ?_
          rintro e w2 ⟨rfl, hb⟩
          have GX2 := hide ((hb.block w.heap.size (Array.getElem?_eq_some_iff.1 GX1.out).1).trans GX1.out)
          have B2 := hide (B1.out.trans (hb.mono B1.out.size))
          clear k0 k1 k2 k3 k4
          clear hb
          obtain ⟨k0, k1, k2, k3, k4⟩ := blk5 GX2.out
          go_wp2_with fail
          refine (K3.out _ B2.out).mono ?_
          rintro e w3 ⟨rfl, hb⟩
          have GX3 := hide ((hb.block w.heap.size (Array.getElem?_eq_some_iff.1 GX2.out).1).trans GX2.out)
          have B3 := hide (B2.out.trans (hb.mono B2.out.size))
          clear k0 k1 k2 k3 k4
          clear hb
          obtain ⟨k0, k1, k2, k3, k4⟩ := blk5 GX3.out
          go_wp2_with fail
          refine (K4.out _ B3.out).mono ?_
          rintro e w4 ⟨rfl, hb⟩
          have GX4 := hide ((hb.block w.heap.size (Array.getElem?_eq_some_iff.1 GX3.out).1).trans GX3.out)
          have B4 := hide (B3.out.trans (hb.mono B3.out.size))
          clear k0 k1 k2 k3 k4
          clear hb
          obtain ⟨k0, k1, k2, k3, k4⟩ := blk5 GX4.out
          go_wp2
          go_ret
          exact ⟨by rw [E.out]; rfl, B4.out⟩
      · have K3 := hide (fun wx hb => C3.out wx hb L2 (by omega) (by omega) (-1) (by rw [if_neg f3]))
        have E : Hid (r = -1) := by show r = -1; rw [HR.out, if_neg (by omega)]
        clear hL1 hL2 C1 C2 C3 C4 C5 f1 f2 f3
        go_enter Try.func7, Try.ntmps7
        go_wp2_with fail
        refine (K1.out _ BX.out).mono ?_
        rintro e w1 ⟨rfl, hb⟩
        have GX1 := hide ((hb.block w.heap.size (by simp)).trans (blk_newO w (bkL aC nC cC aW nW cW aK nK cK aH nH cH aF nF cF)))
        have B1 := hide (BX.out.trans (hb.mono BX.out.size))
        clear hb
        obtain ⟨k0, k1, k2, k3, k4⟩ := blk5 GX1.out
        go_wp2_with fail
        refine (K2.out _ B1.out).mono ?_
        rintro e w2 ⟨rfl, hb⟩
        have GX2 := hide ((hb.block w.heap.size (Array.getElem?_eq_some_iff.1 GX1.out).1).trans GX1.out)
        have B2 := hide (B1.out.trans (hb.mono B1.out.size))
        clear k0 k1 k2 k3 k4
        clear hb
        obtain ⟨k0, k1, k2, k3, k4⟩ := blk5 GX2.out
        go_wp2_with fail
        refine (K3.out _ B2.out).mono ?_
        rintro e w3 ⟨rfl, hb⟩
        have GX3 := hide ((hb.block w.heap.size (Array.getElem?_eq_some_iff.1 GX2.out).1).trans GX2.out)
        have B3 := hide (B2.out.trans (hb.mono B2.out.size))
        clear k0 k1 k2 k3 k4
        clear hb
        obtain ⟨k0, k1, k2, k3, k4⟩ := blk5 GX3.out
        go_wp2
        go_ret
        exact ⟨by rw [E.out]; rfl, B3.out⟩
    · have K2 := hide (fun wx hb => C2.out wx hb L1 (by omega) (by omega) (-1) (by rw [if_neg f2]))
      have E : Hid (r = -1) := by show r = -1; rw [HR.out, if_neg (by omega)]
      clear hL1 C1 C2 C3 C4 C5 f1 f2
      go_enter Try.func7, Try.ntmps7
      go_wp2_with fail
      refine (K1.out _ BX.out).mono ?_
      rintro e w1 ⟨rfl, hb⟩
      have GX1 := hide ((hb.block w.heap.size (by simp)).trans (blk_newO w (bkL aC nC cC aW nW cW aK nK cK aH nH cH aF nF cF)))
      have B1 := hide (BX.out.trans (hb.mono BX.out.size))
      clear hb
      obtain ⟨k0, k1, k2, k3, k4⟩ := blk5 GX1.out
      go_wp2_with fail
      refine (K2.out _ B1.out).mono ?_
      rintro e w2 ⟨rfl, hb⟩
      have GX2 := hide ((hb.block w.heap.size (Array.getElem?_eq_some_iff.1 GX1.out).1).trans GX1.out)
      have B2 := hide (B1.out.trans (hb.mono B1.out.size))
      clear k0 k1 k2 k3 k4
      clear hb
      obtain ⟨k0, k1, k2, k3, k4⟩ := blk5 GX2.out
      go_wp2
      go_ret
      exact ⟨by rw [E.out]; rfl, B2.out⟩
  · have K1 := hide (fun wx hb => C1.out wx hb L (by omega) (by omega) (-1) (by rw [if_neg f1]))
    have E : Hid (r = -1) := by show r = -1; rw [HR.out, if_neg (by omega)]
    clear  C1 C2 C3 C4 C5 f1
    go_enter Try.func7, Try.ntmps7
    go_wp2_with fail
    refine (K1.out _ BX.out).mono ?_
    rintro e w1 ⟨rfl, hb⟩
    have GX1 := hide ((hb.block w.heap.size (by simp)).trans (blk_newO w (bkL aC nC cC aW nW cW aK nK cK aH nH cH aF nF cF)))
    have B1 := hide (BX.out.trans (hb.mono BX.out.size))
    clear hb
    obtain ⟨k0, k1, k2, k3, k4⟩ := blk5 GX1.out
    go_wp2
    go_ret
    exact ⟨by rw [E.out]; rfl, B1.out⟩
end Go.Proofs.Ytfjbiihiaoobhaj.L12
