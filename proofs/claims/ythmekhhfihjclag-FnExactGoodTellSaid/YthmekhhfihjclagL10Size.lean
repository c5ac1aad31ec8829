/-
  Contract of the laws' own helper szTell.
-/
import Derived.Test.YthmekhhfihjclagL10Mem
import Derived.Test.YthmekhhfihjclagSSSize
import Derived.Test.YthmekhhfihjclagNoteSize
import Derived.Test.YthmekhhfihjclagTriToldSize
namespace Go.Proofs.Ythmekhhfihjclag.L10
open Go.RowKit L1 Own Str Nte Tri
set_option linter.unusedVariables false

set_option maxRecDepth 100000 in
set_option maxHeartbeats 400000 in
theorem szIntS_any (a : Option Addr) (n cap : Nat) (L : Int) (w : World) (hm : n ≤ 9223372036854775807) (h0 : 0 ≤ L) (h1 : L ≤ 1048576) (r : Int) (hr : r = if (n : Int) ≤ L then L - (n : Int) else -1) :
    Calls Try.prog 39 #[.slice a n cap, .int .i64 L] w fun e w' => e = .returned (.int .i64 r) ∧ w = w' := by
  have HR := hide hr
  clear hr
  by_cases ha : L - (n : Int) < 0
  · go_enter Try.func39, Try.ntmps39
    go_wp2
    go_ret
    exact ⟨by rw [HR.out, if_neg (by omega)]; rfl, rfl⟩
  · go_enter Try.func39, Try.ntmps39
    go_wp2
    go_ret
    exact ⟨by rw [HR.out, if_pos (by omega)]; rfl, rfl⟩
abbrev tlL (aT : Option Addr) (nT cT : Nat) (aH : Option Addr) (nH cH : Nat) (aL : Option Addr) (nL cL : Nat) (aG : Option Addr) (nG cG : Nat) (aN : Option Addr) (nN cN : Nat) : Obj := .cells #[.slice aT nT cT, .slice aH nH cH, .slice aL nL cL, .slice aG nG cG, .slice aN nN cN] 27 (0, 0)
def wtT (m : Tm) : Nat := wtSS m.T + m.hd.length + wt4 m.ln + wt3 m.lg + m.nx.length
theorem tlz_of {m : Tm} (h : wtT m ≤ 1048576) : TlZ m m.T.length m.hd.length m.ln.length m.lg.length m.nx.length := by
  unfold wtT wtSS wt4 wt3 at h
  have hs : ∀ i, i < m.T.length → wtS (m.T.getD i []) ≤ 1048576 := fun i hi => by have := wtsS_get m.T i hi; omega
  refine ⟨rfl, rfl, rfl, rfl, rfl, by omega, by omega, by omega, by omega, by omega, fun i hi => ?_, fun i hi j hj => ?_, fun i hi => ?_, fun i hi => ?_⟩
  · have := hs i hi; unfold wtS at this; omega
  · have := hs i hi; unfold wtS at this; have := szsS_get _ j hj; omega
  · have := szs4_get m.ln i hi; omega
  · have := szs3_get m.lg i hi; omega
set_option maxRecDepth 100000 in
set_option maxHeartbeats 4000000 in
theorem szTell_any (aT : Option Addr) (nT cT : Nat) (aH : Option Addr) (nH cH : Nat) (aL : Option Addr) (nL cL : Nat) (aG : Option Addr) (nG cG : Nat) (aN : Option Addr) (nN cN : Nat) (m : Tm) (w : World) (hT : m.T.length = nT) (hH : m.hd.length = nH) (hL : m.ln.length = nL) (hG : m.lg.length = nG) (hN : m.nx.length = nN) (mT : nT ≤ 9223372036854775807) (mH : nH ≤ 9223372036854775807) (mL : nL ≤ 9223372036854775807) (mG : nG ≤ 9223372036854775807) (mN : nN ≤ 9223372036854775807) (hF : TlF w aT aH aL aG aN m) (xT : TxSS m.T) (xL : Tx4 m.ln) (xG : Tx3 m.lg) (L : Int) (h0 : 0 ≤ L) (h1 : L ≤ 1048576) (r : Int) (hr : r = if (wtT m : Int) ≤ L then L - (wtT m : Int) else -1) :
    Calls Try.prog 9 #[tlV aT nT cT aH nH cH aL nL cL aG nG cG aN nN cN, .int .i64 L] w fun e w' => e = .returned (.int .i64 r) ∧ Below w.heap.size w w' := by
  obtain ⟨q1, hq1⟩ : ∃ q, q = wtSS m.T := ⟨_, rfl⟩
  obtain ⟨q3, hq3⟩ : ∃ q, q = wt4 m.ln := ⟨_, rfl⟩
  obtain ⟨q4, hq4⟩ : ∃ q, q = wt3 m.lg := ⟨_, rfl⟩
  have hw : wtT m = q1 + nH + q3 + q4 + nN := by unfold wtT; rw [hq1, hq3, hq4, hH, hN]
  rw [hw] at hr
  have BX := hide ((Below.refl w.heap.size w).alloc (Nat.le_refl _) (tlL aT nT cT aH nH cH aL nL cL aG nG cG aN nN cN))
  have C1 := hide (fun wx (hb : Below w.heap.size w wx) r hr => szStringSS_any aT m.T nT cT L wx hT mT (hF.t.below hb) xT h0 h1 r hr)
  have C3 := hide (fun wx (hb : Below w.heap.size w wx) L' h0 h1 r hr => szNoteS_any aL m.ln nL cL L' wx hL mL (hF.l.below hb) xL h0 h1 r hr)
  have C4 := hide (fun wx (hb : Below w.heap.size w wx) L' h0 h1 r hr => szToldS_any aG m.lg nG cG L' wx hG mG (hF.g.below hb) xG h0 h1 r hr)
  rw [← hq1] at C1
  rw [← hq3] at C3
  rw [← hq4] at C4
  have HR := hide hr
  clear hr hT hH hL hG hN hF xT xL xG hw hq1 hq3 hq4
  by_cases f1 : (q1 : Int) ≤ L
  · obtain ⟨L1, hL1⟩ : ∃ x, x = L - (q1 : Int) := ⟨_, rfl⟩
    have K1 := hide (fun wx hb => C1.out wx hb L1 (by rw [if_pos f1, hL1]))
    have n1 : ¬ L1 < 0 := by omega
    by_cases f2 : (nH : Int) ≤ L1
    · obtain ⟨L2, hL2⟩ : ∃ x, x = L1 - (nH : Int) := ⟨_, rfl⟩
      have K2 := hide (fun wx => szIntS_any aH nH cH L1 wx (by omega) (by omega) (by omega) L2 (by rw [if_pos f2, hL2]))
      have n2 : ¬ L2 < 0 := by omega
      by_cases f3 : (q3 : Int) ≤ L2
      · obtain ⟨L3, hL3⟩ : ∃ x, x = L2 - (q3 : Int) := ⟨_, rfl⟩
        have K3 := hide (fun wx hb => C3.out wx hb L2 (by omega) (by omega) L3 (by rw [if_pos f3, hL3]))
        have n3 : ¬ L3 < 0 := by omega
        by_cases f4 : (q4 : Int) ≤ L3
        · obtain ⟨L4, hL4⟩ : ∃ x, x = L3 - (q4 : Int) := ⟨_, rfl⟩
          have K4 := hide (fun wx hb => C4.out wx hb L3 (by omega) (by omega) L4 (by rw [if_pos f4, hL4]))
          have n4 : ¬ L4 < 0 := by omega
          by_cases f5 : (nN : Int) ≤ L4
          · obtain ⟨L5, hL5⟩ : ∃ x, x = L4 - (nN : Int) := ⟨_, rfl⟩
            have K5 := hide (fun wx => szIntS_any aN nN cN L4 wx (by omega) (by omega) (by omega) L5 (by rw [if_pos f5, hL5]))
            have n5 : ¬ L5 < 0 := by omega
            have E : Hid (r = L5) := by show r = L5; rw [HR.out, if_pos (by omega)]; omega
            clear hL1 hL2 hL3 hL4 hL5 C1 C3 C4 f1 f2 f3 f4 f5
            go_enter Try.func9, Try.ntmps9
            go_wp2_with fail
            refine (K1.out _ BX.out).mono ?_
            rintro e w1 ⟨rfl, hb⟩
            have GX1 := hide ((hb.block w.heap.size (by simp)).trans (blk_newO w (tlL aT nT cT aH nH cH aL nL cL aG nG cG aN nN cN)))
            have B1 := hide (BX.out.trans (hb.mono BX.out.size))
            clear hb
            obtain ⟨k0, k1, k2, k3, k4⟩ := blk5 GX1.out
            go_wp2_with fail
            refine (K2.out _).mono ?_
            rintro e w2 ⟨rfl, rfl⟩
            go_wp2_with fail
            refine (K3.out _ B1.out).mono ?_
            rintro e w3 ⟨rfl, hb⟩
            have GX3 := hide ((hb.block w.heap.size (Array.getElem?_eq_some_iff.1 GX1.out).1).trans GX1.out)
            have B3 := hide (B1.out.trans (hb.mono B1.out.size))
            clear k0 k1 k2 k3 k4
            clear hb
            obtain ⟨k0, k1, k2, k3, k4⟩ := blk5 GX3.out
            go_wp2_with fail
            refine (K4.out _ B3.out).mono ?_
            rintro e w4 ⟨rfl, hb⟩
            have GX4 := hide ((hb.block w.heap.size (Array.getElem?_eq_some_iff.1 GX3.out).1).trans GX3.out)
            have B4 := hide (B3.out.trans (hb.mono B3.out.size))
            clear k0 k1 k2 k3 k4
            clear hb
            obtain ⟨k0, k1, k2, k3, k4⟩ := blk5 GX4.out
            go_wp2_with fail
            refine (K5.out _).mono ?_
            rintro e w5 ⟨rfl, rfl⟩
            go_wp2
            go_ret
            exact ⟨by rw [E.out]; rfl, B4.out⟩
          · have K5 := hide (fun wx => szIntS_any aN nN cN L4 wx (by omega) (by omega) (by omega) (-1) (by rw [if_neg f5]))
            have E : Hid (r = -1) := by show r = -1; rw [HR.out, if_neg (by omega)]
            clear hL1 hL2 hL3 hL4 C1 C3 C4 f1 f2 f3 f4 f5
            go_enter Try.func9, Try.ntmps9
            go_wp2_with fail
            refine (K1.out _ BX.out).mono ?_
            rintro e w1 ⟨rfl, hb⟩
            have GX1 := hide ((hb.block w.heap.size (by simp)).trans (blk_newO w (tlL aT nT cT aH nH cH aL nL cL aG nG cG aN nN cN)))
            have B1 := hide (BX.out.trans (hb.mono BX.out.size))
            clear hb
            obtain ⟨k0, k1, k2, k3, k4⟩ := blk5 GX1.out
            go_wp2_with fail
            refine (K2.out _).mono ?_
            rintro e w2 ⟨rfl, rfl⟩
            go_wp2_with fail
            refine (K3.out _ B1.out).mono ?_
            rintro e w3 ⟨rfl, hb⟩
            have GX3 := hide ((hb.block w.heap.size (Array.getElem?_eq_some_iff.1 GX1.out).1).trans GX1.out)
            have B3 := hide (B1.out.trans (hb.mono B1.out.size))
            clear k0 k1 k2 k3 k4
            clear hb
            obtain ⟨k0, k1, k2, k3, k4⟩ := blk5 GX3.out
            go_wp2_with fail
            refine (K4.out _ B3.out).mono ?_
            rintro e w4 ⟨rfl, hb⟩
            have GX4 := hide ((hb.block w.heap.size (Array.getElem?_eq_some_iff.1 GX3.out).1).trans GX3.out)
            have B4 := hide (B3.out.trans (hb.mono B3.out.size))
            clear k0 k1 k2 k3 k4
            clear hb
            obtain ⟨k0, k1, k2, k3, k4⟩ := blk5 GX4.out
            go_wp2_with fail
            refine (K5.out _).mono ?_
            rintro e w5 ⟨rfl, rfl⟩
            go_wp2
            go_ret
            exact ⟨by rw [E.out]; rfl, B4.out⟩
        · have K4 := hide (fun wx hb => C4.out wx hb L3 (by omega) (by omega) (-1) (by rw [if_neg f4]))
          have E : Hid (r = -1) := by show r = -1; rw [HR.out, if_neg (by omega)]
          clear hL1 hL2 hL3 C1 C3 C4 f1 f2 f3 f4
          go_enter Try.func9, Try.ntmps9
          go_wp2_with fail
          refine (K1.out _ BX.out).mono ?_
          rintro e w1 ⟨rfl, hb⟩
          have GX1 := hide ((hb.block w.heap.size (by simp)).trans (blk_newO w (tlL aT nT cT aH nH cH aL nL cL aG nG cG aN nN cN)))
          have B1 := hide (BX.out.trans (hb.mono BX.out.size))
          clear hb
          obtain ⟨k0, k1, k2, k3, k4⟩ := blk5 GX1.out
          go_wp2_with fail
          refine (K2.out _).mono ?_
          rintro e w2 ⟨rfl, rfl⟩
          go_wp2_with fail
          refine (K3.out _ B1.out).mono ?_
          rintro e w3 ⟨rfl, hb⟩
          have GX3 := hide ((hb.block w.heap.size (Array.getElem?_eq_some_iff.1 GX1.out).1).trans GX1.out)
          have B3 := hide (B1.out.trans (hb.mono B1.out.size))
          clear k0 k1 k2 k3 k4
          clear hb
          obtain ⟨k0, k1, k2, k3, k4⟩ := blk5 GX3.out
          go_wp2_with fail
          refine (K4.out _ B3.out).mono ?_
          rintro e w4 ⟨rfl, hb⟩
          have GX4 := hide ((hb.block w.heap.size (Array.getElem?_eq_some_iff.1 GX3.out).1).trans GX3.out)
          have B4 := hide (B3.out.trans (hb.mono B3.out.size))
          clear k0 k1 k2 k3 k4
          clear hb
          obtain ⟨k0, k1, k2, k3, k4⟩ := blk5 GX4.out
          go_wp2
          go_ret
          exact ⟨by rw [E.out]; rfl, B4.out⟩
      · have K3 := hide (fun wx hb => C3.out wx hb L2 (by omega) (by omega) (-1) (by rw [if_neg f3]))
        have E : Hid (r = -1) := by show r = -1; rw [HR.out, if_neg (by omega)]
        clear hL1 hL2 C1 C3 C4 f1 f2 f3
        go_enter Try.func9, Try.ntmps9
        go_wp2_with fail
        refine (K1.out _ BX.out).mono ?_
        rintro e w1 ⟨rfl, hb⟩
        have GX1 := hide ((hb.block w.heap.size (by simp)).trans (blk_newO w (tlL aT nT cT aH nH cH aL nL cL aG nG cG aN nN cN)))
        have B1 := hide (BX.out.trans (hb.mono BX.out.size))
        clear hb
        obtain ⟨k0, k1, k2, k3, k4⟩ := blk5 GX1.out
        go_wp2_with fail
        refine (K2.out _).mono ?_
        rintro e w2 ⟨rfl, rfl⟩
        go_wp2_with fail
        refine (K3.out _ B1.out).mono ?_
        rintro e w3 ⟨rfl, hb⟩
        have GX3 := hide ((hb.block w.heap.size (Array.getElem?_eq_some_iff.1 GX1.out).1).trans GX1.out)
        have B3 := hide (B1.out.trans (hb.mono B1.out.size))
        clear k0 k1 k2 k3 k4
        clear hb
        obtain ⟨k0, k1, k2, k3, k4⟩ := blk5 GX3.out
        go_wp2
        go_ret
        exact ⟨by rw [E.out]; rfl, B3.out⟩
    · have K2 := hide (fun wx => szIntS_any aH nH cH L1 wx (by omega) (by omega) (by omega) (-1) (by rw [if_neg f2]))
      have E : Hid (r = -1) := by show r = -1; rw [HR.out, if_neg (by omega)]
      clear hL1 C1 C3 C4 f1 f2
      go_enter Try.func9, Try.ntmps9
      go_wp2_with fail
      refine (K1.out _ BX.out).mono ?_
      rintro e w1 ⟨rfl, hb⟩
      have GX1 := hide ((hb.block w.heap.size (by simp)).trans (blk_newO w (tlL aT nT cT aH nH cH aL nL cL aG nG cG aN nN cN)))
      have B1 := hide (BX.out.trans (hb.mono BX.out.size))
      clear hb
      obtain ⟨k0, k1, k2, k3, k4⟩ := blk5 GX1.out
      go_wp2_with fail
      refine (K2.out _).mono ?_
      rintro e w2 ⟨rfl, rfl⟩
      go_wp2
      go_ret
      exact ⟨by rw [E.out]; rfl, B1.out⟩
  · have K1 := hide (fun wx hb => C1.out wx hb (-1) (by rw [if_neg f1]))
    have E : Hid (r = -1) := by show r = -1; rw [HR.out, if_neg (by omega)]
    clear  C1 C3 C4 f1
    go_enter Try.func9, Try.ntmps9
    go_wp2_with fail
    refine (K1.out _ BX.out).mono ?_
    rintro e w1 ⟨rfl, hb⟩
    have GX1 := hide ((hb.block w.heap.size (by simp)).trans (blk_newO w (tlL aT nT cT aH nH cH aL nL cL aG nG cG aN nN cN)))
    have B1 := hide (BX.out.trans (hb.mono BX.out.size))
    clear hb
    obtain ⟨k0, k1, k2, k3, k4⟩ := blk5 GX1.out
    go_wp2
    go_ret
    exact ⟨by rw [E.out]; rfl, B1.out⟩
end Go.Proofs.Ythmekhhfihjclag.L10
