/-
  Contract: impl.GoodTell.
-/
import Derived.Test.YthmekhhfihjclagL10GTl
import Derived.Test.YthmekhhfihjclagL10GLn
import Derived.Test.YthmekhhfihjclagL10GWr
import Derived.Deep.DeepCutAuto
namespace Go.Proofs.Ythmekhhfihjclag.L10
open Go.RowKit L1 Own Str Nte Tri
set_option linter.unusedVariables false

set_option maxRecDepth 100000 in
set_option maxHeartbeats 4000000 in
theorem goodTell_any (aT : Option Addr) (nT cT : Nat) (aH : Option Addr) (nH cH : Nat) (aL : Option Addr) (nL cL : Nat) (aG : Option Addr) (nG cG : Nat) (aN : Option Addr) (nN cN : Nat) (m : Tm) (w : World) (hz : TlZ m nT nH nL nG nN) (hF : TlF w aT aH aL aG aN m) (bb : Bool) (hbb : bb = true ↔ GoodT m) :
    Calls Try.prog 12 #[tlV aT nT cT aH nH cH aL nL cL aG nG cG aN nN cN] w fun e w' => e = .returned (.bool bb) ∧ Below w.heap.size w w' := by
  have BX := (Below.refl w.heap.size w).alloc (Nat.le_refl _) (tlO aT nT cT aH nH cH aL nL cL aG nG cG aN nN cN)
  have g0 := blk_newO w (tlO aT nT cT aH nH cH aL nL cL aG nG cG aN nN cN)
  obtain ⟨W0, hW0⟩ : ∃ W0, W0 = w.alloc (tlO aT nT cT aH nH cH aL nL cL aG nG cG aN nN cN) := ⟨_, rfl⟩
  rw [← hW0] at BX g0
  have HW := hide hW0
  have F0 := hide (hF.below BX)
  have HB := hide BX
  have HG := hide g0
  have HBB := hide hbb
  have HZ := hide hz
  obtain ⟨k0, k1, k2, k3, k4⟩ := blk5 g0
  clear hW0 g0 hbb hz hF BX
  obtain ⟨b1, hb1⟩ := dec_ex (GoodA m)
  obtain ⟨b2, hb2⟩ := dec_ex (GoodL m)
  obtain ⟨b3, hb3⟩ := dec_ex (GoodW m)
  have C1 := hide (goodTellers_any aT nT cT aH nH cH aL nL cL aG nG cG aN nN cN m W0 HZ.out F0.out b1 hb1)
  have C2 := hide (fun wx (hb : Below W0.heap.size W0 wx) => goodLine_any aT nT cT aH nH cH aL nL cL aG nG cG aN nN cN m wx HZ.out (F0.out.below hb) b2 hb2)
  have C3 := hide (fun (hTN : nT = nN) wx (hb : Below W0.heap.size W0 wx) => goodWritten_any aT nT cT aH nH cH aL nL cL aG nG cG aN nN cN m wx HZ.out (F0.out.below hb) hTN b3 hb3)
  have H1 := hide hb1
  have H2 := hide hb2
  have H3 := hide hb3
  clear hb1 hb2 hb3
  go_enter Try.func12, Try.ntmps12
  go_upto_region 1 with fail
  rw [← HW.out]
  go_wp2_with fail
  refine C1.out.mono ?_
  rintro e w1 ⟨rfl, hx⟩
  have B1 := hide hx
  have g1 := (hx.block w.heap.size (Array.getElem?_eq_some_iff.1 HG.out).1).trans HG.out
  clear hx k0 k1 k2 k3 k4
  obtain ⟨k0, k1, k2, k3, k4⟩ := blk5 g1
  clear g1
  cases b1 with
  | false =>
    have E : Hid (bb = false) := bool_no10 HBB.out (fun h => by have := H1.out.2 h.a; cases this)
    go_wp2
    go_ret
    exact ⟨by rw [E.out]; rfl, HB.out.trans (B1.out.mono HB.out.size)⟩
  | true =>
    have hA := H1.out.1 (by first | rfl | trivial)
    have HTN : Hid (nT = nN) := hide (by have := hA.x; have := HZ.out.t; have := HZ.out.n; omega)
    have HA := hide hA
    clear hA
    go_wp2_with fail
    refine (C2.out _ B1.out).mono ?_
    rintro e w2 ⟨rfl, hx⟩
    have B2 := hide (B1.out.trans (hx.mono B1.out.size))
    have g1 := (B2.out.block w.heap.size (Array.getElem?_eq_some_iff.1 HG.out).1).trans HG.out
    clear hx k0 k1 k2 k3 k4
    obtain ⟨k0, k1, k2, k3, k4⟩ := blk5 g1
    clear g1
    cases b2 with
    | false =>
      have E : Hid (bb = false) := bool_no10 HBB.out (fun h => by have := H2.out.2 h.l; cases this)
      go_wp2
      go_ret
      exact ⟨by rw [E.out]; rfl, HB.out.trans (B2.out.mono HB.out.size)⟩
    | true =>
      have HL := hide (H2.out.1 (by first | rfl | trivial))
      go_wp2_with fail
      refine (C3.out HTN.out _ B2.out).mono ?_
      rintro e w3 ⟨rfl, hx⟩
      have B3 := hide (B2.out.trans (hx.mono B2.out.size))
      clear hx
      have E : Hid (bb = b3) := by
        cases b3 with
        | false => exact bool_no10 HBB.out (fun h => by have := H3.out.2 h.w; cases this)
        | true => exact HBB.out.2 ⟨HA.out, HL.out, H3.out.1 (by first | rfl | trivial)⟩
      go_wp2
      go_ret
      exact ⟨by rw [E.out]; rfl, HB.out.trans (B3.out.mono HB.out.size)⟩
end Go.Proofs.Ythmekhhfihjclag.L10
