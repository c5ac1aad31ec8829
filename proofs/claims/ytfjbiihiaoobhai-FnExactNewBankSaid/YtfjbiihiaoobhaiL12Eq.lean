/-
  Contract of the laws' own helper eqBank.
-/
import Derived.Test.YtfjbiihiaoobhaiL12Mem
import Derived.Test.YtfjbiihiaoobhaiSIEq
import Derived.Test.YtfjbiihiaoobhaiSBEq
import Derived.Test.YtfjbiihiaoobhaiL1Eq
import Derived.Deep.DeepCutAuto
namespace Go.Proofs.Ytfjbiihiaoobhai.L12
open Go.RowKit L1 L9 Own Sli
set_option linter.unusedVariables false

set_option maxRecDepth 100000 in
set_option maxHeartbeats 4000000 in
theorem eqBank_same (aC : Option Addr) (cC : Nat) (aW : Option Addr) (cW : Nat) (aK : Option Addr) (cK : Nat) (aH : Option Addr) (cH : Nat) (aF : Option Addr) (cF : Nat) (bC : Option Addr) (dC : Nat) (bW : Option Addr) (dW : Nat) (bK : Option Addr) (dK : Nat) (bH : Option Addr) (dH : Nat) (bF : Option Addr) (dF : Nat) (nC nW nK nH nF : Nat) (m : Bk) (w : World) (hz : BkZ m nC nW nK nH nF) (h1 : BkF w aC aW aK aH aF m) (h2 : BkF w bC bW bK bH bF m) :
    Calls Try.prog 23 #[bkV aC nC cC aW nW cW aK nK cK aH nH cH aF nF cF, bkV bC nC dC bW nW dW bK nK dK bH nH dH bF nF dF] w fun e w' => e = .returned (.bool true) ∧ Below w.heap.size w w' := by
  obtain ⟨W0, hW0⟩ : ∃ W0, (w.alloc (bkO aC nC cC aW nW cW aK nK cK aH nH cH aF nF cF)).alloc (bkO bC nC dC bW nW dW bK nK dK bH nH dH bF nF dF) = W0 := ⟨_, rfl⟩
  have BX : Hid (Below w.heap.size w W0) := by rw [← hW0]; exact hide (((Below.refl _ _).alloc (Nat.le_refl _) _).alloc (by simp) _)
  have G0 : Hid (W0.heap[w.heap.size]? = some (bkO aC nC cC aW nW cW aK nK cK aH nH cH aF nF cF)) := by
    rw [← hW0]
    exact hide ((((Below.refl (w.alloc (bkO aC nC cC aW nW cW aK nK cK aH nH cH aF nF cF)).heap.size _).alloc (Nat.le_refl _) _).block w.heap.size (by simp)).trans (blk_newO _ _))
  have H0 : Hid (W0.heap[w.heap.size + 1]? = some (bkO bC nC dC bW nW dW bK nK dK bH nH dH bF nF dF)) := by
    rw [← hW0]
    have := blk_newO (w.alloc (bkO aC nC cC aW nW cW aK nK cK aH nH cH aF nF cF)) (bkO bC nC dC bW nW dW bK nK dK bH nH dH bF nF dF)
    rw [World.size_alloc] at this
    exact hide this
  have C1 := hide (fun wx (hb : Below w.heap.size w wx) => eqIntS_same aC bC m.c nC cC dC wx hz.c (h1.c.below hb) (h2.c.below hb) hz.bc)
  have C2 := hide (fun wx (hb : Below w.heap.size w wx) => eqIntSS_same aW bW m.W nW cW dW wx hz.W (h1.W.below hb) (h2.W.below hb) hz.bW hz.sW)
  have C3 := hide (fun wx (hb : Below w.heap.size w wx) => eqIntS_same aK bK m.k nK cK dK wx hz.k (h1.k.below hb) (h2.k.below hb) hz.bk)
  have C4 := hide (fun wx (hb : Below w.heap.size w wx) => eqBoolSS_same aH bH m.H nH cH dH wx hz.H (h1.H.below hb) (h2.H.below hb) hz.bH hz.sH)
  have C5 := hide (fun wx (hb : Below w.heap.size w wx) => eqIntSS_same aF bF m.F nF cF dF wx hz.F (h1.F.below hb) (h2.F.below hb) hz.bF hz.sF)
  have HW := hide hW0
  clear hW0 h1 h2 hz
  obtain ⟨k0, k1, k2, k3, k4⟩ := blk5 G0.out
  obtain ⟨j0, j1, j2, j3, j4⟩ := blk5 H0.out
  go_enter Try.func23, Try.ntmps23
  go_upto_region 1 with fail
  rw [HW.out]
  clear HW
  go_wp2_with fail
  refine (C1.out _ BX.out).mono ?_
  rintro e w1 ⟨rfl, hb⟩
  have B1 := hide (BX.out.trans (hb.mono BX.out.size))
  have G1 := hide ((hb.block w.heap.size (Array.getElem?_eq_some_iff.1 G0.out).1).trans G0.out)
  have H1 := hide ((hb.block (w.heap.size + 1) (Array.getElem?_eq_some_iff.1 H0.out).1).trans H0.out)
  clear hb k0 k1 k2 k3 k4 j0 j1 j2 j3 j4
  obtain ⟨k0, k1, k2, k3, k4⟩ := blk5 G1.out
  obtain ⟨j0, j1, j2, j3, j4⟩ := blk5 H1.out
  go_wp2_with fail
  refine (C2.out _ B1.out).mono ?_
  rintro e w2 ⟨rfl, hb⟩
  have B2 := hide (B1.out.trans (hb.mono B1.out.size))
  have G2 := hide ((hb.block w.heap.size (Array.getElem?_eq_some_iff.1 G1.out).1).trans G1.out)
  have H2 := hide ((hb.block (w.heap.size + 1) (Array.getElem?_eq_some_iff.1 H1.out).1).trans H1.out)
  clear hb k0 k1 k2 k3 k4 j0 j1 j2 j3 j4
  obtain ⟨k0, k1, k2, k3, k4⟩ := blk5 G2.out
  obtain ⟨j0, j1, j2, j3, j4⟩ := blk5 H2.out
  go_wp2_with fail
  refine (C3.out _ B2.out).mono ?_
  rintro e w3 ⟨rfl, hb⟩
  have B3 := hide (B2.out.trans (hb.mono B2.out.size))
  have G3 := hide ((hb.block w.heap.size (Array.getElem?_eq_some_iff.1 G2.out).1).trans G2.out)
  have H3 := hide ((hb.block (w.heap.size + 1) (Array.getElem?_eq_some_iff.1 H2.out).1).trans H2.out)
  clear hb k0 k1 k2 k3 k4 j0 j1 j2 j3 j4
  obtain ⟨k0, k1, k2, k3, k4⟩ := blk5 G3.out
  obtain ⟨j0, j1, j2, j3, j4⟩ := blk5 H3.out
  go_wp2_with fail
  refine (C4.out _ B3.out).mono ?_
  rintro e w4 ⟨rfl, hb⟩
  have B4 := hide (B3.out.trans (hb.mono B3.out.size))
  have G4 := hide ((hb.block w.heap.size (Array.getElem?_eq_some_iff.1 G3.out).1).trans G3.out)
  have H4 := hide ((hb.block (w.heap.size + 1) (Array.getElem?_eq_some_iff.1 H3.out).1).trans H3.out)
  clear hb k0 k1 k2 k3 k4 j0 j1 j2 j3 j4
  obtain ⟨k0, k1, k2, k3, k4⟩ := blk5 G4.out
  obtain ⟨j0, j1, j2, j3, j4⟩ := blk5 H4.out
  go_wp2_with fail
  refine (C5.out _ B4.out).mono ?_
  rintro e w5 ⟨rfl, hb⟩
  have B5 := hide (B4.out.trans (hb.mono B4.out.size))
  have G5 := hide ((hb.block w.heap.size (Array.getElem?_eq_some_iff.1 G4.out).1).trans G4.out)
  have H5 := hide ((hb.block (w.heap.size + 1) (Array.getElem?_eq_some_iff.1 H4.out).1).trans H4.out)
  clear hb k0 k1 k2 k3 k4 j0 j1 j2 j3 j4
  obtain ⟨k0, k1, k2, k3, k4⟩ := blk5 G5.out
  obtain ⟨j0, j1, j2, j3, j4⟩ := blk5 H5.out
  go_wp2
  go_ret
  exact ⟨rfl, B5.out⟩
end Go.Proofs.Ytfjbiihiaoobhai.L12
