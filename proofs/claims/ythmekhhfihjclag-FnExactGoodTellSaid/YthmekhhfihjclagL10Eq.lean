/-
  Contract of the laws' own helper eqTell.
-/
import Derived.Test.YthmekhhfihjclagL10Mem
import Derived.Test.YthmekhhfihjclagSSEq
import Derived.Test.YthmekhhfihjclagNoteEq
import Derived.Test.YthmekhhfihjclagTriToldEq
import Derived.Test.YthmekhhfihjclagL1Eq
import Derived.Deep.DeepCutAuto
namespace Go.Proofs.Ythmekhhfihjclag.L10
open Go.RowKit L1 Own Str Nte Tri
set_option linter.unusedVariables false

set_option maxRecDepth 100000 in
set_option maxHeartbeats 4000000 in
theorem eqTell_same (aT : Option Addr) (cT : Nat) (aH : Option Addr) (cH : Nat) (aL : Option Addr) (cL : Nat) (aG : Option Addr) (cG : Nat) (aN : Option Addr) (cN : Nat) (bT : Option Addr) (dT : Nat) (bH : Option Addr) (dH : Nat) (bL : Option Addr) (dL : Nat) (bG : Option Addr) (dG : Nat) (bN : Option Addr) (dN : Nat) (nT nH nL nG nN : Nat) (m : Tm) (w : World) (hz : TlZ m nT nH nL nG nN) (h1 : TlF w aT aH aL aG aN m) (h2 : TlF w bT bH bL bG bN m) :
    Calls Try.prog 13 #[tlV aT nT cT aH nH cH aL nL cL aG nG cG aN nN cN, tlV bT nT dT bH nH dH bL nL dL bG nG dG bN nN dN] w fun e w' => e = .returned (.bool true) ∧ Below w.heap.size w w' := by
  obtain ⟨W0, hW0⟩ : ∃ W0, (w.alloc (tlO aT nT cT aH nH cH aL nL cL aG nG cG aN nN cN)).alloc (tlO bT nT dT bH nH dH bL nL dL bG nG dG bN nN dN) = W0 := ⟨_, rfl⟩
  have BX : Hid (Below w.heap.size w W0) := by rw [← hW0]; exact hide (((Below.refl _ _).alloc (Nat.le_refl _) _).alloc (by simp) _)
  have G0 : Hid (W0.heap[w.heap.size]? = some (tlO aT nT cT aH nH cH aL nL cL aG nG cG aN nN cN)) := by
    rw [← hW0]
    exact hide ((((Below.refl (w.alloc (tlO aT nT cT aH nH cH aL nL cL aG nG cG aN nN cN)).heap.size _).alloc (Nat.le_refl _) _).block w.heap.size (by simp)).trans (blk_newO _ _))
  have H0 : Hid (W0.heap[w.heap.size + 1]? = some (tlO bT nT dT bH nH dH bL nL dL bG nG dG bN nN dN)) := by
    rw [← hW0]
    have := blk_newO (w.alloc (tlO aT nT cT aH nH cH aL nL cL aG nG cG aN nN cN)) (tlO bT nT dT bH nH dH bL nL dL bG nG dG bN nN dN)
    rw [World.size_alloc] at this
    exact hide this
  have C1 := hide (fun wx (hb : Below w.heap.size w wx) => eqStringSS_same aT bT m.T nT cT dT wx hz.t (h1.t.below hb) (h2.t.below hb) hz.bt hz.bs)
  have C2 := hide (fun wx (hb : Below w.heap.size w wx) => eqIntS_same aH bH m.hd nH cH dH wx hz.h (h1.h.below hb) (h2.h.below hb) hz.bh)
  have C3 := hide (fun wx (hb : Below w.heap.size w wx) => eqNoteS_same aL bL m.ln nL cL dL wx hz.l (h1.l.below hb) (h2.l.below hb) hz.bl)
  have C4 := hide (fun wx (hb : Below w.heap.size w wx) => eqToldS_same aG bG m.lg nG cG dG wx hz.g (h1.g.below hb) (h2.g.below hb) hz.bg)
  have C5 := hide (fun wx (hb : Below w.heap.size w wx) => eqIntS_same aN bN m.nx nN cN dN wx hz.n (h1.n.below hb) (h2.n.below hb) hz.bn)
  have HW := hide hW0
  clear hW0 h1 h2 hz
  obtain ⟨k0, k1, k2, k3, k4⟩ := blk5 G0.out
  obtain ⟨j0, j1, j2, j3, j4⟩ := blk5 H0.out
  go_enter Try.func13, Try.ntmps13
  go_upto_region 1 with fail
  rw [HW.out]
  clear HW
  go_wp2_with fail
  refine (C1.out _ BX.out).mono ?_
  rintro e w1 ⟨rfl, hb⟩
  have B1 := hide (BX.out.trans (hb.mono BX.out.size))
  have G1 := hide ((hb.block w.heap.size (Array.getElem?_eq_some_iff.1 G0.out).1).trans G0.out)
  have H1 := hide ((hb.block (w.heap.size + 1) (Array.getElem?_eq_some_iff.1 H0.out).1).trans H0.out)
  clear hb k0 k1 k2 k3 k4 j0 j1 j2 j3 j4
  obtain ⟨k0, k1, k2, k3, k4⟩ := blk5 G1.out
  obtain ⟨j0, j1, j2, j3, j4⟩ := blk5 H1.out
  go_wp2_with fail
  refine (C2.out _ B1.out).mono ?_
  rintro e w2 ⟨rfl, hb⟩
  have B2 := hide (B1.out.trans (hb.mono B1.out.size))
  have G2 := hide ((hb.block w.heap.size (Array.getElem?_eq_some_iff.1 G1.out).1).trans G1.out)
  have H2 := hide ((hb.block (w.heap.size + 1) (Array.getElem?_eq_some_iff.1 H1.out).1).trans H1.out)
  clear hb k0 k1 k2 k3 k4 j0 j1 j2 j3 j4
  obtain ⟨k0, k1, k2, k3, k4⟩ := blk5 G2.out
  obtain ⟨j0, j1, j2, j3, j4⟩ := blk5 H2.out
  go_wp2_with fail
  refine (C3.out _ B2.out).mono ?_
  rintro e w3 ⟨rfl, hb⟩
  have B3 := hide (B2.out.trans (hb.mono B2.out.size))
  have G3 := hide ((hb.block w.heap.size (Array.getElem?_eq_some_iff.1 G2.out).1).trans G2.out)
  have H3 := hide ((hb.block (w.heap.size + 1) (Array.getElem?_eq_some_iff.1 H2.out).1).trans H2.out)
  clear hb k0 k1 k2 k3 k4 j0 j1 j2 j3 j4
  obtain ⟨k0, k1, k2, k3, k4⟩ := blk5 G3.out
  obtain ⟨j0, j1, j2, j3, j4⟩ := blk5 H3.out
  go_wp2_with fail
  refine (C4.out _ B3.out).mono ?_
  rintro e w4 ⟨rfl, hb⟩
  have B4 := hide (B3.out.trans (hb.mono B3.out.size))
  have G4 := hide ((hb.block w.heap.size (Array.getElem?_eq_some_iff.1 G3.out).1).trans G3.out)
  have H4 := hide ((hb.block (w.heap.size + 1) (Array.getElem?_eq_some_iff.1 H3.out).1).trans H3.out)
  clear hb k0 k1 k2 k3 k4 j0 j1 j2 j3 j4
  obtain ⟨k0, k1, k2, k3, k4⟩ := blk5 G4.out
  obtain ⟨j0, j1, j2, j3, j4⟩ := blk5 H4.out
  go_wp2_with fail
  refine (C5.out _ B4.out).mono ?_
  rintro e w5 ⟨rfl, hb⟩
  have B5 := hide (B4.out.trans (hb.mono B4.out.size))
  have G5 := hide ((hb.block w.heap.size (Array.getElem?_eq_some_iff.1 G4.out).1).trans G4.out)
  have H5 := hide ((hb.block (w.heap.size + 1) (Array.getElem?_eq_some_iff.1 H4.out).1).trans H4.out)
  clear hb k0 k1 k2 k3 k4 j0 j1 j2 j3 j4
  obtain ⟨k0, k1, k2, k3, k4⟩ := blk5 G5.out
  obtain ⟨j0, j1, j2, j3, j4⟩ := blk5 H5.out
  go_wp2
  go_ret
  exact ⟨rfl, B5.out⟩
end Go.Proofs.Ythmekhhfihjclag.L10
