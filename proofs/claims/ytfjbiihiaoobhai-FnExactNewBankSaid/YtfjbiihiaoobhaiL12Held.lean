/-
  Contract of the laws' own helper laws.heldBank.
-/
import Derived.Test.YtfjbiihiaoobhaiL12MarkD
import Derived.Test.YtfjbiihiaoobhaiL12HeldS
import Derived.Deep.DeepCutAuto
namespace Go.Proofs.Ytfjbiihiaoobhai.L12
open Go.RowKit L1 L4 L9 Own Sli
set_option linter.unusedVariables false

set_option maxRecDepth 100000 in
set_option maxHeartbeats 4000000 in
theorem heldBank_bk (aC : Option Addr) (nC cC : Nat) (aW : Option Addr) (nW cW : Nat) (aK : Option Addr) (nK cK : Nat) (aH : Option Addr) (nH cH : Nat) (aF : Option Addr) (nF cF : Nat) (m : Bk) (w : World) (hC : m.c.length = nC) (hWl : m.W.length = nW) (hK : m.k.length = nK) (hHl : m.H.length = nH) (hFl : m.F.length = nF) (hz : SmB m) (hF : BkF w aC aW aK aH aF (mkd m nC nW nK nH nF)) :
    Calls Try.prog 25 #[bkV aC nC cC aW nW cW aK nK cK aH nH cH aF nF cF, .int .i64 1] w fun e w' => e = .returned (.int .i64 (mkt m nC nW nK nH nF)) ∧ Below w.heap.size w w' := by
  have z1 := hz.c
  have z3 := hz.k
  have zW := hz.W.p
  have zH := hz.H.p
  have zF := hz.F.p
  rw [hC] at z1
  rw [hK] at z3
  rw [hWl] at zW
  rw [hHl] at zH
  rw [hFl] at zF
  obtain ⟨pW, hpW⟩ : ∃ p, pre m.W nW = p := ⟨_, rfl⟩
  obtain ⟨pH, hpH⟩ : ∃ p, pre m.H nH = p := ⟨_, rfl⟩
  obtain ⟨pF, hpF⟩ : ∃ p, pre m.F nF = p := ⟨_, rfl⟩
  rw [hpW] at zW
  rw [hpH] at zH
  rw [hpF] at zF
  have BX := hide ((Below.refl w.heap.size w).alloc (Nat.le_refl _) (bkO aC nC cC aW nW cW aK nK cK aH nH cH aF nF cF))
  have G0 := hide (blk_newO w (bkO aC nC cC aW nW cW aK nK cK aH nH cH aF nF cF))
  have C1 := hide (fun wx (h : Below w.heap.size w wx) => heldIntS_from aC nC cC 1 wx (by omega) (by omega) (by omega) (hF.c.below h))
  have C2 := hide (fun wx (h : Below w.heap.size w wx) => held_I aW nW cW (1 + (nC : Int)) m.W wx hWl (by omega) (by omega) hz.W (hF.W.below h))
  have C3 := hide (fun wx (h : Below w.heap.size w wx) => heldIntS_from aK nK cK (1 + (nC : Int) + (pW : Int)) wx (by omega) (by omega) (by omega) (by rw [← hpW]; exact hF.k.below h))
  have C4 := hide (fun wx (h : Below w.heap.size w wx) => held_B aH nH cH (1 + (nC : Int) + (pW : Int) + (nK : Int)) m.H wx hHl (by omega) (by omega) hz.H (by rw [← hpW]; exact hF.H.below h))
  have C5 := hide (fun wx (h : Below w.heap.size w wx) => held_I aF nF cF (1 + (nC : Int) + (pW : Int) + (nK : Int) + (pH : Int)) m.F wx hFl (by omega) (by omega) hz.F (by rw [← hpW, ← hpH]; exact hF.F.below h))
  rw [hpW] at C2
  rw [hpH] at C4
  rw [hpF] at C5
  have PW := hide hpW
  have PH := hide hpH
  have PF := hide hpF
  obtain ⟨W0, hW0⟩ : ∃ W0, w.alloc (bkO aC nC cC aW nW cW aK nK cK aH nH cH aF nF cF) = W0 := ⟨_, rfl⟩
  rw [hW0] at BX G0
  have HW0 := hide hW0
  clear hW0 hF hz hC hWl hK hHl hFl hpW hpH hpF
  obtain ⟨y0, y1, y2, y3, y4⟩ := blk5 G0.out
  go_enter Try.func25, Try.ntmps25
  go_upto_region 1 with fail
  rw [HW0.out]
  clear HW0
  go_wp2_with fail
  refine (C1.out _ BX.out).mono ?_
  rintro e w1 ⟨rfl, hb⟩
  have B1 := hide (BX.out.trans (hb.mono BX.out.size))
  have G1 := hide ((hb.block w.heap.size (Array.getElem?_eq_some_iff.1 G0.out).1).trans G0.out)
  have n1 : ¬ 1 + (nC : Int) < 0 := by omega
  clear hb y0 y1 y2 y3 y4
  obtain ⟨y0, y1, y2, y3, y4⟩ := blk5 G1.out
  go_wp2_with fail
  refine (C2.out _ B1.out).mono ?_
  rintro e w2 ⟨rfl, hb⟩
  have B2 := hide (B1.out.trans (hb.mono B1.out.size))
  have G2 := hide ((hb.block w.heap.size (Array.getElem?_eq_some_iff.1 G1.out).1).trans G1.out)
  have n2 : ¬ 1 + (nC : Int) + (pW : Int) < 0 := by omega
  clear hb y0 y1 y2 y3 y4
  obtain ⟨y0, y1, y2, y3, y4⟩ := blk5 G2.out
  go_wp2_with fail
  refine (C3.out _ B2.out).mono ?_
  rintro e w3 ⟨rfl, hb⟩
  have B3 := hide (B2.out.trans (hb.mono B2.out.size))
  have G3 := hide ((hb.block w.heap.size (Array.getElem?_eq_some_iff.1 G2.out).1).trans G2.out)
  have n3 : ¬ 1 + (nC : Int) + (pW : Int) + (nK : Int) < 0 := by omega
  clear hb y0 y1 y2 y3 y4
  obtain ⟨y0, y1, y2, y3, y4⟩ := blk5 G3.out
  go_wp2_with fail
  refine (C4.out _ B3.out).mono ?_
  rintro e w4 ⟨rfl, hb⟩
  have B4 := hide (B3.out.trans (hb.mono B3.out.size))
  have G4 := hide ((hb.block w.heap.size (Array.getElem?_eq_some_iff.1 G3.out).1).trans G3.out)
  have n4 : ¬ 1 + (nC : Int) + (pW : Int) + (nK : Int) + (pH : Int) < 0 := by omega
  clear hb y0 y1 y2 y3 y4
  obtain ⟨y0, y1, y2, y3, y4⟩ := blk5 G4.out
  go_wp2_with fail
  refine (C5.out _ B4.out).mono ?_
  rintro e w5 ⟨rfl, hb⟩
  have B5 := hide (B4.out.trans (hb.mono B4.out.size))
  have G5 := hide ((hb.block w.heap.size (Array.getElem?_eq_some_iff.1 G4.out).1).trans G4.out)
  have n5 : ¬ 1 + (nC : Int) + (pW : Int) + (nK : Int) + (pH : Int) + (pF : Int) < 0 := by omega
  clear hb y0 y1 y2 y3 y4
  obtain ⟨y0, y1, y2, y3, y4⟩ := blk5 G5.out
  go_wp2
  go_ret
  refine ⟨?_, B5.out⟩
  unfold mkt
  rw [PW.out, PH.out, PF.out]
  rfl
end Go.Proofs.Ytfjbiihiaoobhai.L12
