/-
  Contract: impl.IsTaken.
-/
import Derived.Test.YtfjbiihiaoobhajL12Good
import Derived.Test.YtfjbiihiaoobhajL12Tak
import Derived.Deep.DeepCutAuto
namespace Go.Proofs.Ytfjbiihiaoobhaj.L12
open Go.RowKit L1 L9 Own Sli
set_option linter.unusedVariables false

set_option maxRecDepth 100000 in
set_option maxHeartbeats 4000000 in
theorem isTakenB_any (aC : Option Addr) (nC cC : Nat) (aW : Option Addr) (nW cW : Nat) (aK : Option Addr) (nK cK : Nat) (aH : Option Addr) (nH cH : Nat) (aF : Option Addr) (nF cF : Nat) (m : Bk) (w : World) (hz : BkZ m nC nW nK nH nF) (hF : BkF w aC aW aK aH aF m) (r ok : Bool) (hr : TakIs m r ok) :
    Calls Try.prog 15 #[bkV aC nC cC aW nW cW aK nK cK aH nH cH aF nF cF] w fun e w' => e = .returned (.tuple #[.bool r, .bool ok]) ∧ Below w.heap.size w w' := by
  obtain ⟨bg, hbg⟩ := dec_ex12 (GoodB m)
  have CG := hide (fun wx (hb : Below w.heap.size w wx) => goodBank_any aC nC cC aW nW cW aK nK cK aH nH cH aF nF cF m wx hz (hF.below hb) bg hbg)
  obtain ⟨W0, hW0⟩ : ∃ W0, w.alloc (bkO aC nC cC aW nW cW aK nK cK aH nH cH aF nF cF) = W0 := ⟨_, rfl⟩
  have BX : Hid (Below w.heap.size w W0) := by rw [← hW0]; exact hide ((Below.refl _ _).alloc (Nat.le_refl _) _)
  have g0 : W0.heap[w.heap.size]? = some (bkO aC nC cC aW nW cW aK nK cK aH nH cH aF nF cF) := by rw [← hW0]; exact blk_newO _ _
  have F0 := hide (hF.below BX.out)
  have HW := hide hW0
  obtain ⟨k0, k1, k2, k3, k4⟩ := blk5 g0
  clear hW0
  have G0 := hide g0
  clear g0
  cases bg with
  | false =>
    obtain rfl : ok = false := bool_no12 hr.ok (fun h => absurd (hbg.2 h) (by simp))
    obtain rfl : r = false := bool_no12 hr.r (fun h => absurd (hbg.2 h.1) (by simp))
    clear hr hbg hF hz
    go_enter Try.func15, Try.ntmps15
    go_upto_region 1 with fail
    rw [HW.out]
    go_wp2_with fail
    refine (CG.out _ BX.out).mono ?_
    rintro e w1 ⟨rfl, hb1⟩
    have D1 := hide hb1
    have B1 := hide (BX.out.trans (hb1.mono BX.out.size))
    have g1 := (hb1.block w.heap.size (Array.getElem?_eq_some_iff.1 G0.out).1).trans G0.out
    clear hb1 k0 k1 k2 k3 k4
    obtain ⟨k0, k1, k2, k3, k4⟩ := blk5 g1
    clear g1
    go_wp2
    go_ret2
    exact ⟨rfl, B1.out⟩
  | true =>
    have g := hbg.1 rfl
    obtain rfl : ok = true := hr.ok.2 g
    have CT := hide (fun wx (hb : Below w.heap.size w wx) => isTaken_any aC nC cC aW nW cW aK nK cK aH nH cH aF nF cF m wx hz (hF.below hb) g.l r (by rw [hr.r]; exact ⟨fun h => h.2, fun h => ⟨g, h⟩⟩))
    clear hr hbg hF hz g
    go_enter Try.func15, Try.ntmps15
    go_upto_region 1 with fail
    rw [HW.out]
    go_wp2_with fail
    refine (CG.out _ BX.out).mono ?_
    rintro e w1 ⟨rfl, hb1⟩
    have D1 := hide hb1
    have B1 := hide (BX.out.trans (hb1.mono BX.out.size))
    have g1 := (hb1.block w.heap.size (Array.getElem?_eq_some_iff.1 G0.out).1).trans G0.out
    clear hb1 k0 k1 k2 k3 k4
    obtain ⟨k0, k1, k2, k3, k4⟩ := blk5 g1
    clear g1
    go_wp2_with fail
    refine (CT.out _ B1.out).mono ?_
    rintro e w2 ⟨rfl, hb2⟩
    have B2 := hide (B1.out.trans (hb2.mono B1.out.size))
    clear hb2
    go_wp2
    go_ret2
    exact ⟨rfl, B2.out⟩
end Go.Proofs.Ytfjbiihiaoobhaj.L12
