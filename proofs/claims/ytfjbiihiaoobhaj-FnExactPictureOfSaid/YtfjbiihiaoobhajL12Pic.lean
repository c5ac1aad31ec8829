/-
  Contract: impl.PictureOf.
-/
import Derived.Test.YtfjbiihiaoobhajL12Good
import Derived.Test.YtfjbiihiaoobhajL12Sum
import Derived.Test.YtfjbiihiaoobhajL12Tak
import Derived.Deep.DeepCutAuto
namespace Go.Proofs.Ytfjbiihiaoobhaj.L12
open Go.RowKit L1 L9 Own Sli
set_option linter.unusedVariables false

set_option maxRecDepth 100000 in
set_option maxHeartbeats 4000000 in
theorem pictureOf_any (aC : Option Addr) (nC cC : Nat) (aW : Option Addr) (nW cW : Nat) (aK : Option Addr) (nK cK : Nat) (aH : Option Addr) (nH cH : Nat) (aF : Option Addr) (nF cF : Nat) (m : Bk) (w : World) (hz : BkZ m nC nW nK nH nF) (hF : BkF w aC aW aK aH aF m) (r : Int) (ok : Bool) (hr : PicIs m r ok) :
    Calls Try.prog 13 #[bkV aC nC cC aW nW cW aK nK cK aH nH cH aF nF cF] w fun e w' => e = .returned (.tuple #[.int .i64 r, .bool ok]) ∧ Below w.heap.size w w' := by
  obtain ⟨bg, hbg⟩ := dec_ex12 (GoodB m)
  have CG := hide (fun wx (hb : Below w.heap.size w wx) => goodBank_any aC nC cC aW nW cW aK nK cK aH nH cH aF nF cF m wx hz (hF.below hb) bg hbg)
  obtain ⟨W0, hW0⟩ : ∃ W0, w.alloc (bkO aC nC cC aW nW cW aK nK cK aH nH cH aF nF cF) = W0 := ⟨_, rfl⟩
  have BX : Hid (Below w.heap.size w W0) := by rw [← hW0]; exact hide ((Below.refl _ _).alloc (Nat.le_refl _) _)
  have g0 : W0.heap[w.heap.size]? = some (bkO aC nC cC aW nW cW aK nK cK aH nH cH aF nF cF) := by rw [← hW0]; exact blk_newO _ _
  have F0 := hide (hF.below BX.out)
  have HW := hide hW0
  obtain ⟨k0, k1, k2, k3, k4⟩ := blk5 g0
  clear hW0
  have G0 := hide g0
  clear g0
  cases bg with
  | false =>
    obtain ⟨rfl, rfl⟩ := hr.no (fun h => absurd (hbg.2 h.1) (by simp))
    clear hr hbg hF hz
    go_enter Try.func13, Try.ntmps13
    go_upto_region 1 with fail
    rw [HW.out]
    go_wp2_with fail
    refine (CG.out _ BX.out).mono ?_
    rintro e w1 ⟨rfl, hb1⟩
    have D1 := hide hb1
    have B1 := hide (BX.out.trans (hb1.mono BX.out.size))
    have g1 := (hb1.block w.heap.size (Array.getElem?_eq_some_iff.1 G0.out).1).trans G0.out
    clear hb1 k0 k1 k2 k3 k4
    obtain ⟨k0, k1, k2, k3, k4⟩ := blk5 g1
    clear g1
    go_wp2
    go_ret2
    exact ⟨rfl, B1.out⟩
  | true =>
    have g := hbg.1 rfl
    obtain ⟨bt, hbt⟩ := dec_ex12 m.taken
    have CT := hide (fun wx (hb : Below w.heap.size w wx) => isTaken_any aC nC cC aW nW cW aK nK cK aH nH cH aF nF cF m wx hz (hF.below hb) g.l bt hbt)
    cases bt with
    | false =>
      obtain ⟨rfl, rfl⟩ := hr.no (fun h => absurd (hbt.2 h.2) (by simp))
      clear hr hbg hF hz hbt g
      go_enter Try.func13, Try.ntmps13
      go_upto_region 1 with fail
      rw [HW.out]
      go_wp2_with fail
      refine (CG.out _ BX.out).mono ?_
      rintro e w1 ⟨rfl, hb1⟩
      have D1 := hide hb1
      have B1 := hide (BX.out.trans (hb1.mono BX.out.size))
      have g1 := (hb1.block w.heap.size (Array.getElem?_eq_some_iff.1 G0.out).1).trans G0.out
      clear hb1 k0 k1 k2 k3 k4
      obtain ⟨k0, k1, k2, k3, k4⟩ := blk5 g1
      clear g1
      go_wp2_with fail
      refine (CT.out _ B1.out).mono ?_
      rintro e w2 ⟨rfl, hb2⟩
      have B2 := hide (B1.out.trans (hb2.mono B1.out.size))
      clear hb2
      go_wp2
      go_ret2
      exact ⟨rfl, B2.out⟩
    | true =>
    have ht := hbt.1 rfl
    obtain ⟨rfl, hre⟩ := hr.yes ⟨g, ht⟩
    have CC := hide (fun wx (hb : Below w.heap.size w wx) => coins_any aK m.k nK cK aF m.F nF cF wx hz.k (hF.k.below hb) (g.smk ht) hz.F (hF.F.below hb) g.smF r (by rw [hre]; unfold Bk.pic; rw [hz.k, hz.F]))
    clear hr hbg hF hz g hre hbt ht
    go_enter Try.func13, Try.ntmps13
    go_upto_region 1 with fail
    rw [HW.out]
    go_wp2_with fail
    refine (CG.out _ BX.out).mono ?_
    rintro e w1 ⟨rfl, hb1⟩
    have D1 := hide hb1
    have B1 := hide (BX.out.trans (hb1.mono BX.out.size))
    have g1 := (hb1.block w.heap.size (Array.getElem?_eq_some_iff.1 G0.out).1).trans G0.out
    clear hb1 k0 k1 k2 k3 k4
    obtain ⟨k0, k1, k2, k3, k4⟩ := blk5 g1
    clear g1
    go_wp2_with fail
    refine (CT.out _ B1.out).mono ?_
    rintro e w2 ⟨rfl, hb2⟩
    have D2 := hide (D1.out.trans (hb2.mono D1.out.size))
    have B2 := hide (B1.out.trans (hb2.mono B1.out.size))
    have g1 := (D2.out.block w.heap.size (Array.getElem?_eq_some_iff.1 G0.out).1).trans G0.out
    clear hb2 k0 k1 k2 k3 k4
    obtain ⟨k0, k1, k2, k3, k4⟩ := blk5 g1
    clear g1
    go_wp2_with fail
    refine (CC.out _ B2.out).mono ?_
    rintro e w3 ⟨rfl, rfl⟩
    go_wp2
    go_ret2
    exact ⟨rfl, B2.out⟩
end Go.Proofs.Ytfjbiihiaoobhaj.L12
