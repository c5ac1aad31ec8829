/-
  Contract: spec.PictureOf.
-/
import Derived.Test.YtfjbiihiaoobhajL12SGood
import Derived.Test.YtfjbiihiaoobhajL12SSum
import Derived.Test.YtfjbiihiaoobhajL12STak
import Derived.Deep.DeepCutAuto
namespace Go.Proofs.Ytfjbiihiaoobhaj.L12
open Go.RowKit L1 L9 Own Sli
set_option linter.unusedVariables false

set_option maxRecDepth 100000 in
set_option maxHeartbeats 4000000 in
theorem sPictureOf_any (aC : Option Addr) (nC cC : Nat) (aW : Option Addr) (nW cW : Nat) (aK : Option Addr) (nK cK : Nat) (aH : Option Addr) (nH cH : Nat) (aF : Option Addr) (nF cF : Nat) (m : Bk) (w : World) (hz : BkZ m nC nW nK nH nF) (hF : BkF w aC aW aK aH aF m) (r : Int) (ok : Bool) (hr : PicIs m r ok) :
    Calls Try.prog 12 #[bkV aC nC cC aW nW cW aK nK cK aH nH cH aF nF cF] w fun e w' => e = .returned (.tuple #[.int .i64 r, .bool ok]) ∧ Below w.heap.size w w' := by
  obtain ⟨bg, hbg⟩ := dec_ex12 (GoodB m)
  have CG := hide (fun wx (hb : Below w.heap.size w wx) => sGoodBank_any aC nC cC aW nW cW aK nK cK aH nH cH aF nF cF m wx hz (hF.below hb) bg hbg)
  obtain ⟨W0, hW0⟩ : ∃ W0, w.alloc (bkO aC nC cC aW nW cW aK nK cK aH nH cH aF nF cF) = W0 := ⟨_, rfl⟩
  have BX : Hid (Below w.heap.size w W0) := by rw [← hW0]; exact hide ((Below.refl _ _).alloc (Nat.le_refl _) _)
  have g0 : W0.heap[w.heap.size]? = some (bkO aC nC cC aW nW cW aK nK cK aH nH cH aF nF cF) := by rw [← hW0]; exact blk_newO _ _
  have F0 := hide (hF.below BX.out)
  have HW := hide hW0
  obtain ⟨k0, k1, k2, k3, k4⟩ := blk5 g0
  clear hW0
  have G0 := hide g0
  clear g0
  cases bg with
  | false =>
    obtain ⟨rfl, rfl⟩ := hr.no (fun h => absurd (hbg.2 h.1) (by simp))
    clear hr hbg hF hz
    go_enter Try.func12, Try.ntmps12
    go_upto_region 1 with fail
    rw [HW.out]
    go_wp2_with fail
    refine (CG.out _ BX.out).mono ?_
    rintro e w1 ⟨rfl, hb1⟩
    have D1 := hide hb1
    have B1 := hide (BX.out.trans (hb1.mono BX.out.size))
    have g1 := (hb1.block w.heap.size (Array.getElem?_eq_some_iff.1 G0.out).1).trans G0.out
    clear hb1 k0 k1 k2 k3 k4
    obtain ⟨k0, k1, k2, k3, k4⟩ := blk5 g1
    clear g1
    go_wp2
    go_ret2
    exact ⟨rfl, B1.out⟩
  | true =>
    have g := hbg.1 rfl
    obtain ⟨bt, hbt⟩ := dec_ex12 m.taken
    have CT := hide (fun wx (hb : Below w.heap.size w wx) => l12Taken_any aC nC cC aW nW cW aK nK cK aH nH cH aF nF cF m wx hz (hF.below hb) g bt hbt)
    cases bt with
    | false =>
      obtain ⟨rfl, rfl⟩ := hr.no (fun h => absurd (hbt.2 h.2) (by simp))
      clear hr hbg hF hz hbt g
      go_enter Try.func12, Try.ntmps12
      go_upto_region 1 with fail
      rw [HW.out]
      go_wp2_with fail
      refine (CG.out _ BX.out).mono ?_
      rintro e w1 ⟨rfl, hb1⟩
      have D1 := hide hb1
      have B1 := hide (BX.out.trans (hb1.mono BX.out.size))
      have g1 := (hb1.block w.heap.size (Array.getElem?_eq_some_iff.1 G0.out).1).trans G0.out
      clear hb1 k0 k1 k2 k3 k4
      obtain ⟨k0, k1, k2, k3, k4⟩ := blk5 g1
      clear g1
      go_wp2_with fail
      refine (CT.out _ B1.out).mono ?_
      rintro e w2 ⟨rfl, hb2⟩
      have B2 := hide (B1.out.trans (hb2.mono B1.out.size))
      clear hb2
      go_wp2
      go_ret2
      exact ⟨rfl, B2.out⟩
    | true =>
    have ht := hbt.1 rfl
    obtain ⟨rfl, hre⟩ := hr.yes ⟨g, ht⟩
    have CS := hide (fun wx (hb : Below w.heap.size w wx) => l12Sum_any aK m.k nK cK wx hz.k (hF.k.below hb) (g.smk ht) _ rfl)
    have hA := sm_le (g.smk ht) nK (by rw [hz.k]; exact Nat.le_refl _)
    obtain ⟨A, hA'⟩ : ∃ A, A = sm m.k nK := ⟨_, rfl⟩
    rw [← hA'] at CS hA
    have HE : Hid (r = A + sms m.F nF) := hide (by rw [hre, hA']; unfold Bk.pic; rw [hz.k, hz.F])
    have HLL := hide g.smF
    have FL := hide hF.F
    have NL : Hid (m.F.length = nF) := hide hz.F
    have n50 : nF ≤ 50 := by have := g.smF.1; rw [hz.F] at this; exact this
    have o50 : nK ≤ 50 := by have := (g.smk ht).1; rw [hz.k] at this; exact this
    clear hr hbg hF hz g hre hA' hbt ht
    go_enter Try.func12, Try.ntmps12
    go_upto_region 1 with fail
    rw [HW.out]
    go_wp2_with fail
    refine (CG.out _ BX.out).mono ?_
    rintro e w1 ⟨rfl, hb1⟩
    have D1 := hide hb1
    have B1 := hide (BX.out.trans (hb1.mono BX.out.size))
    have g1 := (hb1.block w.heap.size (Array.getElem?_eq_some_iff.1 G0.out).1).trans G0.out
    clear hb1 k0 k1 k2 k3 k4
    obtain ⟨k0, k1, k2, k3, k4⟩ := blk5 g1
    clear g1
    go_wp2_with fail
    refine (CT.out _ B1.out).mono ?_
    rintro e w2 ⟨rfl, hb2⟩
    have D2 := hide (D1.out.trans (hb2.mono D1.out.size))
    have B2 := hide (B1.out.trans (hb2.mono B1.out.size))
    have g1 := (D2.out.block w.heap.size (Array.getElem?_eq_some_iff.1 G0.out).1).trans G0.out
    clear hb2 k0 k1 k2 k3 k4
    obtain ⟨k0, k1, k2, k3, k4⟩ := blk5 g1
    clear g1
    go_wp2_with fail
    refine (CS.out _ B2.out).mono ?_
    rintro e w2 ⟨rfl, rfl⟩
    go_wp2
    go_loop [4, 21] (fun s t => ∃ q : Nat, q ≤ nF ∧ t = .int .i64 q ∧ s = .int .i64 (A + sms m.F q)) (fun _ t => nF - (intOf t).toNat)
    case atStart => exact ⟨0, Nat.zero_le _, rfl, by simp [sms]⟩
    case round =>
      obtain ⟨q, hq, rfl, rfl⟩ := hrel
      by_cases hlt2 : q < nF
      · obtain ⟨p, off, rfl, ai, ci, hc0, hs0⟩ := FL.out q (by rw [NL.out]; exact hlt2)
        have hc := (B2.out.cell (p := ⟨p, off + q, none⟩) (blk_lt hc0)).trans hc0
        have hs := hs0.below B2.out
        have hltI2 : (q : Int) < (nF : Int) := by omega
        have h1 := sms_le HLL.out q (by rw [NL.out]; omega)
        have hrow := HLL.out.2 q (by rw [NL.out]; exact hlt2)
        have hst : sms m.F (q + 1) = sms m.F q + sm (m.F.getD q []) (m.F.getD q []).length := rfl
        obtain ⟨g, hg⟩ : ∃ g, g = m.F.getD q [] := ⟨_, rfl⟩
        rw [← hg] at hc hs hrow hst
        obtain ⟨L, hL⟩ : ∃ L, L = g.length := ⟨_, rfl⟩
        rw [← hL] at hc hst
        have h2 := sm_le hrow L (by omega)
        have L50 : L ≤ 50 := by have := hrow.1; omega
        obtain ⟨z, hz'⟩ : ∃ z, z = sm g L := ⟨_, rfl⟩
        have CR := hide (fun wx (hsx : Sl wx ai g) => l12Sum_any ai g L ci wx hL.symm hsx hrow z hz')
        obtain ⟨y, hy⟩ : ∃ y, y = A + sms m.F q := ⟨_, rfl⟩
        have hy1 : 0 ≤ y ∧ y ≤ 3000000 := by omega
        rw [← hz'] at hst h2
        have HNX : Hid (A + sms m.F (q + 1) = y + z) := hide (by rw [hst]; omega)
        rw [← hy]
        have HSx := hide hs
        have hz1 : 0 ≤ z ∧ z ≤ 50000 := by omega
        clear hy hz' hg hL hst hrow hs hs0 hc0 h1 h2
        go_wp2_with fail
        refine (CR.out _ HSx.out).mono ?_
        rintro e w2 ⟨rfl, rfl⟩
        go_wp2
        go_round
        case rel => exact ⟨q + 1, by omega, by go_num, by rw [HNX.out]⟩
        case measure => simp [intOf]; omega
      · obtain rfl : q = nF := by omega
        have hltI2 : ¬ (q : Int) < (q : Int) := by omega
        obtain ⟨y, hy⟩ : ∃ y, y = A + sms m.F q := ⟨_, rfl⟩
        rw [← hy] at HE ⊢
        clear hy
        go_wp2
        go_ret2
        exact ⟨by rw [HE.out]; rfl, B2.out⟩
end Go.Proofs.Ytfjbiihiaoobhaj.L12
