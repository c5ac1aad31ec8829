/-
  Contract: spec.GoodItems tells whether items are good.
-/
import Derived.Test.YtohcjafklfemfalL14GMath
import Derived.Test.YtohcjafklfemfalL3SpecGood
import Derived.Test.YtohcjafklfemfalIn
namespace Go.Proofs.Ytohcjafklfemfal.L14I
open Go.RowKit L1 L3
set_option linter.unusedVariables false

open Classical in
set_option maxRecDepth 100000 in
set_option maxHeartbeats 2000000 in
theorem specGoodItems_any (a : Option Addr) (L : List Rw) (n cap : Nat) (w : World) (hn : L.length = n) (hm : n ≤ 1048576) (hs : SlR w a L) (hst : TxR L) (hlx : ∀ j, j < L.length → (gr L j).l.length ≤ 1048576) (bb : Bool) (hbb : bb = true ↔ GoodI L) :
    Calls Try.prog 22 #[.slice a n cap] w fun e w' => e = .returned (.bool bb) ∧ Below w.heap.size w w' := by
  have HBB := hide hbb
  have HS := hide hs
  have HN := hide hn
  have HST := hide hst
  have HLX := hide hlx
  clear hbb hs hn hst hlx
  go_enter Try.func22, Try.ntmps22
  go_wp2
  go_loopw [7] (fun i wr => ∃ k : Nat, k ≤ n ∧ i = .int .i64 k ∧ Hid (UpTo L k) ∧ Below w.heap.size w wr) (fun i _ => n - (intOf i).toNat)
  case atStart => exact ⟨0, Nat.zero_le _, rfl, fun j hj => absurd hj (Nat.not_lt_zero _), Below.refl _ _⟩
  case round =>
    obtain ⟨k, hk, rfl, HJ, hbel⟩ := hrel
    by_cases hlt : k < n
    · have hkx : k < L.length := by rw [HN.out]; exact hlt
      obtain ⟨b, off, rfl, ai, ci, hat⟩ := HS.out.below hbel k hkx
      have hsx := HST.out k hkx
      have hlx := HLX.out k hkx
      obtain ⟨x0, x1, t1⟩ := hat
      obtain ⟨p, hp⟩ : ∃ p, p = gr L k := ⟨_, rfl⟩
      rw [← hp] at x0 x1 t1 hsx hlx
      obtain ⟨x, v0⟩ := p
      simp only at x0 x1 t1 hsx hlx
      obtain ⟨m, hm2⟩ : ∃ m, m = x.length := ⟨_, rfl⟩
      rw [← hm2] at x0 hsx hlx
      have hltI : (k : Int) < (n : Int) := by omega
      have HP := hide hp
      have HT := hide t1
      have HB := hide hbel
      by_cases hg : GoodL x
      · have CG := hide (fun w hs => specGoodLabels_any ai x m ci w hm2.symm hs hlx hsx.2 true (by simp [hg]))
        by_cases hv : -1000000 ≤ v0 ∧ v0 ≤ 1000000
        · have CV := hide (fun w => Own.l1In_any v0 (-1000000) 1000000 w true (by simp [hv]))
          have HO : Hid (okI (gr L k)) := by show okI _; rw [← hp]; exact ⟨hg, hv⟩
          clear t1 hp hm2 hsx hlx hg hv hkx hbel
          go_wp2_with fail
          refine (CG.out _ (HT.out.below ((Below.refl _ _).alloc (Nat.le_refl _) _))).mono ?_
          rintro e w1 ⟨rfl, hb⟩
          obtain ⟨c0, c1, _, _⟩ := blkp ((hb.block wr.heap.size (by simp)).trans (L8.blk_new _ _))
          have B1 := hide (HB.out.trans (((Below.refl wr.heap.size wr).alloc (Nat.le_refl _) _).trans (hb.mono (by simp)) |>.mono HB.out.size))
          clear hb
          go_wp2_with fail
          refine (CV.out _).mono ?_
          rintro e w2 ⟨rfl, rfl⟩
          go_wp2
          go_roundw
          case rel => exact ⟨k + 1, by omega, by go_num, HJ.out.next HO.out, B1.out⟩
          case measure => simp [intOf]; omega
        · have CV := hide (fun w => Own.l1In_any v0 (-1000000) 1000000 w false (by simp [hv]))
          have E := hide (bool_no14 HBB.out (fun h => hv (by have := h.2 k hkx; rw [← hp] at this; exact this.2)))
          clear t1 hp hm2 hsx hlx hg hv hkx hbel
          go_wp2_with fail
          refine (CG.out _ (HT.out.below ((Below.refl _ _).alloc (Nat.le_refl _) _))).mono ?_
          rintro e w1 ⟨rfl, hb⟩
          obtain ⟨c0, c1, _, _⟩ := blkp ((hb.block wr.heap.size (by simp)).trans (L8.blk_new _ _))
          have B1 := hide (HB.out.trans (((Below.refl wr.heap.size wr).alloc (Nat.le_refl _) _).trans (hb.mono (by simp)) |>.mono HB.out.size))
          clear hb
          go_wp2_with fail
          refine (CV.out _).mono ?_
          rintro e w2 ⟨rfl, rfl⟩
          go_wp2
          go_ret
          exact ⟨by rw [E.out]; rfl, B1.out⟩
      · have CG := hide (fun w hs => specGoodLabels_any ai x m ci w hm2.symm hs hlx hsx.2 false (by simp [hg]))
        have E := hide (bool_no14 HBB.out (fun h => hg (by have := h.2 k hkx; rw [← hp] at this; exact this.1)))
        clear t1 hp hm2 hsx hlx hg hkx hbel
        go_wp2_with fail
        refine (CG.out _ (HT.out.below ((Below.refl _ _).alloc (Nat.le_refl _) _))).mono ?_
        rintro e w1 ⟨rfl, hb⟩
        have B1 := hide (HB.out.trans (((Below.refl wr.heap.size wr).alloc (Nat.le_refl _) _).trans (hb.mono (by simp)) |>.mono HB.out.size))
        clear hb
        go_wp2
        go_ret
        exact ⟨by rw [E.out]; rfl, B1.out⟩
    · obtain rfl : k = n := by omega
      have hltI : ¬ (k : Int) < (k : Int) := by omega
      have B1 := hide hbel
      clear hbel
      by_cases h8 : (k : Int) ≤ 40
      · have E := hide (HBB.out.2 ⟨by rw [HN.out]; omega, by rw [HN.out]; exact HJ.out⟩)
        go_wp2
        go_ret
        exact ⟨by rw [E.out]; rfl, B1.out⟩
      · have E := hide (bool_no14 HBB.out (fun h => by have h2 := h.1; have h3 := HN.out; rw [h3] at h2; exact h8 (by omega)))
        go_wp2
        go_ret
        exact ⟨by rw [E.out]; rfl, B1.out⟩
end Go.Proofs.Ytohcjafklfemfal.L14I
