/-
  Contract: spec.ReadAt.
-/
import Derived.Test.YtkjogjjfpjkeoazDoorL6SAll
namespace Go.Proofs.YtkjogjjfpjkeoazDoor.L6
open Go.RowKit L1
set_option linter.unusedVariables false

open Classical in
set_option maxRecDepth 100000 in
set_option maxHeartbeats 4000000 in
theorem specReadAt_any (a : Option Addr) (L : List Pc) (n cap : Nat) (B o : Int) (w : World) (hn : L.length = n) (hm : n ≤ 9223372036854775807) (hs : SlC w a L) (hst : SzC L) (r : ByteArray) (ok : Bool) (hr : readRes L B o = if ok then some r else none) (hr0 : ok = false → r = ByteArray.empty) :
    Calls Tryd.prog 17 #[.agg #[.slice a n cap, .int .i64 B], .int .i64 o] w fun e w' => e = .returned (.tuple #[.string r, .bool ok]) ∧ Below w.heap.size w w' := by
  obtain ⟨bk, hbk⟩ : ∃ bk : Bool, bk = true ↔ GoodG L B := ⟨decide (GoodG L B), by simp⟩
  have C1 := hide (fun wx (hb : Below w.heap.size w wx) => specGoodLog_any a L n cap B wx hn hm (hs.below hb) hst bk hbk)
  have hno : ¬ (GoodG L B ∧ B ≤ o ∧ o < endg L) → ok = false ∧ r = ByteArray.empty := fun h => by
    unfold readRes at hr
    rw [if_neg h] at hr
    cases ok with
    | false => exact ⟨rfl, hr0 rfl⟩
    | true => simp at hr
  cases bk with
  | false =>
    obtain ⟨rfl, rfl⟩ := hno (fun h => absurd (hbk.2 h.1) (by simp))
    clear hr hs hn hst hbk hr0 hno
    go_enter Tryd.func17, Tryd.ntmps17
    go_wp2_with fail
    refine (C1.out _ ((Below.refl _ _).alloc (Nat.le_refl _) _)).mono ?_
    rintro e w1 ⟨rfl, hb1⟩
    have B1 := hide (((Below.refl w.heap.size w).alloc (Nat.le_refl _) (.cells #[.slice a n cap, .int .i64 B] 29 (0, 0))).trans (hb1.mono (by simp)))
    obtain ⟨k0, k1⟩ := blk2s ((hb1.block w.heap.size (by simp)).trans (blk_new _ _))
    clear hb1
    go_wp2
    go_ret2
    exact ⟨rfl, B1.out⟩
  | true =>
    have hg := hbk.1 rfl
    have hle := hg.last hn
    have hbd := hg.end0
    have C3 := hide (fun wx (hb : Below w.heap.size w wx) => l6End_good a L n cap B wx hn (hs.below hb) hg B)
    obtain ⟨E, hE⟩ : ∃ E, E = lastEnd L n := ⟨_, rfl⟩
    rw [← hE] at C3 hle
    by_cases h1 : o < B
    · obtain ⟨rfl, rfl⟩ := hno (fun h => by have := h.2.1; omega)
      clear hr hs hn hst hbk hr0 hno hg hle hbd C3 hE
      go_enter Tryd.func17, Tryd.ntmps17
      go_wp2_with fail
      refine (C1.out _ ((Below.refl _ _).alloc (Nat.le_refl _) _)).mono ?_
      rintro e w1 ⟨rfl, hb1⟩
      have B1 := hide (((Below.refl w.heap.size w).alloc (Nat.le_refl _) (.cells #[.slice a n cap, .int .i64 B] 29 (0, 0))).trans (hb1.mono (by simp)))
      obtain ⟨k0, k1⟩ := blk2s ((hb1.block w.heap.size (by simp)).trans (blk_new _ _))
      clear hb1
      go_wp2
      go_ret2
      exact ⟨rfl, B1.out⟩
    · by_cases h2 : E ≤ o
      · obtain ⟨rfl, rfl⟩ := hno (fun h => by have := h.2.2; omega)
        clear hr hs hn hst hbk hr0 hno hg hle hbd hE
        go_enter Tryd.func17, Tryd.ntmps17
        go_wp2_with fail
        refine (C1.out _ ((Below.refl _ _).alloc (Nat.le_refl _) _)).mono ?_
        rintro e w1 ⟨rfl, hb1⟩
        have B1 := hide (((Below.refl w.heap.size w).alloc (Nat.le_refl _) (.cells #[.slice a n cap, .int .i64 B] 29 (0, 0))).trans (hb1.mono (by simp)))
        obtain ⟨k0, k1⟩ := blk2s ((hb1.block w.heap.size (by simp)).trans (blk_new _ _))
        clear hb1
        go_wp2_with fail
        refine (C3.out _ B1.out).mono ?_
        rintro e w2 ⟨rfl, hb2⟩
        have B2 := hide (B1.out.trans (hb2.mono B1.out.size))
        have k0' := (hb2.cell (p := ⟨w.heap.size, 0, none⟩) (blk_lt k0)).trans k0
        have k1' := (hb2.cell (p := ⟨w.heap.size, 1, none⟩) (blk_lt k1)).trans k1
        clear hb2 k0 k1
        go_wp2
        go_ret2
        exact ⟨rfl, B2.out⟩
      · have hyes : GoodG L B ∧ B ≤ o ∧ o < endg L := ⟨hg, by omega, by omega⟩
        have hrr : ok = true ∧ r = rdAt L o := by
          unfold readRes at hr
          rw [if_pos hyes] at hr
          cases ok with
          | false => simp at hr
          | true => simp at hr; exact ⟨rfl, hr.symm⟩
        obtain ⟨rfl, rfl⟩ := hrr
        have hrd := hg.read hyes.2.1 hyes.2.2
        have hal := all_len hg
        obtain ⟨t, htt⟩ : ∃ t, t = (o - B).toNat := ⟨_, rfl⟩
        rw [← htt] at hrd
        have hof : o - B = (t : Int) := by omega
        have htl : t < (allG L B).length := by omega
        have hwr : IntKind.i64.wrap (o - B) = (t : Int) := by rw [hof]; exact wrap6 (by omega) (by omega)
        obtain ⟨y, hy⟩ : ∃ y, y = rdAt L o := ⟨_, rfl⟩
        rw [← hy] at hrd ⊢
        have C4 := hide (fun wx (hb : Below w.heap.size w wx) => (l6All_any a L n cap B wx hn (hs.below hb) hg).mono (R' := fun e w' => ∃ b5 o5 c5, e = .returned (.slice (some ⟨b5, o5, none⟩) (allG L B).length c5) ∧ w'.cell? ⟨b5, o5 + t, none⟩ = some (.string y) ∧ Below wx.heap.size wx w') (by
          rintro e w' ⟨a', c', rfl, ho, hb'⟩
          obtain ⟨b5, o5, rfl, hc⟩ := own_slT ho t htl
          rw [show (allG L B).getD t e0 = y from hrd] at hc
          exact ⟨b5, o5, c', rfl, hc, hb'⟩))
        obtain ⟨N, hN⟩ : ∃ N, N = (allG L B).length := ⟨_, rfl⟩
        rw [← hN] at C4 htl
        have htI : (t : Int) < (N : Int) := by omega
        have ht0 : (0 : Int) ≤ (t : Int) := by omega
        clear hr hs hn hst hbk hr0 hno hg hle hbd hE hyes hrd hal htt hof hy hN
        go_enter Tryd.func17, Tryd.ntmps17
        go_wp2_with fail
        refine (C1.out _ ((Below.refl _ _).alloc (Nat.le_refl _) _)).mono ?_
        rintro e w1 ⟨rfl, hb1⟩
        have B1 := hide (((Below.refl w.heap.size w).alloc (Nat.le_refl _) (.cells #[.slice a n cap, .int .i64 B] 29 (0, 0))).trans (hb1.mono (by simp)))
        obtain ⟨k0, k1⟩ := blk2s ((hb1.block w.heap.size (by simp)).trans (blk_new _ _))
        clear hb1
        go_wp2_with fail
        refine (C3.out _ B1.out).mono ?_
        rintro e w2 ⟨rfl, hb2⟩
        have B2 := hide (B1.out.trans (hb2.mono B1.out.size))
        have k0' := (hb2.cell (p := ⟨w.heap.size, 0, none⟩) (blk_lt k0)).trans k0
        have k1' := (hb2.cell (p := ⟨w.heap.size, 1, none⟩) (blk_lt k1)).trans k1
        clear hb2 k0 k1
        go_wp2
        have htI2 : (t : Int) < (N : Int) := by omega
        have ht02 : (0 : Int) ≤ (t : Int) := by omega
        go_region_with (go_at_call 43; refine (C4.out _ (B2.out.trans (((by first | exact Below.refl _ _ | exact (Below.refl _ _).drew) : Below w2.heap.size w2 _).mono B2.out.size))).mono ?_; rintro e w5 ⟨b5, o5, c5, rfl, hc5, hb5⟩; (have k9 := (hb5.cell (p := ⟨w.heap.size, 1, none⟩) (blk_lt k1')).trans k1'))
        all_goals (
          have B5 := hide (B2.out.trans ((((Below.refl w2.heap.size w2).drew).trans (hb5.mono (Nat.le_refl _))).mono B2.out.size))
          clear hb5
          go_wp2
          go_ret2
          exact ⟨rfl, B5.out⟩)
end Go.Proofs.YtkjogjjfpjkeoazDoor.L6
