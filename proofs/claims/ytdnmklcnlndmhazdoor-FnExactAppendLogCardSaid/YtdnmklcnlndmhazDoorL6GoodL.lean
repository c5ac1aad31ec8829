/-
  Contract: impl.goodPieces.
-/
import Derived.Test.YtdnmklcnlndmhazDoorL6GoodP
namespace Go.Proofs.YtdnmklcnlndmhazDoor.L6
open Go.RowKit L1
set_option linter.unusedVariables false

theorem ba_nil6 {n : ByteArray} : n.toList = [] ↔ n.size = 0 := by
  constructor
  · intro h
    have h2 : n = ByteArray.empty := by
      apply ByteArray.ext
      apply Array.toList_inj.1
      rw [← ByteArray.toList_eq, h]
      rfl
    rw [h2]; rfl
  · intro h
    rw [ByteArray.toList_eq]
    exact List.eq_nil_of_length_eq_zero (by simpa using h)

open Classical in
set_option maxRecDepth 100000 in
set_option maxHeartbeats 4000000 in
theorem goodPieces_any (a : Option Addr) (L : List Pc) (n cap : Nat) (w : World) (hn : L.length = n) (h1 : 1 ≤ n) (h20 : n ≤ 20) (hs : SlC w a L) (hst : TxC L) (hf0 : 0 ≤ (gc L 0).f) (hf1 : (gc L 0).f ≤ 100000) (ht : Tab w) (bb : Bool) (hbb : bb = true ↔ GoodPs L) :
    Calls Tryd.prog 30 #[.slice a n cap] w fun e w' => e = .returned (.bool bb) ∧ Below w.heap.size w w' := by
  have HS := hide hs
  have HN := hide hn
  have HST := hide hst
  have HT := hide ht
  have HBB := hide hbb
  have HF0 := hide hf0
  have HF1 := hide hf1
  obtain ⟨b0, off0, rfl, a0, c0, hat0⟩ := hs 0 (by rw [hn]; exact h1)
  have hk0 := hat0.f
  rw [Nat.zero_mul, Nat.add_zero] at hk0
  obtain ⟨f0, hff0⟩ : ∃ f0, f0 = (gc L 0).f := ⟨_, rfl⟩
  rw [show (L.getD 0 eC).f = f0 from hff0.symm] at hk0
  have HFF := hide hff0
  clear hs hn hst ht hbb hat0 hf0 hf1 hff0
  go_enter Tryd.func30, Tryd.ntmps30
  go_wp2
  go_loopw [4, 16] (fun t i wr => ∃ k : Nat, k ≤ n ∧ i = .int .i64 k ∧ t = .int .i64 (atg L k) ∧ Hid (∀ j, j < k → OkC L j) ∧ Below w.heap.size w wr) (fun _ i _ => n - (intOf i).toNat)
  case atStart => exact ⟨0, Nat.zero_le _, rfl, by rw [HFF.out]; rfl, fun j hj => absurd hj (Nat.not_lt_zero _), Below.refl _ _⟩
  case round =>
    obtain ⟨k, hk, rfl, rfl, HK, hbel⟩ := hrel
    by_cases hlt : k < n
    · obtain ⟨b, off, hab, ai, ci, hat⟩ := HS.out.below hbel k (by rw [HN.out]; exact hlt)
      cases hab
      have hltI : (k : Int) < (n : Int) := by omega
      have hsx := HST.out k (by rw [HN.out]; exact hlt)
      have hgb := atg_bd L k (fun j hj => (HK.out j hj).1)
      have hok : bb = true → OkC L k := fun h => HBB.out.1 h k (by rw [HN.out]; exact hlt)
      have hnext : atg L (k + 1) = atg L k + (cnt (gc L k).s : Int) := rfl
      have hstep : OkC L k → ∀ j, j < k + 1 → OkC L j := fun h j hj => by
        by_cases e : j = k
        · subst e; exact h
        · exact HK.out j (by omega)
      have hOk : OkC L k ↔ GoodP (gc L k) ∧ (gc L k).f = atg L k ∧ (k + 1 < n → cnt (gc L k).s ≠ 0) := by unfold OkC; rw [HN.out]
      have hd1 := hat.f
      have hd2 := hat.s
      have hd3 := hat.x
      have hd4 := hat.l
      obtain ⟨p, hp⟩ : ∃ p, p = gc L k := ⟨_, rfl⟩
      rw [show L.getD k eC = p from hp.symm] at hd1 hd2 hd3 hd4 hsx
      rw [← hp] at hnext hOk
      obtain ⟨f, s, x⟩ := p
      simp only at hd1 hd2 hd3 hd4 hsx hnext hOk
      obtain ⟨m, hm⟩ : ∃ m, m = x.length := ⟨_, rfl⟩
      rw [← hm] at hd3 hsx
      obtain ⟨t, htt⟩ : ∃ t, t = atg L k := ⟨_, rfl⟩
      rw [← htt] at hnext hOk hgb ⊢
      have hgb2 : 0 ≤ t ∧ t ≤ 101200 := by have h1 := HF0.out; have h2 := HF1.out; omega
      have HD4 := hide hd4
      have HNX := hide hnext
      have HST2 := hide hstep
      have HOK := hide hOk
      have HOK0 := hide hok
      have B0 := hide hbel
      have HM := hide hm.symm
      clear hat hp hm htt hgb hnext hstep hOk hok hd4 hbel
      by_cases hft : f = t
      · subst hft
        obtain ⟨bk, hbk⟩ : ∃ bk : Bool, bk = true ↔ GoodP ⟨f, s, x⟩ := ⟨decide (GoodP ⟨f, s, x⟩), by simp⟩
        have C1 := hide (fun w ha ht => goodPiece_any f s ai x m ci w HM.out ha hsx.2 hsx.1 ht bk hbk)
        have HBK := hide hbk
        clear hbk hsx
        cases bk with
        | false =>
          have hE : bb = false := by
            cases bb with
            | false => rfl
            | true => exact absurd (HBK.out.2 (HOK.out.1 (HOK0.out rfl)).1) (by simp)
          subst hE
          go_wp2_with fail
          refine (C1.out _ (HD4.out.below ((Below.refl _ _).alloc (Nat.le_refl _) _)) (HT.out.below ((B0.out.alloc B0.out.size _)))).mono ?_
          rintro e w1 ⟨rfl, hb1⟩
          have B1 := hide ((B0.out.alloc B0.out.size (.cells #[.int .i64 f, .string s, .slice ai m ci] 51 (0, 0))).trans (hb1.mono (by have := B0.out.size; simp; omega)))
          have G1 : w1.heap[wr.heap.size]? = some (.cells #[.int .i64 f, .string s, .slice ai m ci] 51 (0, 0)) := (hb1.block wr.heap.size (by simp)).trans (blk_new _ _)
          obtain ⟨c0, c1, c2, _, _, _⟩ := blk3 G1
          clear hb1 G1
          go_wp2
          go_ret
          exact ⟨rfl, B1.out⟩
        | true =>
          have hgp := HBK.out.1 rfl
          have hcs := good_empty hgp
          have hc60 := good_cnt hgp
          have hs60 := hgp.1
          simp only at hcs hc60 hs60
          by_cases hem : (k : Int) < (n : Int) - 1 ∧ s.toList = []
          · obtain ⟨hem1, hem2⟩ := hem
            have hE : bb = false := by
              cases bb with
              | false => rfl
              | true =>
                have h3 := (HOK.out.1 (HOK0.out rfl)).2.2 (by omega)
                exact absurd (hcs.2 (ba_nil6.1 hem2)) h3
            subst hE
            clear hgp hcs
            go_wp2_with fail
            refine (C1.out _ (HD4.out.below ((Below.refl _ _).alloc (Nat.le_refl _) _)) (HT.out.below ((B0.out.alloc B0.out.size _)))).mono ?_
            rintro e w1 ⟨rfl, hb1⟩
            have B1 := hide ((B0.out.alloc B0.out.size (.cells #[.int .i64 f, .string s, .slice ai m ci] 51 (0, 0))).trans (hb1.mono (by have := B0.out.size; simp; omega)))
            have G1 : w1.heap[wr.heap.size]? = some (.cells #[.int .i64 f, .string s, .slice ai m ci] 51 (0, 0)) := (hb1.block wr.heap.size (by simp)).trans (blk_new _ _)
            obtain ⟨c0, c1, c2, _, _, _⟩ := blk3 G1
            clear hb1 G1
            go_wp2
            go_ret
            exact ⟨rfl, B1.out⟩
          · have hokk := HOK.out.2 ⟨hgp, rfl, fun h e0 => hem ⟨by omega, ba_nil6.2 (hcs.1 e0)⟩⟩
            have HALL := hide (HST2.out hokk)
            have C2 := hide (fun w ht => endOfPiece_any f s ai m ci w (by omega) (by omega) (by omega) ht)
            rw [← HNX.out] at C2
            clear hgp hcs hokk
            by_cases hem1 : (k : Int) < (n : Int) - 1
            · have hem2 : s.toList.isEmpty = false := by
                cases hq : s.toList.isEmpty with
                | false => rfl
                | true => exact absurd ⟨hem1, List.isEmpty_iff.1 hq⟩ hem
              clear hem
              go_wp2_with fail
              refine (C1.out _ (HD4.out.below ((Below.refl _ _).alloc (Nat.le_refl _) _)) (HT.out.below ((B0.out.alloc B0.out.size _)))).mono ?_
              rintro e w1 ⟨rfl, hb1⟩
              have B1 := hide ((B0.out.alloc B0.out.size (.cells #[.int .i64 f, .string s, .slice ai m ci] 51 (0, 0))).trans (hb1.mono (by have := B0.out.size; simp; omega)))
              have G1 : w1.heap[wr.heap.size]? = some (.cells #[.int .i64 f, .string s, .slice ai m ci] 51 (0, 0)) := (hb1.block wr.heap.size (by simp)).trans (blk_new _ _)
              obtain ⟨c0, c1, c2, _, _, _⟩ := blk3 G1
              clear hb1 G1
              go_wp2_with fail
              refine (C2.out _ (HT.out.below B1.out)).mono ?_
              rintro e w2 ⟨rfl, hb2⟩
              have B2 := hide (B1.out.trans (hb2.mono B1.out.size))
              clear hb2
              go_wp2
              go_roundw
              case rel => exact ⟨k + 1, by omega, by go_num, rfl, HALL.out, B2.out⟩
              case measure => simp [intOf]; omega
            · clear hem
              go_wp2_with fail
              refine (C1.out _ (HD4.out.below ((Below.refl _ _).alloc (Nat.le_refl _) _)) (HT.out.below ((B0.out.alloc B0.out.size _)))).mono ?_
              rintro e w1 ⟨rfl, hb1⟩
              have B1 := hide ((B0.out.alloc B0.out.size (.cells #[.int .i64 f, .string s, .slice ai m ci] 51 (0, 0))).trans (hb1.mono (by have := B0.out.size; simp; omega)))
              have G1 : w1.heap[wr.heap.size]? = some (.cells #[.int .i64 f, .string s, .slice ai m ci] 51 (0, 0)) := (hb1.block wr.heap.size (by simp)).trans (blk_new _ _)
              obtain ⟨c0, c1, c2, _, _, _⟩ := blk3 G1
              clear hb1 G1
              go_wp2_with fail
              refine (C2.out _ (HT.out.below B1.out)).mono ?_
              rintro e w2 ⟨rfl, hb2⟩
              have B2 := hide (B1.out.trans (hb2.mono B1.out.size))
              clear hb2
              go_wp2
              go_roundw
              case rel => exact ⟨k + 1, by omega, by go_num, rfl, HALL.out, B2.out⟩
              case measure => simp [intOf]; omega
      · have hE : bb = false := by
          cases bb with
          | false => rfl
          | true => exact absurd (HOK.out.1 (HOK0.out rfl)).2.1 hft
        subst hE
        clear hsx
        go_wp2
        go_ret
        exact ⟨rfl, B0.out.alloc B0.out.size _⟩
    · obtain rfl : k = n := by omega
      have hltI : ¬ (k : Int) < (k : Int) := by omega
      have hE : bb = true := HBB.out.2 (fun i hi => HK.out i (by rw [← HN.out]; exact hi))
      subst hE
      obtain ⟨t, htt⟩ : ∃ t, t = atg L k := ⟨_, rfl⟩
      rw [← htt]
      go_wp2
      go_ret
      exact ⟨rfl, hbel⟩
end Go.Proofs.YtdnmklcnlndmhazDoor.L6
