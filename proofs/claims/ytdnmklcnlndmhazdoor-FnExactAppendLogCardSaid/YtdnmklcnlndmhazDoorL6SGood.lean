/-
  Contract: spec.GoodLog.
-/
import Derived.Test.YtdnmklcnlndmhazDoorL6SMany
namespace Go.Proofs.YtdnmklcnlndmhazDoor.L6
open Go.RowKit L1
set_option linter.unusedVariables false

/-- Texts and lists are no longer than a law lets them be. -/
def SzC (l : List Pc) : Prop := ∀ j, j < l.length → (gc l j).s.size ≤ 1048576 ∧ (gc l j).x.length ≤ 1048576
theorem SzC.tx {l : List Pc} (h : SzC l) : TxC l := fun j hj => ⟨Nat.le_trans (h j hj).1 (by omega), Nat.le_trans (h j hj).2 (by omega)⟩
theorem bool_no6 {bb : Bool} {P : Prop} (h : bb = true ↔ P) (hn : ¬ P) : bb = false := by
  cases bb with
  | false => rfl
  | true => exact absurd (h.1 rfl) hn
theorem blk2s {w : World} {g : Nat} {a b : Value} {t : TypeId} (h : w.heap[g]? = some (.cells #[a, b] t (0, 0))) :
    w.cell? ⟨g, 0, none⟩ = some a ∧ w.cell? ⟨g, 1, none⟩ = some b := by
  simp [World.cell?, h]

open Classical in
set_option maxRecDepth 100000 in
set_option maxHeartbeats 4000000 in
theorem specGoodLog_any (a : Option Addr) (L : List Pc) (n cap : Nat) (B : Int) (w : World) (hn : L.length = n) (hm : n ≤ 9223372036854775807) (hs : SlC w a L) (hsz : SzC L) (bb : Bool) (hbb : bb = true ↔ GoodG L B) :
    Calls Tryd.prog 9 #[.agg #[.slice a n cap, .int .i64 B]] w fun e w' => e = .returned (.bool bb) ∧ Below w.heap.size w w' := by
  by_cases h1 : 1 ≤ (n : Int) ∧ (n : Int) ≤ 20
  · have CL := hide (fun w => l1In_any (n : Int) 1 20 w true (by simp; omega))
    have hn1 : 1 ≤ n := by omega
    have hn0 : 0 < n := by omega
    have hn20 : n ≤ 20 := by omega
    obtain ⟨b, off, rfl, a0, c0, hat0⟩ := hs 0 (by rw [hn]; omega)
    have hk0 := hat0.f
    rw [Nat.zero_mul, Nat.add_zero] at hk0
    rw [show L.getD 0 eC = gc L 0 from rfl] at hk0
    obtain ⟨f0, hf0⟩ : ∃ f0, f0 = (gc L 0).f := ⟨_, rfl⟩
    rw [← hf0] at hk0
    have e1 : ∀ ob, (w.alloc ob).cell? ⟨b, off, none⟩ = some (.int .i64 f0) := fun ob => Go.Lib.cell?_alloc_some ob hk0
    have HF0 := hide hf0
    have HS := hide hs
    have HN := hide hn
    have HSZ := hide hsz
    have HBB := hide hbb
    clear hs hn hsz hbb hat0 hf0 h1
    by_cases hf : 0 ≤ f0 ∧ f0 ≤ 100000
    · have CF := hide (fun w => l1In_any f0 0 100000 w true (by simp; omega))
      have E : Hid (GoodPs L → ((gc L 0).f ≤ B ∧ B ≤ (gc L 0).f + (cnt (gc L 0).s : Int)) → (GoodG L B ↔ atg L n - f0 ≤ 60)) := fun hp hB => by
        constructor
        · intro h
          have := h.few
          rw [HN.out, ← HF0.out] at this
          exact this
        · intro h
          exact ⟨by rw [HN.out]; omega, by rw [HN.out]; omega, by rw [← HF0.out]; omega, by rw [← HF0.out]; omega, hp, hB.1, hB.2, by rw [HN.out, ← HF0.out]; exact h⟩
      go_enter Tryd.func9, Tryd.ntmps9
      go_wp2_with fail
      refine (CL.out _).mono ?_
      rintro e w1 ⟨rfl, rfl⟩
      go_wp2_with fail
      refine (CF.out _).mono ?_
      rintro e w1 ⟨rfl, rfl⟩
      go_wp2
      go_loopw [3, 29] (fun t i wr => ∃ k : Nat, k ≤ n ∧ i = .int .i64 k ∧ t = .int .i64 (atg L k) ∧ Hid (∀ j, j < k → OkC L j) ∧ Hid (0 < k → (gc L 0).f ≤ B ∧ B ≤ (gc L 0).f + (cnt (gc L 0).s : Int)) ∧ Below w.heap.size w wr ∧ wr.cell? ⟨w.heap.size, 0, none⟩ = some (.slice (some ⟨b, off, none⟩) n cap) ∧ wr.cell? ⟨w.heap.size, 1, none⟩ = some (.int .i64 B)) (fun _ i _ => n - (intOf i).toNat)
      case atStart =>
        obtain ⟨q0, q1⟩ := blk2s (blk_new w (.cells #[.slice (some ⟨b, off, none⟩) n cap, .int .i64 B] 29 (0, 0)))
        exact ⟨0, Nat.zero_le _, rfl, by rw [HF0.out]; rfl, fun j hj => absurd hj (Nat.not_lt_zero _), fun h => absurd h (Nat.lt_irrefl _), (Below.refl _ _).alloc (Nat.le_refl _) _, q0, q1⟩
      case round =>
        obtain ⟨k, hk, rfl, rfl, HK, HB0, hbel, g0, g1⟩ := hrel
        by_cases hlt : k < n
        · obtain ⟨b', off', hab, ai, ci, hat⟩ := HS.out.below hbel k (by rw [HN.out]; exact hlt)
          cases hab
          have hltI : (k : Int) < (n : Int) := by omega
          have hsx := HSZ.out k (by rw [HN.out]; exact hlt)
          have hgb := atg_bd L k (fun j hj => (HK.out j hj).1)
          have hok : GoodG L B → OkC L k := fun h => h.ps k (by rw [HN.out]; exact hlt)
          have hnext : atg L (k + 1) = atg L k + (cnt (gc L k).s : Int) := rfl
          have hstep : OkC L k → ∀ j, j < k + 1 → OkC L j := fun h j hj => by
            by_cases e : j = k
            · subst e; exact h
            · exact HK.out j (by omega)
          have hOk : OkC L k ↔ GoodP (gc L k) ∧ (gc L k).f = atg L k ∧ (k + 1 < n → cnt (gc L k).s ≠ 0) := by unfold OkC; rw [HN.out]
          have h0e : k = 0 → gc L 0 = gc L k := fun e => by rw [e]
          have hd1 := hat.f
          have hd2 := hat.s
          have hd3 := hat.x
          have hd4 := hat.l
          obtain ⟨p, hp⟩ : ∃ p, p = gc L k := ⟨_, rfl⟩
          rw [show L.getD k eC = p from hp.symm] at hd1 hd2 hd3 hd4
          rw [← hp] at hnext hOk hsx h0e
          obtain ⟨f, s, x⟩ := p
          simp only at hd1 hd2 hd3 hd4 hsx hnext hOk
          obtain ⟨m, hm⟩ : ∃ m, m = x.length := ⟨_, rfl⟩
          rw [← hm] at hd3 hsx
          obtain ⟨t, htt⟩ : ∃ t, t = atg L k := ⟨_, rfl⟩
          rw [← htt] at hnext hOk hgb ⊢
          have hgb2 : 0 ≤ t ∧ t ≤ 101200 := by rw [← HF0.out] at hgb; omega
          obtain ⟨N, hN⟩ : ∃ N, N = many ⟨f, s, x⟩ := ⟨_, rfl⟩
          have C1 := hide (fun w ha => l6Many_any f s ai x m ci w hm.symm ha (by omega) hsx.1 N hN)
          have HD4 := hide hd4
          have HNX := hide hnext
          have HST2 := hide hstep
          have HOK := hide hOk
          have HOK0 := hide hok
          have H0E := hide h0e
          have B0 := hide hbel
          have HNN := hide hN
          clear hat hp hm htt hgb hnext hstep hOk hok hd4 hbel hsx h0e hN
          by_cases hgp : GoodP ⟨f, s, x⟩
          · have hNc : N = (cnt s : Int) := by rw [HNN.out]; unfold many; rw [if_pos hgp]
            have hc60 := good_cnt hgp
            simp only at hc60
            obtain ⟨c, hc⟩ : ∃ c, c = cnt s := ⟨_, rfl⟩
            rw [← hc] at hNc hc60 HNX HOK
            have hN0 : ¬ N < 0 := by omega
            have HC := hide hc
            subst hNc
            clear hc
            by_cases hft : f = t
            · subst hft
              by_cases hem : (c : Int) = 0 ∧ (k : Int) < (n : Int) - 1
              · obtain ⟨hem1, hem2⟩ := hem
                obtain rfl := bool_no6 HBB.out (fun h => (HOK.out.1 (HOK0.out h)).2.2 (by omega) (by omega))
                have hc0 : c = 0 := by omega
                subst hc0
                go_wp2_with fail
                refine (C1.out _ (HD4.out.below ((Below.refl _ _).alloc (Nat.le_refl _) _))).mono ?_
                rintro e w1 ⟨rfl, hb1⟩
                have B1 := hide ((B0.out.alloc B0.out.size (.cells #[.int .i64 f, .string s, .slice ai m ci] 51 (0, 0))).trans (hb1.mono (by have := B0.out.size; simp; omega)))
                have G1 : w1.heap[wr.heap.size]? = some (.cells #[.int .i64 f, .string s, .slice ai m ci] 51 (0, 0)) := (hb1.block wr.heap.size (by simp)).trans (blk_new _ _)
                obtain ⟨c0, c1, c2, _, _, _⟩ := blk3 G1
                have k0 := (hb1.cell (p := ⟨w.heap.size, 0, none⟩) (by have := blk_lt g0; simp; omega)).trans (Go.Lib.cell?_alloc_some (.cells #[.int .i64 f, .string s, .slice ai m ci] 51 (0, 0)) g0)
                have k1 := (hb1.cell (p := ⟨w.heap.size, 1, none⟩) (by have := blk_lt g1; simp; omega)).trans (Go.Lib.cell?_alloc_some (.cells #[.int .i64 f, .string s, .slice ai m ci] 51 (0, 0)) g1)
                clear hb1 G1
                go_wp2
                go_ret
                exact ⟨rfl, B1.out⟩
              · have hokk := HOK.out.2 ⟨hgp, rfl, fun h e0 => hem ⟨by omega, by omega⟩⟩
                have HALL := hide (HST2.out hokk)
                clear hokk
                by_cases hk0 : k = 0
                · subst hk0
                  rw [Nat.zero_mul, Nat.add_zero] at hd1 hd2 hd3
                  have hA1 : (gc L 0) = ⟨f, s, x⟩ := H0E.out rfl
                  obtain ⟨bi, hbi⟩ : ∃ bi : Bool, bi = true ↔ f ≤ B ∧ B ≤ f + (c : Int) := ⟨decide (f ≤ B ∧ B ≤ f + (c : Int)), by simp⟩
                  have CI := hide (fun w => l1In_any B f (f + (c : Int)) w bi hbi)
                  have HBI : Hid (bi = true ↔ (gc L 0).f ≤ B ∧ B ≤ (gc L 0).f + (cnt (gc L 0).s : Int)) := by show _ ↔ _; rw [hbi, hA1, HC.out]
                  clear hA1 hbi
                  by_cases hem1 : (c : Int) = 0
                  · have hem2 : ¬ (0 : Int) < (n : Int) - 1 := fun h => hem ⟨hem1, by omega⟩
                    have hc0 : c = 0 := by omega
                    subst hc0
                    rw [show ((0 : Nat) : Int) = 0 from rfl, Int.add_zero] at CI HNX
                    clear hem
                    cases bi with
                    | true =>
                      go_wp2_with fail
                      refine (C1.out _ (HD4.out.below ((Below.refl _ _).alloc (Nat.le_refl _) _))).mono ?_
                      rintro e w1 ⟨rfl, hb1⟩
                      have B1 := hide ((B0.out.alloc B0.out.size (.cells #[.int .i64 f, .string s, .slice ai m ci] 51 (0, 0))).trans (hb1.mono (by have := B0.out.size; simp; omega)))
                      have G1 : w1.heap[wr.heap.size]? = some (.cells #[.int .i64 f, .string s, .slice ai m ci] 51 (0, 0)) := (hb1.block wr.heap.size (by simp)).trans (blk_new _ _)
                      obtain ⟨c0, c1, c2, _, _, _⟩ := blk3 G1
                      have k0 := (hb1.cell (p := ⟨w.heap.size, 0, none⟩) (by have := blk_lt g0; simp; omega)).trans (Go.Lib.cell?_alloc_some (.cells #[.int .i64 f, .string s, .slice ai m ci] 51 (0, 0)) g0)
                      have k1 := (hb1.cell (p := ⟨w.heap.size, 1, none⟩) (by have := blk_lt g1; simp; omega)).trans (Go.Lib.cell?_alloc_some (.cells #[.int .i64 f, .string s, .slice ai m ci] 51 (0, 0)) g1)
                      clear hb1 G1
                      go_wp2_with fail
                      refine (CI.out _).mono ?_
                      rintro e w2 ⟨rfl, rfl⟩
                      go_wp2
                      go_roundw
                      case rel => exact ⟨0 + 1, by omega, by go_num, by rw [HNX.out], HALL.out, fun _ => HBI.out.mp (by first | trivial | rfl), B1.out, k0, k1⟩
                      case measure => simp [intOf]; omega
                    | false =>
                      obtain rfl := bool_no6 HBB.out (fun h => absurd (HBI.out.2 ⟨h.b0, h.b1⟩) (by simp))
                      go_wp2_with fail
                      refine (C1.out _ (HD4.out.below ((Below.refl _ _).alloc (Nat.le_refl _) _))).mono ?_
                      rintro e w1 ⟨rfl, hb1⟩
                      have B1 := hide ((B0.out.alloc B0.out.size (.cells #[.int .i64 f, .string s, .slice ai m ci] 51 (0, 0))).trans (hb1.mono (by have := B0.out.size; simp; omega)))
                      have G1 : w1.heap[wr.heap.size]? = some (.cells #[.int .i64 f, .string s, .slice ai m ci] 51 (0, 0)) := (hb1.block wr.heap.size (by simp)).trans (blk_new _ _)
                      obtain ⟨c0, c1, c2, _, _, _⟩ := blk3 G1
                      have k0 := (hb1.cell (p := ⟨w.heap.size, 0, none⟩) (by have := blk_lt g0; simp; omega)).trans (Go.Lib.cell?_alloc_some (.cells #[.int .i64 f, .string s, .slice ai m ci] 51 (0, 0)) g0)
                      have k1 := (hb1.cell (p := ⟨w.heap.size, 1, none⟩) (by have := blk_lt g1; simp; omega)).trans (Go.Lib.cell?_alloc_some (.cells #[.int .i64 f, .string s, .slice ai m ci] 51 (0, 0)) g1)
                      clear hb1 G1
                      go_wp2_with fail
                      refine (CI.out _).mono ?_
                      rintro e w2 ⟨rfl, rfl⟩
                      go_wp2
                      go_ret
                      exact ⟨rfl, B1.out⟩
                  · clear hem
                    have hc1 : ¬ c = 0 := by omega
                    cases bi with
                    | true =>
                      go_wp2_with fail
                      refine (C1.out _ (HD4.out.below ((Below.refl _ _).alloc (Nat.le_refl _) _))).mono ?_
                      rintro e w1 ⟨rfl, hb1⟩
                      have B1 := hide ((B0.out.alloc B0.out.size (.cells #[.int .i64 f, .string s, .slice ai m ci] 51 (0, 0))).trans (hb1.mono (by have := B0.out.size; simp; omega)))
                      have G1 : w1.heap[wr.heap.size]? = some (.cells #[.int .i64 f, .string s, .slice ai m ci] 51 (0, 0)) := (hb1.block wr.heap.size (by simp)).trans (blk_new _ _)
                      obtain ⟨c0, c1, c2, _, _, _⟩ := blk3 G1
                      have k0 := (hb1.cell (p := ⟨w.heap.size, 0, none⟩) (by have := blk_lt g0; simp; omega)).trans (Go.Lib.cell?_alloc_some (.cells #[.int .i64 f, .string s, .slice ai m ci] 51 (0, 0)) g0)
                      have k1 := (hb1.cell (p := ⟨w.heap.size, 1, none⟩) (by have := blk_lt g1; simp; omega)).trans (Go.Lib.cell?_alloc_some (.cells #[.int .i64 f, .string s, .slice ai m ci] 51 (0, 0)) g1)
                      clear hb1 G1
                      go_wp2_with fail
                      refine (CI.out _).mono ?_
                      rintro e w2 ⟨rfl, rfl⟩
                      go_wp2
                      go_roundw
                      case rel => exact ⟨0 + 1, by omega, by go_num, by rw [HNX.out], HALL.out, fun _ => HBI.out.mp (by first | trivial | rfl), B1.out, k0, k1⟩
                      case measure => simp [intOf]; omega
                    | false =>
                      obtain rfl := bool_no6 HBB.out (fun h => absurd (HBI.out.2 ⟨h.b0, h.b1⟩) (by simp))
                      go_wp2_with fail
                      refine (C1.out _ (HD4.out.below ((Below.refl _ _).alloc (Nat.le_refl _) _))).mono ?_
                      rintro e w1 ⟨rfl, hb1⟩
                      have B1 := hide ((B0.out.alloc B0.out.size (.cells #[.int .i64 f, .string s, .slice ai m ci] 51 (0, 0))).trans (hb1.mono (by have := B0.out.size; simp; omega)))
                      have G1 : w1.heap[wr.heap.size]? = some (.cells #[.int .i64 f, .string s, .slice ai m ci] 51 (0, 0)) := (hb1.block wr.heap.size (by simp)).trans (blk_new _ _)
                      obtain ⟨c0, c1, c2, _, _, _⟩ := blk3 G1
                      have k0 := (hb1.cell (p := ⟨w.heap.size, 0, none⟩) (by have := blk_lt g0; simp; omega)).trans (Go.Lib.cell?_alloc_some (.cells #[.int .i64 f, .string s, .slice ai m ci] 51 (0, 0)) g0)
                      have k1 := (hb1.cell (p := ⟨w.heap.size, 1, none⟩) (by have := blk_lt g1; simp; omega)).trans (Go.Lib.cell?_alloc_some (.cells #[.int .i64 f, .string s, .slice ai m ci] 51 (0, 0)) g1)
                      clear hb1 G1
                      go_wp2_with fail
                      refine (CI.out _).mono ?_
                      rintro e w2 ⟨rfl, rfl⟩
                      go_wp2
                      go_ret
                      exact ⟨rfl, B1.out⟩
                · have hkI : ¬ (k : Int) = 0 := by omega
                  by_cases hem1 : (c : Int) = 0
                  · have hem2 : ¬ (k : Int) < (n : Int) - 1 := fun h => hem ⟨hem1, h⟩
                    have hc0 : c = 0 := by omega
                    subst hc0
                    rw [show ((0 : Nat) : Int) = 0 from rfl, Int.add_zero] at HNX
                    clear hem
                    go_wp2_with fail
                    refine (C1.out _ (HD4.out.below ((Below.refl _ _).alloc (Nat.le_refl _) _))).mono ?_
                    rintro e w1 ⟨rfl, hb1⟩
                    have B1 := hide ((B0.out.alloc B0.out.size (.cells #[.int .i64 f, .string s, .slice ai m ci] 51 (0, 0))).trans (hb1.mono (by have := B0.out.size; simp; omega)))
                    have G1 : w1.heap[wr.heap.size]? = some (.cells #[.int .i64 f, .string s, .slice ai m ci] 51 (0, 0)) := (hb1.block wr.heap.size (by simp)).trans (blk_new _ _)
                    obtain ⟨c0, c1, c2, _, _, _⟩ := blk3 G1
                    have k0 := (hb1.cell (p := ⟨w.heap.size, 0, none⟩) (by have := blk_lt g0; simp; omega)).trans (Go.Lib.cell?_alloc_some (.cells #[.int .i64 f, .string s, .slice ai m ci] 51 (0, 0)) g0)
                    have k1 := (hb1.cell (p := ⟨w.heap.size, 1, none⟩) (by have := blk_lt g1; simp; omega)).trans (Go.Lib.cell?_alloc_some (.cells #[.int .i64 f, .string s, .slice ai m ci] 51 (0, 0)) g1)
                    clear hb1 G1
                    go_wp2
                    go_roundw
                    case rel => exact ⟨k + 1, by omega, by go_num, by rw [HNX.out], HALL.out, fun _ => HB0.out (by omega), B1.out, k0, k1⟩
                    case measure => simp [intOf]; omega
                  · clear hem
                    have hc1 : ¬ c = 0 := by omega
                    go_wp2_with fail
                    refine (C1.out _ (HD4.out.below ((Below.refl _ _).alloc (Nat.le_refl _) _))).mono ?_
                    rintro e w1 ⟨rfl, hb1⟩
                    have B1 := hide ((B0.out.alloc B0.out.size (.cells #[.int .i64 f, .string s, .slice ai m ci] 51 (0, 0))).trans (hb1.mono (by have := B0.out.size; simp; omega)))
                    have G1 : w1.heap[wr.heap.size]? = some (.cells #[.int .i64 f, .string s, .slice ai m ci] 51 (0, 0)) := (hb1.block wr.heap.size (by simp)).trans (blk_new _ _)
                    obtain ⟨c0, c1, c2, _, _, _⟩ := blk3 G1
                    have k0 := (hb1.cell (p := ⟨w.heap.size, 0, none⟩) (by have := blk_lt g0; simp; omega)).trans (Go.Lib.cell?_alloc_some (.cells #[.int .i64 f, .string s, .slice ai m ci] 51 (0, 0)) g0)
                    have k1 := (hb1.cell (p := ⟨w.heap.size, 1, none⟩) (by have := blk_lt g1; simp; omega)).trans (Go.Lib.cell?_alloc_some (.cells #[.int .i64 f, .string s, .slice ai m ci] 51 (0, 0)) g1)
                    clear hb1 G1
                    go_wp2
                    go_roundw
                    case rel => exact ⟨k + 1, by omega, by go_num, by rw [HNX.out], HALL.out, fun _ => HB0.out (by omega), B1.out, k0, k1⟩
                    case measure => simp [intOf]; omega
            · obtain rfl := bool_no6 HBB.out (fun h => hft (HOK.out.1 (HOK0.out h)).2.1)
              go_wp2_with fail
              refine (C1.out _ (HD4.out.below ((Below.refl _ _).alloc (Nat.le_refl _) _))).mono ?_
              rintro e w1 ⟨rfl, hb1⟩
              have B1 := hide ((B0.out.alloc B0.out.size (.cells #[.int .i64 f, .string s, .slice ai m ci] 51 (0, 0))).trans (hb1.mono (by have := B0.out.size; simp; omega)))
              have G1 : w1.heap[wr.heap.size]? = some (.cells #[.int .i64 f, .string s, .slice ai m ci] 51 (0, 0)) := (hb1.block wr.heap.size (by simp)).trans (blk_new _ _)
              obtain ⟨c0, c1, c2, _, _, _⟩ := blk3 G1
              have k0 := (hb1.cell (p := ⟨w.heap.size, 0, none⟩) (by have := blk_lt g0; simp; omega)).trans (Go.Lib.cell?_alloc_some (.cells #[.int .i64 f, .string s, .slice ai m ci] 51 (0, 0)) g0)
              have k1 := (hb1.cell (p := ⟨w.heap.size, 1, none⟩) (by have := blk_lt g1; simp; omega)).trans (Go.Lib.cell?_alloc_some (.cells #[.int .i64 f, .string s, .slice ai m ci] 51 (0, 0)) g1)
              clear hb1 G1
              go_wp2
              go_ret
              exact ⟨rfl, B1.out⟩
          · obtain rfl := bool_no6 HBB.out (fun h => hgp (HOK.out.1 (HOK0.out h)).1)
            have hNc : N = -1 := by rw [HNN.out]; unfold many; rw [if_neg hgp]
            subst hNc
            go_wp2_with fail
            refine (C1.out _ (HD4.out.below ((Below.refl _ _).alloc (Nat.le_refl _) _))).mono ?_
            rintro e w1 ⟨rfl, hb1⟩
            have B1 := hide ((B0.out.alloc B0.out.size (.cells #[.int .i64 f, .string s, .slice ai m ci] 51 (0, 0))).trans (hb1.mono (by have := B0.out.size; simp; omega)))
            have G1 : w1.heap[wr.heap.size]? = some (.cells #[.int .i64 f, .string s, .slice ai m ci] 51 (0, 0)) := (hb1.block wr.heap.size (by simp)).trans (blk_new _ _)
            obtain ⟨c0, c1, c2, _, _, _⟩ := blk3 G1
            have k0 := (hb1.cell (p := ⟨w.heap.size, 0, none⟩) (by have := blk_lt g0; simp; omega)).trans (Go.Lib.cell?_alloc_some (.cells #[.int .i64 f, .string s, .slice ai m ci] 51 (0, 0)) g0)
            have k1 := (hb1.cell (p := ⟨w.heap.size, 1, none⟩) (by have := blk_lt g1; simp; omega)).trans (Go.Lib.cell?_alloc_some (.cells #[.int .i64 f, .string s, .slice ai m ci] 51 (0, 0)) g1)
            clear hb1 G1
            go_wp2
            go_ret
            exact ⟨rfl, B1.out⟩
        · obtain rfl : k = n := by omega
          have hltI : ¬ (k : Int) < (k : Int) := by omega
          have hps : GoodPs L := fun i hi => HK.out i (by rw [← HN.out]; exact hi)
          have hE := E.out hps (HB0.out hn0)
          have hgb := atg_bd L k (fun j hj => (HK.out j hj).1)
          rw [← HF0.out] at hgb
          obtain ⟨t, htt⟩ : ∃ t, t = atg L k := ⟨_, rfl⟩
          rw [← htt] at hE hgb ⊢
          have e2 := (hbel.cell (p := ⟨b, off, none⟩) (blk_lt hk0)).trans hk0
          have hE2 : bb = decide (t - f0 ≤ 60) := by
            have h1 := HBB.out
            rw [hE] at h1
            cases bb with
            | true => exact (decide_eq_true (h1.1 rfl)).symm
            | false =>
              refine (decide_eq_false (fun h => ?_)).symm
              exact absurd (h1.2 h) (by simp)
          subst hE2
          have HBEL := hide hbel
          clear hbel hps hE htt
          go_wp2
          go_ret
          exact ⟨rfl, HBEL.out⟩
    · have CF := hide (fun w => l1In_any f0 0 100000 w false (by simp; omega))
      obtain rfl := bool_no6 HBB.out (fun h => hf (by rw [HF0.out]; exact ⟨h.f0, h.f1⟩))
      go_enter Tryd.func9, Tryd.ntmps9
      go_wp2_with fail
      refine (CL.out _).mono ?_
      rintro e w1 ⟨rfl, rfl⟩
      go_wp2_with fail
      refine (CF.out _).mono ?_
      rintro e w1 ⟨rfl, rfl⟩
      go_wp2
      go_ret
      exact ⟨rfl, (Below.refl _ _).alloc (Nat.le_refl _) _⟩
  · have CL := hide (fun w => l1In_any (n : Int) 1 20 w false (by simp; omega))
    obtain rfl := bool_no6 hbb (fun h => h1 (by have := h.one; have := h.many; omega))
    clear hbb hs hn hsz
    go_enter Tryd.func9, Tryd.ntmps9
    go_wp2_with fail
    refine (CL.out _).mono ?_
    rintro e w1 ⟨rfl, rfl⟩
    go_wp2
    go_ret
    exact ⟨rfl, (Below.refl _ _).alloc (Nat.le_refl _) _⟩
end Go.Proofs.YtdnmklcnlndmhazDoor.L6
