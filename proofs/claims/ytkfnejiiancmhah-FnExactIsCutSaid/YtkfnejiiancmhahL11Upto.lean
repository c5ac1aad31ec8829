/-
  Contract: spec.l11Upto, whether a cut has no more events than there are.
-/
import Derived.Test.YtkfnejiiancmhahL11At
import Derived.Test.YtkfnejiiancmhahL11IsCut
import Derived.Test.YtkfnejiiancmhahIn
namespace Go.Proofs.Ytkfnejiiancmhah.L11
open Go.RowKit L1 Own
set_option linter.unusedVariables false

set_option maxRecDepth 100000 in
set_option maxHeartbeats 4000000 in
theorem l11Upto_any (N : Nat) (a u : Option Addr) (l : List (Int × Int)) (us : List Int) (n k cap ucap : Nat) (w : World) (hn : l.length = n) (hk : us.length = k) (hs : Sl2 w a l) (hu : Sl w u us) (hk2 : k ≤ 1048576) (hg : GoodV (N : Int) l) (c : Bool) (hc : c = true ↔ CutOk (N : Int) l us) :
    Calls Try.prog 47 #[.int .i64 N, .slice a n cap, .slice u k ucap] w fun e w' => e = .returned (.bool c) ∧ Below w.heap.size w w' := by
  have h40 : n ≤ 40 := by have := hg.2.2.1; omega
  have hN1 : 1 ≤ N := by have := hg.1; omega
  have hN5 : N ≤ 5 := by have := hg.2.1; omega
  by_cases hkN : k = N
  case neg =>
    obtain rfl : c = false := by
      cases c with
      | false => rfl
      | true => exact absurd (hc.1 rfl) (fun h => hkN (by have := h.1.2; omega))
    have hkb : ((k : Int) != (N : Int)) = true := by simp; omega
    clear hc hs hu hn hk hg hkN
    go_enter Try.func47, Try.ntmps47
    go_wp2
    go_ret
    exact ⟨rfl, Below.refl _ _⟩
  subst hkN
  have hkb : ((k : Int) != (k : Int)) = false := by simp
  have hNI : (0 : Int) ≤ (k : Int) := by omega
  have hc2 : c = true ↔ ∀ i, i < k → 0 ≤ us.getD i 0 ∧ us.getD i 0 ≤ cntN l n i := by
    rw [hc]
    constructor
    · intro h i hi; have := h.2 i (by omega); rw [hn] at this; exact this
    · intro h; exact ⟨⟨hg, by rw [hk]⟩, fun i hi => by have := h i (by omega); rw [hn]; exact this⟩
  obtain ⟨i1, hi1, hy0, hy1, hy2⟩ := info_parts info_int
  obtain ⟨w1, hmk, hown1, hg1⟩ := run_make_full (P := Try.prog) w w.heap.size 38 3 i1 (.int .i64 0) 1 Try.underlying38 hi1 hy0 hy1 .i64 .i64 k (by rw [hy2]; omega) (by unfold maxLen; omega) (Nat.le_refl _)
  rw [made_lA] at hown1
  have hb1 : Below w.heap.size w w1 := (Below.refl _ _).grown hg1 (Nat.le_refl _) (fun k hk => by cases hk)
  have A0 : Hid (Arr 3 k w1 w.heap.size w.heap.size (cntN l 0)) := hown1
  have HB1 := hide hb1
  have HG := hide hg
  have HS := hide hs
  have HU := hide hu
  have HN := hide hn
  have HK := hide hk
  have HC := hide hc2
  clear hown1 hg1 hs hu hn hk hg hb1 hc hc2
  go_enter Try.func47, Try.ntmps47
  go_wp2
  obtain ⟨g, hge⟩ : ∃ g, g = w.heap.size := ⟨_, rfl⟩
  have HGE := hide hge
  have A1 : Hid (Arr 3 k w1 w.heap.size g (cntN l 0)) := by rw [hge]; exact A0
  rw [← hge]
  clear hge A0 hmk
  go_loopw [20] (fun i wr => ∃ j : Nat, j ≤ n ∧ i = .int .i64 j ∧ Hid (Arr 3 k wr w.heap.size g (cntN l j)) ∧ Hid (Below w.heap.size w wr)) (fun i _ => n - (intOf i).toNat)
  case atStart => exact ⟨0, Nat.zero_le _, rfl, A1, HB1⟩
  case round =>
    obtain ⟨j, hj, rfl, HA, HB⟩ := hrel
    by_cases hlt : j < n
    · have hv := HG.out.2.2.2 j (by rw [HN.out]; exact hlt)
      obtain ⟨xn, hx⟩ : ∃ xn : Nat, nd l j = (xn : Int) := ⟨(nd l j).toNat, by have := hv.1; omega⟩
      have hxN : xn < k := by have := hv.2.1; omega
      have hsl := HS.out.below HB.out
      obtain ⟨b, off, rfl, q1, q2⟩ := hsl j (by rw [HN.out]; exact hlt)
      clear q1 q2
      obtain ⟨hc, hd⟩ := hsl.two j (by rw [HN.out]; exact hlt)
      rw [hx] at hc
      obtain ⟨y, hy⟩ : ∃ y, y = fr l j := ⟨_, rfl⟩
      rw [← hy] at hd
      have hltI : (j : Int) < (n : Int) := by omega
      have hxI : (xn : Int) < (k : Int) := by omega
      have hx0 : (0 : Int) ≤ (xn : Int) := by omega
      have HX := hide hx
      clear hx hv hsl hy
      go_upto_region 7 with fail
      obtain ⟨W0, hW0⟩ : ∃ W0, wr.alloc (.cells #[.int .i64 xn, .int .i64 y] 48) = W0 := ⟨_, rfl⟩
      have hbw : Below wr.heap.size wr W0 := by rw [← hW0]; exact (Below.refl _ _).alloc (Nat.le_refl _) _
      have e0 : W0.cell? ⟨wr.heap.size, 0, none⟩ = some (.int .i64 xn) := by rw [← hW0]; simp
      have HA0 := hide (HA.out.below hbw)
      have BB0 := hide (HB.out.trans (hbw.mono HB.out.size))
      have hzw : wr.heap.size < W0.heap.size := by rw [← hW0]; simp
      rw [hW0]
      obtain ⟨eb, heb⟩ : ∃ eb, eb = wr.heap.size := ⟨_, rfl⟩
      rw [← heb] at e0 hzw ⊢
      have hgeb : g < eb := by rw [heb]; exact HA.out.lt
      clear hW0 hbw heb HA HB
      have hcx := HA0.out.cell xn hxN
      have hcf := HA0.out.frozenAt xn
      have hsu := cntN_succ l j xn HX.out
      have hb0 := cnt_nn l (xn : Int) j
      have hb1 := cnt_le l (xn : Int) j
      obtain ⟨m, hm⟩ : ∃ m, m = cntN l j xn := ⟨_, rfl⟩
      rw [← hm] at hcx hsu
      have hm0 : 0 ≤ m := by rw [hm]; exact hb0
      have hm1 : m ≤ 40 := by rw [hm]; unfold cntN; omega
      have hmc : m + 1 = cnt l (nd l j) (j + 1) := by
        have h1 := hsu xn
        rw [updI_self] at h1
        rw [h1, HX.out]; rfl
      have HMC := hide hmc
      have HSU := hide hsu
      clear hm hsu hb0 hb1 hmc
      have HN2 : Hid (Arr 3 k (W0.setCell ⟨g, xn, none⟩ (.int .i64 (m + 1))) w.heap.size g (cntN l (j + 1))) := hide ((HA0.out.set xn (m + 1)).congr (fun i _ => HSU.out i))
      have B2 : Hid (Below w.heap.size w (W0.setCell ⟨g, xn, none⟩ (.int .i64 (m + 1)))) := hide (BB0.out.setCell (p := ⟨g, xn, none⟩) (by show w.heap.size ≤ g; rw [HGE.out]; exact Nat.le_refl _) _)
      clear HA0 BB0
      go_wp2
      go_roundw
      case rel => exact ⟨j + 1, by omega, by go_num, HN2, B2⟩
      case measure => simp [intOf]; omega
    · have hltI : ¬ (j : Int) < (n : Int) := by omega
      obtain rfl : j = n := by omega
      go_wp2
      go_loopw [34] (fun i wr2 => ∃ q : Nat, q ≤ k ∧ i = .int .i64 q ∧ Hid (∀ p, p < q → 0 ≤ us.getD p 0 ∧ us.getD p 0 ≤ cntN l j p) ∧ wr = wr2) (fun i _ => k - (intOf i).toNat)
      case atStart => exact ⟨0, Nat.zero_le _, rfl, fun p hp => absurd hp (Nat.not_lt_zero _), rfl⟩
      case round =>
        obtain ⟨q, hq, rfl, HJ, rfl⟩ := hrel
        by_cases hlq : q < k
        · obtain ⟨ub, uo, rfl, hu0⟩ := HU.out q (by rw [HK.out]; exact hlq)
          have hu1 := (HB.out.cell (p := ⟨ub, uo + q, none⟩) (blk_lt hu0)).trans hu0
          have hcx := HA.out.cell q hlq
          have hltq : (q : Int) < (k : Int) := by omega
          have hq0 : (0 : Int) ≤ (q : Int) := by omega
          obtain ⟨x, hx⟩ : ∃ x, x = us.getD q 0 := ⟨_, rfl⟩
          obtain ⟨m, hm⟩ : ∃ m, m = cntN l j q := ⟨_, rfl⟩
          rw [← hx] at hu1
          rw [← hm] at hcx
          have hall : (∀ p, p < q + 1 → 0 ≤ us.getD p 0 ∧ us.getD p 0 ≤ cntN l j p) ↔ 0 ≤ x ∧ x ≤ m := by
            constructor
            · intro h; have := h q (by omega); rw [← hx, ← hm] at this; exact this
            · intro h p hp
              by_cases e : p = q
              · subst e; rw [← hx, ← hm]; exact h
              · exact HJ.out p (by omega)
          have HALL := hide hall
          clear hu0 hx hm hall
          by_cases hin : 0 ≤ x ∧ x ≤ m
          · have CI := hide (fun w => l1In_any x 0 m w true (by simp; omega))
            have HJ2 := hide (HALL.out.2 hin)
            clear hin
            go_wp2_with fail
            refine (CI.out _).mono ?_
            rintro e w3 ⟨rfl, rfl⟩
            go_wp2
            go_roundw
            case rel => exact ⟨q + 1, by omega, by go_num, HJ2, by first | trivial | rfl⟩
            case measure => simp [intOf]; omega
          · have CI := hide (fun w => l1In_any x 0 m w false (by simp; omega))
            have E : Hid (c = false) := by
              cases c with
              | false => rfl
              | true => exact absurd (HALL.out.1 (fun p hp => HC.out.1 rfl p (by omega))) hin
            clear hin
            go_wp2_with fail
            refine (CI.out _).mono ?_
            rintro e w3 ⟨rfl, rfl⟩
            go_wp2
            go_ret
            exact ⟨by rw [E.out]; rfl, HB.out⟩
        · have hltq : ¬ (q : Int) < (k : Int) := by omega
          have E : Hid (c = true) := HC.out.2 (fun p hp => HJ.out p (by omega))
          go_wp2
          go_ret
          exact ⟨by rw [E.out]; rfl, HB.out⟩
end Go.Proofs.Ytkfnejiiancmhah.L11
