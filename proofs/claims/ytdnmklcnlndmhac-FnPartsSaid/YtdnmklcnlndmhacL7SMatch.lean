/-
  Contract: spec.MatchLogs.
-/
import Derived.Test.YtdnmklcnlndmhacL7MatR
import Derived.Test.YtdnmklcnlndmhacL7SPrt
import Derived.Test.YtdnmklcnlndmhacL7SBegin
import Derived.Test.YtdnmklcnlndmhacL7Both
namespace Go.Proofs.Ytdnmklcnlndmhac.L7
open Go.RowKit L1
set_option linter.unusedVariables false

set_option maxRecDepth 100000 in
set_option maxHeartbeats 2000000 in
theorem specMatch_any (a b : Option Addr) (l m : List En) (n c1 k c2 : Nat) (w : World) (hn : l.length = n) (hs : SlE w a l) (hn2 : n ≤ 1048576) (hst : ∀ j, j < l.length → (l.getD j eE).2.size ≤ 9223372036854775807) (hk : m.length = k) (ht : SlE w b m) (hk2 : k ≤ 1048576) (htt : ∀ j, j < m.length → (m.getD j eE).2.size ≤ 9223372036854775807) (v ok : Bool) (hv : matR l m = (v, ok)) :
    Calls Try.prog 9 #[.slice a n c1, .slice b k c2] w fun e w' => e = .returned (.tuple #[.bool v, .bool ok]) ∧ Below w.heap.size w w' := by
  have HS := hide hs
  have HT := hide ht
  by_cases hg : GoodE l ∧ GoodE m
  · have C := hide (l7Both_any a b l m n c1 k c2 w hn hs hn2 hst hk ht hk2 htt true (by simp [hg]))
    have hr : ∃ bb : Bool, (v, ok) = (bb, true) ∧ (bb = true ↔ MatP l m) := by
      refine ⟨_, by rw [← hv]; unfold matR; rw [if_pos hg], ?_⟩
      simp
    obtain ⟨bb, hr, hbb⟩ := hr
    cases hr
    have CP := fun w hs ht => l7Part_any a b l m n c1 k c2 w hn hk hs ht hn2 hk2
    have hbb' : v = true ↔ BegP (sts l) (sts m) ∧ StayP l m (prt l m) := hbb
    obtain ⟨b1, hb1⟩ : ∃ b1 : Bool, b1 = true ↔ BegP (sts l) (sts m) := by classical exact ⟨decide (BegP (sts l) (sts m)), by simp⟩
    have CG := fun w hs ht => l7Begin_any a b l m n c1 k c2 w hn hk hs ht hn2 hk2 b1 hb1
    rw [← hb1] at hbb'
    have hpl := prt_le l m
    obtain ⟨p, hp⟩ : ∃ p, p = prt l m := ⟨_, rfl⟩
    rw [← hp] at hbb' hpl
    simp only [← hp] at CP
    rw [hn, hk] at hpl
    have HCP := hide CP
    have HCG := hide CG
    have HBB := hide hbb'
    have HN := hide hn
    have HK := hide hk
    clear hv hg hbb hbb' hb1 CP CG hp
    clear hs hn hst ht hk htt
    go_enter Try.func9, Try.ntmps9
    go_wp2_with fail
    refine (C.out).mono ?_
    rintro e w1 ⟨rfl, hb⟩
    have S_1 := hide (HS.out.below hb)
    have T_1 := hide (HT.out.below hb)
    have B_1 := hide hb
    clear hb HS HT
    go_wp2_with fail
    refine (HCP.out _ S_1.out T_1.out).mono ?_
    rintro e w2 ⟨rfl, hb⟩
    have S_2 := hide (S_1.out.below hb)
    have T_2 := hide (T_1.out.below hb)
    have B_2 := hide (B_1.out.trans (hb.mono B_1.out.size))
    clear hb S_1 T_1 B_1
    go_wp2
    go_loopw [17] (fun i wr => ∃ j : Nat, j ≤ n ∧ i = .int .i64 j ∧ Hid (∀ q, p ≤ q → q < j → q < k → (l.getD q eE).1 ≠ (m.getD q eE).1) ∧ Below w2.heap.size w2 wr) (fun i _ => n - (intOf i).toNat)
    case atStart => exact ⟨0, Nat.zero_le _, rfl, fun q h1 h2 => by omega, Below.refl _ _⟩
    case round =>
      obtain ⟨j, hjn, rfl, HJ, hbel⟩ := hrel
      by_cases h1 : j < n
      · have h1I : (j : Int) < (n : Int) := by omega
        have hj0 : (0 : Int) ≤ (j : Int) := by omega
        by_cases h2 : j < k
        · have h2I : (j : Int) < (k : Int) := by omega
          by_cases h3 : p ≤ j
          · have h3I : (p : Int) ≤ (j : Int) := by omega
            obtain ⟨b1', o1, rfl, p1, _⟩ := S_2.out j (by rw [HN.out]; exact h1)
            obtain ⟨b2, o2, rfl, p3, _⟩ := T_2.out j (by rw [HK.out]; exact h2)
            have g1 := (hbel.cell (p := ⟨b1', o1 + j * 2, none⟩) (blk_lt p1)).trans p1
            have g3 := (hbel.cell (p := ⟨b2, o2 + j * 2, none⟩) (blk_lt p3)).trans p3
            have hno : (l.getD j eE).1 = (m.getD j eE).1 → v = false := fun h => bool_noT HBB.out (fun hh => hh.2 j h3 (by rw [HN.out]; exact h1) (by rw [HK.out]; exact h2) h)
            obtain ⟨x, hx⟩ : ∃ x, x = (l.getD j eE).1 := ⟨_, rfl⟩
            obtain ⟨u, hu⟩ : ∃ u, u = (m.getD j eE).1 := ⟨_, rfl⟩
            rw [← hx] at g1 hno
            rw [← hu] at g3 hno
            by_cases e1 : x = u
            · have E : Hid (v = false) := hno e1
              subst e1
              have f1 : (x == x) = true := by simp
              have BB := hide (B_2.out.trans (hbel.mono B_2.out.size))
              clear hno hx hu p1 p3
              go_wp2
              go_quiet (fail)
              go_wp2
              go_ret2
              exact ⟨by rw [E.out]; rfl, below_dN BB.out _⟩
            · have f1 : (x == u) = false := by simpa using e1
              have HJ2 : Hid (∀ q, p ≤ q → q < j + 1 → q < k → (l.getD q eE).1 ≠ (m.getD q eE).1) := fun q h4 h5 h6 => by
                by_cases e : q = j
                · rw [e, ← hx, ← hu]; exact e1
                · exact HJ.out q h4 (by omega) h6
              clear hno hx hu p1 p3 e1
              go_wp2
              go_quiet (fail)
              go_wp2
              go_roundw
              case rel => exact ⟨j + 1, by omega, by go_num, HJ2.out, below_dN hbel _⟩
              case measure => simp [intOf]; omega
          · have h3I : decide ((p : Int) ≤ (j : Int)) = false := by simp; omega
            have HJ2 : Hid (∀ q, p ≤ q → q < j + 1 → q < k → (l.getD q eE).1 ≠ (m.getD q eE).1) := fun q h4 h5 h6 => HJ.out q h4 (by omega) h6
            go_wp2
            go_quiet (fail)
            go_wp2
            go_roundw
            case rel => exact ⟨j + 1, by omega, by go_num, HJ2.out, below_dN hbel _⟩
            case measure => simp [intOf]; omega
        · have h2I : decide ((j : Int) < (k : Int)) = false := by simp; omega
          have HJ2 : Hid (∀ q, p ≤ q → q < j + 1 → q < k → (l.getD q eE).1 ≠ (m.getD q eE).1) := fun q h4 h5 h6 => HJ.out q h4 (by omega) h6
          go_wp2
          go_quiet (fail)
          go_wp2
          go_roundw
          case rel => exact ⟨j + 1, by omega, by go_num, HJ2.out, below_dN hbel _⟩
          case measure => simp [intOf]; omega
      · have h1I : ¬ (j : Int) < (n : Int) := by omega
        have E : Hid (v = b1) := by
          have h : v = true ↔ b1 = true := HBB.out.trans ⟨fun h => h.1, fun h => ⟨h, fun q h3 h4 h5 => HJ.out q h3 (by rw [HN.out] at h4; omega) (by rw [HK.out] at h5; exact h5)⟩⟩
          exact bool_iff7 h
        have BB := hide (B_2.out.trans (hbel.mono B_2.out.size))
        have S9 := hide (S_2.out.below hbel)
        have T9 := hide (T_2.out.below hbel)
        clear hbel
        go_wp2_with fail
        refine (HCG.out _ S9.out T9.out).mono ?_
        rintro e w6 ⟨rfl, hq⟩
        have B6 := hide (BB.out.trans (hq.mono BB.out.size))
        clear hq
        go_wp2
        go_ret2
        exact ⟨by rw [E.out]; rfl, B6.out⟩
  · have C := hide (l7Both_any a b l m n c1 k c2 w hn hs hn2 hst hk ht hk2 htt false (by simp [hg]))
    have hr : (v, ok) = (false, false) := by rw [← hv]; unfold matR; rw [if_neg hg]
    cases hr
    clear hv hs hn hst ht hk htt hg
    go_enter Try.func9, Try.ntmps9
    go_wp2_with fail
    refine (C.out).mono ?_
    rintro e w1 ⟨rfl, hb⟩
    have B_1 := hide hb
    clear hb 
    go_wp2
    go_ret2
    exact ⟨rfl, B_1.out⟩
end Go.Proofs.Ytdnmklcnlndmhac.L7
