/-
  Contract: impl.stayApart tells whether no place from where two logs part on has one Epoch in both.
-/
import Derived.Test.YtdnmklcnlndmhacL7MatMath
import Derived.Test.YtdnmklcnlndmhacL7Prt
namespace Go.Proofs.Ytdnmklcnlndmhac.L7
open Go.RowKit L1
set_option linter.unusedVariables false

set_option maxRecDepth 100000 in
set_option maxHeartbeats 2000000 in
theorem stayApart_any (a b : Option Addr) (l m : List En) (n c1 k c2 : Nat) (w : World) (hn : l.length = n) (hk : m.length = k) (hs : SlE w a l) (ht : SlE w b m) (hn2 : n ≤ 1048576) (hk2 : k ≤ 1048576) (bb : Bool) (hbb : bb = true ↔ StayP l m (prt l m)) :
    Calls Try.prog 33 #[.slice a n c1, .slice b k c2] w fun e w' => e = .returned (.bool bb) ∧ Below w.heap.size w w' := by
  have C := partAt_any a b l m n c1 k c2 w hn hk hs ht hn2 hk2
  have hpl := prt_le l m
  obtain ⟨p, hp⟩ : ∃ p, p = prt l m := ⟨_, rfl⟩
  rw [← hp] at C hbb hpl
  have HS := hide hs
  have HT := hide ht
  have HN := hide hn
  have HK := hide hk
  have HBB := hide hbb
  have HC := hide C
  rw [hn, hk] at hpl
  clear hs ht hn hk hbb C hp
  go_enter Try.func33, Try.ntmps33
  go_wp2_with fail
  refine HC.out.mono ?_
  rintro e w1 ⟨rfl, hb1⟩
  have B1 := hide hb1
  clear hb1 HC
  go_wp2
  go_loopw [5] (fun i wr => ∃ j : Nat, j ≤ n ∧ j ≤ k ∧ i = .int .i64 j ∧ Hid (∀ q, p ≤ q → q < j → (l.getD q eE).1 ≠ (m.getD q eE).1) ∧ Hid (p ≤ j) ∧ Below w.heap.size w wr) (fun i _ => n - (intOf i).toNat)
  case atStart => exact ⟨p, hpl.1, hpl.2, rfl, fun q h1 h2 => by omega, Nat.le_refl _, B1.out⟩
  case round =>
    obtain ⟨j, hjn, hjk, rfl, HJ, HPJ, hbel⟩ := hrel
    by_cases h1 : j < n
    · have h1I : (j : Int) < (n : Int) := by omega
      by_cases h2 : j < k
      · have h2I : (j : Int) < (k : Int) := by omega
        obtain ⟨b1, o1, rfl, p1, _⟩ := HS.out j (by rw [HN.out]; exact h1)
        obtain ⟨b2, o2, rfl, p3, _⟩ := HT.out j (by rw [HK.out]; exact h2)
        have g1 := (hbel.cell (p := ⟨b1, o1 + j * 2, none⟩) (blk_lt p1)).trans p1
        have g3 := (hbel.cell (p := ⟨b2, o2 + j * 2, none⟩) (blk_lt p3)).trans p3
        have hj0 : (0 : Int) ≤ (j : Int) := by omega
        have hno : (l.getD j eE).1 = (m.getD j eE).1 → bb = false := fun h => bool_noT HBB.out (fun hh => hh j HPJ.out (by rw [HN.out]; exact h1) (by rw [HK.out]; exact h2) h)
        obtain ⟨x, hx⟩ : ∃ x, x = (l.getD j eE).1 := ⟨_, rfl⟩
        obtain ⟨u, hu⟩ : ∃ u, u = (m.getD j eE).1 := ⟨_, rfl⟩
        rw [← hx] at g1 hno
        rw [← hu] at g3 hno
        have HX := hide hx
        have HU := hide hu
        have B0 := hide hbel
        clear p1 p3 hx hu hbel
        by_cases e1 : x = u
        · subst e1
          have f1 : (x == x) = true := by simp
          have E : Hid (bb = false) := hno rfl
          clear hno
          go_wp2
          go_quiet (fail)
          go_wp2
          go_ret
          exact ⟨by rw [E.out]; rfl, below_dN B0.out _⟩
        · have f1 : (x == u) = false := by simpa using e1
          have HE := hide e1
          clear hno e1
          go_wp2
          go_quiet (fail)
          go_wp2
          go_roundw
          case rel =>
            refine ⟨j + 1, by omega, by omega, by go_num, fun q h3 h4 => ?_, by show p ≤ j + 1; have := HPJ.out; omega, below_dN B0.out _⟩
            by_cases e : q = j
            · rw [e, ← HX.out, ← HU.out]; exact HE.out
            · exact HJ.out q h3 (by omega)
          case measure => simp [intOf]; omega
      · have h2I : ¬ (j : Int) < (k : Int) := by omega
        have E : Hid (bb = true) := HBB.out.2 (fun q h3 h4 h5 => HJ.out q h3 (by rw [HK.out] at h5; omega))
        go_wp2
        go_ret
        exact ⟨by rw [E.out]; rfl, hbel⟩
    · have h1I : ¬ (j : Int) < (n : Int) := by omega
      have E : Hid (bb = true) := HBB.out.2 (fun q h3 h4 h5 => HJ.out q h3 (by rw [HN.out] at h4; omega))
      go_wp2
      go_ret
      exact ⟨by rw [E.out]; rfl, hbel⟩
end Go.Proofs.Ytdnmklcnlndmhac.L7
