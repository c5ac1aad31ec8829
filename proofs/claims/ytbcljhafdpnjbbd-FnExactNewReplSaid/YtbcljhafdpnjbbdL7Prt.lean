/-
  Contract: impl.partAt tells where two lists of entries part.
-/
import Derived.Test.YtbcljhafdpnjbbdL7Math
namespace Go.Proofs.Ytbcljhafdpnjbbd.L7
open Go.RowKit L1
set_option linter.unusedVariables false

set_option maxRecDepth 100000 in
set_option maxHeartbeats 2000000 in
theorem partAt_any (a b : Option Addr) (l m : List En) (n c1 k c2 : Nat) (w : World) (hn : l.length = n) (hk : m.length = k) (hs : SlE w a l) (ht : SlE w b m) (hn2 : n ≤ 1048576) (hk2 : k ≤ 1048576) :
    Calls Try.prog 63 #[.slice a n c1, .slice b k c2] w fun e w' => e = .returned (.int .i64 (prt l m : Int)) ∧ Below w.heap.size w w' := by
  have HS := hide hs
  have HN := hide hn
  have HT := hide ht
  have HK := hide hk
  have HP : Hid (∀ i, (∀ j, j < i → l.getD j eE = m.getD j eE) → i ≤ n → i ≤ k → (i = n ∨ i = k ∨ l.getD i eE ≠ m.getD i eE) → prt l m = i) := fun i h1 h2 h3 h4 => prt_eq i l m h1 (by rw [HN.out]; exact h2) (by rw [HK.out]; exact h3) (by rw [HN.out, HK.out]; exact h4)
  clear hs hn ht hk
  go_enter Try.func63, Try.ntmps63
  go_wp2
  go_loopw [5] (fun i wr => ∃ j : Nat, j ≤ n ∧ j ≤ k ∧ i = .int .i64 j ∧ Hid (∀ q, q < j → l.getD q eE = m.getD q eE) ∧ Below w.heap.size w wr) (fun i _ => n - (intOf i).toNat)
  case atStart => exact ⟨0, Nat.zero_le _, Nat.zero_le _, rfl, fun j hj => absurd hj (Nat.not_lt_zero _), Below.refl _ _⟩
  case round =>
    obtain ⟨j, hjn, hjk, rfl, HJ, hbel⟩ := hrel
    by_cases h1 : j < n
    · have h1I : (j : Int) < (n : Int) := by omega
      by_cases h2 : j < k
      · have h2I : (j : Int) < (k : Int) := by omega
        obtain ⟨b1, o1, rfl, p1, p2⟩ := HS.out j (by rw [HN.out]; exact h1)
        obtain ⟨b2, o2, rfl, p3, p4⟩ := HT.out j (by rw [HK.out]; exact h2)
        have g1 := (hbel.cell (p := ⟨b1, o1 + j * 2, none⟩) (blk_lt p1)).trans p1
        have g2 := (hbel.cell (p := ⟨b1, o1 + j * 2 + 1, none⟩) (blk_lt p2)).trans p2
        have g3 := (hbel.cell (p := ⟨b2, o2 + j * 2, none⟩) (blk_lt p3)).trans p3
        have g4 := (hbel.cell (p := ⟨b2, o2 + j * 2 + 1, none⟩) (blk_lt p4)).trans p4
        have hj0 : (0 : Int) ≤ (j : Int) := by omega
        obtain ⟨x, hx⟩ : ∃ x, x = (l.getD j eE).1 := ⟨_, rfl⟩
        obtain ⟨y, hy⟩ : ∃ y, y = (l.getD j eE).2 := ⟨_, rfl⟩
        obtain ⟨u, hu⟩ : ∃ u, u = (m.getD j eE).1 := ⟨_, rfl⟩
        obtain ⟨v, hv⟩ : ∃ v, v = (m.getD j eE).2 := ⟨_, rfl⟩
        rw [← hx] at g1
        rw [← hy] at g2
        rw [← hu] at g3
        rw [← hv] at g4
        have HXY : Hid (l.getD j eE = (x, y)) := by show _ = _; rw [hx, hy]
        have HUV : Hid (m.getD j eE = (u, v)) := by show _ = _; rw [hu, hv]
        have B0 := hide hbel
        clear p1 p2 p3 p4 hx hy hu hv hbel
        by_cases e1 : x = u
        · subst e1
          have f1 : (x == x) = true := by simp
          by_cases e2 : y = v
          · subst e2
            have f2 : (y.toList == y.toList) = true := by simp
            have HJ2 : Hid (∀ q, q < j + 1 → l.getD q eE = m.getD q eE) := fun q hq => by
              by_cases e : q = j
              · rw [e, HXY.out, HUV.out]
              · exact HJ.out q (by omega)
            go_wp2
            go_quiet (fail)
            go_wp2
            go_roundw
            case rel => exact ⟨j + 1, by omega, by omega, by go_num, HJ2.out, below_dN B0.out _⟩
            case measure => simp [intOf]; omega
          · have f2 : (y.toList == v.toList) = false := text_ne e2
            have E : Hid (prt l m = j) := HP.out j HJ.out (by omega) (by omega) (.inr (.inr (by rw [HXY.out, HUV.out]; intro h; exact e2 (congrArg Prod.snd h))))
            clear e2
            go_wp2
            go_quiet (fail)
            go_wp2
            go_ret
            exact ⟨by rw [E.out]; rfl, below_dN B0.out _⟩
        · have f1 : (x == u) = false := by simpa using e1
          have E : Hid (prt l m = j) := HP.out j HJ.out (by omega) (by omega) (.inr (.inr (by rw [HXY.out, HUV.out]; intro h; exact e1 (congrArg Prod.fst h))))
          clear e1
          go_wp2
          go_quiet (fail)
          go_wp2
          go_ret
          exact ⟨by rw [E.out]; rfl, below_dN B0.out _⟩
      · have h2I : decide ((j : Int) < (k : Int)) = false := by simp; omega
        have E : Hid (prt l m = j) := HP.out j HJ.out (by omega) (by omega) (.inr (.inl (by omega)))
        go_wp2
        go_quiet (fail)
        go_wp2
        go_ret
        exact ⟨by rw [E.out]; rfl, below_dN hbel _⟩
    · have h1I : decide ((j : Int) < (n : Int)) = false := by simp; omega
      have E : Hid (prt l m = j) := HP.out j HJ.out (by omega) (by omega) (.inl (by omega))
      go_wp2
      go_quiet (fail)
      go_wp2
      go_ret
      exact ⟨by rw [E.out]; rfl, below_dN hbel _⟩
end Go.Proofs.Ytbcljhafdpnjbbd.L7
