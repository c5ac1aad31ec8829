/-
  Contract: impl.goodStarts tells whether starts are good for an end.
-/
import Derived.Test.YtdnmklcnlndmhbbL7GSMath
namespace Go.Proofs.Ytdnmklcnlndmhbb.L7
open Go.RowKit L1
set_option linter.unusedVariables false

set_option maxRecDepth 100000 in
set_option maxHeartbeats 2000000 in
theorem goodStarts_any (a : Option Addr) (l : List (Int × Int)) (n cap : Nat) (en : Int) (w : World) (hn : l.length = n) (hs : SlS w a l) (hn2 : n ≤ 1048576) (bb : Bool) (hbb : bb = true ↔ GoodS l en) :
    Calls Try.prog 43 #[.slice a n cap, .int .i64 en] w fun e w' => e = .returned (.bool bb) ∧ Below w.heap.size w w' := by
  have HBB := hide (hbb.trans (goodS_step l en))
  clear hbb
  by_cases h40 : 40 < (n : Int)
  · have E : Hid (bb = false) := bool_noT HBB.out (fun h => by have := h.1; omega)
    clear hs hn
    go_enter Try.func43, Try.ntmps43
    go_wp2
    go_ret
    exact ⟨by rw [E.out]; rfl, Below.refl _ _⟩
  by_cases h41 : en < 0
  · have E : Hid (bb = false) := bool_noT HBB.out (fun h => by have := h.1; omega)
    clear hs hn
    go_enter Try.func43, Try.ntmps43
    go_wp2
    go_ret
    exact ⟨by rw [E.out]; rfl, Below.refl _ _⟩
  by_cases h42 : 40 < en
  · have E : Hid (bb = false) := bool_noT HBB.out (fun h => by have := h.1; omega)
    clear hs hn
    go_enter Try.func43, Try.ntmps43
    go_wp2
    go_ret
    exact ⟨by rw [E.out]; rfl, Below.refl _ _⟩
  have HS := hide hs
  have HN := hide hn
  clear hs hn
  go_enter Try.func43, Try.ntmps43
  go_wp2
  go_loopw [5, 6, 22] (fun t u i wr => ∃ k : Nat, k ≤ n ∧ i = .int .i64 k ∧ t = .int .i64 (lsS l k) ∧ u = .int .i64 (laS l k) ∧ Hid (∀ j, j < k → StepS l en j) ∧ Below w.heap.size w wr) (fun _ _ i _ => n - (intOf i).toNat)
  case atStart => exact ⟨0, Nat.zero_le _, rfl, rfl, rfl, fun j hj => absurd hj (Nat.not_lt_zero _), Below.refl _ _⟩
  case round =>
    obtain ⟨k, hk, rfl, rfl, rfl, HJ, hbel⟩ := hrel
    by_cases hlt : k < n
    · have hno : bb = true → StepS l en k := fun h => (HBB.out.1 h).2 k (by rw [HN.out]; exact hlt)
      have hnx : lsS l (k + 1) = (l.getD k (0, 0)).1 + 1 ∧ laS l (k + 1) = (l.getD k (0, 0)).2 + 1 := ⟨rfl, rfl⟩
      have hge := ls_ge l en k HJ.out
      have hste : StepS l en k ↔ lsS l k ≤ (l.getD k (0, 0)).1 ∧ (l.getD k (0, 0)).1 ≤ 1000 ∧ laS l k ≤ (l.getD k (0, 0)).2 ∧ (l.getD k (0, 0)).2 < en := Iff.rfl
      obtain ⟨b, off, rfl, hc0, hd0⟩ := HS.out k (by rw [HN.out]; exact hlt)
      have hc := (hbel.cell (p := ⟨b, off + k * 2, none⟩) (blk_lt hc0)).trans hc0
      have hd := (hbel.cell (p := ⟨b, off + k * 2 + 1, none⟩) (blk_lt hd0)).trans hd0
      have hltI : (k : Int) < (n : Int) := by omega
      obtain ⟨x, hx⟩ : ∃ x, x = (l.getD k (0, 0)).1 := ⟨_, rfl⟩
      obtain ⟨y, hy⟩ : ∃ y, y = (l.getD k (0, 0)).2 := ⟨_, rfl⟩
      rw [← hx] at hc
      rw [← hy] at hd
      rw [← hx, ← hy] at hste hnx
      obtain ⟨L, hL⟩ : ∃ L, L = lsS l k := ⟨_, rfl⟩
      obtain ⟨A, hA⟩ : ∃ A, A = laS l k := ⟨_, rfl⟩
      rw [← hL, ← hA] at hste hge ⊢
      have HNO := hide hno
      have HNX := hide hnx
      have HSTE := hide hste
      have HGE := hide hge
      have B0 := hide hbel
      clear hc0 hd0 hx hy hbel hL hA hno hnx hste hge
      by_cases h1 : x < L
      · skip
        have E : Hid (bb = false) := by
          cases bb with
          | false => rfl
          | true => have := HSTE.out.1 (HNO.out rfl); omega
        go_wp2
        go_ret
        exact ⟨by rw [E.out]; rfl, B0.out.alloc B0.out.size _⟩
      · by_cases h2 : 1000 < x
        · skip
          have E : Hid (bb = false) := by
            cases bb with
            | false => rfl
            | true => have := HSTE.out.1 (HNO.out rfl); omega
          go_wp2
          go_ret
          exact ⟨by rw [E.out]; rfl, B0.out.alloc B0.out.size _⟩
        · by_cases h3 : y < A
          · skip
            have E : Hid (bb = false) := by
              cases bb with
              | false => rfl
              | true => have := HSTE.out.1 (HNO.out rfl); omega
            go_wp2
            go_ret
            exact ⟨by rw [E.out]; rfl, B0.out.alloc B0.out.size _⟩
          · by_cases h4 : en ≤ y
            · skip
              have E : Hid (bb = false) := by
                cases bb with
                | false => rfl
                | true => have := HSTE.out.1 (HNO.out rfl); omega
              go_wp2
              go_ret
              exact ⟨by rw [E.out]; rfl, B0.out.alloc B0.out.size _⟩
            · have HK : Hid (∀ j, j < k + 1 → StepS l en j) := fun j hj => by
                by_cases e : j = k
                · subst e; exact HSTE.out.2 ⟨by omega, by omega, by omega, by omega⟩
                · exact HJ.out j (by omega)
              have hwx : IntKind.i64.wrap (x + 1) = x + 1 := by
                have := HGE.out
                simp only [IntKind.wrap, IntKind.bits, IntKind.signed]
                simp
                omega
              have hwy : IntKind.i64.wrap (y + 1) = y + 1 := by
                have := HGE.out
                simp only [IntKind.wrap, IntKind.bits, IntKind.signed]
                simp
                omega
              go_wp2
              go_quiet (fail)
              go_wp2
              go_roundw
              case rel => exact ⟨k + 1, by omega, by go_num, by rw [HNX.out.1], by rw [HNX.out.2], HK.out, below_dN (B0.out.alloc B0.out.size _) _⟩
              case measure => simp [intOf]; omega
    · have hltI : ¬ (k : Int) < (n : Int) := by omega
      have E : Hid (bb = true) := HBB.out.2 ⟨by rw [HN.out]; omega, fun j hj => HJ.out j (by rw [HN.out] at hj; omega)⟩
      go_wp2
      go_ret
      exact ⟨by rw [E.out]; rfl, hbel⟩
end Go.Proofs.Ytdnmklcnlndmhbb.L7
