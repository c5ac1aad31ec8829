/-
  Contract: impl.GoodEntries tells whether entries are good.
-/
import Derived.Test.YtbcljhafdpnjbbdL7Ent
namespace Go.Proofs.Ytbcljhafdpnjbbd.L7
open Go.RowKit L1
set_option linter.unusedVariables false

/-- The least Epoch that may stand at a place. -/
def lstE (l : List En) : Nat → Int
  | 0 => 1
  | k + 1 => (l.getD k eE).1
/-- The entry at a place is good behind those ahead. -/
def StepE (l : List En) (k : Nat) : Prop := lstE l k ≤ (l.getD k eE).1 ∧ (l.getD k eE).1 ≤ 1000 ∧ (l.getD k eE).2.size ≤ 20
theorem lstE_ge (l : List En) (k : Nat) (h : ∀ j, j < k → StepE l j) : 1 ≤ lstE l k := by
  induction k with
  | zero => simp [lstE]
  | succ k ih => have := (h k (by omega)).1; have h1 := ih (fun j hj => h j (by omega)); show 1 ≤ (l.getD k eE).1; omega
theorem goodE_step (l : List En) : GoodE l ↔ l.length ≤ 40 ∧ ∀ j, j < l.length → StepE l j := by
  constructor
  · rintro ⟨h1, h2⟩
    refine ⟨h1, fun j hj => ⟨?_, (h2 j hj).1.2.1, (h2 j hj).1.2.2⟩⟩
    cases j with
    | zero => exact (h2 0 hj).1.1
    | succ j => have := (h2 (j + 1) hj).2 (by omega); simpa [lstE] using this
  · rintro ⟨h1, h2⟩
    refine ⟨h1, fun j hj => ⟨⟨?_, (h2 j hj).2.1, (h2 j hj).2.2⟩, fun h0 => ?_⟩⟩
    · have := lstE_ge l j (fun i hi => h2 i (by omega)); have h3 := (h2 j hj).1; omega
    · cases j with
      | zero => omega
      | succ j => exact (h2 (j + 1) hj).1

set_option maxRecDepth 100000 in
set_option maxHeartbeats 2000000 in
theorem goodEntries_any (a : Option Addr) (l : List En) (n cap : Nat) (w : World) (hn : l.length = n) (hs : SlE w a l) (hn2 : n ≤ 1048576) (hst : ∀ j, j < l.length → (l.getD j eE).2.size ≤ 9223372036854775807) (bb : Bool) (hbb : bb = true ↔ GoodE l) :
    Calls Try.prog 77 #[.slice a n cap] w fun e w' => e = .returned (.bool bb) ∧ Below w.heap.size w w' := by
  have HBB := hide (hbb.trans (goodE_step l))
  clear hbb
  by_cases h40 : 40 < (n : Int)
  · have HNO : Hid (bb = false) := bool_noT HBB.out (fun h => by have := h.1; omega)
    clear hs hn
    go_enter Try.func77, Try.ntmps77
    go_wp2
    go_ret
    exact ⟨by rw [HNO.out]; rfl, Below.refl _ _⟩
  have HS := hide hs
  have HN := hide hn
  have HST := hide hst
  clear hs hn hst
  go_enter Try.func77, Try.ntmps77
  go_wp2
  go_loopw [3, 11] (fun t i wr => ∃ k : Nat, k ≤ n ∧ i = .int .i64 k ∧ t = .int .i64 (lstE l k) ∧ Hid (∀ j, j < k → StepE l j) ∧ Below w.heap.size w wr) (fun _ i _ => n - (intOf i).toNat)
  case atStart => exact ⟨0, Nat.zero_le _, rfl, rfl, fun j hj => absurd hj (Nat.not_lt_zero _), Below.refl _ _⟩
  case round =>
    obtain ⟨k, hk, rfl, rfl, HJ, hbel⟩ := hrel
    by_cases hlt : k < n
    · have hno : bb = true → StepE l k := fun h => (HBB.out.1 h).2 k (by rw [HN.out]; exact hlt)
      have hnx : lstE l (k + 1) = (l.getD k eE).1 := rfl
      have hste : StepE l k ↔ lstE l k ≤ (l.getD k eE).1 ∧ (l.getD k eE).1 ≤ 1000 ∧ (l.getD k eE).2.size ≤ 20 := Iff.rfl
      obtain ⟨b, off, rfl, hc0, hd0⟩ := HS.out k (by rw [HN.out]; exact hlt)
      have hc := (hbel.cell (p := ⟨b, off + k * 2, none⟩) (blk_lt hc0)).trans hc0
      have hd := (hbel.cell (p := ⟨b, off + k * 2 + 1, none⟩) (blk_lt hd0)).trans hd0
      have hltI : (k : Int) < (n : Int) := by omega
      have hsy := HST.out k (by rw [HN.out]; exact hlt)
      obtain ⟨x, hx⟩ : ∃ x, x = (l.getD k eE).1 := ⟨_, rfl⟩
      obtain ⟨y, hy⟩ : ∃ y, y = (l.getD k eE).2 := ⟨_, rfl⟩
      rw [← hx] at hc
      rw [← hy] at hd hsy
      rw [← hx, ← hy] at hste
      rw [← hx] at hnx
      obtain ⟨L, hL⟩ : ∃ L, L = lstE l k := ⟨_, rfl⟩
      rw [← hL] at hste ⊢
      have HNO := hide hno
      have HNX := hide hnx
      have HSTE := hide hste
      have B0 := hide hbel
      clear hc0 hd0 hx hy hbel hL hno hnx hste
      by_cases h1 : x < L
      · have E : Hid (bb = false) := by
          cases bb with
          | false => rfl
          | true => have := HSTE.out.1 (HNO.out rfl); omega
        go_wp2
        go_ret
        exact ⟨by rw [E.out]; rfl, B0.out.alloc B0.out.size _⟩
      · by_cases h2 : 1000 < x
        · have E : Hid (bb = false) := by
            cases bb with
            | false => rfl
            | true => have := HSTE.out.1 (HNO.out rfl); omega
          go_wp2
          go_ret
          exact ⟨by rw [E.out]; rfl, B0.out.alloc B0.out.size _⟩
        · by_cases h3 : 20 < (y.size : Int)
          · have E : Hid (bb = false) := by
              cases bb with
              | false => rfl
              | true => have := HSTE.out.1 (HNO.out rfl); omega
            go_wp2
            go_ret
            exact ⟨by rw [E.out]; rfl, B0.out.alloc B0.out.size _⟩
          · have HK : Hid (∀ j, j < k + 1 → StepE l j) := fun j hj => by
              by_cases e : j = k
              · subst e; exact HSTE.out.2 ⟨by omega, by omega, by omega⟩
              · exact HJ.out j (by omega)
            go_wp2
            go_roundw
            case rel => exact ⟨k + 1, by omega, by go_num, by rw [HNX.out], HK.out, B0.out.alloc B0.out.size _⟩
            case measure => simp [intOf]; omega
    · have hltI : ¬ (k : Int) < (n : Int) := by omega
      have E : Hid (bb = true) := HBB.out.2 ⟨by rw [HN.out]; omega, fun j hj => HJ.out j (by rw [HN.out] at hj; omega)⟩
      go_wp2
      go_ret
      exact ⟨by rw [E.out]; rfl, hbel⟩
end Go.Proofs.Ytbcljhafdpnjbbd.L7
