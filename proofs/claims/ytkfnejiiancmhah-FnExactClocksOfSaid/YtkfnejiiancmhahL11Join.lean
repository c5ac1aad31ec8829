/-
  Clocks as arrays; contracts: impl.joinClocks, isAtMost, isLess.
-/
import Derived.Test.YtkfnejiiancmhahArr
import Derived.Deep.DeepCutAuto
import Derived.RegionTactic
import Derived.BigRegion
import Derived.Deep.QuietTactic
import Derived.BigQuiet
import Derived.Deep.RegionHeld3
namespace Go.Proofs.Ytkfnejiiancmhah.L11
open Go.RowKit L1 Own
set_option linter.unusedVariables false

/-- A clock as a value. -/
abbrev cv (E : Nat → Int) : Value := .agg #[.int .i64 (E 0), .int .i64 (E 1), .int .i64 (E 2), .int .i64 (E 3), .int .i64 (E 4)]
/-- A clock lies in a block. -/
abbrev Clk (w : World) (base g : Nat) (E : Nat → Int) : Prop := Arr 59 5 w base g E
theorem clk_new (w : World) (g base : Nat) (hg : w.heap.size = g) (hb : base ≤ g) (E : Nat → Int) : Clk (w.alloc (.cells #[.int .i64 (E 0), .int .i64 (E 1), .int .i64 (E 2), .int .i64 (E 3), .int .i64 (E 4)] 59)) base g E := arr_new _ 5 w g base hg hb (by omega) E _ rfl
theorem clk_zero (w : World) (g base : Nat) (hg : w.heap.size = g) (hb : base ≤ g) : Clk (w.alloc (.cells #[.int .i64 0, .int .i64 0, .int .i64 0, .int .i64 0, .int .i64 0] 59)) base g (fun _ => 0) := arr_new _ 5 w g base hg hb (by omega) _ _ rfl
/-- Three clocks in memory, and nothing older turned. -/
structure K3 (w wr : World) (A B C : Nat → Int) : Prop where
  a : Clk wr w.heap.size w.heap.size A
  b : Clk wr w.heap.size (w.heap.size + 1) B
  c : Clk wr w.heap.size (w.heap.size + 2) C
  bel : Below w.heap.size w wr
/-- Of two clocks the greater numbers, up to a place. -/
def jnK (E F : Nat → Int) (k : Nat) : Nat → Int := fun i => if i < k then max (E i) (F i) else E i
def jn (E F : Nat → Int) : Nat → Int := fun i => max (E i) (F i)
theorem jnK_self (E F : Nat → Int) (k : Nat) : jnK E F k k = E k := by simp [jnK]
theorem jnK_succ (E F : Nat → Int) (k i : Nat) : updI (jnK E F k) k (max (E k) (F k)) i = jnK E F (k + 1) i := by
  unfold updI jnK
  by_cases e : i = k
  · subst e; simp
  · rw [if_neg e]
    by_cases h : i < k
    · rw [if_pos h, if_pos (by omega)]
    · rw [if_neg h, if_neg (by omega)]
theorem jnK_all (E F : Nat → Int) (i : Nat) (h : i < 5) : jnK E F 5 i = jn E F i := by unfold jnK jn; rw [if_pos h]
set_option maxRecDepth 100000 in
set_option maxHeartbeats 4000000 in
theorem joinClocks_any (E F : Nat → Int) (w : World) :
    Calls Try.prog 54 #[cv E, cv F] w fun e w' => e = .returned (cv (jn E F)) ∧ Below w.heap.size w w' := by
  go_enter Try.func54, Try.ntmps54
  go_wp2
  obtain ⟨W, hW⟩ : ∃ W, W = ((w.alloc (.cells #[.int .i64 (E 0), .int .i64 (E 1), .int .i64 (E 2), .int .i64 (E 3), .int .i64 (E 4)] 59)).alloc (.cells #[.int .i64 (F 0), .int .i64 (F 1), .int .i64 (F 2), .int .i64 (F 3), .int .i64 (F 4)] 59)).alloc (.cells #[.int .i64 0, .int .i64 0, .int .i64 0, .int .i64 0, .int .i64 0] 59) := ⟨_, rfl⟩
  rw [← hW]
  have H0 : Hid (K3 w W (jnK E F 0) F (fun _ => 0)) := hide (by
    rw [hW]
    exact ⟨((clk_new w _ _ rfl (Nat.le_refl _) E).alloc _).alloc _, (clk_new _ _ _ (by simp) (by omega) F).alloc _, clk_zero _ _ _ (by simp) (by omega), (((Below.refl _ _).alloc (Nat.le_refl _) _).alloc (by simp) _).alloc (by simp; omega) _⟩)
  clear hW
  go_loopw [6] (fun i wr => ∃ k : Nat, k ≤ 5 ∧ i = .int .i64 k ∧ Hid (K3 w wr (jnK E F k) F (fun _ => 0))) (fun i _ => 5 - (intOf i).toNat)
  case atStart => exact ⟨0, by omega, rfl, H0⟩
  case round =>
    obtain ⟨k, hk, rfl, HS⟩ := hrel
    by_cases hlt : k < 5
    · have hltI : (k : Int) < 5 := by omega
      have hk0 : (0 : Int) ≤ (k : Int) := by omega
      have ca := HS.out.a.cell k hlt
      rw [jnK_self] at ca
      have fa := HS.out.a.frozenAt k
      have cb := HS.out.b.cell k hlt
      have hsu := jnK_succ E F k
      obtain ⟨x, hx⟩ : ∃ x, x = E k := ⟨_, rfl⟩
      obtain ⟨y, hy⟩ : ∃ y, y = F k := ⟨_, rfl⟩
      rw [← hx] at ca hsu
      rw [← hy] at cb hsu
      obtain ⟨mx, hmx, hmm⟩ : ∃ mx, (if x < y then y else x) = mx ∧ max x y = mx := ⟨_, rfl, by split <;> omega⟩
      rw [hmm] at hsu
      have HN : Hid (K3 w (wr.setCell ⟨w.heap.size, k, none⟩ (.int .i64 mx)).drew (jnK E F (k + 1)) F (fun _ => 0)) := hide
        ⟨((HS.out.a.set k mx).congr (fun i _ => hsu i)).drew, (HS.out.b.keep k _ (by omega)).drew, (HS.out.c.keep k _ (by omega)).drew, (HS.out.bel.setCell (p := ⟨w.heap.size, k, none⟩) (Nat.le_refl _) _).drew⟩
      clear hx hy hmm hsu HS
      go_wp2
      go_region
      go_wp2
      go_roundw
      case rel => exact ⟨k + 1, by omega, by go_num, HN⟩
      case measure => simp [intOf]; omega
    · obtain rfl : k = 5 := by omega
      have H5 : Hid (K3 w wr (jn E F) F (fun _ => 0)) := hide ⟨HS.out.a.congr (jnK_all E F), HS.out.b, HS.out.c, HS.out.bel⟩
      have e0 := H5.out.a.cell 0 (by omega)
      have r0 := H5.out.c.cell 0 (by omega)
      have f0 := H5.out.c.frozenAt 0
      have e1 := H5.out.a.cell 1 (by omega)
      have r1 := H5.out.c.cell 1 (by omega)
      have f1 := H5.out.c.frozenAt 1
      have e2 := H5.out.a.cell 2 (by omega)
      have r2 := H5.out.c.cell 2 (by omega)
      have f2 := H5.out.c.frozenAt 2
      have e3 := H5.out.a.cell 3 (by omega)
      have r3 := H5.out.c.cell 3 (by omega)
      have f3 := H5.out.c.frozenAt 3
      have e4 := H5.out.a.cell 4 (by omega)
      have r4 := H5.out.c.cell 4 (by omega)
      have f4 := H5.out.c.frozenAt 4
      have h55 : ((5 : Nat) : Int) = 5 := rfl
      rw [h55]
      clear h55
      go_wp2
      refine bodyPost_ret (v := cv (jn E F)) (by simp [results, Try.f54, go_sem, *]) rfl ⟨rfl, ?_⟩
      exact (((((H5.out.bel.setCell (p := ⟨w.heap.size + 2, 0, none⟩) (by simp only; omega) _).setCell (p := ⟨w.heap.size + 2, 1, none⟩) (by simp only; omega) _).setCell (p := ⟨w.heap.size + 2, 2, none⟩) (by simp only; omega) _).setCell (p := ⟨w.heap.size + 2, 3, none⟩) (by simp only; omega) _).setCell (p := ⟨w.heap.size + 2, 4, none⟩) (by simp only; omega) _)
end Go.Proofs.Ytkfnejiiancmhah.L11
