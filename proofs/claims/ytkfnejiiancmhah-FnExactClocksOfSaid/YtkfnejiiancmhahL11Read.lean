/-
  Contracts: impl.readClock, readClocks, clockList.
-/
import Derived.Test.YtkfnejiiancmhahL11Join
import Derived.Maps.AppendAt
namespace Go.Proofs.Ytkfnejiiancmhah.L11
open Go.RowKit L1 Own
set_option linter.unusedVariables false

/-- A list of numbers that may be a clock. -/
def OkC (l : List Int) : Prop := 1 ≤ l.length ∧ l.length ≤ 5 ∧ ∀ j, j < l.length → 0 ≤ l.getD j 0 ∧ l.getD j 0 ≤ 40
/-- The clock of a list. -/
def fnL (l : List Int) : Nat → Int := fun i => l.getD i 0
def rdK (l : List Int) (k : Nat) : Nat → Int := fun i => if i < k then l.getD i 0 else 0
theorem rdK_succ (l : List Int) (k i : Nat) : updI (rdK l k) k (l.getD k 0) i = rdK l (k + 1) i := by
  unfold updI rdK
  by_cases e : i = k
  · subst e; simp
  · rw [if_neg e]
    by_cases h : i < k
    · rw [if_pos h, if_pos (by omega)]
    · rw [if_neg h, if_neg (by omega)]
theorem rdK_all (l : List Int) (i : Nat) : rdK l l.length i = fnL l i := by
  unfold rdK fnL
  by_cases h : i < l.length
  · rw [if_pos h]
  · rw [if_neg h]; simp [List.getD, List.getElem?_eq_none (show l.length ≤ i by omega)]
/-- Two clocks in memory, and nothing older turned. -/
structure K2 (w wr : World) (A B : Nat → Int) : Prop where
  a : Clk wr w.heap.size w.heap.size A
  b : Clk wr w.heap.size (w.heap.size + 1) B
  bel : Below w.heap.size w wr
set_option maxRecDepth 100000 in
set_option maxHeartbeats 4000000 in
theorem readClock_no (a : Option Addr) (l : List Int) (n cap : Nat) (w : World) (hn : l.length = n) (hs : Sl w a l) (hn2 : n ≤ 1048576) (hb : ¬ OkC l) :
    Calls Try.prog 49 #[.slice a n cap] w fun e w' => e = .returned (.tuple #[cv (fun _ => 0), .bool false]) ∧ Below w.heap.size w w' := by
  have HB := hide hb
  clear hb
  by_cases h1 : (n : Int) < 1
  · clear hs hn HB
    go_enter Try.func49, Try.ntmps49
    go_upto_region 2 with fail
    obtain ⟨W, hW⟩ : ∃ W, (w.alloc (.cells #[.int .i64 0, .int .i64 0, .int .i64 0, .int .i64 0, .int .i64 0] 59)).alloc (.cells #[.int .i64 0, .int .i64 0, .int .i64 0, .int .i64 0, .int .i64 0] 59) = W := ⟨_, rfl⟩
    have H0 : Hid (K2 w W (fun _ => 0) (fun _ => 0)) := by
      rw [← hW]
      exact hide ⟨(clk_zero w _ _ rfl (Nat.le_refl _)).alloc _, clk_zero _ _ _ (by simp) (by omega), ((Below.refl _ _).alloc (Nat.le_refl _) _).alloc (by simp) _⟩
    rw [hW]
    clear hW
    have r0 := H0.out.a.cell 0 (by omega)
    have f0 := H0.out.a.frozenAt 0
    have r1 := H0.out.a.cell 1 (by omega)
    have f1 := H0.out.a.frozenAt 1
    have r2 := H0.out.a.cell 2 (by omega)
    have f2 := H0.out.a.frozenAt 2
    have r3 := H0.out.a.cell 3 (by omega)
    have f3 := H0.out.a.frozenAt 3
    have r4 := H0.out.a.cell 4 (by omega)
    have f4 := H0.out.a.frozenAt 4
    go_wp2
    refine bodyPost_ret (v := .tuple #[cv (fun _ => 0), .bool false]) (by simp [results, Try.f49, go_sem, *]) rfl ⟨rfl, ?_⟩
    exact (((((H0.out.bel.setCell (p := ⟨w.heap.size, 0, none⟩) (by simp only; omega) _).setCell (p := ⟨w.heap.size, 1, none⟩) (by simp only; omega) _).setCell (p := ⟨w.heap.size, 2, none⟩) (by simp only; omega) _).setCell (p := ⟨w.heap.size, 3, none⟩) (by simp only; omega) _).setCell (p := ⟨w.heap.size, 4, none⟩) (by simp only; omega) _)
  by_cases h5 : 5 < (n : Int)
  · clear hs hn HB
    go_enter Try.func49, Try.ntmps49
    go_upto_region 2 with fail
    obtain ⟨W, hW⟩ : ∃ W, (w.alloc (.cells #[.int .i64 0, .int .i64 0, .int .i64 0, .int .i64 0, .int .i64 0] 59)).alloc (.cells #[.int .i64 0, .int .i64 0, .int .i64 0, .int .i64 0, .int .i64 0] 59) = W := ⟨_, rfl⟩
    have H0 : Hid (K2 w W (fun _ => 0) (fun _ => 0)) := by
      rw [← hW]
      exact hide ⟨(clk_zero w _ _ rfl (Nat.le_refl _)).alloc _, clk_zero _ _ _ (by simp) (by omega), ((Below.refl _ _).alloc (Nat.le_refl _) _).alloc (by simp) _⟩
    rw [hW]
    clear hW
    have r0 := H0.out.a.cell 0 (by omega)
    have f0 := H0.out.a.frozenAt 0
    have r1 := H0.out.a.cell 1 (by omega)
    have f1 := H0.out.a.frozenAt 1
    have r2 := H0.out.a.cell 2 (by omega)
    have f2 := H0.out.a.frozenAt 2
    have r3 := H0.out.a.cell 3 (by omega)
    have f3 := H0.out.a.frozenAt 3
    have r4 := H0.out.a.cell 4 (by omega)
    have f4 := H0.out.a.frozenAt 4
    go_wp2
    refine bodyPost_ret (v := .tuple #[cv (fun _ => 0), .bool false]) (by simp [results, Try.f49, go_sem, *]) rfl ⟨rfl, ?_⟩
    exact (((((H0.out.bel.setCell (p := ⟨w.heap.size, 0, none⟩) (by simp only; omega) _).setCell (p := ⟨w.heap.size, 1, none⟩) (by simp only; omega) _).setCell (p := ⟨w.heap.size, 2, none⟩) (by simp only; omega) _).setCell (p := ⟨w.heap.size, 3, none⟩) (by simp only; omega) _).setCell (p := ⟨w.heap.size, 4, none⟩) (by simp only; omega) _)
  have HS := hide hs
  have HN := hide hn
  clear hs hn
  go_enter Try.func49, Try.ntmps49
  go_upto_region 2 with fail
  obtain ⟨W, hW⟩ : ∃ W, (w.alloc (.cells #[.int .i64 0, .int .i64 0, .int .i64 0, .int .i64 0, .int .i64 0] 59)).alloc (.cells #[.int .i64 0, .int .i64 0, .int .i64 0, .int .i64 0, .int .i64 0] 59) = W := ⟨_, rfl⟩
  have H0 : Hid (K2 w W (fun _ => 0) (fun _ => 0)) := by
    rw [← hW]
    exact hide ⟨(clk_zero w _ _ rfl (Nat.le_refl _)).alloc _, clk_zero _ _ _ (by simp) (by omega), ((Below.refl _ _).alloc (Nat.le_refl _) _).alloc (by simp) _⟩
  rw [hW]
  clear hW
  go_wp2
  go_loopw [18] (fun i wr => ∃ k : Nat, k ≤ n ∧ i = .int .i64 k ∧ Hid (∀ j, j < k → 0 ≤ l.getD j 0 ∧ l.getD j 0 ≤ 40) ∧ Hid (K2 w wr (fun _ => 0) (rdK l k))) (fun i _ => n - (intOf i).toNat)
  case atStart => exact ⟨0, Nat.zero_le _, rfl, fun j hj => absurd hj (Nat.not_lt_zero _), H0⟩
  case round =>
    obtain ⟨k, hk, rfl, HJ, HS2⟩ := hrel
    by_cases hlt : k < n
    · obtain ⟨b, off, rfl, hc0⟩ := HS.out k (by rw [HN.out]; exact hlt)
      have hc := (HS2.out.bel.cell (p := ⟨b, off + k, none⟩) (blk_lt hc0)).trans hc0
      have hltI : (k : Int) < (n : Int) := by omega
      have hk5 : (k : Int) < 5 := by omega
      have hk0 : (0 : Int) ≤ (k : Int) := by omega
      obtain ⟨x, hx⟩ : ∃ x, x = l.getD k 0 := ⟨_, rfl⟩
      rw [← hx] at hc
      have HX := hide hx
      clear hc0 hx
      by_cases hx0 : x < 0
      · clear HX
        have r0 := HS2.out.a.cell 0 (by omega)
        have f0 := HS2.out.a.frozenAt 0
        have r1 := HS2.out.a.cell 1 (by omega)
        have f1 := HS2.out.a.frozenAt 1
        have r2 := HS2.out.a.cell 2 (by omega)
        have f2 := HS2.out.a.frozenAt 2
        have r3 := HS2.out.a.cell 3 (by omega)
        have f3 := HS2.out.a.frozenAt 3
        have r4 := HS2.out.a.cell 4 (by omega)
        have f4 := HS2.out.a.frozenAt 4
        go_wp2
        refine bodyPost_ret (v := .tuple #[cv (fun _ => 0), .bool false]) (by simp [results, Try.f49, go_sem, *]) rfl ⟨rfl, ?_⟩
        exact (((((HS2.out.bel.setCell (p := ⟨w.heap.size, 0, none⟩) (by simp only; omega) _).setCell (p := ⟨w.heap.size, 1, none⟩) (by simp only; omega) _).setCell (p := ⟨w.heap.size, 2, none⟩) (by simp only; omega) _).setCell (p := ⟨w.heap.size, 3, none⟩) (by simp only; omega) _).setCell (p := ⟨w.heap.size, 4, none⟩) (by simp only; omega) _)
      · by_cases hx1 : 40 < x
        · clear HX
          have r0 := HS2.out.a.cell 0 (by omega)
          have f0 := HS2.out.a.frozenAt 0
          have r1 := HS2.out.a.cell 1 (by omega)
          have f1 := HS2.out.a.frozenAt 1
          have r2 := HS2.out.a.cell 2 (by omega)
          have f2 := HS2.out.a.frozenAt 2
          have r3 := HS2.out.a.cell 3 (by omega)
          have f3 := HS2.out.a.frozenAt 3
          have r4 := HS2.out.a.cell 4 (by omega)
          have f4 := HS2.out.a.frozenAt 4
          go_wp2
          refine bodyPost_ret (v := .tuple #[cv (fun _ => 0), .bool false]) (by simp [results, Try.f49, go_sem, *]) rfl ⟨rfl, ?_⟩
          exact (((((HS2.out.bel.setCell (p := ⟨w.heap.size, 0, none⟩) (by simp only; omega) _).setCell (p := ⟨w.heap.size, 1, none⟩) (by simp only; omega) _).setCell (p := ⟨w.heap.size, 2, none⟩) (by simp only; omega) _).setCell (p := ⟨w.heap.size, 3, none⟩) (by simp only; omega) _).setCell (p := ⟨w.heap.size, 4, none⟩) (by simp only; omega) _)
        · have HK : Hid (∀ j, j < k + 1 → 0 ≤ l.getD j 0 ∧ l.getD j 0 ≤ 40) := fun j hj => by
            by_cases e : j = k
            · subst e; rw [← HX.out]; omega
            · exact HJ.out j (by omega)
          have cb := HS2.out.b.cell k (by omega)
          have fb := HS2.out.b.frozenAt k
          have HN2 : Hid (K2 w (wr.setCell ⟨w.heap.size + 1, k, none⟩ (.int .i64 x)) (fun _ => 0) (rdK l (k + 1))) := hide
            ⟨HS2.out.a.keep k _ (by omega), (HS2.out.b.set k x).congr (fun i _ => by rw [HX.out]; exact rdK_succ l k i), HS2.out.bel.setCell (p := ⟨w.heap.size + 1, k, none⟩) (by simp only; omega) _⟩
          go_wp2
          go_roundw
          case rel => exact ⟨k + 1, by omega, by go_num, HK.out, HN2⟩
          case measure => simp [intOf]; omega
    · exact absurd ⟨by rw [HN.out]; omega, by rw [HN.out]; omega, fun j hj => HJ.out j (by rw [HN.out] at hj; omega)⟩ HB.out
set_option maxRecDepth 100000 in
set_option maxHeartbeats 4000000 in
theorem readClock_yes (a : Option Addr) (l : List Int) (n cap : Nat) (w : World) (hn : l.length = n) (hs : Sl w a l) (hb : OkC l) :
    Calls Try.prog 49 #[.slice a n cap] w fun e w' => e = .returned (.tuple #[cv (fnL l), .bool true]) ∧ Below w.heap.size w w' := by
  have h1 : ¬ (n : Int) < 1 := by have := hb.1; omega
  have h5 : ¬ 5 < (n : Int) := by have := hb.2.1; omega
  have HB := hide hb
  have HS := hide hs
  have HN := hide hn
  clear hs hn hb
  go_enter Try.func49, Try.ntmps49
  go_upto_region 2 with fail
  obtain ⟨W, hW⟩ : ∃ W, (w.alloc (.cells #[.int .i64 0, .int .i64 0, .int .i64 0, .int .i64 0, .int .i64 0] 59)).alloc (.cells #[.int .i64 0, .int .i64 0, .int .i64 0, .int .i64 0, .int .i64 0] 59) = W := ⟨_, rfl⟩
  have H0 : Hid (K2 w W (fun _ => 0) (fun _ => 0)) := by
    rw [← hW]
    exact hide ⟨(clk_zero w _ _ rfl (Nat.le_refl _)).alloc _, clk_zero _ _ _ (by simp) (by omega), ((Below.refl _ _).alloc (Nat.le_refl _) _).alloc (by simp) _⟩
  rw [hW]
  clear hW
  go_wp2
  go_loopw [18] (fun i wr => ∃ k : Nat, k ≤ n ∧ i = .int .i64 k ∧ Hid (K2 w wr (fun _ => 0) (rdK l k))) (fun i _ => n - (intOf i).toNat)
  case atStart => exact ⟨0, Nat.zero_le _, rfl, H0⟩
  case round =>
    obtain ⟨k, hk, rfl, HS2⟩ := hrel
    by_cases hlt : k < n
    · obtain ⟨b, off, rfl, hc0⟩ := HS.out k (by rw [HN.out]; exact hlt)
      have hc := (HS2.out.bel.cell (p := ⟨b, off + k, none⟩) (blk_lt hc0)).trans hc0
      have hltI : (k : Int) < (n : Int) := by omega
      have hk5 : (k : Int) < 5 := by omega
      have hk0 : (0 : Int) ≤ (k : Int) := by omega
      have hxb := HB.out.2.2 k (by rw [HN.out]; exact hlt)
      obtain ⟨x, hx⟩ : ∃ x, x = l.getD k 0 := ⟨_, rfl⟩
      rw [← hx] at hc hxb
      have HX := hide hx
      have hx0 : ¬ x < 0 := by omega
      have hx1 : ¬ 40 < x := by omega
      clear hc0 hx hxb
      have cb := HS2.out.b.cell k (by omega)
      have fb := HS2.out.b.frozenAt k
      have HN2 : Hid (K2 w (wr.setCell ⟨w.heap.size + 1, k, none⟩ (.int .i64 x)) (fun _ => 0) (rdK l (k + 1))) := hide
        ⟨HS2.out.a.keep k _ (by omega), (HS2.out.b.set k x).congr (fun i _ => by rw [HX.out]; exact rdK_succ l k i), HS2.out.bel.setCell (p := ⟨w.heap.size + 1, k, none⟩) (by simp only; omega) _⟩
      go_wp2
      go_roundw
      case rel => exact ⟨k + 1, by omega, by go_num, HN2⟩
      case measure => simp [intOf]; omega
    · obtain rfl : k = n := by omega
      have hltI : ¬ (k : Int) < (k : Int) := by omega
      have H5 : Hid (K2 w wr (fun _ => 0) (fnL l)) := hide ⟨HS2.out.a, HS2.out.b.congr (fun i _ => by rw [← rdK_all, HN.out]), HS2.out.bel⟩
      clear HS2
      have e0 := H5.out.b.cell 0 (by omega)
      have r0 := H5.out.a.cell 0 (by omega)
      have f0 := H5.out.a.frozenAt 0
      have e1 := H5.out.b.cell 1 (by omega)
      have r1 := H5.out.a.cell 1 (by omega)
      have f1 := H5.out.a.frozenAt 1
      have e2 := H5.out.b.cell 2 (by omega)
      have r2 := H5.out.a.cell 2 (by omega)
      have f2 := H5.out.a.frozenAt 2
      have e3 := H5.out.b.cell 3 (by omega)
      have r3 := H5.out.a.cell 3 (by omega)
      have f3 := H5.out.a.frozenAt 3
      have e4 := H5.out.b.cell 4 (by omega)
      have r4 := H5.out.a.cell 4 (by omega)
      have f4 := H5.out.a.frozenAt 4
      go_wp2
      refine bodyPost_ret (v := .tuple #[cv (fnL l), .bool true]) (by simp [results, Try.f49, go_sem, *]) rfl ⟨rfl, ?_⟩
      exact (((((H5.out.bel.setCell (p := ⟨w.heap.size, 0, none⟩) (by simp only; omega) _).setCell (p := ⟨w.heap.size, 1, none⟩) (by simp only; omega) _).setCell (p := ⟨w.heap.size, 2, none⟩) (by simp only; omega) _).setCell (p := ⟨w.heap.size, 3, none⟩) (by simp only; omega) _).setCell (p := ⟨w.heap.size, 4, none⟩) (by simp only; omega) _)
end Go.Proofs.Ytkfnejiiancmhah.L11
