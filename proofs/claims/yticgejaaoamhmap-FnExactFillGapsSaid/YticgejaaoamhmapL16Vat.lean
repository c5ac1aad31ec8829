/-
  Contracts: the last Value at an At or ahead; the least multiple from an At on.
-/
import Derived.Test.YticgejaaoamhmapL16Cnt
import Derived.Test.YticgejaaoamhmapL16Box
import Derived.Deep.RegionHeld3
namespace Go.Proofs.Yticgejaaoamhmap.L16
open Go.RowKit L1
set_option linter.unusedVariables false

set_option maxRecDepth 100000 in
set_option maxHeartbeats 4000000 in
theorem valueAt_any (a : Option Addr) (l : List (Int × Int)) (n cap : Nat) (t : Int) (w : World) (hn : l.length = n) (hs : Sl2 w a l) (hn2 : n ≤ 1048576) (hc : Ctr l) (h0 : 0 < n) (ht : at_ l 0 ≤ t ∧ t ≤ 4000000000) (z : Int) (hz : z = vat l t) :
    Calls Try.prog 52 #[.agg #[.slice a n cap], .int .i64 t] w fun e w' => e = .returned (.int .i64 z) ∧ Below w.heap.size w w' := by
  have h00 := hc.at_ (k := 0) (by omega)
  have hp := cnt_pos (l := l) (t := t + 1) (by omega) n h0
  have hle := cnt_le l (t + 1) n
  obtain ⟨c, hcc⟩ : ∃ c, c = cnt l (t + 1) n := ⟨_, rfl⟩
  have CB := hide (fun wx hs => countBefore_any a l n cap (t + 1) wx hn hs hn2 hc c hcc)
  rw [← hcc] at hp hle
  obtain ⟨d, hd⟩ : ∃ d, d = c - 1 := ⟨_, rfl⟩
  obtain ⟨b, off, rfl, _, hy0⟩ := sl2_at hs (k := d) (by omega)
  have hzz : z = vl l d := by rw [hz, hd, hcc]; unfold vat; rw [hn]
  obtain ⟨y, hyy⟩ : ∃ y, y = vl l d := ⟨_, rfl⟩
  rw [← hyy] at hy0 hzz
  subst hzz
  have hr1 : (c : Int) - 1 = (d : Int) := by omega
  have hrw2 : IntKind.i64.wrap (d : Int) = (d : Int) := wrap16 (by omega) (by omega)
  have hrn : (d : Int) < (n : Int) := by omega
  have hdn : d < n := by omega
  have hwt : IntKind.i64.wrap (t + 1) = t + 1 := wrap16 (by omega) (by omega)
  obtain ⟨W0, hW0⟩ : ∃ W0, BoxR w (some ⟨b, off, none⟩) n cap W0 := ⟨_, rfl⟩
  have K0 := hide hW0.cell
  have B0 := hide hW0.below
  have HW := hide (show w.alloc (.cells #[.slice (some ⟨b, off, none⟩) n cap] 47) = W0 from hW0)
  have HS0 := hide (hs.below hW0.below)
  have Y0 := hide ((hW0.below.cell (p := ⟨b, off + d * 2 + 1, none⟩) (blk_lt hy0)).trans hy0)
  clear hW0 hs hn hc hcc hd hyy hz hy0 hp hle
  go_enter Try.func52, Try.ntmps52
  go_upto_region 1 with fail
  rw [HW.out]
  refine wp_region_held_drew (S := (fun wx => wx.cell? ⟨b, off + d * 2 + 1, none⟩ = some (.int .i64 z) ∧ wx.cell? ⟨w.heap.size, 0, none⟩ = some (.slice (some ⟨b, off, none⟩) n cap))) (by kernel_rfl) ⟨Y0.out, K0.out⟩ (fun hHeld => ?_)
  refine wpAnyH_take (i := 0) (v := ?v1) rfl (by kernel_rfl) (by kernel_rfl) (by kernel_rfl) (fun _ _ _ h => h) (Or.inl ⟨by rfl, ?y1⟩) (by assumption) ?r1
  case y1 => (intro w hSw; (try dsimp only at hSw); go_simp; try (with_reducible rfl))
  simp only [List.getElem_toArray, List.getElem_cons_zero, Act.put, List.setIfInBounds_toArray, List.set_cons_zero, List.set_cons_succ]
  refine wpAnyH_take (i := 1) (v := ?v2) rfl (by kernel_rfl) (by kernel_rfl) (by kernel_rfl) (fun _ _ _ h => h) (Or.inl ⟨by rfl, ?y2⟩) (by assumption) ?r2
  case y2 => (intro w hSw; (try dsimp only at hSw); go_simp; try (with_reducible rfl))
  simp only [List.getElem_toArray, List.getElem_cons_succ, List.getElem_cons_zero, Act.put, List.setIfInBounds_toArray, List.set_cons_zero, List.set_cons_succ]
  refine wpAnyH_take (i := 2) (v := ?v3) rfl (by kernel_rfl) (by kernel_rfl) (by kernel_rfl) (fun _ _ _ h => h) (Or.inl ⟨by rfl, ?y3⟩) (by assumption) ?r3
  case y3 => (intro w hSw; (try dsimp only at hSw); go_simp; try (with_reducible rfl))
  simp only [List.getElem_toArray, List.getElem_cons_succ, List.getElem_cons_zero, Act.put, List.setIfInBounds_toArray, List.set_cons_zero, List.set_cons_succ]
  refine wpAnyH_take (i := 3) (v := ?v4) rfl (by kernel_rfl) (by kernel_rfl) (by kernel_rfl) (fun _ _ _ h => h) (Or.inl ⟨by rfl, ?y4⟩) (by assumption) ?r4
  case y4 => (intro w hSw; (try dsimp only at hSw); go_simp; try (with_reducible rfl))
  simp only [List.getElem_toArray, List.getElem_cons_succ, List.getElem_cons_zero, Act.put, List.setIfInBounds_toArray, List.set_cons_zero, List.set_cons_succ]
  refine wpAnyH_take (i := 4) (v := ?v5) rfl (by kernel_rfl) (by kernel_rfl) (by kernel_rfl) (fun _ _ _ h => h) (Or.inl ⟨by rfl, ?y5⟩) (by assumption) ?r5
  case y5 => (intro w hSw; (try dsimp only at hSw); go_simp; try (with_reducible rfl))
  simp only [List.getElem_toArray, List.getElem_cons_succ, List.getElem_cons_zero, Act.put, List.setIfInBounds_toArray, List.set_cons_zero, List.set_cons_succ]
  refine wpAnyH_ready (rs := [5]) (by kernel_rfl) (by simp) ?_
  refine AllReadyH.cons rfl (fun K hK => ?_) AllReadyH.nil
  simp only [List.getElem_toArray, List.getElem_cons_succ, List.getElem_cons_zero]
  go_simp
  go_at_call 50
  refine (CB.out _ (HS0.out.below (Below.refl _ _).drew)).mono ?_
  rintro e w2 ⟨rfl, hb⟩
  have E2 := hide (show Below W0.heap.size W0 w2 from (Below.refl W0.heap.size W0).drew.trans (hb.mono (Nat.le_refl _)))
  clear hb
  dsimp only
  refine hK.out _ _ ?_ (fun hHeld => ?_)
  · exact ⟨(E2.out.cell (p := ⟨b, off + d * 2 + 1, none⟩) (blk_lt Y0.out)).trans Y0.out, (E2.out.cell (p := ⟨w.heap.size, 0, none⟩) (blk_lt K0.out)).trans K0.out⟩
  clear hK K
  try simp only [Act.put, List.setIfInBounds_toArray, List.set_cons_zero, List.set_cons_succ]
  refine wpAnyH_take (i := 6) (v := ?v6) rfl (by kernel_rfl) (by kernel_rfl) (by kernel_rfl) (fun _ _ _ h => h) (Or.inl ⟨by rfl, ?y6⟩) (by assumption) ?r6
  case y6 => (intro w hSw; (try dsimp only at hSw); go_simp; try (with_reducible rfl))
  simp only [List.getElem_toArray, List.getElem_cons_succ, List.getElem_cons_zero, Act.put, List.setIfInBounds_toArray, List.set_cons_zero, List.set_cons_succ]
  refine wpAnyH_take (i := 7) (v := ?v7) rfl (by kernel_rfl) (by kernel_rfl) (by kernel_rfl) (fun _ _ _ h => h) (Or.inl ⟨by rfl, ?y7⟩) (by assumption) ?r7
  case y7 => (intro w hSw; (try dsimp only at hSw); go_simp; try (with_reducible rfl))
  simp only [List.getElem_toArray, List.getElem_cons_succ, List.getElem_cons_zero, Act.put, List.setIfInBounds_toArray, List.set_cons_zero, List.set_cons_succ]
  refine wpAnyH_take (i := 8) (v := ?v8) rfl (by kernel_rfl) (by kernel_rfl) (by kernel_rfl) (fun _ _ _ h => h) (Or.inl ⟨by rfl, ?y8⟩) (by assumption) ?r8
  case y8 => (intro w hSw; (try dsimp only at hSw); go_simp; try (with_reducible rfl))
  simp only [List.getElem_toArray, List.getElem_cons_succ, List.getElem_cons_zero, Act.put, List.setIfInBounds_toArray, List.set_cons_zero, List.set_cons_succ]
  refine wpAnyH_take (i := 9) (v := ?v9) rfl (by kernel_rfl) (by kernel_rfl) (by kernel_rfl) (fun _ _ _ h => h) (Or.inl ⟨by rfl, ?y9⟩) (by assumption) ?r9
  case y9 => (intro w hSw; (try dsimp only at hSw); go_simp; try (with_reducible rfl))
  simp only [List.getElem_toArray, List.getElem_cons_succ, List.getElem_cons_zero, Act.put, List.setIfInBounds_toArray, List.set_cons_zero, List.set_cons_succ]
  refine wpAnyH_take (i := 10) (v := ?v10) rfl (by kernel_rfl) (by kernel_rfl) (by kernel_rfl) (fun _ _ _ h => h) (Or.inl ⟨by rfl, ?y10⟩) (by assumption) ?r10
  case y10 => (intro w hSw; (try dsimp only at hSw); go_simp; try (with_reducible rfl))
  simp only [List.getElem_toArray, List.getElem_cons_succ, List.getElem_cons_zero, Act.put, List.setIfInBounds_toArray, List.set_cons_zero, List.set_cons_succ]
  refine wpAnyH_done (by kernel_rfl) ?_ _
  clear hHeld
  go_wp2
  go_ret
  exact ⟨rfl, B0.out.trans (E2.out.mono B0.out.size)⟩
set_option maxRecDepth 100000 in
set_option maxHeartbeats 4000000 in
theorem multipleFrom_any (t s : Int) (w : World) (ht : 0 ≤ t ∧ t ≤ 1000000000) (hs : 1 ≤ s ∧ s ≤ 1000000) (z : Int) (hz : z = mul0 t s) :
    Calls Try.prog 51 #[.int .i64 t, .int .i64 s] w fun e w' => e = .returned (.int .i64 z) ∧ w' = w := by
  obtain ⟨b1, b2, b3, b4⟩ := mul0_bd ht hs
  have hw1 : IntKind.i64.wrap (t + s) = t + s := wrap16 (by omega) (by omega)
  have hw2 : IntKind.i64.wrap (t + s - 1) = t + s - 1 := wrap16 (by omega) (by omega)
  rw [← hz] at b1 b2
  unfold mul0 at hz
  obtain ⟨q, hq⟩ : ∃ q, q = (t + s - 1) / s := ⟨_, rfl⟩
  rw [← hq] at hz b3 b4
  have hq0 : (t + s - 1) / s = q := hq.symm
  have hwq : IntKind.i64.wrap (Int.tdiv (t + s - 1) s) = q := by rw [Int.tdiv_eq_ediv_of_nonneg (by omega), ← hq]; exact wrap16 (by omega) (by omega)
  have hwz : IntKind.i64.wrap (q * s) = z := by rw [← hz]; exact wrap16 (by omega) (by omega)
  have hs0 : ¬ s = 0 := by omega
  clear hq hz
  go_enter Try.func51, Try.ntmps51
  go_wp2
  go_ret
  exact ⟨by simp, rfl⟩
end Go.Proofs.Yticgejaaoamhmap.L16
