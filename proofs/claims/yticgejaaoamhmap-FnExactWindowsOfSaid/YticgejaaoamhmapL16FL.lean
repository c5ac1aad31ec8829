/-
  Contracts: the first and the last one of a run.
-/
import Derived.Test.YticgejaaoamhmapL16Box
import Derived.Test.YticgejaaoamhmapL8Gen
import Derived.Deep.RegionHeld3
namespace Go.Proofs.Yticgejaaoamhmap.L16
open Go.RowKit L1
set_option linter.unusedVariables false

theorem blkp {w : World} {g : Nat} {a b : Value} {t : TypeId} (h : w.heap[g]? = some (.cells #[a, b] t (0, 0))) : w.cell? ⟨g, 0, none⟩ = some a ∧ w.cell? ⟨g, 1, none⟩ = some b ∧ w.frozen? ⟨g, 0, none⟩ = false ∧ w.frozen? ⟨g, 1, none⟩ = false := by
  simp [World.cell?, World.frozen?, h]
set_option maxRecDepth 100000 in
set_option maxHeartbeats 1000000 in
theorem first_any (a : Option Addr) (l : List (Int × Int)) (n cap : Nat) (w : World) (hn : l.length = n) (hs : Sl2 w a l) (hn2 : n ≤ 1048576) (h0 : 0 < n) :
    Calls Try.prog 41 #[.agg #[.slice a n cap]] w fun e w' => e = .returned (.agg #[.int .i64 (at_ l 0), .int .i64 (vl l 0)]) ∧ Below w.heap.size w w' := by
  obtain ⟨b, off, rfl, hx0, hy0⟩ := sl2_at hs (k := 0) (by omega)
  obtain ⟨r, hr⟩ : ∃ r, r = n - 1 := ⟨_, rfl⟩
  have hrn : (r : Int) < (n : Int) := by omega
  have hr1 : (n : Int) - 1 = (r : Int) := by omega
  have h0I : (0 : Int) < (n : Int) := by omega
  have hrw2 : IntKind.i64.wrap (r : Int) = (r : Int) := wrap16 (by omega) (by omega)
  have bB := (Below.refl w.heap.size w).alloc (Nat.le_refl _) (.cells #[.slice (some ⟨b, off, none⟩) n cap] 47 (0, 0))
  have hba := bB.alloc (by simp) (.cells #[.int .i64 0, .int .i64 0] 42 (0, 0))
  have k0 : ((w.alloc (.cells #[.slice (some ⟨b, off, none⟩) n cap] 47 (0, 0))).alloc (.cells #[.int .i64 0, .int .i64 0] 42 (0, 0))).cell? ⟨w.heap.size, 0, none⟩ = some (.slice (some ⟨b, off, none⟩) n cap) := by simp
  have z0 : ((w.alloc (.cells #[.slice (some ⟨b, off, none⟩) n cap] 47 (0, 0))).alloc (.cells #[.int .i64 0, .int .i64 0] 42 (0, 0))).heap[w.heap.size + 1]? = some (.cells #[.int .i64 0, .int .i64 0] 42 (0, 0)) := by
    have := L8.blk_new (w.alloc (.cells #[.slice (some ⟨b, off, none⟩) n cap] 47 (0, 0))) (.cells #[.int .i64 0, .int .i64 0] 42 (0, 0))
    simpa using this
  obtain ⟨W0, hW0⟩ : ∃ W0, (w.alloc (.cells #[.slice (some ⟨b, off, none⟩) n cap] 47 (0, 0))).alloc (.cells #[.int .i64 0, .int .i64 0] 42 (0, 0)) = W0 := ⟨_, rfl⟩
  rw [hW0] at hba k0 z0
  obtain ⟨d0, d1, f0, f1⟩ := blkp z0
  have hx := (hba.cell (p := ⟨b, off + 0 * 2, none⟩) (blk_lt hx0)).trans hx0
  have hy := (hba.cell (p := ⟨b, off + 0 * 2 + 1, none⟩) (blk_lt hy0)).trans hy0
  obtain ⟨x, hxx⟩ : ∃ x, x = at_ l 0 := ⟨_, rfl⟩
  obtain ⟨y, hyy⟩ : ∃ y, y = vl l 0 := ⟨_, rfl⟩
  have ex : at_ l 0 = x := by rw [hxx]
  have ey : vl l 0 = y := by rw [hyy]
  rw [ex] at hx
  rw [ey] at hy
  rw [← hxx, ← hyy]
  have HW := hide hW0
  have B := hide hba
  try simp only [Nat.zero_mul, Nat.add_zero] at hx hy
  clear hxx hyy hs hba hW0 hx0 hy0 hn ex ey bB z0
  go_enter Try.func41, Try.ntmps41
  go_upto_region 1 with fail
  rw [HW.out]
  go_wp2
  refine bodyPost_ret (v := .agg #[.int .i64 x, .int .i64 y]) (by simp [results, Try.f41, go_sem, d0, d1]) rfl ⟨rfl, ?_⟩
  exact (B.out.setCell (p := ⟨w.heap.size + 1, 0, none⟩) (Nat.le_succ _) _).setCell (p := ⟨w.heap.size + 1, 1, none⟩) (Nat.le_succ _) _
set_option maxRecDepth 100000 in
set_option maxHeartbeats 1000000 in
theorem last_any (a : Option Addr) (l : List (Int × Int)) (n cap : Nat) (w : World) (hn : l.length = n) (hs : Sl2 w a l) (hn2 : n ≤ 1048576) (h0 : 0 < n) :
    Calls Try.prog 40 #[.agg #[.slice a n cap]] w fun e w' => e = .returned (.agg #[.int .i64 (at_ l (n - 1)), .int .i64 (vl l (n - 1))]) ∧ Below w.heap.size w w' := by
  obtain ⟨b, off, rfl, hx0, hy0⟩ := sl2_at hs (k := (n - 1)) (by omega)
  obtain ⟨r, hr⟩ : ∃ r, r = n - 1 := ⟨_, rfl⟩
  rw [← hr] at hx0 hy0
  have hrn : (r : Int) < (n : Int) := by omega
  have hr1 : (n : Int) - 1 = (r : Int) := by omega
  have h0I : (0 : Int) < (n : Int) := by omega
  have hrw2 : IntKind.i64.wrap (r : Int) = (r : Int) := wrap16 (by omega) (by omega)
  have bB := (Below.refl w.heap.size w).alloc (Nat.le_refl _) (.cells #[.slice (some ⟨b, off, none⟩) n cap] 47 (0, 0))
  have hba := bB.alloc (by simp) (.cells #[.int .i64 0, .int .i64 0] 42 (0, 0))
  have k0 : ((w.alloc (.cells #[.slice (some ⟨b, off, none⟩) n cap] 47 (0, 0))).alloc (.cells #[.int .i64 0, .int .i64 0] 42 (0, 0))).cell? ⟨w.heap.size, 0, none⟩ = some (.slice (some ⟨b, off, none⟩) n cap) := by simp
  have z0 : ((w.alloc (.cells #[.slice (some ⟨b, off, none⟩) n cap] 47 (0, 0))).alloc (.cells #[.int .i64 0, .int .i64 0] 42 (0, 0))).heap[w.heap.size + 1]? = some (.cells #[.int .i64 0, .int .i64 0] 42 (0, 0)) := by
    have := L8.blk_new (w.alloc (.cells #[.slice (some ⟨b, off, none⟩) n cap] 47 (0, 0))) (.cells #[.int .i64 0, .int .i64 0] 42 (0, 0))
    simpa using this
  obtain ⟨W0, hW0⟩ : ∃ W0, (w.alloc (.cells #[.slice (some ⟨b, off, none⟩) n cap] 47 (0, 0))).alloc (.cells #[.int .i64 0, .int .i64 0] 42 (0, 0)) = W0 := ⟨_, rfl⟩
  rw [hW0] at hba k0 z0
  obtain ⟨d0, d1, f0, f1⟩ := blkp z0
  have hx := (hba.cell (p := ⟨b, off + r * 2, none⟩) (blk_lt hx0)).trans hx0
  have hy := (hba.cell (p := ⟨b, off + r * 2 + 1, none⟩) (blk_lt hy0)).trans hy0
  obtain ⟨x, hxx⟩ : ∃ x, x = at_ l (n - 1) := ⟨_, rfl⟩
  obtain ⟨y, hyy⟩ : ∃ y, y = vl l (n - 1) := ⟨_, rfl⟩
  have ex : at_ l r = x := by rw [hr, hxx]
  have ey : vl l r = y := by rw [hr, hyy]
  rw [ex] at hx
  rw [ey] at hy
  rw [← hxx, ← hyy]
  have HW := hide hW0
  have B := hide hba
  clear hr
  clear hxx hyy hs hba hW0 hx0 hy0 hn ex ey bB z0
  go_enter Try.func40, Try.ntmps40
  go_upto_region 1 with fail
  rw [HW.out]
  go_wp2
  refine bodyPost_ret (v := .agg #[.int .i64 x, .int .i64 y]) (by simp [results, Try.f40, go_sem, d0, d1]) rfl ⟨rfl, ?_⟩
  exact (B.out.setCell (p := ⟨w.heap.size + 1, 0, none⟩) (Nat.le_succ _) _).setCell (p := ⟨w.heap.size + 1, 1, none⟩) (Nat.le_succ _) _
end Go.Proofs.Yticgejaaoamhmap.L16
