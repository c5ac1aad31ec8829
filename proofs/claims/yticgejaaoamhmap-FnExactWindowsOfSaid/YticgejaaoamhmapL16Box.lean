/-
  Contracts: whether a counter begins anew at a place; a run in its box.
-/
import Derived.Test.YticgejaaoamhmapL16Ctr
import Derived.Deep.Cut
namespace Go.Proofs.Yticgejaaoamhmap.L16
open Go.RowKit L1
set_option linter.unusedVariables false

theorem below_drew16 {N : Nat} {w w' : World} (h : Below N w w') : ∀ q, Below N w (w'.drewN q)
  | 0 => h
  | q + 1 => (below_drew16 h q).drew
theorem wrap16 {x : Int} (h0 : -5000000000000000000 ≤ x) (h1 : x ≤ 5000000000000000000) : IntKind.i64.wrap x = x := by
  simp only [IntKind.wrap, IntKind.bits, IntKind.signed]
  simp
  omega
/-- A run in its box. -/
def BoxR (w : World) (a : Option Addr) (n cap : Nat) (W0 : World) : Prop := w.alloc (.cells #[.slice a n cap] 47) = W0
theorem BoxR.cell {w W0 : World} {a : Option Addr} {n cap : Nat} (h : BoxR w a n cap W0) : W0.cell? ⟨w.heap.size, 0, none⟩ = some (.slice a n cap) := by
  unfold BoxR at h; rw [← h]; simp
theorem BoxR.below {w W0 : World} {a : Option Addr} {n cap : Nat} (h : BoxR w a n cap W0) : Below w.heap.size w W0 := by
  unfold BoxR at h; rw [← h]; exact (Below.refl _ _).alloc (Nat.le_refl _) _
set_option maxRecDepth 100000 in
set_option maxHeartbeats 1000000 in
theorem isReset_any (a : Option Addr) (l : List (Int × Int)) (n cap k : Nat) (w : World) (hn : l.length = n) (hs : Sl2 w a l) (hn2 : n ≤ 1048576) (hk0 : 0 < k) (hk : k < n) (bb : Bool) (hbb : bb = decide (vl l k < vl l (k - 1))) :
    Calls Try.prog 53 #[.agg #[.slice a n cap], .int .i64 (k : Int)] w fun e w' => e = .returned (.bool bb) ∧ Below w.heap.size w w' := by
  obtain ⟨b, off, rfl, _, hy0⟩ := sl2_at hs (k := k) (by omega)
  obtain ⟨b', off', e, _, hx0⟩ := sl2_at hs (k := k - 1) (by omega)
  cases e
  obtain ⟨r, hr⟩ : ∃ r, r = k - 1 := ⟨_, rfl⟩
  rw [← hr] at hx0 hbb
  have hr1 : (k : Int) - 1 = (r : Int) := by omega
  have hrw : IntKind.i64.wrap ((k : Int) - 1) = (r : Int) := by rw [hr1]; exact wrap16 (by omega) (by omega)
  have hrn : (r : Int) < (n : Int) := by omega
  have hkn : (k : Int) < (n : Int) := by omega
  obtain ⟨W0, hW0⟩ : ∃ W0, BoxR w (some ⟨b, off, none⟩) n cap W0 := ⟨_, rfl⟩
  have k0 := hW0.cell
  have hba := hW0.below
  have hx := (hba.cell (p := ⟨b, off + r * 2 + 1, none⟩) (blk_lt hx0)).trans hx0
  have hy := (hba.cell (p := ⟨b, off + k * 2 + 1, none⟩) (blk_lt hy0)).trans hy0
  obtain ⟨x, hxx⟩ : ∃ x, x = vl l r := ⟨_, rfl⟩
  obtain ⟨y, hyy⟩ : ∃ y, y = vl l k := ⟨_, rfl⟩
  rw [← hxx] at hx hbb
  rw [← hyy] at hy hbb
  have HB := hide hbb
  have HW := hide (show w.alloc (.cells #[.slice (some ⟨b, off, none⟩) n cap] 47) = W0 from hW0)
  have B := hide hba
  clear hr hxx hyy hbb hs hba hW0 hx0 hy0 hn
  go_enter Try.func53, Try.ntmps53
  go_upto_region 1 with fail
  rw [HW.out]
  go_quiet (fail)
  go_wp2
  all_goals (go_ret; exact ⟨by rw [HB.out]; rfl, below_drew16 B.out _⟩)
theorem ctr_val {l : List (Int × Int)} {n : Nat} (h : Ctr l) (hn : l.length = n) : n ≤ 40 ∧ (∀ j, j < n → 0 ≤ vl l j ∧ vl l j ≤ 1000000000) ∧ ∀ k, k ≤ n → 0 ≤ ris l k ∧ ris l k ≤ 40000000000 := by
  have h40 := h.len
  subst hn
  exact ⟨h40, fun j hj => h.val hj, fun k hk => by have := ris_bd h k hk; omega⟩
end Go.Proofs.Yticgejaaoamhmap.L16
