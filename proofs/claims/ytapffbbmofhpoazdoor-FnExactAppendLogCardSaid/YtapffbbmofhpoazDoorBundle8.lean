/-
  Contract: spec.l6Append where it answers none.
  What stands behind spec.l6Append's writing.
  Contract: spec.l6Append where the last piece has room.
  Contract: spec.l6Append where no piece is left.
  Contract: spec.l6Append where a piece more is put behind.
  Contract: spec.AppendLog.
  Contracts of the laws' own helpers: laws.heldPieceS, laws.heldLog find the marks of a log.
  Contracts of the laws' own helpers: laws.markPieceS, laws.markLog.
-/
import Derived.Test.YtapffbbmofhpoazDoorBundle6
import Derived.Test.YtapffbbmofhpoazDoorBundle7
import Derived.Test.YtapffbbmofhpoazDoorBundle3
import Derived.Deep.RegionHeld3
import Derived.Deep.RegionWith
import Derived.Deep.DeepCutAuto
import Derived.Deep.RegionLaw
import Derived.Deep.AppendLies
import Derived.Test.YtapffbbmofhpoazDoorBundle4
namespace Go.Proofs.YtapffbbmofhpoazDoor.L6
open Go.RowKit L1
set_option linter.unusedVariables false

theorem below_d6 {B : Nat} {a w : World} (h : Below B a w) (n : Nat) : Below B a (w.drewN n) := h.trans ⟨rfl, rfl, rfl, Nat.le_refl _, fun _ _ => rfl⟩
set_option maxRecDepth 100000 in
set_option maxHeartbeats 4000000 in
theorem l6Append_long (g : Nat) (L : List Pc) (M : List PV) (n c base : Nat) (B : Int) (r : ByteArray) (w : World) (ho : OwC w base (.slice (some ⟨g, 0, none⟩) n c) n M) (hM : pcs M = L) (hg : GoodG L B) (hbase : base ≤ w.heap.size) (hr : 20 < r.size) (hr2 : r.size ≤ 9223372036854775807) : Calls Tryd.prog 34 #[.agg #[.slice (some ⟨g, 0, none⟩) n c, .int .i64 B], .string r] w fun e w' => e = .returned (.tuple #[.agg #[.slice (some ⟨g, 0, none⟩) n c, .int .i64 B], .bool false]) ∧ Below base w w' := by
  have hn : L.length = n := by rw [← hM]; simp [ho.len]
  have hs : SlC w (some ⟨g, 0, none⟩) L := by rw [← hM]; exact ho.sl
  have hn1 : 1 ≤ n := by have := hg.one; omega
  have hn20 : n ≤ 20 := by have := hg.many; omega
  have hn0I : 0 < n := by omega
  have hml := ho.len
  have hgb := own_ltC ho.row g rfl
  have hfl : (flatC M).length = n * 3 := by rw [flatC_len, hml]
  have gcM : ∀ i, i < n → (M.getD i eV).1 = gc L i := fun i hi => by
    have := pcs_get M i (by omega)
    rw [hM] at this
    exact this.symm
  have d0 : w.cell? ⟨g, 0, none⟩ = some (.int .i64 (gc L 0).f) := by
    have := (ho.row.cellAt (0 * 3) (by omega)).trans (flatC_get M 0 (by omega)).1
    rw [gcM 0 (by omega)] at this
    simpa using this
  have C1 := hide (fun wx (hb : Below w.heap.size w wx) => l6End_good (some ⟨g, 0, none⟩) L n c B wx hn (hs.below hb) hg B)
  have hfb := hg.f0
  have hfb1 := hg.f1
  have hEb : 0 ≤ lastEnd L n ∧ lastEnd L n ≤ 1000060 := by
    have hk := hg.ps (n - 1) (by omega)
    have hb := atg_bd L (n - 1) (fun j hj => (hg.ps j (by omega)).1)
    have h3 := cnt_le (gc L (n - 1)).s
    have h4 := hk.1.1
    unfold lastEnd
    rw [hk.2.1]
    omega
  obtain ⟨E, hE⟩ : ∃ E, E = lastEnd L n := ⟨_, rfl⟩
  obtain ⟨f0, hf0⟩ : ∃ f0, f0 = (gc L 0).f := ⟨_, rfl⟩
  rw [← hE] at C1 hEb
  rw [← hf0] at d0 hfb hfb1
  obtain ⟨W, hW⟩ : ∃ W, (w.alloc (.cells #[.slice (some ⟨g, 0, none⟩) n c, .int .i64 B] 29 (0, 0))).alloc (.cells #[.slice none 0 0, .int .i64 0] 29 (0, 0)) = W := ⟨_, rfl⟩
  have BW : Below w.heap.size w W := by rw [← hW]; exact ((Below.refl _ _).alloc (Nat.le_refl _) _).alloc (by simp) _
  have GB : Hid (W.heap[w.heap.size]? = some (.cells #[.slice (some ⟨g, 0, none⟩) n c, .int .i64 B] 29 (0, 0))) := by show _ = _; rw [← hW]; exact blk_first _ _ _
  have GZ : Hid (W.heap[w.heap.size + 1]? = some (.cells #[.slice none 0 0, .int .i64 0] 29 (0, 0))) := by show _ = _; rw [← hW]; exact blk_second _ _ _
  have hwW : w.heap.size + 1 < W.heap.size := (Array.getElem?_eq_some_iff.1 GZ.out).1
  obtain ⟨o0, o1, _, _⟩ := blkp GB.out
  obtain ⟨z0, z1, z2, z3⟩ := blkp GZ.out
  have dg := (BW.cell (p := ⟨g, 0, none⟩) (blk_lt d0)).trans d0
  have HBW := hide BW
  have HO := hide (ho.below BW)
  have HM := hide hM
  have HN := hide hn
  have HG := hide hg
  have HE := hide hE
  have HF0 := hide hf0
  have HWW := hide hW
  have HGM := hide gcM
  have hr20 : (20 : Int) < (r.size : Int) := by omega
  clear ho hM hn hg hE hf0 hW gcM hs d0 hml hfl BW dg
  go_enter Tryd.func34, Tryd.ntmps34
  go_upto_region 1 with fail
  rw [HWW.out]
  go_quiet (fail)
  go_wp2
  refine bodyPost_ret (v := .tuple #[.agg #[.slice (some ⟨g, 0, none⟩) n c, .int .i64 B], .bool false]) (by simp [results, Tryd.f34, go_sem, z0, z1]) rfl ⟨rfl, ?_⟩
  exact ((below_d6 (HBW.out.mono hbase) _).setCell (p := ⟨_, _, none⟩) (by show base ≤ w.heap.size + 1; omega) _).setCell (p := ⟨_, _, none⟩) (by show base ≤ w.heap.size + 1; omega) _
set_option maxRecDepth 100000 in
set_option maxHeartbeats 4000000 in
theorem l6Append_60 (g : Nat) (L : List Pc) (M : List PV) (n c base : Nat) (B : Int) (r : ByteArray) (w : World) (ho : OwC w base (.slice (some ⟨g, 0, none⟩) n c) n M) (hM : pcs M = L) (hg : GoodG L B) (hbase : base ≤ w.heap.size) (hr : r.size ≤ 20) (h60 : lastEnd L n - (gc L 0).f = 60) : Calls Tryd.prog 34 #[.agg #[.slice (some ⟨g, 0, none⟩) n c, .int .i64 B], .string r] w fun e w' => e = .returned (.tuple #[.agg #[.slice (some ⟨g, 0, none⟩) n c, .int .i64 B], .bool false]) ∧ Below base w w' := by
  have hn : L.length = n := by rw [← hM]; simp [ho.len]
  have hs : SlC w (some ⟨g, 0, none⟩) L := by rw [← hM]; exact ho.sl
  have hn1 : 1 ≤ n := by have := hg.one; omega
  have hn20 : n ≤ 20 := by have := hg.many; omega
  have hn0I : 0 < n := by omega
  have hml := ho.len
  have hgb := own_ltC ho.row g rfl
  have hfl : (flatC M).length = n * 3 := by rw [flatC_len, hml]
  have gcM : ∀ i, i < n → (M.getD i eV).1 = gc L i := fun i hi => by
    have := pcs_get M i (by omega)
    rw [hM] at this
    exact this.symm
  have d0 : w.cell? ⟨g, 0, none⟩ = some (.int .i64 (gc L 0).f) := by
    have := (ho.row.cellAt (0 * 3) (by omega)).trans (flatC_get M 0 (by omega)).1
    rw [gcM 0 (by omega)] at this
    simpa using this
  have C1 := hide (fun wx (hb : Below w.heap.size w wx) => l6End_good (some ⟨g, 0, none⟩) L n c B wx hn (hs.below hb) hg B)
  have hfb := hg.f0
  have hfb1 := hg.f1
  have hEb : 0 ≤ lastEnd L n ∧ lastEnd L n ≤ 1000060 := by
    have hk := hg.ps (n - 1) (by omega)
    have hb := atg_bd L (n - 1) (fun j hj => (hg.ps j (by omega)).1)
    have h3 := cnt_le (gc L (n - 1)).s
    have h4 := hk.1.1
    unfold lastEnd
    rw [hk.2.1]
    omega
  obtain ⟨E, hE⟩ : ∃ E, E = lastEnd L n := ⟨_, rfl⟩
  obtain ⟨f0, hf0⟩ : ∃ f0, f0 = (gc L 0).f := ⟨_, rfl⟩
  rw [← hE] at C1 hEb
  rw [← hf0] at d0 hfb hfb1
  obtain ⟨W, hW⟩ : ∃ W, (w.alloc (.cells #[.slice (some ⟨g, 0, none⟩) n c, .int .i64 B] 29 (0, 0))).alloc (.cells #[.slice none 0 0, .int .i64 0] 29 (0, 0)) = W := ⟨_, rfl⟩
  have BW : Below w.heap.size w W := by rw [← hW]; exact ((Below.refl _ _).alloc (Nat.le_refl _) _).alloc (by simp) _
  have GB : Hid (W.heap[w.heap.size]? = some (.cells #[.slice (some ⟨g, 0, none⟩) n c, .int .i64 B] 29 (0, 0))) := by show _ = _; rw [← hW]; exact blk_first _ _ _
  have GZ : Hid (W.heap[w.heap.size + 1]? = some (.cells #[.slice none 0 0, .int .i64 0] 29 (0, 0))) := by show _ = _; rw [← hW]; exact blk_second _ _ _
  have hwW : w.heap.size + 1 < W.heap.size := (Array.getElem?_eq_some_iff.1 GZ.out).1
  obtain ⟨o0, o1, _, _⟩ := blkp GB.out
  obtain ⟨z0, z1, z2, z3⟩ := blkp GZ.out
  have dg := (BW.cell (p := ⟨g, 0, none⟩) (blk_lt d0)).trans d0
  have HBW := hide BW
  have HO := hide (ho.below BW)
  have HM := hide hM
  have HN := hide hn
  have HG := hide hg
  have HE := hide hE
  have HF0 := hide hf0
  have HWW := hide hW
  have HGM := hide gcM
  have hr20 : ¬ (20 : Int) < (r.size : Int) := by omega
  rw [← hE, ← hf0] at h60
  have hsb : (E - f0 == 60) = true := by simp; omega
  have hwr : IntKind.i64.wrap (E - f0) = E - f0 := wrap6 (by omega) (by omega)
  clear ho hM hn hg hE hf0 hW gcM hs d0 hml hfl BW
  go_enter Tryd.func34, Tryd.ntmps34
  go_upto_region 1 with fail
  rw [HWW.out]
  go_region_held3 (fun wx => (wx.cell? ⟨w.heap.size, 0, none⟩ = some (.slice (some ⟨g, 0, none⟩) n c) ∧ wx.cell? ⟨w.heap.size, 1, none⟩ = some (.int .i64 B) ∧ wx.cell? ⟨g, 0, none⟩ = some (.int .i64 f0)) ∧ Below W.heap.size W wx) (first | exact ⟨⟨o0, o1, dg⟩, (Below.refl _ _).drew⟩ | exact keep3 (by assumption) (by assumption) (Nat.le_refl _)) ((go_at_call 42; refine (C1.out _ (HBW.out.trans (Below.mono (by first | exact And.right (by assumption) | exact (Below.refl _ _).drew | exact Below.refl _ _) HBW.out.size))).mono ?_; rintro e w5 ⟨rfl, hb⟩))
  rename_i hHeld
  have hb5 := hHeld.2
  clear hHeld
  obtain ⟨o0', o1', _, _⟩ := blkp ((hb5.block w.heap.size (by omega)).trans GB.out)
  obtain ⟨z0', z1', z2', z3'⟩ := blkp ((hb5.block (w.heap.size + 1) (by omega)).trans GZ.out)
  have HB5 := hide (HBW.out.trans (hb5.mono HBW.out.size))
  clear hb5 o0 o1 z0 z1 z2 z3 dg
  go_wp2
  refine bodyPost_ret (v := .tuple #[.agg #[.slice (some ⟨g, 0, none⟩) n c, .int .i64 B], .bool false]) (by simp [results, Tryd.f34, go_sem, z0', z1']) rfl ⟨rfl, ?_⟩
  exact ((HB5.out.mono hbase).setCell (p := ⟨_, _, none⟩) (by show base ≤ w.heap.size + 1; omega) _).setCell (p := ⟨_, _, none⟩) (by show base ≤ w.heap.size + 1; omega) _
end Go.Proofs.YtapffbbmofhpoazDoor.L6

namespace Go.Proofs.YtapffbbmofhpoazDoor.L6
open Go.RowKit L1
set_option linter.unusedVariables false

theorem empty6 (s : ByteArray) : s.toList.isEmpty = decide (s.size = 0) := by
  rw [ByteArray.toList_eq]
  have : s.size = s.data.toList.length := by show s.data.size = _; simp
  rw [this]
  cases s.data.toList with
  | nil => simp
  | cons x l => simp
theorem OwC.setB2 {w : World} {base n G : Nat} {v u u2 : Value} {M : List PV} {cs : Array Value} {T : TypeId} (h : OwC w base v n M) (hG : w.heap[G]? = some (.cells cs T (0, 0))) (h1 : 51 ≠ T) (h2 : 3 ≠ T) : OwC ((w.setCell ⟨G, 0, none⟩ u).setCell ⟨G, 1, none⟩ u2) base v n M :=
  (h.setB hG h1 h2).setB (heap_setCell_same w G 0 _ _ u hG) h1 h2
/-- What stands behind l6Append's writing. -/
structure PutS (w : World) (base g n c m : Nat) (B : Int) (M : List PV) (p : Pc) (wx : World) : Prop where
  own : ∃ u, OwC wx base (.slice (some ⟨g, 0, none⟩) n c) n (M.set m (p, u))
  bel : Below base w wx
  res : wx.heap[w.heap.size + 1]? = some (.cells #[.slice none 0 0, .int .i64 0] 29 (0, 0))
  out : wx.heap[w.heap.size]? = some (.cells #[.slice (some ⟨g, 0, none⟩) n c, .int .i64 B] 29 (0, 0))
structure MoreS (w : World) (base n : Nat) (B : Int) (M : List PV) (p : Pc) (wx : World) : Prop where
  own : ∃ g c u, OwC wx base (.slice (some ⟨g, 0, none⟩) (n + 1) c) (n + 1) (M ++ [(p, u)]) ∧ wx.heap[w.heap.size]? = some (.cells #[.slice (some ⟨g, 0, none⟩) (n + 1) c, .int .i64 B] 29 (0, 0))
  bel : Below base w wx
  res : wx.heap[w.heap.size + 1]? = some (.cells #[.slice none 0 0, .int .i64 0] 29 (0, 0))
end Go.Proofs.YtapffbbmofhpoazDoor.L6

namespace Go.Proofs.YtapffbbmofhpoazDoor.L6
open Go.RowKit L1
set_option linter.unusedVariables false

set_option maxRecDepth 100000 in
set_option maxHeartbeats 4000000 in
theorem l6Append_put (g : Nat) (L : List Pc) (M : List PV) (n c base : Nat) (B : Int) (r : ByteArray) (w : World) (ho : OwC w base (.slice (some ⟨g, 0, none⟩) n c) n M) (hM : pcs M = L) (hg : GoodG L B) (hbase : base ≤ w.heap.size) (hr : r.size ≤ 20) (h60 : lastEnd L n - (gc L 0).f ≠ 60) (hf : AppFits L r) : Calls Tryd.prog 34 #[.agg #[.slice (some ⟨g, 0, none⟩) n c, .int .i64 B], .string r] w fun e w' => e = .returned (.tuple #[.agg #[.slice (some ⟨g, 0, none⟩) n c, .int .i64 B], .bool true]) ∧ SlC w' (some ⟨g, 0, none⟩) (L.set (n - 1) (appP (endP L) r)) ∧ Below base w w' := by
  obtain ⟨L', hL'⟩ : ∃ L', L' = L.set (n - 1) (appP (endP L) r) := ⟨_, rfl⟩
  rw [← hL']
  have HL' := hide hL'
  clear hL'
  have hn : L.length = n := by rw [← hM]; simp [ho.len]
  have hs : SlC w (some ⟨g, 0, none⟩) L := by rw [← hM]; exact ho.sl
  have hn1 : 1 ≤ n := by have := hg.one; omega
  have hn20 : n ≤ 20 := by have := hg.many; omega
  have hn0I : 0 < n := by omega
  have hml := ho.len
  have hgb := own_ltC ho.row g rfl
  have hfl : (flatC M).length = n * 3 := by rw [flatC_len, hml]
  have gcM : ∀ i, i < n → (M.getD i eV).1 = gc L i := fun i hi => by
    have := pcs_get M i (by omega)
    rw [hM] at this
    exact this.symm
  have d0 : w.cell? ⟨g, 0, none⟩ = some (.int .i64 (gc L 0).f) := by
    have := (ho.row.cellAt (0 * 3) (by omega)).trans (flatC_get M 0 (by omega)).1
    rw [gcM 0 (by omega)] at this
    simpa using this
  have C1 := hide (fun wx (hb : Below w.heap.size w wx) => l6End_good (some ⟨g, 0, none⟩) L n c B wx hn (hs.below hb) hg B)
  have hfb := hg.f0
  have hfb1 := hg.f1
  have hEb : 0 ≤ lastEnd L n ∧ lastEnd L n ≤ 1000060 := by
    have hk := hg.ps (n - 1) (by omega)
    have hb := atg_bd L (n - 1) (fun j hj => (hg.ps j (by omega)).1)
    have h3 := cnt_le (gc L (n - 1)).s
    have h4 := hk.1.1
    unfold lastEnd
    rw [hk.2.1]
    omega
  obtain ⟨E, hE⟩ : ∃ E, E = lastEnd L n := ⟨_, rfl⟩
  obtain ⟨f0, hf0⟩ : ∃ f0, f0 = (gc L 0).f := ⟨_, rfl⟩
  rw [← hE] at C1 hEb
  rw [← hf0] at d0 hfb hfb1
  obtain ⟨W, hW⟩ : ∃ W, (w.alloc (.cells #[.slice (some ⟨g, 0, none⟩) n c, .int .i64 B] 29 (0, 0))).alloc (.cells #[.slice none 0 0, .int .i64 0] 29 (0, 0)) = W := ⟨_, rfl⟩
  have BW : Below w.heap.size w W := by rw [← hW]; exact ((Below.refl _ _).alloc (Nat.le_refl _) _).alloc (by simp) _
  have GB : Hid (W.heap[w.heap.size]? = some (.cells #[.slice (some ⟨g, 0, none⟩) n c, .int .i64 B] 29 (0, 0))) := by show _ = _; rw [← hW]; exact blk_first _ _ _
  have GZ : Hid (W.heap[w.heap.size + 1]? = some (.cells #[.slice none 0 0, .int .i64 0] 29 (0, 0))) := by show _ = _; rw [← hW]; exact blk_second _ _ _
  have hwW : w.heap.size + 1 < W.heap.size := (Array.getElem?_eq_some_iff.1 GZ.out).1
  obtain ⟨o0, o1, _, _⟩ := blkp GB.out
  obtain ⟨z0, z1, z2, z3⟩ := blkp GZ.out
  have dg := (BW.cell (p := ⟨g, 0, none⟩) (blk_lt d0)).trans d0
  have HBW := hide BW
  have HO := hide (ho.below BW)
  have HM := hide hM
  have HN := hide hn
  have HG := hide hg
  have HE := hide hE
  have HF0 := hide hf0
  have HWW := hide hW
  have HGM := hide gcM
  have hr20 : ¬ (20 : Int) < (r.size : Int) := by omega
  rw [← hE, ← hf0] at h60
  have hsb : (E - f0 == 60) = false := by simp only [beq_eq_false_iff_ne]; exact h60
  have hwr : IntKind.i64.wrap (E - f0) = E - f0 := wrap6 (by omega) (by omega)
  have C3 := hide (fun wx => l1Varint_any (r.size : Int) wx (by omega) (by omega))
  obtain ⟨P, hP⟩ : ∃ P, P = strOfNums (vd (zig (r.size : Int))) := ⟨_, rfl⟩
  rw [← hP] at C3
  obtain ⟨R, hR⟩ : ∃ R, R = rec r := ⟨_, rfl⟩
  have hPr : P ++ r = R := by rw [hR, hP]; rfl
  have hRs : R.size = 1 + r.size := by rw [hR]; exact rec_size r hr
  have hPs : P.size + r.size = R.size := by rw [← hPr, ByteArray.size_append]
  have qa : ∀ w : World, (Op.stringOp .add P r).run Tryd.prog w = .ok (.string R) w := fun w => by rw [← hPr]; exact run_string_add_sum w _ _ (by omega)
  have HRR := hide hR
  obtain ⟨m, hm'⟩ : ∃ m, m = n - 1 := ⟨_, rfl⟩
  have hnm : (n : Int) - 1 = (m : Int) := by omega
  have hmn : (m : Int) < (n : Int) := by omega
  have hm0 : (0 : Int) ≤ (m : Int) := by omega
  have hmN : m < n := by omega
  have hwm : IntKind.i64.wrap (m : Int) = (m : Int) := wrap6 (by omega) (by omega)
  obtain ⟨f1, f2, f3⟩ := flatC_get M m (by omega)
  obtain ⟨ai, ci, hv, hsl, _⟩ := own_form (ho.idx m hmN)
  rw [hv] at f3
  rw [gcM m hmN] at f1 f2 f3
  have d1 := (ho.row.cellAt (m * 3) (by omega)).trans f1
  have d2 := (ho.row.cellAt (m * 3 + 1) (by omega)).trans f2
  have d3 := (ho.row.cellAt (m * 3 + 2) (by omega)).trans f3
  have hlp : endP L = gc L m := by show gc L (L.length - 1) = _; rw [hn, hm']
  have hgp := (hg.ps m (by rw [hn]; exact hmN)).1
  have hfit := (show (gc L m).s.size + (1 + r.size) ≤ 60 by have h := hf; unfold AppFits at h; rw [hlp] at h; exact h)
  obtain ⟨p, hp⟩ : ∃ p, p = gc L m := ⟨_, rfl⟩
  rw [← hp] at d1 d2 d3 hlp hgp hfit
  obtain ⟨f, s, x⟩ := p
  simp only at d1 d2 d3 hfit
  have hs60 := hgp.1
  simp only at hs60
  obtain ⟨xl, hxl⟩ : ∃ xl, xl = x.length := ⟨_, rfl⟩
  rw [← hxl] at d3
  have HLP := hide hlp
  have HGP := hide hgp
  have HD : Hid (w.cell? ⟨g, m * 3, none⟩ = some (.int .i64 f) ∧ w.cell? ⟨g, m * 3 + 1, none⟩ = some (.string s) ∧ w.cell? ⟨g, m * 3 + 2, none⟩ = some (.slice ai xl ci)) := ⟨d1, d2, d3⟩
  have hsum : IntKind.i64.wrap ((s.size : Int) + (R.size : Int)) = (s.size : Int) + (R.size : Int) := wrap6 (by omega) (by omega)
  clear ho hM hn hg hE hf0 hW gcM hs d0 hml hfl BW hP hR hPr f1 f2 f3 hv hsl d1 d2 d3 hlp hgp hp hxl hm'
  go_enter Tryd.func34, Tryd.ntmps34
  go_upto_region 1 with fail
  rw [HWW.out]
  go_region_held3 (fun wx => (wx.cell? ⟨w.heap.size, 0, none⟩ = some (.slice (some ⟨g, 0, none⟩) n c) ∧ wx.cell? ⟨w.heap.size, 1, none⟩ = some (.int .i64 B) ∧ wx.cell? ⟨g, 0, none⟩ = some (.int .i64 f0)) ∧ Below W.heap.size W wx) (first | exact ⟨⟨o0, o1, dg⟩, (Below.refl _ _).drew⟩ | exact keep3 (by assumption) (by assumption) (Nat.le_refl _)) ((go_at_call 42; refine (C1.out _ (HBW.out.trans (Below.mono (by first | exact And.right (by assumption) | exact (Below.refl _ _).drew | exact Below.refl _ _) HBW.out.size))).mono ?_; rintro e w5 ⟨rfl, hb⟩))
  rename_i hHeld
  have hb5 := hHeld.2
  clear hHeld
  obtain ⟨o0', o1', _, _⟩ := blkp ((hb5.block w.heap.size (by omega)).trans GB.out)
  have H5 := hide hb5
  have BW5 := hide (HBW.out.trans (hb5.mono HBW.out.size))
  have hz5 := hb5.size
  clear hb5 o0 o1 z0 z1 z2 z3 dg
  go_wp2_with fail
  refine (C3.out _).mono ?_
  rintro e w6 ⟨rfl, hb6⟩
  have H6 := hide (H5.out.trans (hb6.mono H5.out.size))
  have BW6 := hide (BW5.out.trans (hb6.mono BW5.out.size))
  have hz6 := H6.out.size
  clear hb6 o0' o1'
  obtain ⟨o0, o1, _, _⟩ := blkp ((H6.out.block w.heap.size (by omega)).trans GB.out)
  have e1 := (BW6.out.cell (p := ⟨g, m * 3, none⟩) hgb.2).trans HD.out.1
  have e2 := (BW6.out.cell (p := ⟨g, m * 3 + 1, none⟩) hgb.2).trans HD.out.2.1
  have e3 := (BW6.out.cell (p := ⟨g, m * 3 + 2, none⟩) hgb.2).trans HD.out.2.2
  go_upto_region 5 with fail
  generalize hV : w6.alloc (.cells #[.int .i64 f, .string s, .slice ai xl ci] 51 (0, 0)) = V
  have BV : Below w6.heap.size w6 V := by rw [← hV]; exact (Below.refl _ _).alloc (Nat.le_refl _) _
  have GP : Hid (V.heap[w6.heap.size]? = some (.cells #[.int .i64 f, .string s, .slice ai xl ci] 51 (0, 0))) := by show _ = _; rw [← hV]; exact blk_new _ _
  obtain ⟨p0, p1, p2, _, _, _⟩ := blk3 GP.out
  have HWV := hide (H6.out.trans (BV.mono H6.out.size))
  have BV6 := hide (BW6.out.trans (BV.mono BW6.out.size))
  have hzV := BV.size
  have hwV : w6.heap.size < V.heap.size := (Array.getElem?_eq_some_iff.1 GP.out).1
  have GBV := hide ((HWV.out.block w.heap.size (by omega)).trans GB.out)
  have GZV := hide ((HWV.out.block (w.heap.size + 1) (by omega)).trans GZ.out)
  have HOV := hide (HO.out.below HWV.out)
  clear o0 o1 e1 e2 e3
  obtain ⟨o0, o1, _, _⟩ := blkp GBV.out
  obtain ⟨z0, z1, z2, z3⟩ := blkp GZV.out
  have HV := hide hV
  clear hV BV
  have hemp := empty6 s
  have hle60 : ¬ (60 : Int) < (s.size : Int) + (R.size : Int) := by omega
  obtain ⟨Y, hY⟩ : ∃ Y, Y = s ++ R := ⟨_, rfl⟩
  have hYs : Y.size = s.size + R.size := by rw [hY, ByteArray.size_append]
  have q2 : ∀ w : World, (Op.stringOp .add s R).run Tryd.prog w = .ok (.string Y) w := fun w => by rw [hY]; exact run_string_add_sum w _ _ (by omega)
  have HYY := hide hY
  obtain ⟨N, hN⟩ : ∃ N, N = (ix Y).length := ⟨_, rfl⟩
  have C6 := hide (fun wx (hb : Below V.heap.size V wx) => (l6Piece_any f Y wx (by omega)).mono (R' := fun e w2 => ∃ a2 q2, e = .returned (.agg #[.int .i64 f, .string Y, .slice a2 N q2]) ∧ (w2.ownsRow V.heap.size 3 1 (.slice a2 N q2) N ((ix Y).map (Value.int .i64)) ∧ Below V.heap.size V w2) ∧ (∃ u0 u1 u2, w2.cell? ⟨g, m * 3, none⟩ = some u0 ∧ w2.cell? ⟨g, m * 3 + 1, none⟩ = some u1 ∧ w2.cell? ⟨g, m * 3 + 2, none⟩ = some u2) ∧ (w2.frozen? ⟨g, m * 3, none⟩ = false ∧ w2.frozen? ⟨g, m * 3 + 1, none⟩ = false ∧ w2.frozen? ⟨g, m * 3 + 2, none⟩ = false) ∧ (w2.cell? ⟨w.heap.size, 0, none⟩ = some (.slice (some ⟨g, 0, none⟩) n c) ∧ w2.cell? ⟨w.heap.size, 1, none⟩ = some (.int .i64 B)) ∧ (w2.cell? ⟨w6.heap.size, 0, none⟩ = some (.int .i64 f) ∧ w2.cell? ⟨w6.heap.size, 1, none⟩ = some (.string s))) (by
    rintro e w2 ⟨v2, rfl, ho2, hb2⟩
    have hb3 := hb.trans (hb2.mono hb.size)
    rw [← hN] at ho2
    obtain ⟨a2, q2, rfl, _, _⟩ := own_form ho2
    have R2 := (HOV.out.below hb3).row
    have hfl : (flatC M).length = n * 3 := by rw [flatC_len, HOV.out.len]
    obtain ⟨oo0, oo1, _, _⟩ := blkp ((hb3.block w.heap.size (by omega)).trans GBV.out)
    obtain ⟨pp0, pp1, _, _, _, _⟩ := blk3 ((hb3.block w6.heap.size hwV).trans GP.out)
    exact ⟨a2, q2, rfl, ⟨own_baseC ho2 hb.size, hb3⟩, ⟨_, _, _, (R2.cellAt (m * 3) (by omega)).trans (List.getElem?_eq_getElem (by omega)), (R2.cellAt (m * 3 + 1) (by omega)).trans (List.getElem?_eq_getElem (by omega)), (R2.cellAt (m * 3 + 2) (by omega)).trans (List.getElem?_eq_getElem (by omega))⟩, ⟨R2.frozenAt _, R2.frozenAt _, R2.frozenAt _⟩, ⟨oo0, oo1⟩, pp0, pp1⟩))
  have HNN := hide hN
  have hbV : base ≤ V.heap.size := by omega
  have PP : Hid (∀ w2 a2 q2, (w2.ownsRow V.heap.size 3 1 (.slice a2 N q2) N ((ix Y).map (Value.int .i64)) ∧ Below V.heap.size V w2) → PutS w base g n c m B M ⟨f, Y, ix Y⟩ (((w2.setCell ⟨g, m * 3, none⟩ (.int .i64 f)).setCell ⟨g, m * 3 + 1, none⟩ (.string Y)).setCell ⟨g, m * 3 + 2, none⟩ (.slice a2 N q2)) ∧ w2.grownBy (((w2.setCell ⟨g, m * 3, none⟩ (.int .i64 f)).setCell ⟨g, m * 3 + 1, none⟩ (.string Y)).setCell ⟨g, m * 3 + 2, none⟩ (.slice a2 N q2)) (some g)) := by
    intro w2 a2 q2 h
    have P := (HOV.out.below h.2).put m hmN ⟨f, Y, ix Y⟩ (.slice a2 N q2) (by show w2.ownsRow _ _ _ _ (ix Y).length _; rw [← HNN.out]; exact own_baseC h.1 hbV) (fun i hi _ bb hbb e => by
      have h1 := (own_ltC h.1 bb hbb).1
      have h2 := (own_ltC (HOV.out.idx i hi) bb e).2
      omega)
    have hs9 := h.2.size
    refine ⟨?_, P.2⟩
    exact ⟨⟨_, P.1⟩, ((BV6.out.mono hbase).trans (h.2.mono hbV)).grown P.2 (by omega) (fun q hq => by cases hq; exact hgb.1), (P.2.block (w.heap.size + 1) (by omega) (by simp; omega)).trans ((h.2.block _ (by omega)).trans GZV.out), (P.2.block w.heap.size (by omega) (by simp; omega)).trans ((h.2.block _ (by omega)).trans GBV.out)⟩
  clear hN C1 C3 hY
  by_cases hs0 : s.size = 0
  · have he : s.toList.isEmpty = true := by rw [hemp]; simpa using hs0
    clear hemp
    go_upto_region 10 with (first | (rw [HV.out]) | fail)
    first | rw [HV.out] | skip
    go_cut [6] (fun t wx => t = .string R ∧ PutS w base g n c m B M ⟨f, Y, ix Y⟩ wx)
    case first =>
      refine wp_region_held_drew (S := (fun wx => wx.cell? ⟨w.heap.size, 0, none⟩ = some (.slice (some ⟨g, 0, none⟩) n c) ∧ wx.cell? ⟨w6.heap.size, 0, none⟩ = some (.int .i64 f) ∧ wx.cell? ⟨w6.heap.size, 1, none⟩ = some (.string s))) (by kernel_rfl) ⟨o0, p0, p1⟩ (fun hHeld => ?_)
      refine wpAnyH_take (i := 0) (v := ?v1) rfl (by kernel_rfl) (by kernel_rfl) (by kernel_rfl) (fun _ _ _ h => h) (Or.inl ⟨by rfl, ?y1⟩) (by assumption) ?r1
      case y1 => (intro w hSw; (try dsimp only at hSw); go_simp; try (with_reducible rfl))
      simp only [List.getElem_toArray, List.getElem_cons_zero, Act.put, List.setIfInBounds_toArray, List.set_cons_zero, List.set_cons_succ]
      refine wpAnyH_take (i := 1) (v := ?v2) rfl (by kernel_rfl) (by kernel_rfl) (by kernel_rfl) (fun _ _ _ h => h) (Or.inl ⟨by rfl, ?y2⟩) (by assumption) ?r2
      case y2 => (intro w hSw; (try dsimp only at hSw); go_simp; try (with_reducible rfl))
      simp only [List.getElem_toArray, List.getElem_cons_succ, List.getElem_cons_zero, Act.put, List.setIfInBounds_toArray, List.set_cons_zero, List.set_cons_succ]
      refine wpAnyH_take (i := 2) (v := ?v3) rfl (by kernel_rfl) (by kernel_rfl) (by kernel_rfl) (fun _ _ _ h => h) (Or.inl ⟨by rfl, ?y3⟩) (by assumption) ?r3
      case y3 => (intro w hSw; (try dsimp only at hSw); go_simp; try (with_reducible rfl))
      simp only [List.getElem_toArray, List.getElem_cons_succ, List.getElem_cons_zero, Act.put, List.setIfInBounds_toArray, List.set_cons_zero, List.set_cons_succ]
      refine wpAnyH_take (i := 3) (v := ?v4) rfl (by kernel_rfl) (by kernel_rfl) (by kernel_rfl) (fun _ _ _ h => h) (Or.inl ⟨by rfl, ?y4⟩) (by assumption) ?r4
      case y4 => (intro w hSw; (try dsimp only at hSw); go_simp; try (with_reducible rfl))
      simp only [List.getElem_toArray, List.getElem_cons_succ, List.getElem_cons_zero, Act.put, List.setIfInBounds_toArray, List.set_cons_zero, List.set_cons_succ]
      refine wpAnyH_take (i := 4) (v := ?v5) rfl (by kernel_rfl) (by kernel_rfl) (by kernel_rfl) (fun _ _ _ h => h) (Or.inl ⟨by rfl, ?y5⟩) (by assumption) ?r5
      case y5 => (intro w hSw; (try dsimp only at hSw); go_simp; try (with_reducible rfl))
      simp only [List.getElem_toArray, List.getElem_cons_succ, List.getElem_cons_zero, Act.put, List.setIfInBounds_toArray, List.set_cons_zero, List.set_cons_succ]
      refine wpAnyH_take (i := 5) (v := ?v6) rfl (by kernel_rfl) (by kernel_rfl) (by kernel_rfl) (fun _ _ _ h => h) (Or.inl ⟨by rfl, ?y6⟩) (by assumption) ?r6
      case y6 => (intro w hSw; (try dsimp only at hSw); go_simp; try (with_reducible rfl))
      simp only [List.getElem_toArray, List.getElem_cons_succ, List.getElem_cons_zero, Act.put, List.setIfInBounds_toArray, List.set_cons_zero, List.set_cons_succ]
      refine wpAnyH_take (i := 6) (v := ?v7) rfl (by kernel_rfl) (by kernel_rfl) (by kernel_rfl) (fun _ _ _ h => h) (Or.inl ⟨by rfl, ?y7⟩) (by assumption) ?r7
      case y7 => (intro w hSw; (try dsimp only at hSw); go_simp; try (with_reducible rfl))
      simp only [List.getElem_toArray, List.getElem_cons_succ, List.getElem_cons_zero, Act.put, List.setIfInBounds_toArray, List.set_cons_zero, List.set_cons_succ]
      refine wpAnyH_take (i := 7) (v := ?v8) rfl (by kernel_rfl) (by kernel_rfl) (by kernel_rfl) (fun _ _ _ h => h) (Or.inl ⟨by rfl, ?y8⟩) (by assumption) ?r8
      case y8 => (intro w hSw; (try dsimp only at hSw); go_simp; try (with_reducible rfl))
      simp only [List.getElem_toArray, List.getElem_cons_succ, List.getElem_cons_zero, Act.put, List.setIfInBounds_toArray, List.set_cons_zero, List.set_cons_succ]
      refine wpAnyH_take (i := 8) (v := ?v9) rfl (by kernel_rfl) (by kernel_rfl) (by kernel_rfl) (fun _ _ _ h => h) (Or.inl ⟨by rfl, ?y9⟩) (by assumption) ?r9
      case y9 => (intro w hSw; (try dsimp only at hSw); go_simp; try (with_reducible rfl))
      simp only [List.getElem_toArray, List.getElem_cons_succ, List.getElem_cons_zero, Act.put, List.setIfInBounds_toArray, List.set_cons_zero, List.set_cons_succ]
      refine wpAnyH_take (i := 9) (v := ?v10) rfl (by kernel_rfl) (by kernel_rfl) (by kernel_rfl) (fun _ _ _ h => h) (Or.inl ⟨by rfl, ?y10⟩) (by assumption) ?r10
      case y10 => (intro w hSw; (try dsimp only at hSw); go_simp; try (with_reducible rfl))
      simp only [List.getElem_toArray, List.getElem_cons_succ, List.getElem_cons_zero, Act.put, List.setIfInBounds_toArray, List.set_cons_zero, List.set_cons_succ]
      refine wpAnyH_take (i := 10) (v := ?v11) rfl (by kernel_rfl) (by kernel_rfl) (by kernel_rfl) (fun _ _ _ h => h) (Or.inl ⟨by rfl, ?y11⟩) (by assumption) ?r11
      case y11 => (intro w hSw; (try dsimp only at hSw); go_simp; try (with_reducible rfl))
      simp only [List.getElem_toArray, List.getElem_cons_succ, List.getElem_cons_zero, Act.put, List.setIfInBounds_toArray, List.set_cons_zero, List.set_cons_succ]
      refine wpAnyH_take (i := 11) (v := ?v12) rfl (by kernel_rfl) (by kernel_rfl) (by kernel_rfl) (fun _ _ _ h => h) (Or.inl ⟨by rfl, ?y12⟩) (by assumption) ?r12
      case y12 => (intro w hSw; (try dsimp only at hSw); go_simp; try (with_reducible rfl))
      simp only [List.getElem_toArray, List.getElem_cons_succ, List.getElem_cons_zero, Act.put, List.setIfInBounds_toArray, List.set_cons_zero, List.set_cons_succ]
      refine wpAnyH_ready (rs := [12]) (by kernel_rfl) (by simp) ?_
      refine AllReadyH.cons rfl (fun K hK => ?_) AllReadyH.nil
      simp only [List.getElem_toArray, List.getElem_cons_succ, List.getElem_cons_zero]
      go_simp
      go_at_call 58
      refine (C6.out _ (by first | exact (Below.refl _ _).drew | exact Below.refl _ _)).mono ?_
      rintro e w2 ⟨a2, q2, rfl, ho2, ⟨u0, u1, u2, c0, c1, c2⟩, ⟨c3, c4, c5⟩, ⟨c6, c7⟩, c8, c9⟩
      dsimp only
      refine hK.out _ _ ?_ (fun hHeld => ?_)
      · exact ⟨c6, c8, c9⟩
      clear hK K
      try simp only [Act.put, List.setIfInBounds_toArray, List.set_cons_zero, List.set_cons_succ]
      refine wpAnyH_take (i := 13) (v := ?v13) rfl (by kernel_rfl) (by kernel_rfl) (by kernel_rfl) (fun _ _ _ h => h) (Or.inl ⟨by rfl, ?y13⟩) (by assumption) ?r13
      case y13 => (intro w hSw; (try dsimp only at hSw); go_simp; try (with_reducible rfl))
      simp only [List.getElem_toArray, List.getElem_cons_succ, List.getElem_cons_zero, Act.put, List.setIfInBounds_toArray, List.set_cons_zero, List.set_cons_succ]
      refine wpAnyH_ready (rs := [14]) (by kernel_rfl) (by simp) ?_
      refine AllReadyH.cons rfl (fun K hK => ?_) AllReadyH.nil
      simp only [List.getElem_toArray, List.getElem_cons_succ, List.getElem_cons_zero]
      obtain ⟨hps, hpg⟩ := PP.out _ _ _ ho2
      have HPS := hide hps
      have HPG := hide hpg
      clear hps hpg
      go_simp
      refine hK.out _ _ ?_ (fun hHeld => ?_)
      · exact ⟨grown_cell HPG.out ⟨w.heap.size, 0, none⟩ c6 (by simp; omega), grown_cell HPG.out ⟨w6.heap.size, 0, none⟩ c8 (by simp; omega), grown_cell HPG.out ⟨w6.heap.size, 1, none⟩ c9 (by simp; omega)⟩
      clear hK K
      try simp only [Act.put, List.setIfInBounds_toArray, List.set_cons_zero, List.set_cons_succ]
      refine wpAnyH_done (by kernel_rfl) ?_ _
      go_wp2_with fail
      go_meet
      case rel => exact ⟨rfl, HPS.out⟩
    case rest =>
      obtain ⟨rfl, hta⟩ := hcut
      obtain ⟨u, hown⟩ := hta.own
      have hpc : pcs (M.set m (⟨f, Y, ix Y⟩, u)) = L.set m ⟨f, Y, ix Y⟩ := by rw [← HM.out]; show List.map _ _ = _; rw [List.map_set]
      have hnm1 : n - 1 = m := by omega
      have hL2 : L' = L.set m ⟨f, Y, ix Y⟩ := by
        rw [HL'.out, hnm1]
        unfold appP
        rw [HLP.out, HYY.out, HRR.out]
      have HL2 := hide hL2
      have HPC := hide hpc
      have HOW := hide hown
      have HTA := hide hta
      clear z0 z1 z2 z3 o0 o1 p0 p1 p2
      obtain ⟨z0, z1, z2, z3⟩ := blkp hta.res
      obtain ⟨o0, o1, _, _⟩ := blkp hta.out
      clear hta hown hpc hL2 C6 PP
      go_wp2
      refine bodyPost_ret (v := .tuple #[.agg #[.slice (some ⟨g, 0, none⟩) n c, .int .i64 B], .bool true]) (by simp [results, Tryd.f34, go_sem, z0, z1]) rfl ⟨rfl, ?_, ?_⟩
      · rw [HL2.out, ← HPC.out]
        exact (HOW.out.setB2 HTA.out.res piece_log int_log).sl
      · exact (HTA.out.bel.setCell (p := ⟨_, _, none⟩) (by show base ≤ w.heap.size + 1; omega) _).setCell (p := ⟨_, _, none⟩) (by show base ≤ w.heap.size + 1; omega) _
  · have he : s.toList.isEmpty = false := by rw [hemp]; simpa using hs0
    clear hemp
    go_upto_region 10 with (first | (rw [HV.out]) | fail)
    first | rw [HV.out] | skip
    go_cut [6] (fun t wx => t = .string R ∧ PutS w base g n c m B M ⟨f, Y, ix Y⟩ wx)
    case first =>
      refine wp_region_held_drew (S := (fun wx => wx.cell? ⟨w.heap.size, 0, none⟩ = some (.slice (some ⟨g, 0, none⟩) n c) ∧ wx.cell? ⟨w6.heap.size, 0, none⟩ = some (.int .i64 f) ∧ wx.cell? ⟨w6.heap.size, 1, none⟩ = some (.string s))) (by kernel_rfl) ⟨o0, p0, p1⟩ (fun hHeld => ?_)
      refine wpAnyH_take (i := 0) (v := ?v14) rfl (by kernel_rfl) (by kernel_rfl) (by kernel_rfl) (fun _ _ _ h => h) (Or.inl ⟨by rfl, ?y14⟩) (by assumption) ?r14
      case y14 => (intro w hSw; (try dsimp only at hSw); go_simp; try (with_reducible rfl))
      simp only [List.getElem_toArray, List.getElem_cons_zero, Act.put, List.setIfInBounds_toArray, List.set_cons_zero, List.set_cons_succ]
      refine wpAnyH_take (i := 1) (v := ?v15) rfl (by kernel_rfl) (by kernel_rfl) (by kernel_rfl) (fun _ _ _ h => h) (Or.inl ⟨by rfl, ?y15⟩) (by assumption) ?r15
      case y15 => (intro w hSw; (try dsimp only at hSw); go_simp; try (with_reducible rfl))
      simp only [List.getElem_toArray, List.getElem_cons_succ, List.getElem_cons_zero, Act.put, List.setIfInBounds_toArray, List.set_cons_zero, List.set_cons_succ]
      refine wpAnyH_take (i := 2) (v := ?v16) rfl (by kernel_rfl) (by kernel_rfl) (by kernel_rfl) (fun _ _ _ h => h) (Or.inl ⟨by rfl, ?y16⟩) (by assumption) ?r16
      case y16 => (intro w hSw; (try dsimp only at hSw); go_simp; try (with_reducible rfl))
      simp only [List.getElem_toArray, List.getElem_cons_succ, List.getElem_cons_zero, Act.put, List.setIfInBounds_toArray, List.set_cons_zero, List.set_cons_succ]
      refine wpAnyH_take (i := 3) (v := ?v17) rfl (by kernel_rfl) (by kernel_rfl) (by kernel_rfl) (fun _ _ _ h => h) (Or.inl ⟨by rfl, ?y17⟩) (by assumption) ?r17
      case y17 => (intro w hSw; (try dsimp only at hSw); go_simp; try (with_reducible rfl))
      simp only [List.getElem_toArray, List.getElem_cons_succ, List.getElem_cons_zero, Act.put, List.setIfInBounds_toArray, List.set_cons_zero, List.set_cons_succ]
      refine wpAnyH_take (i := 4) (v := ?v18) rfl (by kernel_rfl) (by kernel_rfl) (by kernel_rfl) (fun _ _ _ h => h) (Or.inl ⟨by rfl, ?y18⟩) (by assumption) ?r18
      case y18 => (intro w hSw; (try dsimp only at hSw); go_simp; try (with_reducible rfl))
      simp only [List.getElem_toArray, List.getElem_cons_succ, List.getElem_cons_zero, Act.put, List.setIfInBounds_toArray, List.set_cons_zero, List.set_cons_succ]
      refine wpAnyH_take (i := 5) (v := ?v19) rfl (by kernel_rfl) (by kernel_rfl) (by kernel_rfl) (fun _ _ _ h => h) (Or.inl ⟨by rfl, ?y19⟩) (by assumption) ?r19
      case y19 => (intro w hSw; (try dsimp only at hSw); go_simp; try (with_reducible rfl))
      simp only [List.getElem_toArray, List.getElem_cons_succ, List.getElem_cons_zero, Act.put, List.setIfInBounds_toArray, List.set_cons_zero, List.set_cons_succ]
      refine wpAnyH_take (i := 6) (v := ?v20) rfl (by kernel_rfl) (by kernel_rfl) (by kernel_rfl) (fun _ _ _ h => h) (Or.inl ⟨by rfl, ?y20⟩) (by assumption) ?r20
      case y20 => (intro w hSw; (try dsimp only at hSw); go_simp; try (with_reducible rfl))
      simp only [List.getElem_toArray, List.getElem_cons_succ, List.getElem_cons_zero, Act.put, List.setIfInBounds_toArray, List.set_cons_zero, List.set_cons_succ]
      refine wpAnyH_take (i := 7) (v := ?v21) rfl (by kernel_rfl) (by kernel_rfl) (by kernel_rfl) (fun _ _ _ h => h) (Or.inl ⟨by rfl, ?y21⟩) (by assumption) ?r21
      case y21 => (intro w hSw; (try dsimp only at hSw); go_simp; try (with_reducible rfl))
      simp only [List.getElem_toArray, List.getElem_cons_succ, List.getElem_cons_zero, Act.put, List.setIfInBounds_toArray, List.set_cons_zero, List.set_cons_succ]
      refine wpAnyH_take (i := 8) (v := ?v22) rfl (by kernel_rfl) (by kernel_rfl) (by kernel_rfl) (fun _ _ _ h => h) (Or.inl ⟨by rfl, ?y22⟩) (by assumption) ?r22
      case y22 => (intro w hSw; (try dsimp only at hSw); go_simp; try (with_reducible rfl))
      simp only [List.getElem_toArray, List.getElem_cons_succ, List.getElem_cons_zero, Act.put, List.setIfInBounds_toArray, List.set_cons_zero, List.set_cons_succ]
      refine wpAnyH_take (i := 9) (v := ?v23) rfl (by kernel_rfl) (by kernel_rfl) (by kernel_rfl) (fun _ _ _ h => h) (Or.inl ⟨by rfl, ?y23⟩) (by assumption) ?r23
      case y23 => (intro w hSw; (try dsimp only at hSw); go_simp; try (with_reducible rfl))
      simp only [List.getElem_toArray, List.getElem_cons_succ, List.getElem_cons_zero, Act.put, List.setIfInBounds_toArray, List.set_cons_zero, List.set_cons_succ]
      refine wpAnyH_take (i := 10) (v := ?v24) rfl (by kernel_rfl) (by kernel_rfl) (by kernel_rfl) (fun _ _ _ h => h) (Or.inl ⟨by rfl, ?y24⟩) (by assumption) ?r24
      case y24 => (intro w hSw; (try dsimp only at hSw); go_simp; try (with_reducible rfl))
      simp only [List.getElem_toArray, List.getElem_cons_succ, List.getElem_cons_zero, Act.put, List.setIfInBounds_toArray, List.set_cons_zero, List.set_cons_succ]
      refine wpAnyH_take (i := 11) (v := ?v25) rfl (by kernel_rfl) (by kernel_rfl) (by kernel_rfl) (fun _ _ _ h => h) (Or.inl ⟨by rfl, ?y25⟩) (by assumption) ?r25
      case y25 => (intro w hSw; (try dsimp only at hSw); go_simp; try (with_reducible rfl))
      simp only [List.getElem_toArray, List.getElem_cons_succ, List.getElem_cons_zero, Act.put, List.setIfInBounds_toArray, List.set_cons_zero, List.set_cons_succ]
      refine wpAnyH_ready (rs := [12]) (by kernel_rfl) (by simp) ?_
      refine AllReadyH.cons rfl (fun K hK => ?_) AllReadyH.nil
      simp only [List.getElem_toArray, List.getElem_cons_succ, List.getElem_cons_zero]
      go_simp
      go_at_call 58
      refine (C6.out _ (by first | exact (Below.refl _ _).drew | exact Below.refl _ _)).mono ?_
      rintro e w2 ⟨a2, q2, rfl, ho2, ⟨u0, u1, u2, c0, c1, c2⟩, ⟨c3, c4, c5⟩, ⟨c6, c7⟩, c8, c9⟩
      dsimp only
      refine hK.out _ _ ?_ (fun hHeld => ?_)
      · exact ⟨c6, c8, c9⟩
      clear hK K
      try simp only [Act.put, List.setIfInBounds_toArray, List.set_cons_zero, List.set_cons_succ]
      refine wpAnyH_take (i := 13) (v := ?v26) rfl (by kernel_rfl) (by kernel_rfl) (by kernel_rfl) (fun _ _ _ h => h) (Or.inl ⟨by rfl, ?y26⟩) (by assumption) ?r26
      case y26 => (intro w hSw; (try dsimp only at hSw); go_simp; try (with_reducible rfl))
      simp only [List.getElem_toArray, List.getElem_cons_succ, List.getElem_cons_zero, Act.put, List.setIfInBounds_toArray, List.set_cons_zero, List.set_cons_succ]
      refine wpAnyH_ready (rs := [14]) (by kernel_rfl) (by simp) ?_
      refine AllReadyH.cons rfl (fun K hK => ?_) AllReadyH.nil
      simp only [List.getElem_toArray, List.getElem_cons_succ, List.getElem_cons_zero]
      obtain ⟨hps, hpg⟩ := PP.out _ _ _ ho2
      have HPS := hide hps
      have HPG := hide hpg
      clear hps hpg
      go_simp
      refine hK.out _ _ ?_ (fun hHeld => ?_)
      · exact ⟨grown_cell HPG.out ⟨w.heap.size, 0, none⟩ c6 (by simp; omega), grown_cell HPG.out ⟨w6.heap.size, 0, none⟩ c8 (by simp; omega), grown_cell HPG.out ⟨w6.heap.size, 1, none⟩ c9 (by simp; omega)⟩
      clear hK K
      try simp only [Act.put, List.setIfInBounds_toArray, List.set_cons_zero, List.set_cons_succ]
      refine wpAnyH_done (by kernel_rfl) ?_ _
      go_wp2_with fail
      go_meet
      case rel => exact ⟨rfl, HPS.out⟩
    case rest =>
      obtain ⟨rfl, hta⟩ := hcut
      obtain ⟨u, hown⟩ := hta.own
      have hpc : pcs (M.set m (⟨f, Y, ix Y⟩, u)) = L.set m ⟨f, Y, ix Y⟩ := by rw [← HM.out]; show List.map _ _ = _; rw [List.map_set]
      have hnm1 : n - 1 = m := by omega
      have hL2 : L' = L.set m ⟨f, Y, ix Y⟩ := by
        rw [HL'.out, hnm1]
        unfold appP
        rw [HLP.out, HYY.out, HRR.out]
      have HL2 := hide hL2
      have HPC := hide hpc
      have HOW := hide hown
      have HTA := hide hta
      clear z0 z1 z2 z3 o0 o1 p0 p1 p2
      obtain ⟨z0, z1, z2, z3⟩ := blkp hta.res
      obtain ⟨o0, o1, _, _⟩ := blkp hta.out
      clear hta hown hpc hL2 C6 PP
      go_wp2
      refine bodyPost_ret (v := .tuple #[.agg #[.slice (some ⟨g, 0, none⟩) n c, .int .i64 B], .bool true]) (by simp [results, Tryd.f34, go_sem, z0, z1]) rfl ⟨rfl, ?_, ?_⟩
      · rw [HL2.out, ← HPC.out]
        exact (HOW.out.setB2 HTA.out.res piece_log int_log).sl
      · exact (HTA.out.bel.setCell (p := ⟨_, _, none⟩) (by show base ≤ w.heap.size + 1; omega) _).setCell (p := ⟨_, _, none⟩) (by show base ≤ w.heap.size + 1; omega) _
end Go.Proofs.YtapffbbmofhpoazDoor.L6

namespace Go.Proofs.YtapffbbmofhpoazDoor.L6
open Go.RowKit L1
set_option linter.unusedVariables false

set_option maxRecDepth 100000 in
set_option maxHeartbeats 4000000 in
theorem l6Append_full (g : Nat) (L : List Pc) (M : List PV) (n c base : Nat) (B : Int) (r : ByteArray) (w : World) (ho : OwC w base (.slice (some ⟨g, 0, none⟩) n c) n M) (hM : pcs M = L) (hg : GoodG L B) (hbase : base ≤ w.heap.size) (hr : r.size ≤ 20) (h60 : lastEnd L n - (gc L 0).f ≠ 60) (hf : ¬ AppFits L r) (h20 : n = 20) : Calls Tryd.prog 34 #[.agg #[.slice (some ⟨g, 0, none⟩) n c, .int .i64 B], .string r] w fun e w' => e = .returned (.tuple #[.agg #[.slice (some ⟨g, 0, none⟩) n c, .int .i64 B], .bool false]) ∧ Below base w w' := by
  have H20 := hide h20
  clear h20
  have hn : L.length = n := by rw [← hM]; simp [ho.len]
  have hs : SlC w (some ⟨g, 0, none⟩) L := by rw [← hM]; exact ho.sl
  have hn1 : 1 ≤ n := by have := hg.one; omega
  have hn20 : n ≤ 20 := by have := hg.many; omega
  have hn0I : 0 < n := by omega
  have hml := ho.len
  have hgb := own_ltC ho.row g rfl
  have hfl : (flatC M).length = n * 3 := by rw [flatC_len, hml]
  have gcM : ∀ i, i < n → (M.getD i eV).1 = gc L i := fun i hi => by
    have := pcs_get M i (by omega)
    rw [hM] at this
    exact this.symm
  have d0 : w.cell? ⟨g, 0, none⟩ = some (.int .i64 (gc L 0).f) := by
    have := (ho.row.cellAt (0 * 3) (by omega)).trans (flatC_get M 0 (by omega)).1
    rw [gcM 0 (by omega)] at this
    simpa using this
  have C1 := hide (fun wx (hb : Below w.heap.size w wx) => l6End_good (some ⟨g, 0, none⟩) L n c B wx hn (hs.below hb) hg B)
  have hfb := hg.f0
  have hfb1 := hg.f1
  have hEb : 0 ≤ lastEnd L n ∧ lastEnd L n ≤ 1000060 := by
    have hk := hg.ps (n - 1) (by omega)
    have hb := atg_bd L (n - 1) (fun j hj => (hg.ps j (by omega)).1)
    have h3 := cnt_le (gc L (n - 1)).s
    have h4 := hk.1.1
    unfold lastEnd
    rw [hk.2.1]
    omega
  obtain ⟨E, hE⟩ : ∃ E, E = lastEnd L n := ⟨_, rfl⟩
  obtain ⟨f0, hf0⟩ : ∃ f0, f0 = (gc L 0).f := ⟨_, rfl⟩
  rw [← hE] at C1 hEb
  rw [← hf0] at d0 hfb hfb1
  obtain ⟨W, hW⟩ : ∃ W, (w.alloc (.cells #[.slice (some ⟨g, 0, none⟩) n c, .int .i64 B] 29 (0, 0))).alloc (.cells #[.slice none 0 0, .int .i64 0] 29 (0, 0)) = W := ⟨_, rfl⟩
  have BW : Below w.heap.size w W := by rw [← hW]; exact ((Below.refl _ _).alloc (Nat.le_refl _) _).alloc (by simp) _
  have GB : Hid (W.heap[w.heap.size]? = some (.cells #[.slice (some ⟨g, 0, none⟩) n c, .int .i64 B] 29 (0, 0))) := by show _ = _; rw [← hW]; exact blk_first _ _ _
  have GZ : Hid (W.heap[w.heap.size + 1]? = some (.cells #[.slice none 0 0, .int .i64 0] 29 (0, 0))) := by show _ = _; rw [← hW]; exact blk_second _ _ _
  have hwW : w.heap.size + 1 < W.heap.size := (Array.getElem?_eq_some_iff.1 GZ.out).1
  obtain ⟨o0, o1, _, _⟩ := blkp GB.out
  obtain ⟨z0, z1, z2, z3⟩ := blkp GZ.out
  have dg := (BW.cell (p := ⟨g, 0, none⟩) (blk_lt d0)).trans d0
  have HBW := hide BW
  have HO := hide (ho.below BW)
  have HM := hide hM
  have HN := hide hn
  have HG := hide hg
  have HE := hide hE
  have HF0 := hide hf0
  have HWW := hide hW
  have HGM := hide gcM
  have hr20 : ¬ (20 : Int) < (r.size : Int) := by omega
  rw [← hE, ← hf0] at h60
  have hsb : (E - f0 == 60) = false := by simp only [beq_eq_false_iff_ne]; exact h60
  have hwr : IntKind.i64.wrap (E - f0) = E - f0 := wrap6 (by omega) (by omega)
  have C3 := hide (fun wx => l1Varint_any (r.size : Int) wx (by omega) (by omega))
  obtain ⟨P, hP⟩ : ∃ P, P = strOfNums (vd (zig (r.size : Int))) := ⟨_, rfl⟩
  rw [← hP] at C3
  obtain ⟨R, hR⟩ : ∃ R, R = rec r := ⟨_, rfl⟩
  have hPr : P ++ r = R := by rw [hR, hP]; rfl
  have hRs : R.size = 1 + r.size := by rw [hR]; exact rec_size r hr
  have hPs : P.size + r.size = R.size := by rw [← hPr, ByteArray.size_append]
  have qa : ∀ w : World, (Op.stringOp .add P r).run Tryd.prog w = .ok (.string R) w := fun w => by rw [← hPr]; exact run_string_add_sum w _ _ (by omega)
  have HRR := hide hR
  obtain ⟨m, hm'⟩ : ∃ m, m = n - 1 := ⟨_, rfl⟩
  have hnm : (n : Int) - 1 = (m : Int) := by omega
  have hmn : (m : Int) < (n : Int) := by omega
  have hm0 : (0 : Int) ≤ (m : Int) := by omega
  have hmN : m < n := by omega
  have hwm : IntKind.i64.wrap (m : Int) = (m : Int) := wrap6 (by omega) (by omega)
  obtain ⟨f1, f2, f3⟩ := flatC_get M m (by omega)
  obtain ⟨ai, ci, hv, hsl, _⟩ := own_form (ho.idx m hmN)
  rw [hv] at f3
  rw [gcM m hmN] at f1 f2 f3
  have d1 := (ho.row.cellAt (m * 3) (by omega)).trans f1
  have d2 := (ho.row.cellAt (m * 3 + 1) (by omega)).trans f2
  have d3 := (ho.row.cellAt (m * 3 + 2) (by omega)).trans f3
  have hlp : endP L = gc L m := by show gc L (L.length - 1) = _; rw [hn, hm']
  have hgp := (hg.ps m (by rw [hn]; exact hmN)).1
  have hfit := (show ¬ (gc L m).s.size + (1 + r.size) ≤ 60 by have h := hf; unfold AppFits at h; rw [hlp] at h; exact h)
  obtain ⟨p, hp⟩ : ∃ p, p = gc L m := ⟨_, rfl⟩
  rw [← hp] at d1 d2 d3 hlp hgp hfit
  obtain ⟨f, s, x⟩ := p
  simp only at d1 d2 d3 hfit
  have hs60 := hgp.1
  simp only at hs60
  obtain ⟨xl, hxl⟩ : ∃ xl, xl = x.length := ⟨_, rfl⟩
  rw [← hxl] at d3
  have HLP := hide hlp
  have HGP := hide hgp
  have HD : Hid (w.cell? ⟨g, m * 3, none⟩ = some (.int .i64 f) ∧ w.cell? ⟨g, m * 3 + 1, none⟩ = some (.string s) ∧ w.cell? ⟨g, m * 3 + 2, none⟩ = some (.slice ai xl ci)) := ⟨d1, d2, d3⟩
  have hsum : IntKind.i64.wrap ((s.size : Int) + (R.size : Int)) = (s.size : Int) + (R.size : Int) := wrap6 (by omega) (by omega)
  clear ho hM hn hg hE hf0 hW gcM hs d0 hml hfl BW hP hR hPr f1 f2 f3 hv hsl d1 d2 d3 hlp hgp hp hxl hm'
  go_enter Tryd.func34, Tryd.ntmps34
  go_upto_region 1 with fail
  rw [HWW.out]
  go_region_held3 (fun wx => (wx.cell? ⟨w.heap.size, 0, none⟩ = some (.slice (some ⟨g, 0, none⟩) n c) ∧ wx.cell? ⟨w.heap.size, 1, none⟩ = some (.int .i64 B) ∧ wx.cell? ⟨g, 0, none⟩ = some (.int .i64 f0)) ∧ Below W.heap.size W wx) (first | exact ⟨⟨o0, o1, dg⟩, (Below.refl _ _).drew⟩ | exact keep3 (by assumption) (by assumption) (Nat.le_refl _)) ((go_at_call 42; refine (C1.out _ (HBW.out.trans (Below.mono (by first | exact And.right (by assumption) | exact (Below.refl _ _).drew | exact Below.refl _ _) HBW.out.size))).mono ?_; rintro e w5 ⟨rfl, hb⟩))
  rename_i hHeld
  have hb5 := hHeld.2
  clear hHeld
  obtain ⟨o0', o1', _, _⟩ := blkp ((hb5.block w.heap.size (by omega)).trans GB.out)
  have H5 := hide hb5
  have BW5 := hide (HBW.out.trans (hb5.mono HBW.out.size))
  have hz5 := hb5.size
  clear hb5 o0 o1 z0 z1 z2 z3 dg
  go_wp2_with fail
  refine (C3.out _).mono ?_
  rintro e w6 ⟨rfl, hb6⟩
  have H6 := hide (H5.out.trans (hb6.mono H5.out.size))
  have BW6 := hide (BW5.out.trans (hb6.mono BW5.out.size))
  have hz6 := H6.out.size
  clear hb6 o0' o1'
  obtain ⟨o0, o1, _, _⟩ := blkp ((H6.out.block w.heap.size (by omega)).trans GB.out)
  have e1 := (BW6.out.cell (p := ⟨g, m * 3, none⟩) hgb.2).trans HD.out.1
  have e2 := (BW6.out.cell (p := ⟨g, m * 3 + 1, none⟩) hgb.2).trans HD.out.2.1
  have e3 := (BW6.out.cell (p := ⟨g, m * 3 + 2, none⟩) hgb.2).trans HD.out.2.2
  go_upto_region 5 with fail
  generalize hV : w6.alloc (.cells #[.int .i64 f, .string s, .slice ai xl ci] 51 (0, 0)) = V
  have BV : Below w6.heap.size w6 V := by rw [← hV]; exact (Below.refl _ _).alloc (Nat.le_refl _) _
  have GP : Hid (V.heap[w6.heap.size]? = some (.cells #[.int .i64 f, .string s, .slice ai xl ci] 51 (0, 0))) := by show _ = _; rw [← hV]; exact blk_new _ _
  obtain ⟨p0, p1, p2, _, _, _⟩ := blk3 GP.out
  have HWV := hide (H6.out.trans (BV.mono H6.out.size))
  have BV6 := hide (BW6.out.trans (BV.mono BW6.out.size))
  have hzV := BV.size
  have hwV : w6.heap.size < V.heap.size := (Array.getElem?_eq_some_iff.1 GP.out).1
  have GBV := hide ((HWV.out.block w.heap.size (by omega)).trans GB.out)
  have GZV := hide ((HWV.out.block (w.heap.size + 1) (by omega)).trans GZ.out)
  have HOV := hide (HO.out.below HWV.out)
  clear o0 o1 e1 e2 e3
  obtain ⟨o0, o1, _, _⟩ := blkp GBV.out
  obtain ⟨z0, z1, z2, z3⟩ := blkp GZV.out
  have HV := hide hV
  clear hV BV
  have hs1 : ¬ s.size = 0 := by omega
  have he : s.toList.isEmpty = false := by rw [empty6]; simpa using hs1
  have hgt : (60 : Int) < (s.size : Int) + (R.size : Int) := by omega
  have hnn : ((n : Int) == 20) = true := by have := H20.out; simp; omega
  go_upto_region 7 with (first | (rw [HV.out]) | fail)
  first | rw [HV.out] | skip
  go_wp2
  refine bodyPost_ret (v := .tuple #[.agg #[.slice (some ⟨g, 0, none⟩) n c, .int .i64 B], .bool false]) (by simp [results, Tryd.f34, go_sem, z0, z1]) rfl ⟨rfl, ?_⟩
  exact ((BV6.out.mono hbase).setCell (p := ⟨_, _, none⟩) (by show base ≤ w.heap.size + 1; omega) _).setCell (p := ⟨_, _, none⟩) (by show base ≤ w.heap.size + 1; omega) _
end Go.Proofs.YtapffbbmofhpoazDoor.L6

namespace Go.Proofs.YtapffbbmofhpoazDoor.L6
open Go.RowKit L1
set_option linter.unusedVariables false

set_option maxRecDepth 100000 in
set_option maxHeartbeats 4000000 in
theorem l6Append_more (g : Nat) (L : List Pc) (M : List PV) (n c base : Nat) (B : Int) (r : ByteArray) (w : World) (ho : OwC w base (.slice (some ⟨g, 0, none⟩) n c) n M) (hM : pcs M = L) (hg : GoodG L B) (hbase : base ≤ w.heap.size) (hr : r.size ≤ 20) (h60 : lastEnd L n - (gc L 0).f ≠ 60) (hf : ¬ AppFits L r) (h20 : n ≠ 20) : Calls Tryd.prog 34 #[.agg #[.slice (some ⟨g, 0, none⟩) n c, .int .i64 B], .string r] w fun e w' => ∃ a' c', e = .returned (.tuple #[.agg #[.slice a' (n + 1) c', .int .i64 B], .bool true]) ∧ SlC w' a' (L ++ [⟨lastEnd L n, rec r, ix (rec r)⟩]) ∧ Below base w w' := by
  obtain ⟨L', hL'⟩ : ∃ L', L' = L ++ [(⟨lastEnd L n, rec r, ix (rec r)⟩ : Pc)] := ⟨_, rfl⟩
  rw [← hL']
  have HL' := hide hL'
  clear hL'
  obtain ⟨i0, hi, hz0, hz1, hz2⟩ := info_parts info_piece
  have hn : L.length = n := by rw [← hM]; simp [ho.len]
  have hs : SlC w (some ⟨g, 0, none⟩) L := by rw [← hM]; exact ho.sl
  have hn1 : 1 ≤ n := by have := hg.one; omega
  have hn20 : n ≤ 20 := by have := hg.many; omega
  have hn0I : 0 < n := by omega
  have hml := ho.len
  have hgb := own_ltC ho.row g rfl
  have hfl : (flatC M).length = n * 3 := by rw [flatC_len, hml]
  have gcM : ∀ i, i < n → (M.getD i eV).1 = gc L i := fun i hi => by
    have := pcs_get M i (by omega)
    rw [hM] at this
    exact this.symm
  have d0 : w.cell? ⟨g, 0, none⟩ = some (.int .i64 (gc L 0).f) := by
    have := (ho.row.cellAt (0 * 3) (by omega)).trans (flatC_get M 0 (by omega)).1
    rw [gcM 0 (by omega)] at this
    simpa using this
  have C1 := hide (fun wx (hb : Below w.heap.size w wx) => l6End_good (some ⟨g, 0, none⟩) L n c B wx hn (hs.below hb) hg B)
  have hfb := hg.f0
  have hfb1 := hg.f1
  have hEb : 0 ≤ lastEnd L n ∧ lastEnd L n ≤ 1000060 := by
    have hk := hg.ps (n - 1) (by omega)
    have hb := atg_bd L (n - 1) (fun j hj => (hg.ps j (by omega)).1)
    have h3 := cnt_le (gc L (n - 1)).s
    have h4 := hk.1.1
    unfold lastEnd
    rw [hk.2.1]
    omega
  obtain ⟨E, hE⟩ : ∃ E, E = lastEnd L n := ⟨_, rfl⟩
  obtain ⟨f0, hf0⟩ : ∃ f0, f0 = (gc L 0).f := ⟨_, rfl⟩
  rw [← hE] at C1 hEb
  rw [← hf0] at d0 hfb hfb1
  obtain ⟨W, hW⟩ : ∃ W, (w.alloc (.cells #[.slice (some ⟨g, 0, none⟩) n c, .int .i64 B] 29 (0, 0))).alloc (.cells #[.slice none 0 0, .int .i64 0] 29 (0, 0)) = W := ⟨_, rfl⟩
  have BW : Below w.heap.size w W := by rw [← hW]; exact ((Below.refl _ _).alloc (Nat.le_refl _) _).alloc (by simp) _
  have GB : Hid (W.heap[w.heap.size]? = some (.cells #[.slice (some ⟨g, 0, none⟩) n c, .int .i64 B] 29 (0, 0))) := by show _ = _; rw [← hW]; exact blk_first _ _ _
  have GZ : Hid (W.heap[w.heap.size + 1]? = some (.cells #[.slice none 0 0, .int .i64 0] 29 (0, 0))) := by show _ = _; rw [← hW]; exact blk_second _ _ _
  have hwW : w.heap.size + 1 < W.heap.size := (Array.getElem?_eq_some_iff.1 GZ.out).1
  obtain ⟨o0, o1, _, _⟩ := blkp GB.out
  obtain ⟨z0, z1, z2, z3⟩ := blkp GZ.out
  have dg := (BW.cell (p := ⟨g, 0, none⟩) (blk_lt d0)).trans d0
  have HBW := hide BW
  have HO := hide (ho.below BW)
  have HM := hide hM
  have HN := hide hn
  have HG := hide hg
  have HE := hide hE
  have HF0 := hide hf0
  have HWW := hide hW
  have HGM := hide gcM
  have hr20 : ¬ (20 : Int) < (r.size : Int) := by omega
  rw [← hE, ← hf0] at h60
  have hsb : (E - f0 == 60) = false := by simp only [beq_eq_false_iff_ne]; exact h60
  have hwr : IntKind.i64.wrap (E - f0) = E - f0 := wrap6 (by omega) (by omega)
  have C3 := hide (fun wx => l1Varint_any (r.size : Int) wx (by omega) (by omega))
  obtain ⟨P, hP⟩ : ∃ P, P = strOfNums (vd (zig (r.size : Int))) := ⟨_, rfl⟩
  rw [← hP] at C3
  obtain ⟨R, hR⟩ : ∃ R, R = rec r := ⟨_, rfl⟩
  have hPr : P ++ r = R := by rw [hR, hP]; rfl
  have hRs : R.size = 1 + r.size := by rw [hR]; exact rec_size r hr
  have hPs : P.size + r.size = R.size := by rw [← hPr, ByteArray.size_append]
  have qa : ∀ w : World, (Op.stringOp .add P r).run Tryd.prog w = .ok (.string R) w := fun w => by rw [← hPr]; exact run_string_add_sum w _ _ (by omega)
  have HRR := hide hR
  obtain ⟨m, hm'⟩ : ∃ m, m = n - 1 := ⟨_, rfl⟩
  have hnm : (n : Int) - 1 = (m : Int) := by omega
  have hmn : (m : Int) < (n : Int) := by omega
  have hm0 : (0 : Int) ≤ (m : Int) := by omega
  have hmN : m < n := by omega
  have hwm : IntKind.i64.wrap (m : Int) = (m : Int) := wrap6 (by omega) (by omega)
  obtain ⟨f1, f2, f3⟩ := flatC_get M m (by omega)
  obtain ⟨ai, ci, hv, hsl, _⟩ := own_form (ho.idx m hmN)
  rw [hv] at f3
  rw [gcM m hmN] at f1 f2 f3
  have d1 := (ho.row.cellAt (m * 3) (by omega)).trans f1
  have d2 := (ho.row.cellAt (m * 3 + 1) (by omega)).trans f2
  have d3 := (ho.row.cellAt (m * 3 + 2) (by omega)).trans f3
  have hlp : endP L = gc L m := by show gc L (L.length - 1) = _; rw [hn, hm']
  have hgp := (hg.ps m (by rw [hn]; exact hmN)).1
  have hfit := (show ¬ (gc L m).s.size + (1 + r.size) ≤ 60 by have h := hf; unfold AppFits at h; rw [hlp] at h; exact h)
  obtain ⟨p, hp⟩ : ∃ p, p = gc L m := ⟨_, rfl⟩
  rw [← hp] at d1 d2 d3 hlp hgp hfit
  obtain ⟨f, s, x⟩ := p
  simp only at d1 d2 d3 hfit
  have hs60 := hgp.1
  simp only at hs60
  obtain ⟨xl, hxl⟩ : ∃ xl, xl = x.length := ⟨_, rfl⟩
  rw [← hxl] at d3
  have HLP := hide hlp
  have HGP := hide hgp
  have HD : Hid (w.cell? ⟨g, m * 3, none⟩ = some (.int .i64 f) ∧ w.cell? ⟨g, m * 3 + 1, none⟩ = some (.string s) ∧ w.cell? ⟨g, m * 3 + 2, none⟩ = some (.slice ai xl ci)) := ⟨d1, d2, d3⟩
  have hsum : IntKind.i64.wrap ((s.size : Int) + (R.size : Int)) = (s.size : Int) + (R.size : Int) := wrap6 (by omega) (by omega)
  clear ho hM hn hg hE hf0 hW gcM hs d0 hml hfl BW hP hR hPr f1 f2 f3 hv hsl d1 d2 d3 hlp hgp hp hxl hm'
  go_enter Tryd.func34, Tryd.ntmps34
  go_upto_region 1 with fail
  rw [HWW.out]
  go_region_held3 (fun wx => (wx.cell? ⟨w.heap.size, 0, none⟩ = some (.slice (some ⟨g, 0, none⟩) n c) ∧ wx.cell? ⟨w.heap.size, 1, none⟩ = some (.int .i64 B) ∧ wx.cell? ⟨g, 0, none⟩ = some (.int .i64 f0)) ∧ Below W.heap.size W wx) (first | exact ⟨⟨o0, o1, dg⟩, (Below.refl _ _).drew⟩ | exact keep3 (by assumption) (by assumption) (Nat.le_refl _)) ((go_at_call 42; refine (C1.out _ (HBW.out.trans (Below.mono (by first | exact And.right (by assumption) | exact (Below.refl _ _).drew | exact Below.refl _ _) HBW.out.size))).mono ?_; rintro e w5 ⟨rfl, hb⟩))
  rename_i hHeld
  have hb5 := hHeld.2
  clear hHeld
  obtain ⟨o0', o1', _, _⟩ := blkp ((hb5.block w.heap.size (by omega)).trans GB.out)
  have H5 := hide hb5
  have BW5 := hide (HBW.out.trans (hb5.mono HBW.out.size))
  have hz5 := hb5.size
  clear hb5 o0 o1 z0 z1 z2 z3 dg
  go_wp2_with fail
  refine (C3.out _).mono ?_
  rintro e w6 ⟨rfl, hb6⟩
  have H6 := hide (H5.out.trans (hb6.mono H5.out.size))
  have BW6 := hide (BW5.out.trans (hb6.mono BW5.out.size))
  have hz6 := H6.out.size
  clear hb6 o0' o1'
  obtain ⟨o0, o1, _, _⟩ := blkp ((H6.out.block w.heap.size (by omega)).trans GB.out)
  have e1 := (BW6.out.cell (p := ⟨g, m * 3, none⟩) hgb.2).trans HD.out.1
  have e2 := (BW6.out.cell (p := ⟨g, m * 3 + 1, none⟩) hgb.2).trans HD.out.2.1
  have e3 := (BW6.out.cell (p := ⟨g, m * 3 + 2, none⟩) hgb.2).trans HD.out.2.2
  go_upto_region 5 with fail
  generalize hV : w6.alloc (.cells #[.int .i64 f, .string s, .slice ai xl ci] 51 (0, 0)) = V
  have BV : Below w6.heap.size w6 V := by rw [← hV]; exact (Below.refl _ _).alloc (Nat.le_refl _) _
  have GP : Hid (V.heap[w6.heap.size]? = some (.cells #[.int .i64 f, .string s, .slice ai xl ci] 51 (0, 0))) := by show _ = _; rw [← hV]; exact blk_new _ _
  obtain ⟨p0, p1, p2, _, _, _⟩ := blk3 GP.out
  have HWV := hide (H6.out.trans (BV.mono H6.out.size))
  have BV6 := hide (BW6.out.trans (BV.mono BW6.out.size))
  have hzV := BV.size
  have hwV : w6.heap.size < V.heap.size := (Array.getElem?_eq_some_iff.1 GP.out).1
  have GBV := hide ((HWV.out.block w.heap.size (by omega)).trans GB.out)
  have GZV := hide ((HWV.out.block (w.heap.size + 1) (by omega)).trans GZ.out)
  have HOV := hide (HO.out.below HWV.out)
  clear o0 o1 e1 e2 e3
  obtain ⟨o0, o1, _, _⟩ := blkp GBV.out
  obtain ⟨z0, z1, z2, z3⟩ := blkp GZV.out
  have HV := hide hV
  clear hV BV
  have hs1 : ¬ s.size = 0 := by omega
  have he : s.toList.isEmpty = false := by rw [empty6]; simpa using hs1
  have hgt : (60 : Int) < (s.size : Int) + (R.size : Int) := by omega
  have hnn : ((n : Int) == 20) = false := by simp; omega
  obtain ⟨N, hN⟩ : ∃ N, N = (ix R).length := ⟨_, rfl⟩
  have CE := hide (fun wx (hb : Below V.heap.size V wx) => (C1.out wx (BV6.out.trans (hb.mono BV6.out.size))).mono (R' := fun e w2 => e = .returned (.int .i64 E) ∧ Below V.heap.size V w2 ∧ w2.cell? ⟨w.heap.size, 0, none⟩ = some (.slice (some ⟨g, 0, none⟩) n c)) (by
    rintro e w2 ⟨rfl, hb2⟩
    have hb3 := hb.trans (hb2.mono hb.size)
    exact ⟨rfl, hb3, (hb3.cell (p := ⟨w.heap.size, 0, none⟩) (by show w.heap.size < _; omega)).trans o0⟩))
  have C6 := hide (fun wx (hb : Below V.heap.size V wx) => (l6Piece_any E R wx (by omega)).mono (R' := fun e w2 => ∃ a2 q2, e = .returned (.agg #[.int .i64 E, .string R, .slice a2 N q2]) ∧ (w2.ownsRow V.heap.size 3 1 (.slice a2 N q2) N ((ix R).map (Value.int .i64)) ∧ Below V.heap.size V w2) ∧ w2.cell? ⟨w.heap.size, 0, none⟩ = some (.slice (some ⟨g, 0, none⟩) n c) ∧ ∀ ob, (w2.alloc ob).cell? ⟨w.heap.size, 0, none⟩ = some (.slice (some ⟨g, 0, none⟩) n c)) (by
    rintro e w2 ⟨v2, rfl, ho2, hb2⟩
    have hb3 := hb.trans (hb2.mono hb.size)
    rw [← hN] at ho2
    obtain ⟨a2, q2, rfl, _, _⟩ := own_form ho2
    have hc := (hb3.cell (p := ⟨w.heap.size, 0, none⟩) (by show w.heap.size < _; omega)).trans o0
    exact ⟨a2, q2, rfl, ⟨own_baseC ho2 hb.size, hb3⟩, hc, fun ob => Go.Lib.cell?_alloc_some ob hc⟩))
  have HNN := hide hN
  have hbV : base ≤ V.heap.size := by omega
  have PP : Hid (∀ w3 a2 q2 g4 c4 w4, (w3.ownsRow V.heap.size 3 1 (.slice a2 N q2) N ((ix R).map (Value.int .i64)) ∧ Below V.heap.size V w3) → w4.ownsRow base 51 3 (.slice (some ⟨g4, 0, none⟩) (n + 1) c4) (n + 1) (flatC M ++ [.int .i64 E, .string R, .slice a2 N q2]) → (w3.alloc (.cells #[.int .i64 E, .string R, .slice a2 N q2] 51 (0, 0))).grownBy w4 (some g) → MoreS w base n B M ⟨E, R, ix R⟩ (w4.setCell ⟨w.heap.size, 0, none⟩ (.slice (some ⟨g4, 0, none⟩) (n + 1) c4)) ∧ w4.cell? ⟨w.heap.size, 0, none⟩ = some (.slice (some ⟨g, 0, none⟩) n c) ∧ w4.frozen? ⟨w.heap.size, 0, none⟩ = false) := by
    intro w3 a2 q2 g4 c4 w4 h h4 hg4
    have hs9 := h.2.size
    have hal : Below w3.heap.size w3 (w3.alloc (.cells #[.int .i64 E, .string R, .slice a2 N q2] 51 (0, 0))) := (Below.refl _ _).alloc (Nat.le_refl _) _
    have hba := h.2.trans (hal.mono hs9)
    have hblk : ∀ q, q < V.heap.size → q ≠ g → w4.heap[q]? = V.heap[q]? := fun q hq hne => (hg4.block q (by simp; omega) (by simp; omega)).trans (hba.block q hq)
    have hGo := (hblk w.heap.size (by omega) (by omega)).trans GBV.out
    have O4 := ((HOV.out.below h.2).below hal).more (w' := w4) (p := ⟨E, R, ix R⟩) (u := .slice a2 N q2) (by show World.ownsRow _ _ _ _ _ (ix R).length _; rw [← HNN.out]; exact own_baseC (own_belowC h.1 hal) hbV) (fun i hi bb hbb e => by
      have h1 := (own_ltC h.1 bb hbb).1
      have h2 := (own_ltC (HOV.out.idx i hi) bb e).2
      omega) hg4 h4
    have B9 : Below base w w4 := ⟨hg4.os.trans (hba.os.trans BV6.out.os), hg4.tape.trans (hba.tape.trans BV6.out.tape), hg4.output.trans (hba.output.trans BV6.out.output), by have := hg4.size; simp at this; omega, fun q hq => (hblk q (by omega) (by omega)).trans (BV6.out.block q (by omega))⟩
    obtain ⟨r0, _, r2, _⟩ := blkp hGo
    refine ⟨⟨⟨g4, c4, .slice a2 N q2, O4.setB hGo piece_log int_log, ?_⟩, B9.setCell (p := ⟨w.heap.size, 0, none⟩) (by show base ≤ w.heap.size; omega) _, (Below.heap_setCell _ _ _ _ (show w.heap.size + 1 ≠ w.heap.size by omega)).trans ((hblk (w.heap.size + 1) (by omega) (by omega)).trans GZV.out)⟩, r0, r2⟩
    rw [setCell_eq_setRow w4 w.heap.size 0 _ 29 (0, 0) _ hGo, setRow_heap w4 w.heap.size _ _ 29 _ hGo]
    rfl
  have HROW := hide HOV.out.row
  clear hN C1 C3
  go_upto_region 8 with (first | (rw [HV.out]) | fail)
  first | rw [HV.out] | skip
  go_cut [6] (fun t wx => t = .string R ∧ MoreS w base n B M ⟨E, R, ix R⟩ wx)
  case first =>
    go_region_law (first
      | (rw [if_pos (by rfl)]; go_simp; go_at_call 42; refine (CE.out _ ?_).mono ?_; (first | exact Below.refl _ _ | exact (Below.refl _ _).drew | exact ((Below.refl _ _).drew).drew); rintro e w2 ⟨rfl, hb2, c2⟩; dsimp only)
      | (rw [if_pos (by rfl)]; go_simp; go_at_call 58; refine (C6.out _ ?_).mono ?_; (first | exact hb2 | exact hb2.drew | exact (hb2.drew).drew); rintro e w3 ⟨a2, q2, rfl, ho3, c3, c3a⟩; dsimp only)
      | (refine step_append_lies _ rfl (.tmp 54) (.tmp 59) 27 rfl base 51 i0 (.agg #[.int .i64 0, .string ByteArray.empty, .slice none 0 0]) 3 48 Tryd.underlying27 hi hz0 hz1 hz2 rfl (by decide) (.slice (some ⟨g, 0, none⟩) n c) n (flatC M) rfl (own_belowC HROW.out (ho3.2.trans (((Below.refl _ _).alloc (Nat.le_refl _) _).mono ho3.2.size))) ⟨w3.heap.size, 0, none⟩ 1 1 [.int .i64 E, .string R, .slice a2 N q2] rfl rfl (cell_three_new w3 _ rfl _ _ _ _) (by intro u hu; simp at hu; rcases hu with rfl | rfl | rfl <;> rfl) (by decide) (by unfold maxLen; omega) (by omega) (Nat.le_trans hbV (Nat.le_trans ho3.2.size (by show w3.heap.size ≤ (w3.alloc _).heap.size; simp))) _ rfl ?_; intro g4 c4 w4 h4 hg4 _ _; obtain ⟨pp, r0, r2⟩ := PP.out w3 a2 q2 g4 c4 w4 ho3 h4 hg4))
    all_goals (
      go_wp2_with fail
      go_meet
      case rel => exact ⟨rfl, pp⟩)
  case rest =>
    obtain ⟨rfl, hta⟩ := hcut
    obtain ⟨g4, c4, u, hown, hout⟩ := hta.own
    have hpc : pcs (M ++ [((⟨E, R, ix R⟩ : Pc), u)]) = L ++ [⟨E, R, ix R⟩] := by rw [← HM.out]; show List.map _ _ = _; rw [List.map_append]; rfl
    have hL2 : L' = L ++ [⟨E, R, ix R⟩] := by rw [HL'.out, HE.out, HRR.out]
    have HL2 := hide hL2
    have HPC := hide hpc
    have HOW := hide hown
    have HTA := hide hta
    clear z0 z1 z2 z3 o0 o1 p0 p1 p2
    obtain ⟨z0, z1, z2, z3⟩ := blkp hta.res
    obtain ⟨o0, o1, _, _⟩ := blkp hout
    clear hta hown hpc hL2 C6 PP CE hout
    go_wp2
    refine bodyPost_ret (v := .tuple #[.agg #[.slice (some ⟨g4, 0, none⟩) (n + 1) c4, .int .i64 B], .bool true]) (by simp [results, Tryd.f34, go_sem, z0, z1]) rfl ⟨some ⟨g4, 0, none⟩, c4, rfl, ?_, ?_⟩
    · rw [HL2.out, ← HPC.out]
      exact (HOW.out.setB2 HTA.out.res piece_log int_log).sl
    · exact (HTA.out.bel.setCell (p := ⟨_, _, none⟩) (by show base ≤ w.heap.size + 1; omega) _).setCell (p := ⟨_, _, none⟩) (by show base ≤ w.heap.size + 1; omega) _
end Go.Proofs.YtapffbbmofhpoazDoor.L6

namespace Go.Proofs.YtapffbbmofhpoazDoor.L6
open Go.RowKit L1
set_option linter.unusedVariables false

open Classical in
theorem l6Append_all (g : Nat) (L : List Pc) (M : List PV) (n c base : Nat) (B : Int) (r : ByteArray) (w : World) (ho : OwC w base (.slice (some ⟨g, 0, none⟩) n c) n M) (hM : pcs M = L) (hg : GoodG L B) (hbase : base ≤ w.heap.size) (hr2 : r.size ≤ 9223372036854775807) (L' : List Pc) (B' : Int) (ok : Bool) (hap : AppIs L B r L' B' ok) : Calls Tryd.prog 34 #[.agg #[.slice (some ⟨g, 0, none⟩) n c, .int .i64 B], .string r] w fun e w' => ∃ a' k c', e = .returned (.tuple #[.agg #[.slice a' k c', .int .i64 B], .bool ok]) ∧ Hid (ok = true → k = L'.length ∧ SlC w' a' L' ∧ B' = B) ∧ Below base w w' := by
  have hn : L.length = n := by rw [← hM]; simp [ho.len]
  by_cases h20 : r.size ≤ 20
  · by_cases h60 : lastEnd L n - (gc L 0).f = 60
    · obtain ⟨rfl, _, _⟩ := hap.no (fun h => h.2.2 (by rw [hn]; exact h60))
      refine (l6Append_60 g L M n c base B r w ho hM hg hbase h20 h60).mono ?_
      rintro e w' ⟨rfl, hb⟩
      exact ⟨_, _, _, rfl, fun h => (by cases h), hb⟩
    · have hpre : AppPre L B r := ⟨hg, h20, by rw [hn]; exact h60⟩
      by_cases hf : AppFits L r
      · obtain ⟨rfl, rfl, rfl⟩ := hap.put hpre hf
        refine (l6Append_put g L M n c base B' r w ho hM hg hbase h20 h60 hf).mono ?_
        rintro e w' ⟨rfl, hs, hb⟩
        exact ⟨_, _, _, rfl, fun _ => ⟨by simp [hn], by rw [hn]; exact hs, rfl⟩, hb⟩
      · by_cases hn20 : n = 20
        · obtain ⟨rfl, _, _⟩ := hap.full hpre hf (by rw [hn]; exact hn20)
          refine (l6Append_full g L M n c base B r w ho hM hg hbase h20 h60 hf hn20).mono ?_
          rintro e w' ⟨rfl, hb⟩
          exact ⟨_, _, _, rfl, fun h => (by cases h), hb⟩
        · obtain ⟨rfl, rfl, rfl⟩ := hap.more hpre hf (by rw [hn]; exact hn20)
          refine (l6Append_more g L M n c base B' r w ho hM hg hbase h20 h60 hf hn20).mono ?_
          rintro e w' ⟨a', c', rfl, hs, hb⟩
          exact ⟨_, _, _, rfl, fun _ => ⟨by simp [hn], by rw [hn]; exact hs, rfl⟩, hb⟩
  · obtain ⟨rfl, _, _⟩ := hap.no (fun h => h20 h.2.1)
    refine (l6Append_long g L M n c base B r w ho hM hg hbase (by omega) hr2).mono ?_
    rintro e w' ⟨rfl, hb⟩
    exact ⟨_, _, _, rfl, fun h => (by cases h), hb⟩

open Classical in
set_option maxRecDepth 100000 in
set_option maxHeartbeats 4000000 in
theorem specAppend_any (a : Option Addr) (L : List Pc) (n cap : Nat) (B : Int) (r : ByteArray) (w : World) (hn : L.length = n) (hm : n ≤ 9223372036854775807) (hs : SlC w a L) (hst : SzC L) (hr2 : r.size ≤ 9223372036854775807) (L' : List Pc) (B' : Int) (ok : Bool) (hap : AppIs L B r L' B' ok) :
    Calls Tryd.prog 13 #[.agg #[.slice a n cap, .int .i64 B], .string r] w (RetL w L' B' ok) := by
  obtain ⟨bk, hbk⟩ : ∃ bk : Bool, bk = true ↔ GoodG L B := ⟨decide (GoodG L B), by simp⟩
  have C1 := hide (fun wx (hb : Below w.heap.size w wx) => specGoodLog_any a L n cap B wx hn hm (hs.below hb) hst bk hbk)
  cases bk with
  | false =>
    obtain ⟨rfl, rfl, rfl⟩ := hap.no (fun h => absurd (hbk.2 h.1) (by simp))
    clear hap hs hn hst hbk
    go_enter Tryd.func13, Tryd.ntmps13
    go_wp2_with fail
    refine (C1.out _ (((Below.refl _ _).alloc (Nat.le_refl _) _).alloc (by simp) _)).mono ?_
    rintro e w1 ⟨rfl, hb1⟩
    obtain ⟨z0, z1, z2, z3⟩ := blkp ((hb1.block (w.heap.size + 1) (by simp)).trans (blk_second w _ _))
    have B1 := hide ((((Below.refl w.heap.size w).alloc (Nat.le_refl _) (.cells #[.slice a n cap, .int .i64 B] 29 (0, 0))).alloc (by simp) (.cells #[.slice none 0 0, .int .i64 0] 29 (0, 0))).trans (hb1.mono (by simp; omega)))
    clear hb1
    go_wp2
    refine bodyPost_ret (v := .tuple #[.agg #[.slice none 0 0, .int .i64 0], .bool false]) (by simp [results, Tryd.f13, go_sem, z0, z1]) rfl (retL_none ((B1.out.setCell (p := ⟨_, _, none⟩) (Nat.le_succ _) _).setCell (p := ⟨_, _, none⟩) (Nat.le_succ _) _))
  | true =>
    have hg := hbk.1 rfl
    have hn1 : 1 ≤ n := by have := hg.one; omega
    have hn20 : n ≤ 20 := by have := hg.many; omega
    have C2 := hide (fun wx (hb : Below w.heap.size w wx) => l6Own_any a L n cap B wx hn hn20 (hs.below hb) (fun i hi => by have hgd := (hg.ps i (by omega)).1; rw [hgd.2.2]; exact ix_len60 hgd.1))
    have hfew := app_few hap
    have HS := hide hs
    have HN := hide hn
    have HG := hide hg
    have HA := hide hap
    clear hs hn hg hst hbk hap
    go_enter Tryd.func13, Tryd.ntmps13
    go_wp2_with fail
    refine (C1.out _ (((Below.refl _ _).alloc (Nat.le_refl _) _).alloc (by simp) _)).mono ?_
    rintro e w0 ⟨rfl, hb1⟩
    have G1 : Hid (w0.heap[w.heap.size + 1]? = some (.cells #[.slice none 0 0, .int .i64 0] 29 (0, 0))) := (hb1.block (w.heap.size + 1) (by simp)).trans (blk_second w _ _)
    have B1 := hide ((((Below.refl w.heap.size w).alloc (Nat.le_refl _) (.cells #[.slice a n cap, .int .i64 B] 29 (0, 0))).alloc (by simp) (.cells #[.slice none 0 0, .int .i64 0] 29 (0, 0))).trans (hb1.mono (by simp; omega)))
    obtain ⟨k0, k1, _, _⟩ := blkp ((hb1.block w.heap.size (by simp only [World.size_alloc]; omega)).trans (blk_first w _ _))
    have hz1 : w.heap.size + 1 < w0.heap.size := (Array.getElem?_eq_some_iff.1 G1.out).1
    clear hb1
    go_wp2_with fail
    refine (C2.out _ B1.out).mono ?_
    rintro e w1 ⟨a1, cc, rfl, M, hM, ho, hb2⟩
    obtain ⟨g, rfl⟩ : ∃ g, a1 = some ⟨g, 0, none⟩ := by
      rcases ho.row.2 with ⟨hv, h0⟩ | ⟨g, cap, cur, hv, _⟩
      · omega
      · cases hv
        exact ⟨g, rfl⟩
    have B2 := hide (B1.out.trans (hb2.mono B1.out.size))
    have hz2 := hb2.size
    have G2 : Hid (w1.heap[w.heap.size + 1]? = some (.cells #[.slice none 0 0, .int .i64 0] 29 (0, 0))) := (hb2.block (w.heap.size + 1) hz1).trans G1.out
    have C3 := hide (l6Append_all g L M n cc w0.heap.size B r w1 ho hM HG.out hz2 hr2 L' B' ok HA.out)
    clear hb2 ho hM k0 k1
    go_wp2_with fail
    refine C3.out.mono ?_
    rintro e w2 ⟨a2, k2, c2, rfl, hok, hb3⟩
    have B3 := hide (B2.out.trans (hb3.mono (by omega)))
    have hz3 := hb3.size
    have G3 : Hid (w2.heap[w.heap.size + 1]? = some (.cells #[.slice none 0 0, .int .i64 0] 29 (0, 0))) := (hb3.block (w.heap.size + 1) hz1).trans G2.out
    have HOK := hide hok.out
    clear hb3 hok C3
    cases ok with
    | false =>
      have hno : L' = [] ∧ B' = 0 := by
        by_cases hp : AppPre L B r
        · by_cases hf : AppFits L r
          · have := (HA.out.put hp hf).1; cases this
          · by_cases h20 : L.length = 20
            · exact (HA.out.full hp hf h20).2
            · have := (HA.out.more hp hf h20).1; cases this
        · exact (HA.out.no hp).2
      obtain ⟨rfl, rfl⟩ := hno
      obtain ⟨z0, z1, z2, z3⟩ := blkp ((((Below.refl w2.heap.size w2).alloc (Nat.le_refl _) (.cells #[.slice a2 k2 c2, .int .i64 B] 29 (0, 0))).block (w.heap.size + 1) (by omega)).trans G3.out)
      have B4 := hide (B3.out.alloc B3.out.size (.cells #[.slice a2 k2 c2, .int .i64 B] 29 (0, 0)))
      go_wp2
      refine bodyPost_ret (v := .tuple #[.agg #[.slice none 0 0, .int .i64 0], .bool false]) (by simp [results, Tryd.f13, go_sem, z0, z1]) rfl (retL_none ((B4.out.setCell (p := ⟨_, _, none⟩) (Nat.le_succ _) _).setCell (p := ⟨_, _, none⟩) (Nat.le_succ _) _))
    | true =>
      obtain ⟨hk, hsl, hB⟩ := HOK.out rfl
      have C5 := hide (fun wx (hb : Below w2.heap.size w2 wx) => l6Own_any a2 L' k2 c2 B wx hk.symm (by omega) (hsl.below hb) (fun i hi => hfew.2 i (by omega)))
      have HK := hide hk
      have HB := hide hB
      clear hk hsl hB
      go_wp2_with fail
      refine (C5.out _ ((Below.refl _ _).alloc (Nat.le_refl _) _)).mono ?_
      rintro e w6 ⟨a6, c6, rfl, M6, hM6, ho6, hb6⟩
      have hal : Below w2.heap.size w2 (w2.alloc (.cells #[.slice a2 k2 c2, .int .i64 B] 29 (0, 0))) := (Below.refl _ _).alloc (Nat.le_refl _) _
      have hb26 := hal.trans (hb6.mono hal.size)
      have BF := hide (B3.out.trans (hb26.mono B3.out.size))
      have HO6 := hide ho6
      have HM6 := hide hM6
      have hals := hal.size
      obtain ⟨z0, z1, z2, z3⟩ := blkp ((hb26.block (w.heap.size + 1) (by omega)).trans G3.out)
      clear hb6 ho6 hM6 hal hb26
      go_wp2
      refine bodyPost_ret (v := .tuple #[.agg #[.slice a6 k2 c6, .int .i64 B], .bool true]) (by simp [results, Tryd.f13, go_sem, z0, z1]) rfl ⟨a6, c6, by rw [HB.out, ← HK.out], M6, HM6.out, ?_, ?_⟩
      · rw [← HK.out]
        exact ((HO6.out.setC ⟨_, _, none⟩ _ (by show w.heap.size + 1 < _; omega)).setC ⟨_, _, none⟩ _ (by show w.heap.size + 1 < _; omega)).base (by omega)
      · exact ((BF.out.setCell (p := ⟨_, _, none⟩) (Nat.le_succ _) _).setCell (p := ⟨_, _, none⟩) (Nat.le_succ _) _)
end Go.Proofs.YtapffbbmofhpoazDoor.L6

namespace Go.Proofs.YtapffbbmofhpoazDoor.L6
open Go.RowKit L1
set_option linter.unusedVariables false

set_option maxRecDepth 100000 in
set_option maxHeartbeats 1000000 in
theorem heldIntS_from (a : Option Addr) (n cap : Nat) (c : Int) (w : World) (hc0 : 0 ≤ c) (hc1 : c ≤ 4294967296) (hn2 : n ≤ 1048576) (hs : Sl w a (L4.mkC c n)) :
    Calls Tryd.prog 63 #[.slice a n cap, .int .i64 c] w fun e w' => e = .returned (.int .i64 (c + (n : Int))) ∧ Below w.heap.size w w' := by
  have HS := hide hs
  clear hs
  go_enter Tryd.func63, Tryd.ntmps63
  go_wp2
  go_loop [1, 5] (fun k i => ∃ j : Nat, j ≤ n ∧ i = .int .i64 j ∧ k = .int .i64 (c + (j : Int))) (fun _ i => n - (intOf i).toNat)
  case atStart => exact ⟨0, by omega, rfl, by simp⟩
  case round =>
    obtain ⟨j, hj, rfl, rfl⟩ := hrel
    by_cases hlt : j < n
    · obtain ⟨b, off, rfl, hc⟩ := HS.out j (by rw [L4.mkC_len]; exact hlt)
      rw [L4.mkC_get c n j hlt] at hc
      have hltI : (j : Int) < (n : Int) := by omega
      go_wp2
      go_round
      case rel => exact ⟨j + 1, by omega, by go_num, by go_num⟩
      case measure => simp [intOf]; omega
    · have hltI : ¬ (j : Int) < (n : Int) := by omega
      obtain rfl : j = n := by omega
      go_wp2
      go_ret
      exact ⟨rfl, Below.refl _ _⟩

set_option maxRecDepth 100000 in
set_option maxHeartbeats 2000000 in
theorem heldPieceS_any (a : Option Addr) (n cap : Nat) (L : List Pc) (w : World) (hLn : L.length = n) (hn2 : n ≤ 1048576) (hk : ∀ i, i ≤ n → kat L i ≤ 2147483648) (hX : ∀ i, i < n → (gc L i).x.length ≤ 1048576) (hs : SlC w a (mks L)) :
    Calls Tryd.prog 41 #[.slice a n cap, .int .i64 1] w fun e w' => e = .returned (.int .i64 (kat L n)) ∧ Below w.heap.size w w' := by
  have HS := hide hs
  have HLN := hide hLn
  have HK := hide hk
  have HX := hide hX
  clear hs hLn hk hX
  go_enter Tryd.func41, Tryd.ntmps41
  go_wp2
  go_loopw [1, 5] (fun k i wr => ∃ j : Nat, j ≤ n ∧ i = .int .i64 j ∧ k = .int .i64 (kat L j) ∧ Below w.heap.size w wr) (fun _ i _ => n - (intOf i).toNat)
  case atStart => exact ⟨0, Nat.zero_le _, rfl, rfl, Below.refl _ _⟩
  case round =>
    obtain ⟨j, hj, rfl, rfl, hbel⟩ := hrel
    by_cases hlt : j < n
    · obtain ⟨b, off, rfl, ai, ci, hat⟩ := HS.out.below hbel j (by rw [mks_len, HLN.out]; exact hlt)
      have hmk := mks_get L j (by rw [HLN.out]; exact hlt)
      have hd1 := hat.f
      have hd2 := hat.s
      have hd3 := hat.x
      have hd4 := hat.l
      rw [show (mks L).getD j eC = mkp L j from hmk] at hd1 hd2 hd3 hd4
      unfold mkp at hd1 hd2 hd3 hd4
      simp only [L4.mkC_len] at hd1 hd2 hd3 hd4
      have hltI : (j : Int) < (n : Int) := by omega
      have hj0 : (0 : Int) ≤ (j : Int) := by omega
      have hpos := kat_pos L j
      have hkle := HK.out (j + 1) (by omega)
      have hkn : kat L (j + 1) = kat L j + 2 + ((gc L j).x.length : Int) := rfl
      have hxl := HX.out j hlt
      obtain ⟨c, hc⟩ : ∃ c, c = kat L j := ⟨_, rfl⟩
      obtain ⟨m, hm⟩ : ∃ m, m = (gc L j).x.length := ⟨_, rfl⟩
      rw [← hc] at hd1 hd2 hd4 hpos hkn ⊢
      rw [← hm] at hd3 hd4 hkn hxl
      rw [hkn] at hkle
      have CT := hide (fun wx => L3.markText_any (c + 1) wx (by omega) (by omega))
      obtain ⟨y, hy⟩ : ∃ y, y = L3.mkT (c + 1) := ⟨_, rfl⟩
      rw [← hy] at hd2 CT
      have CX := hide (fun wx (hb : Below wr.heap.size wr wx) => heldIntS_from ai m ci (c + 2) wx (by omega) (by omega) (by omega) (hd4.below hb))
      rw [show c + 2 = c + 1 + 1 by omega] at CX
      have h0 : ¬ (c + 1 + 1 + (m : Int)) < 0 := by omega
      have HKN := hide hkn
      have HB := hide hbel
      clear hat hmk hd4 hc hm hkn hy hbel
      go_wp2
      go_region_held3 (fun wx => (wx.cell? ⟨b, off + j * 3 + 1, none⟩ = some (.string y) ∧ wx.cell? ⟨b, off + j * 3 + 2, none⟩ = some (.slice ai m ci)) ∧ Below wr.heap.size wr wx) (first | exact ⟨⟨hd2, hd3⟩, (Below.refl _ _).drew⟩ | exact keep2 (by assumption) (by assumption) (Nat.le_refl _)) ((go_at_call 49; refine (CT.out _).mono ?_; rintro e w1 ⟨rfl, hb⟩))
      rename_i hHeld
      have hHeld' := hHeld
      obtain ⟨⟨k1, k2⟩, hb3⟩ := hHeld'
      have B3 := hide hb3
      clear hHeld hb3
      go_wp2_with fail
      refine (CX.out _ B3.out).mono ?_
      rintro e w4 ⟨rfl, hb4⟩
      have B4 := hide (HB.out.trans ((B3.out.trans (hb4.mono B3.out.size)).mono HB.out.size))
      clear hb4
      go_wp2
      go_roundw
      case rel => exact ⟨j + 1, by omega, by go_num, by rw [HKN.out]; go_num, B4.out⟩
      case measure => simp [intOf]; omega
    · obtain rfl : j = n := by omega
      have hltI : ¬ (j : Int) < (j : Int) := by omega
      obtain ⟨c, hc⟩ : ∃ c, c = kat L j := ⟨_, rfl⟩
      rw [← hc]
      have HC := hide hc
      clear hc
      go_wp2
      go_ret
      exact ⟨by rw [← HC.out]; rfl, hbel⟩

set_option maxRecDepth 100000 in
set_option maxHeartbeats 1000000 in
theorem heldLog_any (a : Option Addr) (n cap : Nat) (L : List Pc) (B : Int) (w : World) (hLn : L.length = n) (hn2 : n ≤ 1048576) (hk : ∀ i, i ≤ n → kat L i ≤ 2147483648) (hX : ∀ i, i < n → (gc L i).x.length ≤ 1048576) (hs : SlC w a (mks L)) :
    Calls Tryd.prog 16 #[.agg #[.slice a n cap, .int .i64 B], .int .i64 1] w fun e w' => e = .returned (.int .i64 (kat L n)) ∧ Below w.heap.size w w' := by
  have C := hide (fun wx hs => heldPieceS_any a n cap L wx hLn hn2 hk hX hs)
  have HS := hide hs
  have hpos := kat_pos L n
  obtain ⟨c, hc⟩ : ∃ c, c = kat L n := ⟨_, rfl⟩
  rw [← hc] at C hpos ⊢
  have h0 : ¬ c < 0 := by omega
  clear hs hLn hk hX hc
  go_enter Tryd.func16, Tryd.ntmps16
  go_wp2_with fail
  refine (C.out _ (HS.out.below ((Below.refl _ _).alloc (Nat.le_refl _) _))).mono ?_
  rintro e w1 ⟨rfl, hb1⟩
  have B1 := hide (((Below.refl w.heap.size w).alloc (Nat.le_refl _) (.cells #[.slice a n cap, .int .i64 B] 29 (0, 0))).trans (hb1.mono (by simp)))
  clear hb1
  go_wp2
  go_ret
  exact ⟨rfl, B1.out⟩
end Go.Proofs.YtapffbbmofhpoazDoor.L6

namespace Go.Proofs.YtapffbbmofhpoazDoor.L6
open Go.RowKit L1
set_option linter.unusedVariables false

theorem set_set (M : List PV) (k : Nat) (p q : PV) : (M.set k p).set k q = M.set k q := by simp
set_option maxRecDepth 100000 in
set_option maxHeartbeats 4000000 in
theorem markPieceS_any (base hi : Nat) (v : Value) (n : Nat) (M : List PV) (L : List Pc) (w : World) (hML : pcs M = L) (hn2 : n ≤ 1048576) (hk : ∀ i, i ≤ n → kat L i ≤ 2147483648) (hX : ∀ i, i < n → (gc L i).x.length ≤ 1048576) (hin : InC hi v n M) (ho : OwC w base v n M) :
    Calls Tryd.prog 40 #[v, .int .i64 1] w fun e w' => e = .returned (.int .i64 (kat L n)) ∧ (∃ M', pcs M' = mks L ∧ OwC w' base v n M') ∧ Only base hi w w' := by
  have hLn : L.length = n := by rw [← hML]; simpa using ho.len
  obtain ⟨a, cap, rfl, _⟩ := ho.form
  by_cases hn0 : n = 0
  · subst hn0
    have hL0 : L = [] := List.eq_nil_of_length_eq_zero hLn
    have hM0 : M = [] := List.eq_nil_of_length_eq_zero ho.len
    subst hL0 hM0
    have O := hide ho
    clear ho hML hk hX hin hLn
    go_enter Tryd.func40, Tryd.ntmps40
    go_wp2
    go_loop [1, 5] (fun k i => k = .int .i64 1 ∧ i = .int .i64 0) (fun _ _ => 0)
    case atStart => exact ⟨rfl, rfl⟩
    case round =>
      obtain ⟨rfl, rfl⟩ := hrel
      go_wp2
      go_ret
      exact ⟨rfl, ⟨[], rfl, O.out⟩, Only.refl _ _ _⟩
  · obtain ⟨g, rfl⟩ : ∃ g, a = some ⟨g, 0, none⟩ := by
      rcases ho.row.2 with ⟨_, h0⟩ | ⟨g, cap2, cur, hv, _⟩
      · omega
      · cases hv; exact ⟨g, rfl⟩
    have hgr : base ≤ g ∧ g < hi := ⟨(own_ltC ho.row g rfl).1, hin.row g rfl⟩
    have O := hide ho
    have HML := hide hML
    have HLN := hide hLn
    have HK := hide hk
    have HX := hide hX
    have HI := hide hin
    clear ho hML hk hX hin hLn hn0
    go_enter Tryd.func40, Tryd.ntmps40
    go_wp2
    go_loopw [1, 5] (fun k i wr => ∃ (j : Nat) (N : List PV), j ≤ n ∧ i = .int .i64 j ∧ k = .int .i64 (kat L j) ∧ Hid (∀ t, t < j → (N.getD t eV).1 = mkp L t) ∧ Hid (∀ t, j ≤ t → t < n → N.getD t eV = M.getD t eV) ∧ Hid (∀ t, t < n → (N.getD t eV).2 = (M.getD t eV).2) ∧ OwC wr base (.slice (some ⟨g, 0, none⟩) n cap) n N ∧ Only base hi w wr) (fun _ i _ => n - (intOf i).toNat)
    case atStart => exact ⟨0, M, Nat.zero_le _, rfl, rfl, fun t ht => absurd ht (Nat.not_lt_zero _), fun t _ _ => rfl, fun t _ => rfl, O.out, Only.refl _ _ _⟩
    case round =>
      obtain ⟨j, N, hj, rfl, rfl, H1, H2, H3, hown, honly⟩ := hrel
      by_cases hlt : j < n
      · have hltI : (j : Int) < (n : Int) := by omega
        have hpos := kat_pos L j
        have hkle := HK.out (j + 1) (by omega)
        have hkn : kat L (j + 1) = kat L j + 2 + ((gc L j).x.length : Int) := rfl
        have hxl := HX.out j hlt
        have hl := hown.len
        have hMj : (N.getD j eV) = M.getD j eV := H2.out j (Nat.le_refl _) hlt
        have hgc : (M.getD j eV).1 = gc L j := by
          have := pcs_get M j (by rw [O.out.len]; exact hlt)
          rw [HML.out] at this
          exact this.symm
        obtain ⟨c, hc⟩ : ∃ c, c = kat L j := ⟨_, rfl⟩
        -- the first store
        have P1 := hown.setF j hlt c
        obtain ⟨m, hm⟩ : ∃ m, m = (gc L j).x.length := ⟨_, rfl⟩
        have hfl : (flatC N).length = n * 3 := by rw [flatC_len, hl]
        have hcl0 := hown.row.cellAt (j * 3) (by omega)
        have hfr0 := hown.row.frozenAt (j * 3)
        obtain ⟨v0, hv0⟩ : ∃ v, wr.cell? ⟨g, j * 3, none⟩ = some v := ⟨_, hcl0.trans (List.getElem?_eq_getElem (by omega))⟩
        have CT := hide (fun wx => L3.markText_any (c + 1) wx (by omega) (by omega))
        rw [← hc]
        rw [← hc] at hpos hkn
        rw [hkn, ← hm] at hkle
        have HP1 := hide P1
        have HKN := hide hkn
        have HMJ := hide hMj
        have HGC := hide hgc
        have HM := hide hm
        have HC := hide hc
        have HL := hide hl
        have HON := hide honly
        rw [← hm] at hxl
        clear P1 hkn hMj hgc hm hc hcl0 hfl hl hown honly
        go_wp2_with fail
        refine (CT.out _).mono ?_
        rintro e w1 ⟨rfl, hb1⟩
        -- the second store
        have O1 := HP1.out.1.below hb1
        have P2 := O1.setS j hlt (L3.mkT (c + 1))
        rw [getD_set_self N j _ (by rw [HL.out]; exact hlt), set_set] at P2
        simp only at P2
        have hfl1 : (flatC (N.set j (⟨c, (N.getD j eV).1.s, (N.getD j eV).1.x⟩, (N.getD j eV).2))).length = n * 3 := by rw [flatC_len]; simp; rw [HL.out]
        have hcl1 := O1.row.cellAt (j * 3 + 1) (by omega)
        have hfr1 := O1.row.frozenAt (j * 3 + 1)
        obtain ⟨v1, hv1⟩ : ∃ v, w1.cell? ⟨g, j * 3 + 1, none⟩ = some v := ⟨_, hcl1.trans (List.getElem?_eq_getElem (by omega))⟩
        -- the Index
        have hidx := P2.1.idx j hlt
        rw [getD_set_self N j _ (by rw [HL.out]; exact hlt)] at hidx
        simp only at hidx
        rw [HMJ.out, HGC.out, ← HM.out] at hidx
        obtain ⟨ai, ci, hvi, _, _⟩ := own_form hidx
        have hcl2 := P2.1.row.cellAt (j * 3 + 2) (by omega)
        have hg3 := (flatC_get (N.set j (⟨c, L3.mkT (c + 1), (N.getD j eV).1.x⟩, (N.getD j eV).2)) j (by simp; rw [HL.out]; exact hlt)).2.2
        rw [getD_set_self N j _ (by rw [HL.out]; exact hlt)] at hg3
        simp only at hg3
        have hk2 := hcl2.trans hg3
        rw [HMJ.out, hvi] at hk2
        have CX := hide (L4.markIntS_from base (.slice ai m ci) (gc L j).x m (w1.setCell ⟨g, j * 3 + 1, none⟩ (.string (L3.mkT (c + 1)))) (c + 1 + 1) (by omega) (by omega) (by omega) (by rw [hvi] at hidx; exact hidx))
        have HP2 := hide P2
        have HVI := hide hvi
        have HB1 := hide hb1
        clear P2 O1 hcl1 hcl2 hfl1 hidx hg3 hvi hb1
        go_wp2_with fail
        refine CX.out.mono ?_
        rintro e w2 ⟨rfl, ho2, hb2, hg2⟩
        have hblk : (N.getD j eV).2 = .slice ai m ci := by rw [HMJ.out]; exact HVI.out
        have O3 := HP2.out.1.setX j hlt (L4.mkC (c + 1 + 1) m) (by
          rw [getD_set_self N j _ (by rw [HL.out]; exact hlt)]
          show w2.ownsRow base _ 1 (N.getD j eV).2 _ _
          rw [hblk, L4.mkC_len]
          exact ho2) (by
          rw [getD_set_self N j _ (by rw [HL.out]; exact hlt)]
          show World.grownBy _ _ (N.getD j eV).2.ownBlock
          rw [hblk]
          exact hg2)
        rw [getD_set_self N j _ (by rw [HL.out]; exact hlt), set_set] at O3
        simp only at O3
        have ON3 := ((((HON.out.grown HP1.out.2 (fun q hq => by cases hq; exact hgr)).grown (r := none) (grown_below HB1.out) (fun q hq => by cases hq)).grown HP2.out.2 (fun q hq => by cases hq; exact hgr)).grown hg2 (fun q hq => by
          have h1 := (own_ltC (O.out.idx j hlt) q (by rw [HVI.out]; exact hq)).1
          have h2 := HI.out.idx j hlt q (by rw [HVI.out]; exact hq)
          exact ⟨h1, h2⟩))
        have R : ∃ (j' : Nat) (N' : List PV), j' ≤ n ∧ Value.int .i64 ((j : Int) + 1) = .int .i64 j' ∧ Value.int .i64 (c + 1 + 1 + (m : Int)) = .int .i64 (kat L j') ∧ Hid (∀ t, t < j' → (N'.getD t eV).1 = mkp L t) ∧ Hid (∀ t, j' ≤ t → t < n → N'.getD t eV = M.getD t eV) ∧ Hid (∀ t, t < n → (N'.getD t eV).2 = (M.getD t eV).2) ∧ OwC w2 base (.slice (some ⟨g, 0, none⟩) n cap) n N' ∧ Only base hi w w2 := by
          refine ⟨j + 1, _, by omega, by simp, ?_, fun t ht => ?_, fun t h1 h2 => ?_, fun t ht => ?_, O3, ON3⟩
          · rw [HKN.out, ← HM.out]
            congr 1
            omega
          · by_cases e : t = j
            · subst e
              rw [getD_set_self N t _ (by rw [HL.out]; exact hlt)]
              show (⟨c, L3.mkT (c + 1), L4.mkC (c + 1 + 1) m⟩ : Pc) = mkp L t
              unfold mkp
              rw [← HC.out, ← HM.out, show c + 1 + 1 = c + 2 by omega]
            · rw [getD_set_ne N j t _ e]
              exact H1.out t (by omega)
          · rw [getD_set_ne N j t _ (by omega)]
            exact H2.out t (by omega) h2
          · by_cases e : t = j
            · subst e
              rw [getD_set_self N t _ (by rw [HL.out]; exact hlt)]
              exact H3.out t ht
            · rw [getD_set_ne N j t _ e]
              exact H3.out t ht
        have HR := hide R
        clear R O3 ON3 ho2 hb2 hg2 hblk
        go_wp2
        go_roundw
        case rel => exact HR.out
        case measure => simp [intOf]; omega
      · obtain rfl : j = n := by omega
        have hltI : ¬ (j : Int) < (j : Int) := by omega
        have E : pcs N = mks L := by
          refine list_sameC hown.len (by rw [mks_len]; exact HLN.out) (fun t ht => ?_)
          rw [mks_get L t (by rw [HLN.out]; exact ht)]
          exact H1.out t ht
        obtain ⟨c, hc⟩ : ∃ c, c = kat L j := ⟨_, rfl⟩
        rw [← hc]
        have HC := hide hc
        have HE := hide E
        have HO := hide hown
        have HON := hide honly
        clear E hown honly hc
        go_wp2
        go_ret
        exact ⟨by rw [← HC.out]; rfl, ⟨N, HE.out, HO.out⟩, HON.out⟩

set_option maxRecDepth 100000 in
set_option maxHeartbeats 1000000 in
theorem markLog_any (base hi : Nat) (v : Value) (n : Nat) (M : List PV) (L : List Pc) (B : Int) (w : World) (hML : pcs M = L) (hn2 : n ≤ 1048576) (hk : ∀ i, i ≤ n → kat L i ≤ 2147483648) (hX : ∀ i, i < n → (gc L i).x.length ≤ 1048576) (hin : InC hi v n M) (ho : OwC w base v n M) :
    Calls Tryd.prog 15 #[.agg #[v, .int .i64 B], .int .i64 1] w fun e w' => e = .returned (.int .i64 (kat L n)) ∧ (∃ M', pcs M' = mks L ∧ OwC w' base v n M') ∧ Only base hi w w' := by
  have C := hide (fun wx (ho : OwC wx base v n M) => markPieceS_any base hi v n M L wx hML hn2 hk hX hin ho)
  have O := hide ho
  obtain ⟨a, cap, rfl, _⟩ := ho.form
  obtain ⟨c, hc⟩ : ∃ c, c = kat L n := ⟨_, rfl⟩
  rw [← hc] at C ⊢
  clear ho hML hk hX hin hc
  go_enter Tryd.func15, Tryd.ntmps15
  go_wp2_with fail
  refine (C.out _ (O.out.below ((Below.refl _ _).alloc (Nat.le_refl _) _))).mono ?_
  rintro e w1 ⟨rfl, hM, hon⟩
  have H := hide (And.intro hM (show Only base hi w w1 from ⟨hon.os, hon.tape, hon.output, Nat.le_trans (by simp) hon.size, fun k hk ho => (hon.block k (by simp; omega) ho).trans (((Below.refl w.heap.size w).alloc (Nat.le_refl _) _).block k hk)⟩))
  clear hM hon
  go_wp2
  go_ret
  exact ⟨rfl, H.out⟩
end Go.Proofs.YtapffbbmofhpoazDoor.L6
