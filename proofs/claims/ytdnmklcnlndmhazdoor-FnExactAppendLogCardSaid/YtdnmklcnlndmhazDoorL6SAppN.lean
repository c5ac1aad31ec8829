/-
  Contract: spec.l6Append where it answers none.
-/
import Derived.Test.YtdnmklcnlndmhazDoorL6SOwn
import Derived.Test.YtdnmklcnlndmhazDoorL6AppI
import Derived.Test.YtdnmklcnlndmhazDoorL6SEnd
import Derived.Test.YtdnmklcnlndmhazDoorL6Keep
import Derived.Deep.RegionHeld3
import Derived.Deep.RegionWith
import Derived.Deep.DeepCutAuto
namespace Go.Proofs.YtdnmklcnlndmhazDoor.L6
open Go.RowKit L1
set_option linter.unusedVariables false

theorem below_d6 {B : Nat} {a w : World} (h : Below B a w) (n : Nat) : Below B a (w.drewN n) := h.trans ⟨rfl, rfl, rfl, Nat.le_refl _, fun _ _ => rfl⟩
set_option maxRecDepth 100000 in
set_option maxHeartbeats 4000000 in
theorem l6Append_long (g : Nat) (L : List Pc) (M : List PV) (n c base : Nat) (B : Int) (r : ByteArray) (w : World) (ho : OwC w base (.slice (some ⟨g, 0, none⟩) n c) n M) (hM : pcs M = L) (hg : GoodG L B) (hbase : base ≤ w.heap.size) (hr : 20 < r.size) (hr2 : r.size ≤ 9223372036854775807) : Calls Tryd.prog 34 #[.agg #[.slice (some ⟨g, 0, none⟩) n c, .int .i64 B], .string r] w fun e w' => e = .returned (.tuple #[.agg #[.slice (some ⟨g, 0, none⟩) n c, .int .i64 B], .bool false]) ∧ Below base w w' := by
  have hn : L.length = n := by rw [← hM]; simp [ho.len]
  have hs : SlC w (some ⟨g, 0, none⟩) L := by rw [← hM]; exact ho.sl
  have hn1 : 1 ≤ n := by have := hg.one; omega
  have hn20 : n ≤ 20 := by have := hg.many; omega
  have hn0I : 0 < n := by omega
  have hml := ho.len
  have hgb := own_ltC ho.row g rfl
  have hfl : (flatC M).length = n * 3 := by rw [flatC_len, hml]
  have gcM : ∀ i, i < n → (M.getD i eV).1 = gc L i := fun i hi => by
    have := pcs_get M i (by omega)
    rw [hM] at this
    exact this.symm
  have d0 : w.cell? ⟨g, 0, none⟩ = some (.int .i64 (gc L 0).f) := by
    have := (ho.row.cellAt (0 * 3) (by omega)).trans (flatC_get M 0 (by omega)).1
    rw [gcM 0 (by omega)] at this
    simpa using this
  have C1 := hide (fun wx (hb : Below w.heap.size w wx) => l6End_good (some ⟨g, 0, none⟩) L n c B wx hn (hs.below hb) hg B)
  have hfb := hg.f0
  have hfb1 := hg.f1
  have hEb : 0 ≤ lastEnd L n ∧ lastEnd L n ≤ 1000060 := by
    have hk := hg.ps (n - 1) (by omega)
    have hb := atg_bd L (n - 1) (fun j hj => (hg.ps j (by omega)).1)
    have h3 := cnt_le (gc L (n - 1)).s
    have h4 := hk.1.1
    unfold lastEnd
    rw [hk.2.1]
    omega
  obtain ⟨E, hE⟩ : ∃ E, E = lastEnd L n := ⟨_, rfl⟩
  obtain ⟨f0, hf0⟩ : ∃ f0, f0 = (gc L 0).f := ⟨_, rfl⟩
  rw [← hE] at C1 hEb
  rw [← hf0] at d0 hfb hfb1
  obtain ⟨W, hW⟩ : ∃ W, (w.alloc (.cells #[.slice (some ⟨g, 0, none⟩) n c, .int .i64 B] 29 (0, 0))).alloc (.cells #[.slice none 0 0, .int .i64 0] 29 (0, 0)) = W := ⟨_, rfl⟩
  have BW : Below w.heap.size w W := by rw [← hW]; exact ((Below.refl _ _).alloc (Nat.le_refl _) _).alloc (by simp) _
  have GB : Hid (W.heap[w.heap.size]? = some (.cells #[.slice (some ⟨g, 0, none⟩) n c, .int .i64 B] 29 (0, 0))) := by show _ = _; rw [← hW]; exact blk_first _ _ _
  have GZ : Hid (W.heap[w.heap.size + 1]? = some (.cells #[.slice none 0 0, .int .i64 0] 29 (0, 0))) := by show _ = _; rw [← hW]; exact blk_second _ _ _
  have hwW : w.heap.size + 1 < W.heap.size := (Array.getElem?_eq_some_iff.1 GZ.out).1
  obtain ⟨o0, o1, _, _⟩ := blkp GB.out
  obtain ⟨z0, z1, z2, z3⟩ := blkp GZ.out
  have dg := (BW.cell (p := ⟨g, 0, none⟩) (blk_lt d0)).trans d0
  have HBW := hide BW
  have HO := hide (ho.below BW)
  have HM := hide hM
  have HN := hide hn
  have HG := hide hg
  have HE := hide hE
  have HF0 := hide hf0
  have HWW := hide hW
  have HGM := hide gcM
  have hr20 : (20 : Int) < (r.size : Int) := by omega
  clear ho hM hn hg hE hf0 hW gcM hs d0 hml hfl BW dg
  go_enter Tryd.func34, Tryd.ntmps34
  go_upto_region 1 with fail
  rw [HWW.out]
  go_quiet (fail)
  go_wp2
  refine bodyPost_ret (v := .tuple #[.agg #[.slice (some ⟨g, 0, none⟩) n c, .int .i64 B], .bool false]) (by simp [results, Tryd.f34, go_sem, z0, z1]) rfl ⟨rfl, ?_⟩
  exact ((below_d6 (HBW.out.mono hbase) _).setCell (p := ⟨_, _, none⟩) (by show base ≤ w.heap.size + 1; omega) _).setCell (p := ⟨_, _, none⟩) (by show base ≤ w.heap.size + 1; omega) _
set_option maxRecDepth 100000 in
set_option maxHeartbeats 4000000 in
theorem l6Append_60 (g : Nat) (L : List Pc) (M : List PV) (n c base : Nat) (B : Int) (r : ByteArray) (w : World) (ho : OwC w base (.slice (some ⟨g, 0, none⟩) n c) n M) (hM : pcs M = L) (hg : GoodG L B) (hbase : base ≤ w.heap.size) (hr : r.size ≤ 20) (h60 : lastEnd L n - (gc L 0).f = 60) : Calls Tryd.prog 34 #[.agg #[.slice (some ⟨g, 0, none⟩) n c, .int .i64 B], .string r] w fun e w' => e = .returned (.tuple #[.agg #[.slice (some ⟨g, 0, none⟩) n c, .int .i64 B], .bool false]) ∧ Below base w w' := by
  have hn : L.length = n := by rw [← hM]; simp [ho.len]
  have hs : SlC w (some ⟨g, 0, none⟩) L := by rw [← hM]; exact ho.sl
  have hn1 : 1 ≤ n := by have := hg.one; omega
  have hn20 : n ≤ 20 := by have := hg.many; omega
  have hn0I : 0 < n := by omega
  have hml := ho.len
  have hgb := own_ltC ho.row g rfl
  have hfl : (flatC M).length = n * 3 := by rw [flatC_len, hml]
  have gcM : ∀ i, i < n → (M.getD i eV).1 = gc L i := fun i hi => by
    have := pcs_get M i (by omega)
    rw [hM] at this
    exact this.symm
  have d0 : w.cell? ⟨g, 0, none⟩ = some (.int .i64 (gc L 0).f) := by
    have := (ho.row.cellAt (0 * 3) (by omega)).trans (flatC_get M 0 (by omega)).1
    rw [gcM 0 (by omega)] at this
    simpa using this
  have C1 := hide (fun wx (hb : Below w.heap.size w wx) => l6End_good (some ⟨g, 0, none⟩) L n c B wx hn (hs.below hb) hg B)
  have hfb := hg.f0
  have hfb1 := hg.f1
  have hEb : 0 ≤ lastEnd L n ∧ lastEnd L n ≤ 1000060 := by
    have hk := hg.ps (n - 1) (by omega)
    have hb := atg_bd L (n - 1) (fun j hj => (hg.ps j (by omega)).1)
    have h3 := cnt_le (gc L (n - 1)).s
    have h4 := hk.1.1
    unfold lastEnd
    rw [hk.2.1]
    omega
  obtain ⟨E, hE⟩ : ∃ E, E = lastEnd L n := ⟨_, rfl⟩
  obtain ⟨f0, hf0⟩ : ∃ f0, f0 = (gc L 0).f := ⟨_, rfl⟩
  rw [← hE] at C1 hEb
  rw [← hf0] at d0 hfb hfb1
  obtain ⟨W, hW⟩ : ∃ W, (w.alloc (.cells #[.slice (some ⟨g, 0, none⟩) n c, .int .i64 B] 29 (0, 0))).alloc (.cells #[.slice none 0 0, .int .i64 0] 29 (0, 0)) = W := ⟨_, rfl⟩
  have BW : Below w.heap.size w W := by rw [← hW]; exact ((Below.refl _ _).alloc (Nat.le_refl _) _).alloc (by simp) _
  have GB : Hid (W.heap[w.heap.size]? = some (.cells #[.slice (some ⟨g, 0, none⟩) n c, .int .i64 B] 29 (0, 0))) := by show _ = _; rw [← hW]; exact blk_first _ _ _
  have GZ : Hid (W.heap[w.heap.size + 1]? = some (.cells #[.slice none 0 0, .int .i64 0] 29 (0, 0))) := by show _ = _; rw [← hW]; exact blk_second _ _ _
  have hwW : w.heap.size + 1 < W.heap.size := (Array.getElem?_eq_some_iff.1 GZ.out).1
  obtain ⟨o0, o1, _, _⟩ := blkp GB.out
  obtain ⟨z0, z1, z2, z3⟩ := blkp GZ.out
  have dg := (BW.cell (p := ⟨g, 0, none⟩) (blk_lt d0)).trans d0
  have HBW := hide BW
  have HO := hide (ho.below BW)
  have HM := hide hM
  have HN := hide hn
  have HG := hide hg
  have HE := hide hE
  have HF0 := hide hf0
  have HWW := hide hW
  have HGM := hide gcM
  have hr20 : ¬ (20 : Int) < (r.size : Int) := by omega
  rw [← hE, ← hf0] at h60
  have hsb : (E - f0 == 60) = true := by simp; omega
  have hwr : IntKind.i64.wrap (E - f0) = E - f0 := wrap6 (by omega) (by omega)
  clear ho hM hn hg hE hf0 hW gcM hs d0 hml hfl BW
  go_enter Tryd.func34, Tryd.ntmps34
  go_upto_region 1 with fail
  rw [HWW.out]
  go_region_held3 (fun wx => (wx.cell? ⟨w.heap.size, 0, none⟩ = some (.slice (some ⟨g, 0, none⟩) n c) ∧ wx.cell? ⟨w.heap.size, 1, none⟩ = some (.int .i64 B) ∧ wx.cell? ⟨g, 0, none⟩ = some (.int .i64 f0)) ∧ Below W.heap.size W wx) (first | exact ⟨⟨o0, o1, dg⟩, (Below.refl _ _).drew⟩ | exact keep3 (by assumption) (by assumption) (Nat.le_refl _)) ((go_at_call 42; refine (C1.out _ (HBW.out.trans (Below.mono (by first | exact And.right (by assumption) | exact (Below.refl _ _).drew | exact Below.refl _ _) HBW.out.size))).mono ?_; rintro e w5 ⟨rfl, hb⟩))
  rename_i hHeld
  have hb5 := hHeld.2
  clear hHeld
  obtain ⟨o0', o1', _, _⟩ := blkp ((hb5.block w.heap.size (by omega)).trans GB.out)
  obtain ⟨z0', z1', z2', z3'⟩ := blkp ((hb5.block (w.heap.size + 1) (by omega)).trans GZ.out)
  have HB5 := hide (HBW.out.trans (hb5.mono HBW.out.size))
  clear hb5 o0 o1 z0 z1 z2 z3 dg
  go_wp2
  refine bodyPost_ret (v := .tuple #[.agg #[.slice (some ⟨g, 0, none⟩) n c, .int .i64 B], .bool false]) (by simp [results, Tryd.f34, go_sem, z0', z1']) rfl ⟨rfl, ?_⟩
  exact ((HB5.out.mono hbase).setCell (p := ⟨_, _, none⟩) (by show base ≤ w.heap.size + 1; omega) _).setCell (p := ⟨_, _, none⟩) (by show base ≤ w.heap.size + 1; omega) _
end Go.Proofs.YtdnmklcnlndmhazDoor.L6
