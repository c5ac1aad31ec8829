/-
  Contract: spec.l6Append where no piece is left.
-/
import Derived.Test.YtdnmklcnlndmhazDoorL6SAppB
namespace Go.Proofs.YtdnmklcnlndmhazDoor.L6
open Go.RowKit L1
set_option linter.unusedVariables false

set_option maxRecDepth 100000 in
set_option maxHeartbeats 4000000 in
theorem l6Append_full (g : Nat) (L : List Pc) (M : List PV) (n c base : Nat) (B : Int) (r : ByteArray) (w : World) (ho : OwC w base (.slice (some ⟨g, 0, none⟩) n c) n M) (hM : pcs M = L) (hg : GoodG L B) (hbase : base ≤ w.heap.size) (hr : r.size ≤ 20) (h60 : lastEnd L n - (gc L 0).f ≠ 60) (hf : ¬ AppFits L r) (h20 : n = 20) : Calls Tryd.prog 34 #[.agg #[.slice (some ⟨g, 0, none⟩) n c, .int .i64 B], .string r] w fun e w' => e = .returned (.tuple #[.agg #[.slice (some ⟨g, 0, none⟩) n c, .int .i64 B], .bool false]) ∧ Below base w w' := by
  have H20 := hide h20
  clear h20
  have hn : L.length = n := by rw [← hM]; simp [ho.len]
  have hs : SlC w (some ⟨g, 0, none⟩) L := by rw [← hM]; exact ho.sl
  have hn1 : 1 ≤ n := by have := hg.one; omega
  have hn20 : n ≤ 20 := by have := hg.many; omega
  have hn0I : 0 < n := by omega
  have hml := ho.len
  have hgb := own_ltC ho.row g rfl
  have hfl : (flatC M).length = n * 3 := by rw [flatC_len, hml]
  have gcM : ∀ i, i < n → (M.getD i eV).1 = gc L i := fun i hi => by
    have := pcs_get M i (by omega)
    rw [hM] at this
    exact this.symm
  have d0 : w.cell? ⟨g, 0, none⟩ = some (.int .i64 (gc L 0).f) := by
    have := (ho.row.cellAt (0 * 3) (by omega)).trans (flatC_get M 0 (by omega)).1
    rw [gcM 0 (by omega)] at this
    simpa using this
  have C1 := hide (fun wx (hb : Below w.heap.size w wx) => l6End_good (some ⟨g, 0, none⟩) L n c B wx hn (hs.below hb) hg B)
  have hfb := hg.f0
  have hfb1 := hg.f1
  have hEb : 0 ≤ lastEnd L n ∧ lastEnd L n ≤ 1000060 := by
    have hk := hg.ps (n - 1) (by omega)
    have hb := atg_bd L (n - 1) (fun j hj => (hg.ps j (by omega)).1)
    have h3 := cnt_le (gc L (n - 1)).s
    have h4 := hk.1.1
    unfold lastEnd
    rw [hk.2.1]
    omega
  obtain ⟨E, hE⟩ : ∃ E, E = lastEnd L n := ⟨_, rfl⟩
  obtain ⟨f0, hf0⟩ : ∃ f0, f0 = (gc L 0).f := ⟨_, rfl⟩
  rw [← hE] at C1 hEb
  rw [← hf0] at d0 hfb hfb1
  obtain ⟨W, hW⟩ : ∃ W, (w.alloc (.cells #[.slice (some ⟨g, 0, none⟩) n c, .int .i64 B] 29 (0, 0))).alloc (.cells #[.slice none 0 0, .int .i64 0] 29 (0, 0)) = W := ⟨_, rfl⟩
  have BW : Below w.heap.size w W := by rw [← hW]; exact ((Below.refl _ _).alloc (Nat.le_refl _) _).alloc (by simp) _
  have GB : Hid (W.heap[w.heap.size]? = some (.cells #[.slice (some ⟨g, 0, none⟩) n c, .int .i64 B] 29 (0, 0))) := by show _ = _; rw [← hW]; exact blk_first _ _ _
  have GZ : Hid (W.heap[w.heap.size + 1]? = some (.cells #[.slice none 0 0, .int .i64 0] 29 (0, 0))) := by show _ = _; rw [← hW]; exact blk_second _ _ _
  have hwW : w.heap.size + 1 < W.heap.size := (Array.getElem?_eq_some_iff.1 GZ.out).1
  obtain ⟨o0, o1, _, _⟩ := blkp GB.out
  obtain ⟨z0, z1, z2, z3⟩ := blkp GZ.out
  have dg := (BW.cell (p := ⟨g, 0, none⟩) (blk_lt d0)).trans d0
  have HBW := hide BW
  have HO := hide (ho.below BW)
  have HM := hide hM
  have HN := hide hn
  have HG := hide hg
  have HE := hide hE
  have HF0 := hide hf0
  have HWW := hide hW
  have HGM := hide gcM
  have hr20 : ¬ (20 : Int) < (r.size : Int) := by omega
  rw [← hE, ← hf0] at h60
  have hsb : (E - f0 == 60) = false := by simp only [beq_eq_false_iff_ne]; exact h60
  have hwr : IntKind.i64.wrap (E - f0) = E - f0 := wrap6 (by omega) (by omega)
  have C3 := hide (fun wx => l1Varint_any (r.size : Int) wx (by omega) (by omega))
  obtain ⟨P, hP⟩ : ∃ P, P = strOfNums (vd (zig (r.size : Int))) := ⟨_, rfl⟩
  rw [← hP] at C3
  obtain ⟨R, hR⟩ : ∃ R, R = rec r := ⟨_, rfl⟩
  have hPr : P ++ r = R := by rw [hR, hP]; rfl
  have hRs : R.size = 1 + r.size := by rw [hR]; exact rec_size r hr
  have hPs : P.size + r.size = R.size := by rw [← hPr, ByteArray.size_append]
  have qa : ∀ w : World, (Op.stringOp .add P r).run Tryd.prog w = .ok (.string R) w := fun w => by rw [← hPr]; exact run_string_add_sum w _ _ (by omega)
  have HRR := hide hR
  obtain ⟨m, hm'⟩ : ∃ m, m = n - 1 := ⟨_, rfl⟩
  have hnm : (n : Int) - 1 = (m : Int) := by omega
  have hmn : (m : Int) < (n : Int) := by omega
  have hm0 : (0 : Int) ≤ (m : Int) := by omega
  have hmN : m < n := by omega
  have hwm : IntKind.i64.wrap (m : Int) = (m : Int) := wrap6 (by omega) (by omega)
  obtain ⟨f1, f2, f3⟩ := flatC_get M m (by omega)
  obtain ⟨ai, ci, hv, hsl, _⟩ := own_form (ho.idx m hmN)
  rw [hv] at f3
  rw [gcM m hmN] at f1 f2 f3
  have d1 := (ho.row.cellAt (m * 3) (by omega)).trans f1
  have d2 := (ho.row.cellAt (m * 3 + 1) (by omega)).trans f2
  have d3 := (ho.row.cellAt (m * 3 + 2) (by omega)).trans f3
  have hlp : endP L = gc L m := by show gc L (L.length - 1) = _; rw [hn, hm']
  have hgp := (hg.ps m (by rw [hn]; exact hmN)).1
  have hfit := (show ¬ (gc L m).s.size + (1 + r.size) ≤ 60 by have h := hf; unfold AppFits at h; rw [hlp] at h; exact h)
  obtain ⟨p, hp⟩ : ∃ p, p = gc L m := ⟨_, rfl⟩
  rw [← hp] at d1 d2 d3 hlp hgp hfit
  obtain ⟨f, s, x⟩ := p
  simp only at d1 d2 d3 hfit
  have hs60 := hgp.1
  simp only at hs60
  obtain ⟨xl, hxl⟩ : ∃ xl, xl = x.length := ⟨_, rfl⟩
  rw [← hxl] at d3
  have HLP := hide hlp
  have HGP := hide hgp
  have HD : Hid (w.cell? ⟨g, m * 3, none⟩ = some (.int .i64 f) ∧ w.cell? ⟨g, m * 3 + 1, none⟩ = some (.string s) ∧ w.cell? ⟨g, m * 3 + 2, none⟩ = some (.slice ai xl ci)) := ⟨d1, d2, d3⟩
  have hsum : IntKind.i64.wrap ((s.size : Int) + (R.size : Int)) = (s.size : Int) + (R.size : Int) := wrap6 (by omega) (by omega)
  clear ho hM hn hg hE hf0 hW gcM hs d0 hml hfl BW hP hR hPr f1 f2 f3 hv hsl d1 d2 d3 hlp hgp hp hxl hm'
  go_enter Tryd.func34, Tryd.ntmps34
  go_upto_region 1 with fail
  rw [HWW.out]
  go_region_held3 (fun wx => (wx.cell? ⟨w.heap.size, 0, none⟩ = some (.slice (some ⟨g, 0, none⟩) n c) ∧ wx.cell? ⟨w.heap.size, 1, none⟩ = some (.int .i64 B) ∧ wx.cell? ⟨g, 0, none⟩ = some (.int .i64 f0)) ∧ Below W.heap.size W wx) (first | exact ⟨⟨o0, o1, dg⟩, (Below.refl _ _).drew⟩ | exact keep3 (by assumption) (by assumption) (Nat.le_refl _)) ((go_at_call 42; refine (C1.out _ (HBW.out.trans (Below.mono (by first | exact And.right (by assumption) | exact (Below.refl _ _).drew | exact Below.refl _ _) HBW.out.size))).mono ?_; rintro e w5 ⟨rfl, hb⟩))
  rename_i hHeld
  have hb5 := hHeld.2
  clear hHeld
  obtain ⟨o0', o1', _, _⟩ := blkp ((hb5.block w.heap.size (by omega)).trans GB.out)
  have H5 := hide hb5
  have BW5 := hide (HBW.out.trans (hb5.mono HBW.out.size))
  have hz5 := hb5.size
  clear hb5 o0 o1 z0 z1 z2 z3 dg
  go_wp2_with fail
  refine (C3.out _).mono ?_
  rintro e w6 ⟨rfl, hb6⟩
  have H6 := hide (H5.out.trans (hb6.mono H5.out.size))
  have BW6 := hide (BW5.out.trans (hb6.mono BW5.out.size))
  have hz6 := H6.out.size
  clear hb6 o0' o1'
  obtain ⟨o0, o1, _, _⟩ := blkp ((H6.out.block w.heap.size (by omega)).trans GB.out)
  have e1 := (BW6.out.cell (p := ⟨g, m * 3, none⟩) hgb.2).trans HD.out.1
  have e2 := (BW6.out.cell (p := ⟨g, m * 3 + 1, none⟩) hgb.2).trans HD.out.2.1
  have e3 := (BW6.out.cell (p := ⟨g, m * 3 + 2, none⟩) hgb.2).trans HD.out.2.2
  go_upto_region 5 with fail
  generalize hV : w6.alloc (.cells #[.int .i64 f, .string s, .slice ai xl ci] 51 (0, 0)) = V
  have BV : Below w6.heap.size w6 V := by rw [← hV]; exact (Below.refl _ _).alloc (Nat.le_refl _) _
  have GP : Hid (V.heap[w6.heap.size]? = some (.cells #[.int .i64 f, .string s, .slice ai xl ci] 51 (0, 0))) := by show _ = _; rw [← hV]; exact blk_new _ _
  obtain ⟨p0, p1, p2, _, _, _⟩ := blk3 GP.out
  have HWV := hide (H6.out.trans (BV.mono H6.out.size))
  have BV6 := hide (BW6.out.trans (BV.mono BW6.out.size))
  have hzV := BV.size
  have hwV : w6.heap.size < V.heap.size := (Array.getElem?_eq_some_iff.1 GP.out).1
  have GBV := hide ((HWV.out.block w.heap.size (by omega)).trans GB.out)
  have GZV := hide ((HWV.out.block (w.heap.size + 1) (by omega)).trans GZ.out)
  have HOV := hide (HO.out.below HWV.out)
  clear o0 o1 e1 e2 e3
  obtain ⟨o0, o1, _, _⟩ := blkp GBV.out
  obtain ⟨z0, z1, z2, z3⟩ := blkp GZV.out
  have HV := hide hV
  clear hV BV
  have hs1 : ¬ s.size = 0 := by omega
  have he : s.toList.isEmpty = false := by rw [empty6]; simpa using hs1
  have hgt : (60 : Int) < (s.size : Int) + (R.size : Int) := by omega
  have hnn : ((n : Int) == 20) = true := by have := H20.out; simp; omega
  go_upto_region 7 with (first | (rw [HV.out]) | fail)
  first | rw [HV.out] | skip
  go_wp2
  refine bodyPost_ret (v := .tuple #[.agg #[.slice (some ⟨g, 0, none⟩) n c, .int .i64 B], .bool false]) (by simp [results, Tryd.f34, go_sem, z0, z1]) rfl ⟨rfl, ?_⟩
  exact ((BV6.out.mono hbase).setCell (p := ⟨_, _, none⟩) (by show base ≤ w.heap.size + 1; omega) _).setCell (p := ⟨_, _, none⟩) (by show base ≤ w.heap.size + 1; omega) _
end Go.Proofs.YtdnmklcnlndmhazDoor.L6
