/-
  Contract: spec.l6Append where the last piece has room.
-/
import Derived.Test.YtdnmklcnlndmhazDoorL6SAppB
namespace Go.Proofs.YtdnmklcnlndmhazDoor.L6
open Go.RowKit L1
set_option linter.unusedVariables false

set_option maxRecDepth 100000 in
set_option maxHeartbeats 4000000 in
theorem l6Append_put (g : Nat) (L : List Pc) (M : List PV) (n c base : Nat) (B : Int) (r : ByteArray) (w : World) (ho : OwC w base (.slice (some ⟨g, 0, none⟩) n c) n M) (hM : pcs M = L) (hg : GoodG L B) (hbase : base ≤ w.heap.size) (hr : r.size ≤ 20) (h60 : lastEnd L n - (gc L 0).f ≠ 60) (hf : AppFits L r) : Calls Tryd.prog 34 #[.agg #[.slice (some ⟨g, 0, none⟩) n c, .int .i64 B], .string r] w fun e w' => e = .returned (.tuple #[.agg #[.slice (some ⟨g, 0, none⟩) n c, .int .i64 B], .bool true]) ∧ SlC w' (some ⟨g, 0, none⟩) (L.set (n - 1) (appP (endP L) r)) ∧ Below base w w' := by
  obtain ⟨L', hL'⟩ : ∃ L', L' = L.set (n - 1) (appP (endP L) r) := ⟨_, rfl⟩
  rw [← hL']
  have HL' := hide hL'
  clear hL'
  have hn : L.length = n := by rw [← hM]; simp [ho.len]
  have hs : SlC w (some ⟨g, 0, none⟩) L := by rw [← hM]; exact ho.sl
  have hn1 : 1 ≤ n := by have := hg.one; omega
  have hn20 : n ≤ 20 := by have := hg.many; omega
  have hn0I : 0 < n := by omega
  have hml := ho.len
  have hgb := own_ltC ho.row g rfl
  have hfl : (flatC M).length = n * 3 := by rw [flatC_len, hml]
  have gcM : ∀ i, i < n → (M.getD i eV).1 = gc L i := fun i hi => by
    have := pcs_get M i (by omega)
    rw [hM] at this
    exact this.symm
  have d0 : w.cell? ⟨g, 0, none⟩ = some (.int .i64 (gc L 0).f) := by
    have := (ho.row.cellAt (0 * 3) (by omega)).trans (flatC_get M 0 (by omega)).1
    rw [gcM 0 (by omega)] at this
    simpa using this
  have C1 := hide (fun wx (hb : Below w.heap.size w wx) => l6End_good (some ⟨g, 0, none⟩) L n c B wx hn (hs.below hb) hg B)
  have hfb := hg.f0
  have hfb1 := hg.f1
  have hEb : 0 ≤ lastEnd L n ∧ lastEnd L n ≤ 1000060 := by
    have hk := hg.ps (n - 1) (by omega)
    have hb := atg_bd L (n - 1) (fun j hj => (hg.ps j (by omega)).1)
    have h3 := cnt_le (gc L (n - 1)).s
    have h4 := hk.1.1
    unfold lastEnd
    rw [hk.2.1]
    omega
  obtain ⟨E, hE⟩ : ∃ E, E = lastEnd L n := ⟨_, rfl⟩
  obtain ⟨f0, hf0⟩ : ∃ f0, f0 = (gc L 0).f := ⟨_, rfl⟩
  rw [← hE] at C1 hEb
  rw [← hf0] at d0 hfb hfb1
  obtain ⟨W, hW⟩ : ∃ W, (w.alloc (.cells #[.slice (some ⟨g, 0, none⟩) n c, .int .i64 B] 29 (0, 0))).alloc (.cells #[.slice none 0 0, .int .i64 0] 29 (0, 0)) = W := ⟨_, rfl⟩
  have BW : Below w.heap.size w W := by rw [← hW]; exact ((Below.refl _ _).alloc (Nat.le_refl _) _).alloc (by simp) _
  have GB : Hid (W.heap[w.heap.size]? = some (.cells #[.slice (some ⟨g, 0, none⟩) n c, .int .i64 B] 29 (0, 0))) := by show _ = _; rw [← hW]; exact blk_first _ _ _
  have GZ : Hid (W.heap[w.heap.size + 1]? = some (.cells #[.slice none 0 0, .int .i64 0] 29 (0, 0))) := by show _ = _; rw [← hW]; exact blk_second _ _ _
  have hwW : w.heap.size + 1 < W.heap.size := (Array.getElem?_eq_some_iff.1 GZ.out).1
  obtain ⟨o0, o1, _, _⟩ := blkp GB.out
  obtain ⟨z0, z1, z2, z3⟩ := blkp GZ.out
  have dg := (BW.cell (p := ⟨g, 0, none⟩) (blk_lt d0)).trans d0
  have HBW := hide BW
  have HO := hide (ho.below BW)
  have HM := hide hM
  have HN := hide hn
  have HG := hide hg
  have HE := hide hE
  have HF0 := hide hf0
  have HWW := hide hW
  have HGM := hide gcM
  have hr20 : ¬ (20 : Int) < (r.size : Int) := by omega
  rw [← hE, ← hf0] at h60
  have hsb : (E - f0 == 60) = false := by simp only [beq_eq_false_iff_ne]; exact h60
  have hwr : IntKind.i64.wrap (E - f0) = E - f0 := wrap6 (by omega) (by omega)
  have C3 := hide (fun wx => l1Varint_any (r.size : Int) wx (by omega) (by omega))
  obtain ⟨P, hP⟩ : ∃ P, P = strOfNums (vd (zig (r.size : Int))) := ⟨_, rfl⟩
  rw [← hP] at C3
  obtain ⟨R, hR⟩ : ∃ R, R = rec r := ⟨_, rfl⟩
  have hPr : P ++ r = R := by rw [hR, hP]; rfl
  have hRs : R.size = 1 + r.size := by rw [hR]; exact rec_size r hr
  have hPs : P.size + r.size = R.size := by rw [← hPr, ByteArray.size_append]
  have qa : ∀ w : World, (Op.stringOp .add P r).run Tryd.prog w = .ok (.string R) w := fun w => by rw [← hPr]; exact run_string_add_sum w _ _ (by omega)
  have HRR := hide hR
  obtain ⟨m, hm'⟩ : ∃ m, m = n - 1 := ⟨_, rfl⟩
  have hnm : (n : Int) - 1 = (m : Int) := by omega
  have hmn : (m : Int) < (n : Int) := by omega
  have hm0 : (0 : Int) ≤ (m : Int) := by omega
  have hmN : m < n := by omega
  have hwm : IntKind.i64.wrap (m : Int) = (m : Int) := wrap6 (by omega) (by omega)
  obtain ⟨f1, f2, f3⟩ := flatC_get M m (by omega)
  obtain ⟨ai, ci, hv, hsl, _⟩ := own_form (ho.idx m hmN)
  rw [hv] at f3
  rw [gcM m hmN] at f1 f2 f3
  have d1 := (ho.row.cellAt (m * 3) (by omega)).trans f1
  have d2 := (ho.row.cellAt (m * 3 + 1) (by omega)).trans f2
  have d3 := (ho.row.cellAt (m * 3 + 2) (by omega)).trans f3
  have hlp : endP L = gc L m := by show gc L (L.length - 1) = _; rw [hn, hm']
  have hgp := (hg.ps m (by rw [hn]; exact hmN)).1
  have hfit := (show (gc L m).s.size + (1 + r.size) ≤ 60 by have h := hf; unfold AppFits at h; rw [hlp] at h; exact h)
  obtain ⟨p, hp⟩ : ∃ p, p = gc L m := ⟨_, rfl⟩
  rw [← hp] at d1 d2 d3 hlp hgp hfit
  obtain ⟨f, s, x⟩ := p
  simp only at d1 d2 d3 hfit
  have hs60 := hgp.1
  simp only at hs60
  obtain ⟨xl, hxl⟩ : ∃ xl, xl = x.length := ⟨_, rfl⟩
  rw [← hxl] at d3
  have HLP := hide hlp
  have HGP := hide hgp
  have HD : Hid (w.cell? ⟨g, m * 3, none⟩ = some (.int .i64 f) ∧ w.cell? ⟨g, m * 3 + 1, none⟩ = some (.string s) ∧ w.cell? ⟨g, m * 3 + 2, none⟩ = some (.slice ai xl ci)) := ⟨d1, d2, d3⟩
  have hsum : IntKind.i64.wrap ((s.size : Int) + (R.size : Int)) = (s.size : Int) + (R.size : Int) := wrap6 (by omega) (by omega)
  clear ho hM hn hg hE hf0 hW gcM hs d0 hml hfl BW hP hR hPr f1 f2 f3 hv hsl d1 d2 d3 hlp hgp hp hxl hm'
  go_enter Tryd.func34, Tryd.ntmps34
  go_upto_region 1 with fail
  rw [HWW.out]
  go_region_held3 (fun wx => (wx.cell? ⟨w.heap.size, 0, none⟩ = some (.slice (some ⟨g, 0, none⟩) n c) ∧ wx.cell? ⟨w.heap.size, 1, none⟩ = some (.int .i64 B) ∧ wx.cell? ⟨g, 0, none⟩ = some (.int .i64 f0)) ∧ Below W.heap.size W wx) (first | exact ⟨⟨o0, o1, dg⟩, (Below.refl _ _).drew⟩ | exact keep3 (by assumption) (by assumption) (Nat.le_refl _)) ((go_at_call 42; refine (C1.out _ (HBW.out.trans (Below.mono (by first | exact And.right (by assumption) | exact (Below.refl _ _).drew | exact Below.refl _ _) HBW.out.size))).mono ?_; rintro e w5 ⟨rfl, hb⟩))
  rename_i hHeld
  have hb5 := hHeld.2
  clear hHeld
  obtain ⟨o0', o1', _, _⟩ := blkp ((hb5.block w.heap.size (by omega)).trans GB.out)
  have H5 := hide hb5
  have BW5 := hide (HBW.out.trans (hb5.mono HBW.out.size))
  have hz5 := hb5.size
  clear hb5 o0 o1 z0 z1 z2 z3 dg
  go_wp2_with fail
  refine (C3.out _).mono ?_
  rintro e w6 ⟨rfl, hb6⟩
  have H6 := hide (H5.out.trans (hb6.mono H5.out.size))
  have BW6 := hide (BW5.out.trans (hb6.mono BW5.out.size))
  have hz6 := H6.out.size
  clear hb6 o0' o1'
  obtain ⟨o0, o1, _, _⟩ := blkp ((H6.out.block w.heap.size (by omega)).trans GB.out)
  have e1 := (BW6.out.cell (p := ⟨g, m * 3, none⟩) hgb.2).trans HD.out.1
  have e2 := (BW6.out.cell (p := ⟨g, m * 3 + 1, none⟩) hgb.2).trans HD.out.2.1
  have e3 := (BW6.out.cell (p := ⟨g, m * 3 + 2, none⟩) hgb.2).trans HD.out.2.2
  go_upto_region 5 with fail
  generalize hV : w6.alloc (.cells #[.int .i64 f, .string s, .slice ai xl ci] 51 (0, 0)) = V
  have BV : Below w6.heap.size w6 V := by rw [← hV]; exact (Below.refl _ _).alloc (Nat.le_refl _) _
  have GP : Hid (V.heap[w6.heap.size]? = some (.cells #[.int .i64 f, .string s, .slice ai xl ci] 51 (0, 0))) := by show _ = _; rw [← hV]; exact blk_new _ _
  obtain ⟨p0, p1, p2, _, _, _⟩ := blk3 GP.out
  have HWV := hide (H6.out.trans (BV.mono H6.out.size))
  have BV6 := hide (BW6.out.trans (BV.mono BW6.out.size))
  have hzV := BV.size
  have hwV : w6.heap.size < V.heap.size := (Array.getElem?_eq_some_iff.1 GP.out).1
  have GBV := hide ((HWV.out.block w.heap.size (by omega)).trans GB.out)
  have GZV := hide ((HWV.out.block (w.heap.size + 1) (by omega)).trans GZ.out)
  have HOV := hide (HO.out.below HWV.out)
  clear o0 o1 e1 e2 e3
  obtain ⟨o0, o1, _, _⟩ := blkp GBV.out
  obtain ⟨z0, z1, z2, z3⟩ := blkp GZV.out
  have HV := hide hV
  clear hV BV
  have hemp := empty6 s
  have hle60 : ¬ (60 : Int) < (s.size : Int) + (R.size : Int) := by omega
  obtain ⟨Y, hY⟩ : ∃ Y, Y = s ++ R := ⟨_, rfl⟩
  have hYs : Y.size = s.size + R.size := by rw [hY, ByteArray.size_append]
  have q2 : ∀ w : World, (Op.stringOp .add s R).run Tryd.prog w = .ok (.string Y) w := fun w => by rw [hY]; exact run_string_add_sum w _ _ (by omega)
  have HYY := hide hY
  obtain ⟨N, hN⟩ : ∃ N, N = (ix Y).length := ⟨_, rfl⟩
  have C6 := hide (fun wx (hb : Below V.heap.size V wx) => (l6Piece_any f Y wx (by omega)).mono (R' := fun e w2 => ∃ a2 q2, e = .returned (.agg #[.int .i64 f, .string Y, .slice a2 N q2]) ∧ (w2.ownsRow V.heap.size 3 1 (.slice a2 N q2) N ((ix Y).map (Value.int .i64)) ∧ Below V.heap.size V w2) ∧ (∃ u0 u1 u2, w2.cell? ⟨g, m * 3, none⟩ = some u0 ∧ w2.cell? ⟨g, m * 3 + 1, none⟩ = some u1 ∧ w2.cell? ⟨g, m * 3 + 2, none⟩ = some u2) ∧ (w2.frozen? ⟨g, m * 3, none⟩ = false ∧ w2.frozen? ⟨g, m * 3 + 1, none⟩ = false ∧ w2.frozen? ⟨g, m * 3 + 2, none⟩ = false) ∧ (w2.cell? ⟨w.heap.size, 0, none⟩ = some (.slice (some ⟨g, 0, none⟩) n c) ∧ w2.cell? ⟨w.heap.size, 1, none⟩ = some (.int .i64 B)) ∧ (w2.cell? ⟨w6.heap.size, 0, none⟩ = some (.int .i64 f) ∧ w2.cell? ⟨w6.heap.size, 1, none⟩ = some (.string s))) (by
    rintro e w2 ⟨v2, rfl, ho2, hb2⟩
    have hb3 := hb.trans (hb2.mono hb.size)
    rw [← hN] at ho2
    obtain ⟨a2, q2, rfl, _, _⟩ := own_form ho2
    have R2 := (HOV.out.below hb3).row
    have hfl : (flatC M).length = n * 3 := by rw [flatC_len, HOV.out.len]
    obtain ⟨oo0, oo1, _, _⟩ := blkp ((hb3.block w.heap.size (by omega)).trans GBV.out)
    obtain ⟨pp0, pp1, _, _, _, _⟩ := blk3 ((hb3.block w6.heap.size hwV).trans GP.out)
    exact ⟨a2, q2, rfl, ⟨own_baseC ho2 hb.size, hb3⟩, ⟨_, _, _, (R2.cellAt (m * 3) (by omega)).trans (List.getElem?_eq_getElem (by omega)), (R2.cellAt (m * 3 + 1) (by omega)).trans (List.getElem?_eq_getElem (by omega)), (R2.cellAt (m * 3 + 2) (by omega)).trans (List.getElem?_eq_getElem (by omega))⟩, ⟨R2.frozenAt _, R2.frozenAt _, R2.frozenAt _⟩, ⟨oo0, oo1⟩, pp0, pp1⟩))
  have HNN := hide hN
  have hbV : base ≤ V.heap.size := by omega
  have PP : Hid (∀ w2 a2 q2, (w2.ownsRow V.heap.size 3 1 (.slice a2 N q2) N ((ix Y).map (Value.int .i64)) ∧ Below V.heap.size V w2) → PutS w base g n c m B M ⟨f, Y, ix Y⟩ (((w2.setCell ⟨g, m * 3, none⟩ (.int .i64 f)).setCell ⟨g, m * 3 + 1, none⟩ (.string Y)).setCell ⟨g, m * 3 + 2, none⟩ (.slice a2 N q2)) ∧ w2.grownBy (((w2.setCell ⟨g, m * 3, none⟩ (.int .i64 f)).setCell ⟨g, m * 3 + 1, none⟩ (.string Y)).setCell ⟨g, m * 3 + 2, none⟩ (.slice a2 N q2)) (some g)) := by
    intro w2 a2 q2 h
    have P := (HOV.out.below h.2).put m hmN ⟨f, Y, ix Y⟩ (.slice a2 N q2) (by show w2.ownsRow _ _ _ _ (ix Y).length _; rw [← HNN.out]; exact own_baseC h.1 hbV) (fun i hi _ bb hbb e => by
      have h1 := (own_ltC h.1 bb hbb).1
      have h2 := (own_ltC (HOV.out.idx i hi) bb e).2
      omega)
    have hs9 := h.2.size
    refine ⟨?_, P.2⟩
    exact ⟨⟨_, P.1⟩, ((BV6.out.mono hbase).trans (h.2.mono hbV)).grown P.2 (by omega) (fun q hq => by cases hq; exact hgb.1), (P.2.block (w.heap.size + 1) (by omega) (by simp; omega)).trans ((h.2.block _ (by omega)).trans GZV.out), (P.2.block w.heap.size (by omega) (by simp; omega)).trans ((h.2.block _ (by omega)).trans GBV.out)⟩
  clear hN C1 C3 hY
  by_cases hs0 : s.size = 0
  · have he : s.toList.isEmpty = true := by rw [hemp]; simpa using hs0
    clear hemp
    go_upto_region 10 with (first | (rw [HV.out]) | fail)
    first | rw [HV.out] | skip
    go_cut [6] (fun t wx => t = .string R ∧ PutS w base g n c m B M ⟨f, Y, ix Y⟩ wx)
    case first =>
      refine wp_region_held_drew (S := (fun wx => wx.cell? ⟨w.heap.size, 0, none⟩ = some (.slice (some ⟨g, 0, none⟩) n c) ∧ wx.cell? ⟨w6.heap.size, 0, none⟩ = some (.int .i64 f) ∧ wx.cell? ⟨w6.heap.size, 1, none⟩ = some (.string s))) (by kernel_rfl) ⟨o0, p0, p1⟩ (fun hHeld => ?_)
      refine wpAnyH_take (i := 0) (v := ?v1) rfl (by kernel_rfl) (by kernel_rfl) (by kernel_rfl) (fun _ _ _ h => h) (Or.inl ⟨by rfl, ?y1⟩) (by assumption) ?r1
      case y1 => (intro w hSw; (try dsimp only at hSw); go_simp; try (with_reducible rfl))
      simp only [List.getElem_toArray, List.getElem_cons_zero, Act.put, List.setIfInBounds_toArray, List.set_cons_zero, List.set_cons_succ]
      refine wpAnyH_take (i := 1) (v := ?v2) rfl (by kernel_rfl) (by kernel_rfl) (by kernel_rfl) (fun _ _ _ h => h) (Or.inl ⟨by rfl, ?y2⟩) (by assumption) ?r2
      case y2 => (intro w hSw; (try dsimp only at hSw); go_simp; try (with_reducible rfl))
      simp only [List.getElem_toArray, List.getElem_cons_succ, List.getElem_cons_zero, Act.put, List.setIfInBounds_toArray, List.set_cons_zero, List.set_cons_succ]
      refine wpAnyH_take (i := 2) (v := ?v3) rfl (by kernel_rfl) (by kernel_rfl) (by kernel_rfl) (fun _ _ _ h => h) (Or.inl ⟨by rfl, ?y3⟩) (by assumption) ?r3
      case y3 => (intro w hSw; (try dsimp only at hSw); go_simp; try (with_reducible rfl))
      simp only [List.getElem_toArray, List.getElem_cons_succ, List.getElem_cons_zero, Act.put, List.setIfInBounds_toArray, List.set_cons_zero, List.set_cons_succ]
      refine wpAnyH_take (i := 3) (v := ?v4) rfl (by kernel_rfl) (by kernel_rfl) (by kernel_rfl) (fun _ _ _ h => h) (Or.inl ⟨by rfl, ?y4⟩) (by assumption) ?r4
      case y4 => (intro w hSw; (try dsimp only at hSw); go_simp; try (with_reducible rfl))
      simp only [List.getElem_toArray, List.getElem_cons_succ, List.getElem_cons_zero, Act.put, List.setIfInBounds_toArray, List.set_cons_zero, List.set_cons_succ]
      refine wpAnyH_take (i := 4) (v := ?v5) rfl (by kernel_rfl) (by kernel_rfl) (by kernel_rfl) (fun _ _ _ h => h) (Or.inl ⟨by rfl, ?y5⟩) (by assumption) ?r5
      case y5 => (intro w hSw; (try dsimp only at hSw); go_simp; try (with_reducible rfl))
      simp only [List.getElem_toArray, List.getElem_cons_succ, List.getElem_cons_zero, Act.put, List.setIfInBounds_toArray, List.set_cons_zero, List.set_cons_succ]
      refine wpAnyH_take (i := 5) (v := ?v6) rfl (by kernel_rfl) (by kernel_rfl) (by kernel_rfl) (fun _ _ _ h => h) (Or.inl ⟨by rfl, ?y6⟩) (by assumption) ?r6
      case y6 => (intro w hSw; (try dsimp only at hSw); go_simp; try (with_reducible rfl))
      simp only [List.getElem_toArray, List.getElem_cons_succ, List.getElem_cons_zero, Act.put, List.setIfInBounds_toArray, List.set_cons_zero, List.set_cons_succ]
      refine wpAnyH_take (i := 6) (v := ?v7) rfl (by kernel_rfl) (by kernel_rfl) (by kernel_rfl) (fun _ _ _ h => h) (Or.inl ⟨by rfl, ?y7⟩) (by assumption) ?r7
      case y7 => (intro w hSw; (try dsimp only at hSw); go_simp; try (with_reducible rfl))
      simp only [List.getElem_toArray, List.getElem_cons_succ, List.getElem_cons_zero, Act.put, List.setIfInBounds_toArray, List.set_cons_zero, List.set_cons_succ]
      refine wpAnyH_take (i := 7) (v := ?v8) rfl (by kernel_rfl) (by kernel_rfl) (by kernel_rfl) (fun _ _ _ h => h) (Or.inl ⟨by rfl, ?y8⟩) (by assumption) ?r8
      case y8 => (intro w hSw; (try dsimp only at hSw); go_simp; try (with_reducible rfl))
      simp only [List.getElem_toArray, List.getElem_cons_succ, List.getElem_cons_zero, Act.put, List.setIfInBounds_toArray, List.set_cons_zero, List.set_cons_succ]
      refine wpAnyH_take (i := 8) (v := ?v9) rfl (by kernel_rfl) (by kernel_rfl) (by kernel_rfl) (fun _ _ _ h => h) (Or.inl ⟨by rfl, ?y9⟩) (by assumption) ?r9
      case y9 => (intro w hSw; (try dsimp only at hSw); go_simp; try (with_reducible rfl))
      simp only [List.getElem_toArray, List.getElem_cons_succ, List.getElem_cons_zero, Act.put, List.setIfInBounds_toArray, List.set_cons_zero, List.set_cons_succ]
      refine wpAnyH_take (i := 9) (v := ?v10) rfl (by kernel_rfl) (by kernel_rfl) (by kernel_rfl) (fun _ _ _ h => h) (Or.inl ⟨by rfl, ?y10⟩) (by assumption) ?r10
      case y10 => (intro w hSw; (try dsimp only at hSw); go_simp; try (with_reducible rfl))
      simp only [List.getElem_toArray, List.getElem_cons_succ, List.getElem_cons_zero, Act.put, List.setIfInBounds_toArray, List.set_cons_zero, List.set_cons_succ]
      refine wpAnyH_take (i := 10) (v := ?v11) rfl (by kernel_rfl) (by kernel_rfl) (by kernel_rfl) (fun _ _ _ h => h) (Or.inl ⟨by rfl, ?y11⟩) (by assumption) ?r11
      case y11 => (intro w hSw; (try dsimp only at hSw); go_simp; try (with_reducible rfl))
      simp only [List.getElem_toArray, List.getElem_cons_succ, List.getElem_cons_zero, Act.put, List.setIfInBounds_toArray, List.set_cons_zero, List.set_cons_succ]
      refine wpAnyH_take (i := 11) (v := ?v12) rfl (by kernel_rfl) (by kernel_rfl) (by kernel_rfl) (fun _ _ _ h => h) (Or.inl ⟨by rfl, ?y12⟩) (by assumption) ?r12
      case y12 => (intro w hSw; (try dsimp only at hSw); go_simp; try (with_reducible rfl))
      simp only [List.getElem_toArray, List.getElem_cons_succ, List.getElem_cons_zero, Act.put, List.setIfInBounds_toArray, List.set_cons_zero, List.set_cons_succ]
      refine wpAnyH_ready (rs := [12]) (by kernel_rfl) (by simp) ?_
      refine AllReadyH.cons rfl (fun K hK => ?_) AllReadyH.nil
      simp only [List.getElem_toArray, List.getElem_cons_succ, List.getElem_cons_zero]
      go_simp
      go_at_call 58
      refine (C6.out _ (by first | exact (Below.refl _ _).drew | exact Below.refl _ _)).mono ?_
      rintro e w2 ⟨a2, q2, rfl, ho2, ⟨u0, u1, u2, c0, c1, c2⟩, ⟨c3, c4, c5⟩, ⟨c6, c7⟩, c8, c9⟩
      dsimp only
      refine hK.out _ _ ?_ (fun hHeld => ?_)
      · exact ⟨c6, c8, c9⟩
      clear hK K
      try simp only [Act.put, List.setIfInBounds_toArray, List.set_cons_zero, List.set_cons_succ]
      refine wpAnyH_take (i := 13) (v := ?v13) rfl (by kernel_rfl) (by kernel_rfl) (by kernel_rfl) (fun _ _ _ h => h) (Or.inl ⟨by rfl, ?y13⟩) (by assumption) ?r13
      case y13 => (intro w hSw; (try dsimp only at hSw); go_simp; try (with_reducible rfl))
      simp only [List.getElem_toArray, List.getElem_cons_succ, List.getElem_cons_zero, Act.put, List.setIfInBounds_toArray, List.set_cons_zero, List.set_cons_succ]
      refine wpAnyH_ready (rs := [14]) (by kernel_rfl) (by simp) ?_
      refine AllReadyH.cons rfl (fun K hK => ?_) AllReadyH.nil
      simp only [List.getElem_toArray, List.getElem_cons_succ, List.getElem_cons_zero]
      obtain ⟨hps, hpg⟩ := PP.out _ _ _ ho2
      have HPS := hide hps
      have HPG := hide hpg
      clear hps hpg
      go_simp
      refine hK.out _ _ ?_ (fun hHeld => ?_)
      · exact ⟨grown_cell HPG.out ⟨w.heap.size, 0, none⟩ c6 (by simp; omega), grown_cell HPG.out ⟨w6.heap.size, 0, none⟩ c8 (by simp; omega), grown_cell HPG.out ⟨w6.heap.size, 1, none⟩ c9 (by simp; omega)⟩
      clear hK K
      try simp only [Act.put, List.setIfInBounds_toArray, List.set_cons_zero, List.set_cons_succ]
      refine wpAnyH_done (by kernel_rfl) ?_ _
      go_wp2_with fail
      go_meet
      case rel => exact ⟨rfl, HPS.out⟩
    case rest =>
      obtain ⟨rfl, hta⟩ := hcut
      obtain ⟨u, hown⟩ := hta.own
      have hpc : pcs (M.set m (⟨f, Y, ix Y⟩, u)) = L.set m ⟨f, Y, ix Y⟩ := by rw [← HM.out]; show List.map _ _ = _; rw [List.map_set]
      have hnm1 : n - 1 = m := by omega
      have hL2 : L' = L.set m ⟨f, Y, ix Y⟩ := by
        rw [HL'.out, hnm1]
        unfold appP
        rw [HLP.out, HYY.out, HRR.out]
      have HL2 := hide hL2
      have HPC := hide hpc
      have HOW := hide hown
      have HTA := hide hta
      clear z0 z1 z2 z3 o0 o1 p0 p1 p2
      obtain ⟨z0, z1, z2, z3⟩ := blkp hta.res
      obtain ⟨o0, o1, _, _⟩ := blkp hta.out
      clear hta hown hpc hL2 C6 PP
      go_wp2
      refine bodyPost_ret (v := .tuple #[.agg #[.slice (some ⟨g, 0, none⟩) n c, .int .i64 B], .bool true]) (by simp [results, Tryd.f34, go_sem, z0, z1]) rfl ⟨rfl, ?_, ?_⟩
      · rw [HL2.out, ← HPC.out]
        exact (HOW.out.setB2 HTA.out.res piece_log int_log).sl
      · exact (HTA.out.bel.setCell (p := ⟨_, _, none⟩) (by show base ≤ w.heap.size + 1; omega) _).setCell (p := ⟨_, _, none⟩) (by show base ≤ w.heap.size + 1; omega) _
  · have he : s.toList.isEmpty = false := by rw [hemp]; simpa using hs0
    clear hemp
    go_upto_region 10 with (first | (rw [HV.out]) | fail)
    first | rw [HV.out] | skip
    go_cut [6] (fun t wx => t = .string R ∧ PutS w base g n c m B M ⟨f, Y, ix Y⟩ wx)
    case first =>
      refine wp_region_held_drew (S := (fun wx => wx.cell? ⟨w.heap.size, 0, none⟩ = some (.slice (some ⟨g, 0, none⟩) n c) ∧ wx.cell? ⟨w6.heap.size, 0, none⟩ = some (.int .i64 f) ∧ wx.cell? ⟨w6.heap.size, 1, none⟩ = some (.string s))) (by kernel_rfl) ⟨o0, p0, p1⟩ (fun hHeld => ?_)
      refine wpAnyH_take (i := 0) (v := ?v14) rfl (by kernel_rfl) (by kernel_rfl) (by kernel_rfl) (fun _ _ _ h => h) (Or.inl ⟨by rfl, ?y14⟩) (by assumption) ?r14
      case y14 => (intro w hSw; (try dsimp only at hSw); go_simp; try (with_reducible rfl))
      simp only [List.getElem_toArray, List.getElem_cons_zero, Act.put, List.setIfInBounds_toArray, List.set_cons_zero, List.set_cons_succ]
      refine wpAnyH_take (i := 1) (v := ?v15) rfl (by kernel_rfl) (by kernel_rfl) (by kernel_rfl) (fun _ _ _ h => h) (Or.inl ⟨by rfl, ?y15⟩) (by assumption) ?r15
      case y15 => (intro w hSw; (try dsimp only at hSw); go_simp; try (with_reducible rfl))
      simp only [List.getElem_toArray, List.getElem_cons_succ, List.getElem_cons_zero, Act.put, List.setIfInBounds_toArray, List.set_cons_zero, List.set_cons_succ]
      refine wpAnyH_take (i := 2) (v := ?v16) rfl (by kernel_rfl) (by kernel_rfl) (by kernel_rfl) (fun _ _ _ h => h) (Or.inl ⟨by rfl, ?y16⟩) (by assumption) ?r16
      case y16 => (intro w hSw; (try dsimp only at hSw); go_simp; try (with_reducible rfl))
      simp only [List.getElem_toArray, List.getElem_cons_succ, List.getElem_cons_zero, Act.put, List.setIfInBounds_toArray, List.set_cons_zero, List.set_cons_succ]
      refine wpAnyH_take (i := 3) (v := ?v17) rfl (by kernel_rfl) (by kernel_rfl) (by kernel_rfl) (fun _ _ _ h => h) (Or.inl ⟨by rfl, ?y17⟩) (by assumption) ?r17
      case y17 => (intro w hSw; (try dsimp only at hSw); go_simp; try (with_reducible rfl))
      simp only [List.getElem_toArray, List.getElem_cons_succ, List.getElem_cons_zero, Act.put, List.setIfInBounds_toArray, List.set_cons_zero, List.set_cons_succ]
      refine wpAnyH_take (i := 4) (v := ?v18) rfl (by kernel_rfl) (by kernel_rfl) (by kernel_rfl) (fun _ _ _ h => h) (Or.inl ⟨by rfl, ?y18⟩) (by assumption) ?r18
      case y18 => (intro w hSw; (try dsimp only at hSw); go_simp; try (with_reducible rfl))
      simp only [List.getElem_toArray, List.getElem_cons_succ, List.getElem_cons_zero, Act.put, List.setIfInBounds_toArray, List.set_cons_zero, List.set_cons_succ]
      refine wpAnyH_take (i := 5) (v := ?v19) rfl (by kernel_rfl) (by kernel_rfl) (by kernel_rfl) (fun _ _ _ h => h) (Or.inl ⟨by rfl, ?y19⟩) (by assumption) ?r19
      case y19 => (intro w hSw; (try dsimp only at hSw); go_simp; try (with_reducible rfl))
      simp only [List.getElem_toArray, List.getElem_cons_succ, List.getElem_cons_zero, Act.put, List.setIfInBounds_toArray, List.set_cons_zero, List.set_cons_succ]
      refine wpAnyH_take (i := 6) (v := ?v20) rfl (by kernel_rfl) (by kernel_rfl) (by kernel_rfl) (fun _ _ _ h => h) (Or.inl ⟨by rfl, ?y20⟩) (by assumption) ?r20
      case y20 => (intro w hSw; (try dsimp only at hSw); go_simp; try (with_reducible rfl))
      simp only [List.getElem_toArray, List.getElem_cons_succ, List.getElem_cons_zero, Act.put, List.setIfInBounds_toArray, List.set_cons_zero, List.set_cons_succ]
      refine wpAnyH_take (i := 7) (v := ?v21) rfl (by kernel_rfl) (by kernel_rfl) (by kernel_rfl) (fun _ _ _ h => h) (Or.inl ⟨by rfl, ?y21⟩) (by assumption) ?r21
      case y21 => (intro w hSw; (try dsimp only at hSw); go_simp; try (with_reducible rfl))
      simp only [List.getElem_toArray, List.getElem_cons_succ, List.getElem_cons_zero, Act.put, List.setIfInBounds_toArray, List.set_cons_zero, List.set_cons_succ]
      refine wpAnyH_take (i := 8) (v := ?v22) rfl (by kernel_rfl) (by kernel_rfl) (by kernel_rfl) (fun _ _ _ h => h) (Or.inl ⟨by rfl, ?y22⟩) (by assumption) ?r22
      case y22 => (intro w hSw; (try dsimp only at hSw); go_simp; try (with_reducible rfl))
      simp only [List.getElem_toArray, List.getElem_cons_succ, List.getElem_cons_zero, Act.put, List.setIfInBounds_toArray, List.set_cons_zero, List.set_cons_succ]
      refine wpAnyH_take (i := 9) (v := ?v23) rfl (by kernel_rfl) (by kernel_rfl) (by kernel_rfl) (fun _ _ _ h => h) (Or.inl ⟨by rfl, ?y23⟩) (by assumption) ?r23
      case y23 => (intro w hSw; (try dsimp only at hSw); go_simp; try (with_reducible rfl))
      simp only [List.getElem_toArray, List.getElem_cons_succ, List.getElem_cons_zero, Act.put, List.setIfInBounds_toArray, List.set_cons_zero, List.set_cons_succ]
      refine wpAnyH_take (i := 10) (v := ?v24) rfl (by kernel_rfl) (by kernel_rfl) (by kernel_rfl) (fun _ _ _ h => h) (Or.inl ⟨by rfl, ?y24⟩) (by assumption) ?r24
      case y24 => (intro w hSw; (try dsimp only at hSw); go_simp; try (with_reducible rfl))
      simp only [List.getElem_toArray, List.getElem_cons_succ, List.getElem_cons_zero, Act.put, List.setIfInBounds_toArray, List.set_cons_zero, List.set_cons_succ]
      refine wpAnyH_take (i := 11) (v := ?v25) rfl (by kernel_rfl) (by kernel_rfl) (by kernel_rfl) (fun _ _ _ h => h) (Or.inl ⟨by rfl, ?y25⟩) (by assumption) ?r25
      case y25 => (intro w hSw; (try dsimp only at hSw); go_simp; try (with_reducible rfl))
      simp only [List.getElem_toArray, List.getElem_cons_succ, List.getElem_cons_zero, Act.put, List.setIfInBounds_toArray, List.set_cons_zero, List.set_cons_succ]
      refine wpAnyH_ready (rs := [12]) (by kernel_rfl) (by simp) ?_
      refine AllReadyH.cons rfl (fun K hK => ?_) AllReadyH.nil
      simp only [List.getElem_toArray, List.getElem_cons_succ, List.getElem_cons_zero]
      go_simp
      go_at_call 58
      refine (C6.out _ (by first | exact (Below.refl _ _).drew | exact Below.refl _ _)).mono ?_
      rintro e w2 ⟨a2, q2, rfl, ho2, ⟨u0, u1, u2, c0, c1, c2⟩, ⟨c3, c4, c5⟩, ⟨c6, c7⟩, c8, c9⟩
      dsimp only
      refine hK.out _ _ ?_ (fun hHeld => ?_)
      · exact ⟨c6, c8, c9⟩
      clear hK K
      try simp only [Act.put, List.setIfInBounds_toArray, List.set_cons_zero, List.set_cons_succ]
      refine wpAnyH_take (i := 13) (v := ?v26) rfl (by kernel_rfl) (by kernel_rfl) (by kernel_rfl) (fun _ _ _ h => h) (Or.inl ⟨by rfl, ?y26⟩) (by assumption) ?r26
      case y26 => (intro w hSw; (try dsimp only at hSw); go_simp; try (with_reducible rfl))
      simp only [List.getElem_toArray, List.getElem_cons_succ, List.getElem_cons_zero, Act.put, List.setIfInBounds_toArray, List.set_cons_zero, List.set_cons_succ]
      refine wpAnyH_ready (rs := [14]) (by kernel_rfl) (by simp) ?_
      refine AllReadyH.cons rfl (fun K hK => ?_) AllReadyH.nil
      simp only [List.getElem_toArray, List.getElem_cons_succ, List.getElem_cons_zero]
      obtain ⟨hps, hpg⟩ := PP.out _ _ _ ho2
      have HPS := hide hps
      have HPG := hide hpg
      clear hps hpg
      go_simp
      refine hK.out _ _ ?_ (fun hHeld => ?_)
      · exact ⟨grown_cell HPG.out ⟨w.heap.size, 0, none⟩ c6 (by simp; omega), grown_cell HPG.out ⟨w6.heap.size, 0, none⟩ c8 (by simp; omega), grown_cell HPG.out ⟨w6.heap.size, 1, none⟩ c9 (by simp; omega)⟩
      clear hK K
      try simp only [Act.put, List.setIfInBounds_toArray, List.set_cons_zero, List.set_cons_succ]
      refine wpAnyH_done (by kernel_rfl) ?_ _
      go_wp2_with fail
      go_meet
      case rel => exact ⟨rfl, HPS.out⟩
    case rest =>
      obtain ⟨rfl, hta⟩ := hcut
      obtain ⟨u, hown⟩ := hta.own
      have hpc : pcs (M.set m (⟨f, Y, ix Y⟩, u)) = L.set m ⟨f, Y, ix Y⟩ := by rw [← HM.out]; show List.map _ _ = _; rw [List.map_set]
      have hnm1 : n - 1 = m := by omega
      have hL2 : L' = L.set m ⟨f, Y, ix Y⟩ := by
        rw [HL'.out, hnm1]
        unfold appP
        rw [HLP.out, HYY.out, HRR.out]
      have HL2 := hide hL2
      have HPC := hide hpc
      have HOW := hide hown
      have HTA := hide hta
      clear z0 z1 z2 z3 o0 o1 p0 p1 p2
      obtain ⟨z0, z1, z2, z3⟩ := blkp hta.res
      obtain ⟨o0, o1, _, _⟩ := blkp hta.out
      clear hta hown hpc hL2 C6 PP
      go_wp2
      refine bodyPost_ret (v := .tuple #[.agg #[.slice (some ⟨g, 0, none⟩) n c, .int .i64 B], .bool true]) (by simp [results, Tryd.f34, go_sem, z0, z1]) rfl ⟨rfl, ?_, ?_⟩
      · rw [HL2.out, ← HPC.out]
        exact (HOW.out.setB2 HTA.out.res piece_log int_log).sl
      · exact (HTA.out.bel.setCell (p := ⟨_, _, none⟩) (by show base ≤ w.heap.size + 1; omega) _).setCell (p := ⟨_, _, none⟩) (by show base ≤ w.heap.size + 1; omega) _
end Go.Proofs.YtdnmklcnlndmhazDoor.L6
