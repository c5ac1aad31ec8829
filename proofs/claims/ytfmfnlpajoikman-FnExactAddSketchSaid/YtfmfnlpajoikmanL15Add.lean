/-
  Contract: impl.AddSketch.
-/
import Derived.Test.YtfmfnlpajoikmanL15Rows
import Derived.Test.YtfmfnlpajoikmanL15Good
import Derived.Test.YtfmfnlpajoikmanL15Cp
import Derived.Test.YtfmfnlpajoikmanL15AddM
namespace Go.Proofs.Ytfmfnlpajoikman.L15
open Go.RowKit L1 Own Sli
set_option linter.unusedVariables false

set_option maxRecDepth 100000 in
set_option maxHeartbeats 8000000 in
theorem implAddSketch_any (a : Option Addr) (L : List (List Int)) (n cap : Nat) (T : Int) (s : ByteArray) (many : Int) (w : World) (hn : L.length = n) (hn2 : n ≤ 1048576) (hs : SlSI w a L) (hsz : ∀ i, i < L.length → (L.getD i []).length ≤ 1048576) (hsS : s.size ≤ 9223372036854775807) (ok : Bool) (L' : List (List Int)) (T' : Int) (hr : AddIs (AddOk L T s many) (addA L s many) (T + many) ok L' T') :
    Calls Try.prog 12 #[.agg #[.slice a n cap, .int .i64 T], .string s, .int .i64 many] w fun e w' => ∃ v, e = .returned (.tuple #[.agg #[v, .int .i64 T'], .bool ok]) ∧ RH w w' v L' := by
  have BX := ((Below.refl w.heap.size w).alloc (Nat.le_refl _) (.cells #[.slice a n cap, .int .i64 T] 26 (0, 0))).alloc (by simp) (skO (.slice none 0 0) 0)
  obtain ⟨gR, g0, gz⟩ := blk_two w (.cells #[.slice a n cap, .int .i64 T] 26 (0, 0)) (skO (.slice none 0 0) 0)
  obtain ⟨W0, hW0⟩ : ∃ W0, W0 = (w.alloc (.cells #[.slice a n cap, .int .i64 T] 26 (0, 0))).alloc (skO (.slice none 0 0) 0) := ⟨_, rfl⟩
  rw [← hW0] at BX g0 gR gz
  obtain ⟨k0, k1, _, _⟩ := blkp g0
  have HW := hide hW0
  have HS := hide (hs.below BX)
  have B0 := hide BX
  have G0 := hide g0
  have GR := hide gR
  have GZ := hide gz
  have HN := hide hn
  have NO := hide (fun (X : World) (hb : Below w.heap.size w X) (hf : ok = false) => (show (∃ v, Ending.returned (.tuple #[.agg #[.slice none 0 0, .int .i64 0], .bool false]) = .returned (.tuple #[.agg #[v, .int .i64 T'], .bool ok]) ∧ RH w X v L') from by
    obtain ⟨rfl, rfl⟩ := hr.no hf
    subst hf
    exact ⟨_, rfl, rh_nil hb⟩))
  by_cases hg : GoodS L T
  rotate_left
  · have hf : ok = false := bool_no15 hr.iff (fun h => hg h.1.1.1)
    have CG := hide (fun wx h => implGoodSketch_any a L n cap T wx hn hn2 h hsz false ⟨fun h => (by cases h), fun h => absurd h hg⟩)
    clear hr
    clear hsz hn BX g0 gR gz hW0 hs
    go_enter Try.func12, Try.ntmps12
    go_upto_region 1 with fail
    rw [← HW.out]
    go_wp2_with fail
    refine (CG.out _ HS.out).mono ?_
    rintro e w1 ⟨rfl, hb1⟩
    have B1 := hide hb1
    clear hb1
    obtain ⟨z0, z1, y0, y1⟩ := blkp (blk_kept GR.out B1.out)
    have hz := hide (blkp (set2 (a' := .slice none 0 0) (b' := .int .i64 0) (blk_kept GR.out B1.out)))
    obtain ⟨x0, x1, _, _⟩ := hz.out
    have HF := hide (NO.out _ (((B0.out.trans ((B1.out).mono B0.out.size)).setCell (p := ⟨w.heap.size + 1, 0, none⟩) (by show w.heap.size ≤ w.heap.size + 1; omega) (.slice none 0 0)).setCell (p := ⟨w.heap.size + 1, 1, none⟩) (by show w.heap.size ≤ w.heap.size + 1; omega) (.int .i64 0)) hf)
    go_wp2
    refine bodyPost_ret (v := .tuple #[.agg #[.slice none 0 0, .int .i64 0], .bool false]) (by simp [results, Try.f12, go_sem, x0, x1]) rfl HF.out
  have CG := hide (fun wx h => implGoodSketch_any a L n cap T wx hn hn2 h hsz true ⟨fun _ => hg, fun _ => rfl⟩)
  have HG := hide hg
  by_cases hw : L3.Word false s
  rotate_left
  · have hf : ok = false := bool_no15 hr.iff (fun h => hw h.1.1.2)
    have CW := hide (fun wx => L3.isName_any s wx hsS false ⟨fun h => (by cases h), fun h => absurd h hw⟩)
    clear hr hg
    clear hsz hn BX g0 gR gz hW0 hs
    go_enter Try.func12, Try.ntmps12
    go_upto_region 1 with fail
    rw [← HW.out]
    go_wp2_with fail
    refine (CG.out _ HS.out).mono ?_
    rintro e w1 ⟨rfl, hb1⟩
    have B1 := hide hb1
    clear hb1
    go_wp2_with fail
    refine (CW.out _).mono ?_
    rintro e w2 ⟨rfl, hb2⟩
    have B2 := hide (B1.out.trans (hb2.mono B1.out.size))
    clear hb2
    obtain ⟨z0, z1, y0, y1⟩ := blkp (blk_kept GR.out B2.out)
    have hz := hide (blkp (set2 (a' := .slice none 0 0) (b' := .int .i64 0) (blk_kept GR.out B2.out)))
    obtain ⟨x0, x1, _, _⟩ := hz.out
    have HF := hide (NO.out _ (((B0.out.trans ((B2.out).mono B0.out.size)).setCell (p := ⟨w.heap.size + 1, 0, none⟩) (by show w.heap.size ≤ w.heap.size + 1; omega) (.slice none 0 0)).setCell (p := ⟨w.heap.size + 1, 1, none⟩) (by show w.heap.size ≤ w.heap.size + 1; omega) (.int .i64 0)) hf)
    go_wp2
    refine bodyPost_ret (v := .tuple #[.agg #[.slice none 0 0, .int .i64 0], .bool false]) (by simp [results, Try.f12, go_sem, x0, x1]) rfl HF.out
  have CW := hide (fun wx => L3.isName_any s wx hsS true ⟨fun _ => hw, fun _ => rfl⟩)
  by_cases hm1 : many < 1
  · have hf : ok = false := bool_no15 hr.iff (fun h => by have := h.1.2; omega)
    clear hr hg
    clear hsz hn BX g0 gR gz hW0 hs
    go_enter Try.func12, Try.ntmps12
    go_upto_region 1 with fail
    rw [← HW.out]
    go_wp2_with fail
    refine (CG.out _ HS.out).mono ?_
    rintro e w1 ⟨rfl, hb1⟩
    have B1 := hide hb1
    clear hb1
    go_wp2_with fail
    refine (CW.out _).mono ?_
    rintro e w2 ⟨rfl, hb2⟩
    have B2 := hide (B1.out.trans (hb2.mono B1.out.size))
    clear hb2
    obtain ⟨z0, z1, y0, y1⟩ := blkp (blk_kept GR.out B2.out)
    have hz := hide (blkp (set2 (a' := .slice none 0 0) (b' := .int .i64 0) (blk_kept GR.out B2.out)))
    obtain ⟨x0, x1, _, _⟩ := hz.out
    have HF := hide (NO.out _ (((B0.out.trans ((B2.out).mono B0.out.size)).setCell (p := ⟨w.heap.size + 1, 0, none⟩) (by show w.heap.size ≤ w.heap.size + 1; omega) (.slice none 0 0)).setCell (p := ⟨w.heap.size + 1, 1, none⟩) (by show w.heap.size ≤ w.heap.size + 1; omega) (.int .i64 0)) hf)
    go_wp2
    refine bodyPost_ret (v := .tuple #[.agg #[.slice none 0 0, .int .i64 0], .bool false]) (by simp [results, Try.f12, go_sem, x0, x1]) rfl HF.out
  by_cases hm2 : many > 1000
  · have hf : ok = false := bool_no15 hr.iff (fun h => by have := h.1.2; omega)
    clear hr hg
    clear hsz hn BX g0 gR gz hW0 hs
    go_enter Try.func12, Try.ntmps12
    go_upto_region 1 with fail
    rw [← HW.out]
    go_wp2_with fail
    refine (CG.out _ HS.out).mono ?_
    rintro e w1 ⟨rfl, hb1⟩
    have B1 := hide hb1
    clear hb1
    go_wp2_with fail
    refine (CW.out _).mono ?_
    rintro e w2 ⟨rfl, hb2⟩
    have B2 := hide (B1.out.trans (hb2.mono B1.out.size))
    clear hb2
    obtain ⟨z0, z1, y0, y1⟩ := blkp (blk_kept GR.out B2.out)
    have hz := hide (blkp (set2 (a' := .slice none 0 0) (b' := .int .i64 0) (blk_kept GR.out B2.out)))
    obtain ⟨x0, x1, _, _⟩ := hz.out
    have HF := hide (NO.out _ (((B0.out.trans ((B2.out).mono B0.out.size)).setCell (p := ⟨w.heap.size + 1, 0, none⟩) (by show w.heap.size ≤ w.heap.size + 1; omega) (.slice none 0 0)).setCell (p := ⟨w.heap.size + 1, 1, none⟩) (by show w.heap.size ≤ w.heap.size + 1; omega) (.int .i64 0)) hf)
    go_wp2
    refine bodyPost_ret (v := .tuple #[.agg #[.slice none 0 0, .int .i64 0], .bool false]) (by simp [results, Try.f12, go_sem, x0, x1]) rfl HF.out
  have hn3 := hg.1
  rw [hn] at hn3
  have hT := hg.tot
  have HR := hide hr
  have hAO : Hid (AddOk L T s many) := hide ⟨⟨hg, hw⟩, by omega, by omega⟩
  have CC := hide (fun wx h => copySketch_any a L n cap T wx hn h hn2 (fun i hi => by have := hg.at i hi; unfold gi at this; omega))
  clear hr hsz hn BX g0 gR gz hW0 hs hg hw
  go_enter Try.func12, Try.ntmps12
  go_upto_region 1 with fail
  rw [← HW.out]
  go_wp2_with fail
  refine (CG.out _ HS.out).mono ?_
  rintro e w1 ⟨rfl, hb1⟩
  have B1 := hide hb1
  clear hb1
  go_wp2_with fail
  refine (CW.out _).mono ?_
  rintro e w2 ⟨rfl, hb2⟩
  have B2 := hide (B1.out.trans (hb2.mono B1.out.size))
  clear hb2
  clear k0 k1
  obtain ⟨k0, k1, _, _⟩ := blkp (blk_kept G0.out B2.out)
  go_wp2_with fail
  refine (CC.out _ (HS.out.below B2.out)).mono ?_
  rintro e w3 ⟨v3, rfl, hrh⟩
  obtain ⟨⟨a3, c3, M3, hv, hG⟩, hb⟩ := hg_made T hrh
  rw [HN.out] at hv hG
  subst hv
  obtain ⟨g3, c3', e3⟩ := hG.ow.begin (by omega)
  obtain ⟨rfl, _, rfl⟩ := Value.slice.inj e3
  obtain ⟨w4, hw4⟩ : ∃ x, x = w3.alloc (skO (.slice (some ⟨g3, 0, none⟩) n c3) T) := ⟨_, rfl⟩
  obtain ⟨ob, hob⟩ : ∃ x, x = w3.heap.size := ⟨_, rfl⟩
  obtain ⟨lo, hlo⟩ : ∃ x, x = w2.heap.size := ⟨_, rfl⟩
  have hA := hb.alloc hb.size (skO (.slice (some ⟨g3, 0, none⟩) n c3) T)
  rw [← hw4] at hG hA
  rw [← hob, ← hlo] at hG
  have HW4 := hide hw4
  have HOB := hide hob
  have HLO := hide hlo
  have GG := hide hG
  have B4 := hide (B2.out.trans (hA.mono B2.out.size))
  have LO := hide (show w.heap.size + 2 ≤ lo by have h1 := B2.out.size; have h2 := GZ.out; omega)
  clear hw4 hob hlo hG hA hb hrh e3 k0 k1
  go_upto_region 4 with fail
  rw [← HW4.out, ← HOB.out]
  obtain ⟨j0, j1, _, _⟩ := blkp GG.out.box
  obtain ⟨vals, hvals⟩ : ∃ f : Nat → Value, ∀ i, f i = (M3.getD i eV).2 := ⟨_, fun _ => rfl⟩
  have HV := hide hvals
  have CR := hide (fun wx (hb : Below w4.heap.size w4 wx) => rowsOf_any g3 0 n c3 T vals wx (by omega) (fun i hi => by
    obtain ⟨ai, ci, e, hc, _⟩ := GG.out.ow.at i hi
    rw [Nat.zero_add, hvals i, e]
    exact (hb.cell (p := ⟨g3, i, none⟩) (blk_ltO hc)).trans hc) (fun i hi => by
    obtain ⟨ai, ci, e, _, _⟩ := GG.out.ow.at i hi
    exact ⟨ai, _, ci, by rw [hvals i]; exact e⟩))
  clear hvals
  go_wp2_with fail
  refine (CR.out _ (Below.refl _ _)).mono ?_
  rintro e w5 ⟨v5, rfl, ho5, hb5⟩
  obtain ⟨g5, c5, rfl⟩ : ∃ g c, v5 = .slice (some ⟨g, 0, none⟩) n c := by
    rcases ho5.2 with ⟨_, h0⟩ | ⟨g, cap, cur, hv, _⟩
    · omega
    · exact ⟨g, cap, hv⟩
  have O5 := hide ho5
  have G5 := hide (GG.out.below hb5)
  have B5 := hide (B4.out.trans (hb5.mono B4.out.size))
  have LT5 := hide (show ob < w4.heap.size from GG.out.lt)
  clear ho5 hb5 j0 j1 CR
  go_wp2
  go_loopw [33] (fun t wr => ∃ (k : Nat) (M : List PR), k ≤ n ∧ t = .int .i64 (k : Int) ∧ Hid (L15.HG lo wr ob (.slice (some ⟨g3, 0, none⟩) n c3) n M (upTo (addR L s many) L k) T) ∧ Hid (∀ i, i < n → (M.getD i eV).2 = (M3.getD i eV).2) ∧ Hid (L8.Only lo ob w5 wr)) (fun t _ => n - (intOf t).toNat)
  case atStart => exact ⟨0, M3, Nat.zero_le _, rfl, by rw [upTo_zero]; exact G5, fun _ _ => rfl, L8.Only.refl _ _ _⟩
  case round =>
    obtain ⟨k, M, hk, rfl, HH, HMM, ON⟩ := hrel
    by_cases hlt : k < n
    · have hltI : (k : Int) < (n : Int) := by omega
      have hk0 : (0 : Int) ≤ (k : Int) := by omega
      have hkL : k < L.length := by rw [HN.out]; exact hlt
      have hMl : M.length = n := HH.out.ow.len
      have hrow : (M.getD k eV).1 = gi L k := by
        have h1 := rws_get M k (by omega)
        rw [← h1, HH.out.eq, upTo_at _ _ _ hkL]
      have h11 : (M.getD k eV).1.length = 11 := by rw [hrow]; exact HG.out.at k hkL
      obtain ⟨rb, ci, hvk, hcells⟩ := HH.out.ow.row0 k hlt (by omega)
      have hp := plc_bd (r := (k : Int)) (by omega) s
      obtain ⟨pn, hpn⟩ : ∃ pn, pn = (plc (k : Int) s).toNat := ⟨_, rfl⟩
      have hpn2 : plc (k : Int) s = (pn : Int) := by omega
      have hpI : (pn : Int) < 11 := by omega
      have hpI0 : (0 : Int) ≤ (pn : Int) := by omega
      obtain ⟨hx0, hfz⟩ := hcells pn (by omega)
      have hxv : (M.getD k eV).1.getD pn 0 = rv L s k := by rw [hrow, hpn]; rfl
      rw [hxv] at hx0
      have hbd2 := HG.out.rvb s k hkL
      obtain ⟨x, hx⟩ : ∃ x, x = rv L s k := ⟨_, rfl⟩
      rw [← hx] at hx0 hbd2
      have hwr : IntKind.i64.wrap (x + many) = x + many := by
        simp only [IntKind.wrap, IntKind.bits, IntKind.signed]
        simp
        omega
      have hAR : addR L s many k = (gi L k).set pn (x + many) := by rw [hpn, hx]; rfl
      have HAR := hide hAR
      have HROW := hide hrow
      have HVK := hide hvk
      have H11 := hide h11
      have hX0 := hide hx0
      have hFZ := hide hfz
      have rlo := hide (show lo ≤ rb ∧ rb < ob by
        have h1 := HH.out.ow.idx k hlt
        have hb : (M.getD k eV).2.ownBlock = some rb := by rw [hvk]; rfl
        exact ⟨(L8.own_lt h1 rb hb).1, HH.out.inr.idx k hlt rb hb⟩)
      obtain ⟨q1, q2⟩ := skCells_get vals n k hlt
      have c1 := O5.out.cells (g := g5) rfl (k * 2) _ q1
      have c2 := O5.out.cells (g := g5) rfl (k * 2 + 1) _ q2
      rw [addr_add] at c1 c2
      have hg5 := (L8.own_lt O5.out g5 rfl).1
      have d1 := ON.out.cell (p := ⟨g5, k * 2, none⟩) (by simpa using c1) (.inr (by have := LT5.out; show ob ≤ g5; omega))
      have d2 := ON.out.cell (p := ⟨g5, k * 2 + 1, none⟩) (by simpa using c2) (.inr (by have := LT5.out; show ob ≤ g5; omega))
      rw [HV.out k, ← HMM.out k hlt, hvk, h11] at d1
      unfold fnV at d2
      have CP := hide (fun wx => placeOf_any (k : Int) s wx (by omega) hsS (pn : Int) hpn2.symm)
      have hsf : ∀ (w : World) (a : Addr) (fn : Fn) (x y : Array Value) (m : Mode), (store a (.func fn x y) m).run Try.prog w = stored Try.prog w a (.func fn x y) m := fun w a _ _ _ m => run_store Try.prog w a _ m rfl
      clear hx hpn hpn2 hp c1 c2 q1 q2 hvk hrow h11 hcells hx0 hfz hxv hAR hMl hg5
      go_upto_region 7 with fail
      clear hsf
      obtain ⟨W6, hW6⟩ : ∃ W6, wr.alloc (.cells #[.slice (some ⟨rb, 0, none⟩) 11 ci, fnV (k : Int)] 66 (0, 0)) = W6 := ⟨_, rfl⟩
      have e6 : Below wr.heap.size wr W6 := by rw [← hW6]; exact (Below.refl _ _).alloc (Nat.le_refl _) _
      have n6 : W6.heap[wr.heap.size]? = some (.cells #[.slice (some ⟨rb, 0, none⟩) 11 ci, fnV (k : Int)] 66 (0, 0)) := by rw [← hW6]; exact L8.blk_new _ _
      rw [show wr.alloc (.cells #[.slice (some ⟨rb, 0, none⟩) 11 ci, .func (.func 46) #[.agg #[.int .i64 (3 + (k : Int)), .int .i64 (29 + 2 * (k : Int))]] #[]] 66) = W6 from hW6]
      have N6 := hide n6
      have E6 := hide e6
      have LTO := hide (show ob < wr.heap.size from HH.out.lt)
      clear n6 e6 hW6 d1 d2
      refine wp_region_held_drew (S := (fun wx => wx.cell? ⟨wr.heap.size, 0, none⟩ = some (.slice (some ⟨rb, 0, none⟩) 11 ci) ∧ wx.cell? ⟨wr.heap.size, 1, none⟩ = some (fnV (k : Int)))) (by kernel_rfl) ⟨(blkp N6.out).1, (blkp N6.out).2.1⟩ (fun hHeld => ?_)
      refine wpAnyH_take (i := 0) (v := ?v1) rfl (by kernel_rfl) (by kernel_rfl) (by kernel_rfl) (fun _ _ _ h => h) (Or.inl ⟨by rfl, ?y1⟩) (by assumption) ?r1
      case y1 => (intro w hSw; (try dsimp only at hSw); go_simp; try (with_reducible rfl))
      simp only [List.getElem_toArray, List.getElem_cons_zero, Act.put, List.setIfInBounds_toArray, List.set_cons_zero, List.set_cons_succ]
      refine wpAnyH_take (i := 1) (v := ?v2) rfl (by kernel_rfl) (by kernel_rfl) (by kernel_rfl) (fun _ _ _ h => h) (Or.inl ⟨by rfl, ?y2⟩) (by assumption) ?r2
      case y2 => (intro w hSw; (try dsimp only at hSw); go_simp; try (with_reducible rfl))
      simp only [List.getElem_toArray, List.getElem_cons_succ, List.getElem_cons_zero, Act.put, List.setIfInBounds_toArray, List.set_cons_zero, List.set_cons_succ]
      refine wpAnyH_take (i := 2) (v := ?v3) rfl (by kernel_rfl) (by kernel_rfl) (by kernel_rfl) (fun _ _ _ h => h) (Or.inl ⟨by rfl, ?y3⟩) (by assumption) ?r3
      case y3 => (intro w hSw; (try dsimp only at hSw); go_simp; try (with_reducible rfl))
      simp only [List.getElem_toArray, List.getElem_cons_succ, List.getElem_cons_zero, Act.put, List.setIfInBounds_toArray, List.set_cons_zero, List.set_cons_succ]
      refine wpAnyH_take (i := 3) (v := ?v4) rfl (by kernel_rfl) (by kernel_rfl) (by kernel_rfl) (fun _ _ _ h => h) (Or.inl ⟨by rfl, ?y4⟩) (by assumption) ?r4
      case y4 => (intro w hSw; (try dsimp only at hSw); go_simp; try (with_reducible rfl))
      simp only [List.getElem_toArray, List.getElem_cons_succ, List.getElem_cons_zero, Act.put, List.setIfInBounds_toArray, List.set_cons_zero, List.set_cons_succ]
      refine wpAnyH_take (i := 4) (v := ?v5) rfl (by kernel_rfl) (by kernel_rfl) (by kernel_rfl) (fun _ _ _ h => h) (Or.inl ⟨by rfl, ?y5⟩) (by assumption) ?r5
      case y5 => (intro w hSw; (try dsimp only at hSw); go_simp; try (with_reducible rfl))
      simp only [List.getElem_toArray, List.getElem_cons_succ, List.getElem_cons_zero, Act.put, List.setIfInBounds_toArray, List.set_cons_zero, List.set_cons_succ]
      refine wpAnyH_take (i := 8) (v := ?v6) rfl (by kernel_rfl) (by kernel_rfl) (by kernel_rfl) (fun _ _ _ h => h) (Or.inl ⟨by rfl, ?y6⟩) (by assumption) ?r6
      case y6 => (intro w hSw; (try dsimp only at hSw); go_simp; try (with_reducible rfl))
      simp only [List.getElem_toArray, List.getElem_cons_succ, List.getElem_cons_zero, Act.put, List.setIfInBounds_toArray, List.set_cons_zero, List.set_cons_succ]
      refine wpAnyH_ready (rs := [5]) (by kernel_rfl) (by simp) ?_
      refine AllReadyH.cons rfl (fun K hK => ?_) AllReadyH.nil
      simp only [List.getElem_toArray, List.getElem_cons_succ, List.getElem_cons_zero]
      go_simp
      go_at_call 46
      refine (CP.out _).mono ?_
      rintro e w7 ⟨rfl, hb⟩
      have E7 := hide (show Below wr.heap.size wr w7 from (E6.out.drew.trans (hb.mono E6.out.size)))
      have F7 := hide (cells2X (blk_kept (w := W6.drew) N6.out hb))
      clear hb
      dsimp only
      refine hK.out _ _ ?_ (fun hHeld => ?_)
      · exact F7.out
      clear hK K
      try simp only [Act.put, List.setIfInBounds_toArray, List.set_cons_zero, List.set_cons_succ]
      refine wpAnyH_take (i := 6) (v := ?v7) rfl (by kernel_rfl) (by kernel_rfl) (by kernel_rfl) (fun _ _ _ h => h) (Or.inl ⟨by rfl, ?y7⟩) (by assumption) ?r7
      case y7 => (intro w hSw; (try dsimp only at hSw); go_simp; try (with_reducible rfl))
      simp only [List.getElem_toArray, List.getElem_cons_succ, List.getElem_cons_zero, Act.put, List.setIfInBounds_toArray, List.set_cons_zero, List.set_cons_succ]
      refine wpAnyH_ready (rs := [7]) (by kernel_rfl) (by simp) ?_
      refine AllReadyH.cons rfl (fun K hK => ?_) AllReadyH.nil
      simp only [List.getElem_toArray, List.getElem_cons_succ, List.getElem_cons_zero]
      obtain hX7 := (E7.out.cell (p := ⟨rb, pn, none⟩) (blk_ltO hX0.out)).trans hX0.out
      go_simp
      refine hK.out _ _ ?_ (fun hHeld => ?_)
      · exact hHeld
      clear hK K
      try simp only [Act.put, List.setIfInBounds_toArray, List.set_cons_zero, List.set_cons_succ]
      refine wpAnyH_take (i := 9) (v := ?v8) rfl (by kernel_rfl) (by kernel_rfl) (by kernel_rfl) (fun _ _ _ h => h) (Or.inl ⟨by rfl, ?y8⟩) (by assumption) ?r8
      case y8 => (intro w hSw; (try dsimp only at hSw); go_simp; try (with_reducible rfl))
      simp only [List.getElem_toArray, List.getElem_cons_succ, List.getElem_cons_zero, Act.put, List.setIfInBounds_toArray, List.set_cons_zero, List.set_cons_succ]
      refine wpAnyH_take (i := 10) (v := ?v9) rfl (by kernel_rfl) (by kernel_rfl) (by kernel_rfl) (fun _ _ _ h => h) (Or.inl ⟨by rfl, ?y9⟩) (by assumption) ?r9
      case y9 => (intro w hSw; (try dsimp only at hSw); go_simp; try (with_reducible rfl))
      simp only [List.getElem_toArray, List.getElem_cons_succ, List.getElem_cons_zero, Act.put, List.setIfInBounds_toArray, List.set_cons_zero, List.set_cons_succ]
      refine wpAnyH_ready (rs := [11]) (by kernel_rfl) (by simp) ?_
      refine AllReadyH.cons rfl (fun K hK => ?_) AllReadyH.nil
      simp only [List.getElem_toArray, List.getElem_cons_succ, List.getElem_cons_zero]
      obtain hX7 := (E7.out.cell (p := ⟨rb, pn, none⟩) (blk_ltO hX0.out)).trans hX0.out
      have hF7 : w7.frozen? ⟨rb, pn, none⟩ = false := by rw [show w7.frozen? ⟨rb, pn, none⟩ = wr.frozen? ⟨rb, pn, none⟩ from by unfold World.frozen?; rw [E7.out.block rb (blk_ltO hX0.out)]]; exact hFZ.out
      have ne : ∀ o, (⟨rb, pn, none⟩ : Addr) ≠ ⟨wr.heap.size, o, none⟩ := fun o e => by have e' := congrArg Addr.block e; have h1 := rlo.out; have h2 := LTO.out; simp at e'; omega
      have F8 := hide (And.intro ((World.cell?_setCell_other w7 ⟨rb, pn, none⟩ ⟨wr.heap.size, 0, none⟩ (.int .i64 (x + many)) (ne 0)).trans F7.out.1) ((World.cell?_setCell_other w7 ⟨rb, pn, none⟩ ⟨wr.heap.size, 1, none⟩ (.int .i64 (x + many)) (ne 1)).trans F7.out.2))
      clear ne
      go_simp
      clear hX7 hF7
      refine hK.out _ _ ?_ (fun hHeld => ?_)
      · exact F8.out
      clear hK K
      try simp only [Act.put, List.setIfInBounds_toArray, List.set_cons_zero, List.set_cons_succ]
      refine wpAnyH_done (by kernel_rfl) ?_ _
      clear hHeld
      have H7 := HH.out.below E7.out
      have hP := H7.ow.setP k hlt rb ci (by rw [HVK.out]) pn (x + many)
      have hO : L8.Only lo ob w7 (w7.setCell ⟨rb, pn, none⟩ (.int .i64 (x + many))) := (L8.Only.refl _ _ _).grown hP.2 (fun g hg => by cases hg; exact rlo.out)
      have hHG : L15.HG lo (w7.setCell ⟨rb, pn, none⟩ (.int .i64 (x + many))) ob (.slice (some ⟨g3, 0, none⟩) n c3) n (M.set k ((M.getD k eV).1.set pn (x + many), (M.getD k eV).2)) (upTo (addR L s many) L (k + 1)) T := H7.marked hO hP.1 (fun i hi => by
        by_cases e : i = k
        · subst e; rw [L8.getD_self M i _ _ (by have := H7.ow.len; omega)]
        · rw [L8.getD_ne M k i _ _ e]) (by
        rw [upTo_succ _ _ _ hkL, ← HH.out.eq, HAR.out, ← HROW.out]
        simp [rws, List.map_set])
      have R1 := hide hHG
      have R2 := hide (show ∀ i, i < n → ((M.set k ((M.getD k eV).1.set pn (x + many), (M.getD k eV).2)).getD i eV).2 = (M3.getD i eV).2 from fun i hi => by
        by_cases e : i = k
        · subst e; rw [L8.getD_self M i _ _ (by have := H7.ow.len; omega)]; exact HMM.out i hi
        · rw [L8.getD_ne M k i _ _ e]; exact HMM.out i hi)
      have R3 := hide ((ON.out.trans (L8.Only.of_below E7.out)).trans hO)
      clear H7 hP hO hHG
      go_wp2
      go_roundw
      case rel => exact ⟨k + 1, _, by omega, by go_num, R1.out, R2.out, R3.out⟩
      case measure => simp [intOf]; omega
    · obtain rfl : k = n := by omega
      have hltI : ¬ (k : Int) < (k : Int) := by omega
      have HF := HH.out
      have e0 : upTo (addR L s many) L k = addA L s many := by rw [← HN.out]
      rw [e0] at HF
      obtain ⟨j0, j1, q0, q1⟩ := blkp HF.box
      have hB : Below w.heap.size w wr := B0.out.trans ((B5.out.trans ((ON.out.below (by have h1 := G5.out.bs; have h2 := G5.out.lt; omega)).mono (by have := LO.out; have := GZ.out; omega))).mono B0.out.size)
      have hres : wr.heap[w.heap.size + 1]? = some (skO (.slice none 0 0) 0) := (ON.out.block (w.heap.size + 1) (by have h1 := B5.out.size; have h2 := GZ.out; omega) (.inl (by have := LO.out; omega))).trans (blk_kept GR.out B5.out)
      -- the Total
      have hbx : (wr.setCell ⟨ob, 1, none⟩ (.int .i64 (T + many))).heap[ob]? = some (skO (.slice (some ⟨g3, 0, none⟩) k c3) (T + many)) := heap_boxO HF.box 1 (.int .i64 (T + many))
      have hKO : L8.Only ob (ob + 1) wr (wr.setCell ⟨ob, 1, none⟩ (.int .i64 (T + many))) := ⟨rfl, rfl, rfl, by simp, fun q hq ho => Below.heap_setCell _ _ _ _ (by show q ≠ ob; omega)⟩
      have hOw : OwR (wr.setCell ⟨ob, 1, none⟩ (.int .i64 (T + many))) lo (.slice (some ⟨g3, 0, none⟩) k c3) k M := by
        have st : ∀ {c m : Nat} {t : TypeId} {u : Value} {xs : List Value}, wr.ownsRow lo t c u m xs → (∀ g, u.ownBlock = some g → g < ob) → (wr.setCell ⟨ob, 1, none⟩ (.int .i64 (T + many))).ownsRow lo t c u m xs := fun ho hl => own_at ho (fun q hq => Below.heap_setCell _ _ _ _ (by have := hl q hq; show q ≠ ob; omega))
        exact ⟨HF.ow.len, st HF.ow.row HF.inr.row, fun i hi => st (HF.ow.idx i hi) (HF.inr.idx i hi), HF.ow.apart⟩
      obtain ⟨wT, hwT⟩ : ∃ x, x = wr.setCell ⟨ob, 1, none⟩ (.int .i64 (T + many)) := ⟨_, rfl⟩
      rw [← hwT] at hbx hKO hOw
      have hresT : wT.heap[w.heap.size + 1]? = some (skO (.slice none 0 0) 0) := (hKO.block _ (Array.getElem?_eq_some_iff.1 hres).1 (.inl (by have h1 := HF.bs; have h2 := LO.out; omega))).trans hres
      have hBT : Below w.heap.size w wT := by rw [hwT]; exact hB.setCell (p := ⟨ob, 1, none⟩) (by have h1 := HF.bs; have h2 := LO.out; show w.heap.size ≤ ob; omega) _
      have hsl := hOw.sl
      rw [HF.eq] at hsl
      have BX9 := hide hbx
      have RS := hide hresT
      have OW := hide hOw
      have BT := hide hBT
      have SL := hide hsl
      have EQ := hide HF.eq
      have HWT := hide hwT
      have LB := hide (show lo ≤ ob from HF.bs)
      have hl9 : (addA L s many).length = k := by rw [upTo_len]; exact HN.out
      obtain ⟨gb, hgb⟩ := dec_ex15 (GoodS (addA L s many) (T + many))
      have CZ := hide (fun wx h => implGoodSketch_any (some ⟨g3, 0, none⟩) (addA L s many) k c3 (T + many) wx hl9 hn2 h (fun i hi => by
        have h1 := upTo_get (addR L s many) L L.length i (by rw [upTo_len] at hi; exact hi)
        rw [upTo_len] at hi
        rw [if_pos hi] at h1
        have h2 := addR_len L s many i
        have h3 := HG.out.at i hi
        unfold gi at h1
        rw [h1, h2, h3]; omega) gb hgb)
      have HGB := hide hgb
      have HL9 := hide hl9
      clear HF hbx hKO hOw hresT hBT hsl hwT hgb hl9 e0 hB hres
      go_upto_region 10 with fail
      rw [← HWT.out]
      clear j0 j1 q0 q1
      obtain ⟨j0, j1, _, _⟩ := blkp BX9.out
      go_wp2_with fail
      refine (CZ.out _ SL.out).mono ?_
      rintro e wz ⟨rfl, hbz⟩
      have BZ := hide hbz
      clear hbz j0 j1
      obtain ⟨j0, j1, _, _⟩ := blkp (blk_kept BX9.out BZ.out)
      obtain ⟨z0, z1, y0, y1⟩ := blkp (blk_kept RS.out BZ.out)
      cases gb with
      | false =>
        have hf : ok = false := bool_no15 HR.out.iff (fun h => by have := HGB.out.2 h.2; cases this)
        obtain ⟨x0, x1, _, _⟩ := blkp (set2 (a' := .slice none 0 0) (b' := .int .i64 0) (blk_kept RS.out BZ.out))
        obtain ⟨rfl, rfl⟩ := HR.out.no hf
        have hbf := hide (((BT.out.trans (BZ.out.mono BT.out.size)).setCell (p := ⟨w.heap.size + 1, 0, none⟩) (by show w.heap.size ≤ w.heap.size + 1; omega) (.slice none 0 0)).setCell (p := ⟨w.heap.size + 1, 1, none⟩) (by show w.heap.size ≤ w.heap.size + 1; omega) (.int .i64 0))
        subst hf
        go_wp2
        refine bodyPost_ret (v := .tuple #[.agg #[.slice none 0 0, .int .i64 0], .bool false]) (by simp [results, Try.f12, go_sem, x0, x1]) rfl ⟨_, rfl, rh_nil hbf.out⟩
      | true =>
        have hf : ok = true := HR.out.iff.2 ⟨hAO.out, HGB.out.1 rfl⟩
        obtain ⟨rfl, rfl⟩ := HR.out.yes hf
        subst hf
        obtain ⟨x0, x1, _, _⟩ := blkp (set2 (a' := .slice (some ⟨g3, 0, none⟩) k c3) (b' := .int .i64 (T + many)) (blk_kept RS.out BZ.out))
        have hbf := hide (((BT.out.trans (BZ.out.mono BT.out.size)).setCell (p := ⟨w.heap.size + 1, 0, none⟩) (by show w.heap.size ≤ w.heap.size + 1; omega) (.slice (some ⟨g3, 0, none⟩) k c3)).setCell (p := ⟨w.heap.size + 1, 1, none⟩) (by show w.heap.size ≤ w.heap.size + 1; omega) (.int .i64 (T + many)))
        have lt1 : w.heap.size + 1 < lo := by have := LO.out; omega
        have hO9 := hide (OwR.base (b2 := w.heap.size) (((OW.out.below BZ.out).setC ⟨w.heap.size + 1, 0, none⟩ (.slice (some ⟨g3, 0, none⟩) k c3) lt1).setC ⟨w.heap.size + 1, 1, none⟩ (.int .i64 (T + many)) lt1) (by omega))
        go_wp2
        refine bodyPost_ret (v := .tuple #[.agg #[.slice (some ⟨g3, 0, none⟩) k c3, .int .i64 (T + many)], .bool true]) (by simp [results, Try.f12, go_sem, x0, x1]) rfl ⟨_, rfl, ⟨M, EQ.out, ?_⟩, hbf.out⟩
        rw [HL9.out]
        exact hO9.out
end Go.Proofs.Ytfmfnlpajoikman.L15
