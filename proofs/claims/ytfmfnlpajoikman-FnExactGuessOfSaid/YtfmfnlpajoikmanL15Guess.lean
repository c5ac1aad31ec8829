/-
  Contract: impl.GuessOf.
-/
import Derived.Test.YtfmfnlpajoikmanL15Rows
import Derived.Test.YtfmfnlpajoikmanL15Good
import Derived.Test.YtfmfnlpajoikmanL15GuM
namespace Go.Proofs.Ytfmfnlpajoikman.L15
open Go.RowKit L1 Own Sli
set_option linter.unusedVariables false

set_option maxRecDepth 100000 in
set_option maxHeartbeats 8000000 in
theorem implGuessOf_any (a : Option Addr) (L : List (List Int)) (n cap : Nat) (T : Int) (s : ByteArray) (w : World) (hn : L.length = n) (hn2 : n ≤ 1048576) (hs : SlSI w a L) (hsz : ∀ i, i < L.length → (L.getD i []).length ≤ 1048576) (hsS : s.size ≤ 9223372036854775807) (ok : Bool) (hok : ok = true ↔ GoodS L T ∧ L3.Word false s) (r : Int) (hr : r = if ok then gmin L s T L.length else 0) :
    Calls Try.prog 17 #[.agg #[.slice a n cap, .int .i64 T], .string s] w fun e w' => e = .returned (.tuple #[.int .i64 r, .bool ok]) ∧ Below w.heap.size w w' := by
  have BX := (Below.refl w.heap.size w).alloc (Nat.le_refl _) (.cells #[.slice a n cap, .int .i64 T] 26 (0, 0))
  have g0 := L8.blk_new w (.cells #[.slice a n cap, .int .i64 T] 26 (0, 0))
  obtain ⟨W0, hW0⟩ : ∃ W0, W0 = w.alloc (.cells #[.slice a n cap, .int .i64 T] 26 (0, 0)) := ⟨_, rfl⟩
  rw [← hW0] at BX g0
  obtain ⟨k0, k1, _, _⟩ := blkp g0
  have HW := hide hW0
  have HS := hide (hs.below BX)
  have B0 := hide BX
  have G0 := hide g0
  have HN := hide hn
  by_cases hg : GoodS L T
  rotate_left
  · have hf : ok = false := bool_no15 hok (fun h => hg h.1)
    subst hf
    obtain rfl : r = 0 := hr
    have CG := hide (fun wx h => implGoodSketch_any a L n cap T wx hn hn2 h hsz false ⟨fun h => (by cases h), fun h => absurd h hg⟩)
    clear hok hs hsz hn BX g0 hW0
    go_enter Try.func17, Try.ntmps17
    go_upto_region 1 with fail
    rw [← HW.out]
    go_wp2_with fail
    refine (CG.out _ HS.out).mono ?_
    rintro e w1 ⟨rfl, hb1⟩
    have B1 := hide (B0.out.trans (hb1.mono B0.out.size))
    clear hb1
    go_wp2
    go_ret2
    exact ⟨rfl, B1.out⟩
  have CG := hide (fun wx h => implGoodSketch_any a L n cap T wx hn hn2 h hsz true ⟨fun _ => hg, fun _ => rfl⟩)
  have HG := hide hg
  have CW := hide (fun wx => L3.isName_any s wx hsS ok ⟨fun h => (hok.1 h).2, fun h => hok.2 ⟨hg, h⟩⟩)
  cases ok with
  | false =>
    obtain rfl : r = 0 := hr
    clear hok hs hsz hn BX g0 hW0 hg
    go_enter Try.func17, Try.ntmps17
    go_upto_region 1 with fail
    rw [← HW.out]
    go_wp2_with fail
    refine (CG.out _ HS.out).mono ?_
    rintro e w1 ⟨rfl, hb1⟩
    have B1 := hide (B0.out.trans (hb1.mono B0.out.size))
    clear hb1
    go_wp2_with fail
    refine (CW.out _).mono ?_
    rintro e w2 ⟨rfl, hb2⟩
    have B2 := hide (B1.out.trans (hb2.mono B1.out.size))
    clear hb2
    go_wp2
    go_ret2
    exact ⟨rfl, B2.out⟩
  | true =>
  have HR := hide (show r = gmin L s T L.length from hr)
  have hn3 := hg.1
  rw [hn] at hn3
  obtain ⟨ba, oa, rfl, _⟩ := hs 0 (by omega)
  have hvals : ∀ i, ∃ v, i < n → W0.cell? ⟨ba, oa + i, none⟩ = some v ∧ ∃ ai ci, v = .slice ai 11 ci ∧ Sl W0 ai (gi L i) := fun i => by
    by_cases hi : i < n
    · obtain ⟨b, off, e, ai, ci, hc, hl⟩ := HS.out i (by rw [hn]; exact hi)
      obtain ⟨rfl, rfl⟩ : ba = b ∧ oa = off := by cases e; exact ⟨rfl, rfl⟩
      have h11 : (L.getD i []).length = 11 := hg.at i (by rw [hn]; exact hi)
      rw [h11] at hc
      exact ⟨_, fun _ => ⟨hc, ai, ci, rfl, hl⟩⟩
    · exact ⟨nilV, fun h => absurd h hi⟩
  obtain ⟨vals, hvals⟩ : ∃ f : Nat → Value, ∀ i, i < n → W0.cell? ⟨ba, oa + i, none⟩ = some (f i) ∧ ∃ ai ci, f i = .slice ai 11 ci ∧ Sl W0 ai (gi L i) := ⟨fun i => Classical.choose (hvals i), fun i hi => Classical.choose_spec (hvals i) hi⟩
  have HV := hide hvals
  have CR := hide (fun wx (hb : Below W0.heap.size W0 wx) => rowsOf_any ba oa n cap T vals wx (by omega) (fun i hi => (hb.cell (p := ⟨ba, oa + i, none⟩) (blk_ltO (hvals i hi).1)).trans (hvals i hi).1) (fun i hi => by obtain ⟨_, ai, ci, e, _⟩ := hvals i hi; exact ⟨ai, 11, ci, e⟩))
  clear hok hs hsz hn BX g0 hW0 hg hr hvals
  go_enter Try.func17, Try.ntmps17
  go_upto_region 1 with fail
  rw [← HW.out]
  go_wp2_with fail
  refine (CG.out _ HS.out).mono ?_
  rintro e w1 ⟨rfl, hb1⟩
  have B1 := hide hb1
  clear hb1
  go_wp2_with fail
  refine (CW.out _).mono ?_
  rintro e w2 ⟨rfl, hb2⟩
  have B2 := hide (B1.out.trans (hb2.mono B1.out.size))
  clear hb2 k0 k1
  obtain ⟨k0, k1, _, _⟩ := blkp (blk_kept G0.out B2.out)
  go_wp2_with fail
  refine (CR.out _ B2.out).mono ?_
  rintro e w3 ⟨v3, rfl, ho3, hb3⟩
  obtain ⟨g3, c3, rfl⟩ : ∃ g c, v3 = .slice (some ⟨g, 0, none⟩) n c := by
    rcases ho3.2 with ⟨_, h0⟩ | ⟨g, cap, cur, hv, _⟩
    · omega
    · exact ⟨g, cap, hv⟩
  have O3 := hide ho3
  have B3 := hide (B2.out.trans (hb3.mono B2.out.size))
  clear ho3 hb3
  have hbd : -9223372036854775808 ≤ T ∧ T ≤ 9223372036854775807 := by
    have h1 := HG.out.rvb s 0 (by have := HG.out.1.1; omega)
    have h2 := (HG.out.2 0 (by have := HG.out.1.1; omega))
    have h4 := sm_bd (l := gi L 0) 11 (by rw [h2.1.1]; exact Nat.le_refl _) (fun j hj => h2.1.2 j hj)
    omega
  clear k0 k1
  go_wp2
  go_loopw [6, 22] (fun o t wr => ∃ k : Nat, k ≤ n ∧ t = .int .i64 (k : Int) ∧ o = .int .i64 (gmin L s T k) ∧ Hid (Below w3.heap.size w3 wr)) (fun _ t _ => n - (intOf t).toNat)
  case atStart => exact ⟨0, Nat.zero_le _, rfl, rfl, Below.refl _ _⟩
  case round =>
    obtain ⟨k, hk, rfl, rfl, BW⟩ := hrel
    by_cases hlt : k < n
    · have hltI : (k : Int) < (n : Int) := by omega
      have hk0 : (0 : Int) ≤ (k : Int) := by omega
      obtain ⟨hc0, ai, ci, hvk, hsl⟩ := HV.out k hlt
      obtain ⟨q1, q2⟩ := skCells_get vals n k hlt
      have c1 := O3.out.cells (g := g3) rfl (k * 2) _ q1
      have c2 := O3.out.cells (g := g3) rfl (k * 2 + 1) _ q2
      rw [addr_add] at c1 c2
      try simp only [Nat.zero_add] at c1 c2
      have d1 := (BW.out.cell (p := ⟨g3, k * 2, none⟩) (blk_ltO c1)).trans c1
      have d2 := (BW.out.cell (p := ⟨g3, k * 2 + 1, none⟩) (blk_ltO c2)).trans c2
      rw [hvk] at d1
      unfold fnV at d2
      have hkL : k < L.length := by rw [HN.out]; exact hlt
      obtain ⟨rb, ro, rfl, hx0⟩ := HG.out.cell s k hkL (hsl.below (B3.out.trans (BW.out.mono B3.out.size)))
      have hbd2 := HG.out.rvb s k hkL
      have hp := plc_bd (r := (k : Int)) (by omega) s
      obtain ⟨x, hx⟩ : ∃ x, x = rv L s k := ⟨_, rfl⟩
      rw [← hx] at hx0 hbd2
      obtain ⟨pn, hpn⟩ : ∃ pn, pn = (plc (k : Int) s).toNat := ⟨_, rfl⟩
      rw [← hpn] at hx0
      have hpn2 : plc (k : Int) s = (pn : Int) := by omega
      have hpI : (pn : Int) < 11 := by omega
      have hpI0 : (0 : Int) ≤ (pn : Int) := by omega
      have CP := hide (fun wx => placeOf_any (k : Int) s wx (by omega) hsS (pn : Int) hpn2.symm)
      have hgm : gmin L s T (k + 1) = lo x (gmin L s T k) := by rw [hx]; rfl
      obtain ⟨y, hy⟩ : ∃ y, y = gmin L s T k := ⟨_, rfl⟩
      obtain ⟨z, hz⟩ : ∃ z, z = gmin L s T (k + 1) := ⟨_, rfl⟩
      rw [← hy, ← hz] at hgm
      rw [← hy]
      have HZ := hide hz
      have HGM := hide hgm
      have hX0 := hide hx0
      clear hx hy hz hgm hpn hpn2 hp c1 c2 q1 q2 hvk hsl hc0 hx0
      have hsf : ∀ (w : World) (a : Addr) (fn : Fn) (x y : Array Value) (m : Mode), (store a (.func fn x y) m).run Try.prog w = stored Try.prog w a (.func fn x y) m := fun w a _ _ _ m => run_store Try.prog w a _ m rfl
      go_upto_region 7 with fail
      clear hsf
      obtain ⟨w5, hw5⟩ : ∃ w5, w5 = wr := ⟨_, rfl⟩
      rw [← hw5]
      rw [← hw5] at hX0 BW
      obtain ⟨W5, hW5⟩ : ∃ W5, w5.alloc (.cells #[.slice (some ⟨rb, ro, none⟩) 11 ci, fnV (k : Int)] 66 (0, 0)) = W5 := ⟨_, rfl⟩
      have e5 : Below w5.heap.size w5 W5 := by rw [← hW5]; exact (Below.refl _ _).alloc (Nat.le_refl _) _
      have n5 : W5.heap[w5.heap.size]? = some (.cells #[.slice (some ⟨rb, ro, none⟩) 11 ci, fnV (k : Int)] 66 (0, 0)) := by rw [← hW5]; exact L8.blk_new _ _
      rw [show w5.alloc (.cells #[.slice (some ⟨rb, ro, none⟩) 11 ci, .func (.func 46) #[.agg #[.int .i64 (3 + (k : Int)), .int .i64 (29 + 2 * (k : Int))]] #[]] 66) = W5 from hW5]
      have F0 := hide (blkp n5).1
      have F1 := hide (blkp n5).2.1
      have F2 := hide ((e5.cell (p := ⟨rb, ro + pn, none⟩) (blk_ltO hX0.out)).trans hX0.out)
      have E5 := hide (BW.out.trans (e5.mono BW.out.size))
      have B5 := hide ((B0.out.trans (B3.out.mono B0.out.size)).trans (E5.out.mono (Nat.le_trans B0.out.size B3.out.size)))
      clear n5 e5 hW5 d1 d2 hw5
      refine wp_region_held_drew (S := (fun wx => (wx.cell? ⟨w5.heap.size, 0, none⟩ = some (.slice (some ⟨rb, ro, none⟩) 11 ci) ∧ wx.cell? ⟨w5.heap.size, 1, none⟩ = some (fnV (k : Int)) ∧ wx.cell? ⟨rb, ro + pn, none⟩ = some (.int .i64 x)) ∧ Below w.heap.size w wx)) (by kernel_rfl) ⟨⟨F0.out, F1.out, F2.out⟩, B5.out.drew⟩ (fun hHeld => ?_)
      refine wpAnyH_take (i := 0) (v := ?v1) rfl (by kernel_rfl) (by kernel_rfl) (by kernel_rfl) (fun _ _ _ h => h) (Or.inl ⟨by rfl, ?y1⟩) (by assumption) ?r1
      case y1 => (intro w hSw; (try dsimp only at hSw); go_simp; try (with_reducible rfl))
      simp only [List.getElem_toArray, List.getElem_cons_zero, Act.put, List.setIfInBounds_toArray, List.set_cons_zero, List.set_cons_succ]
      refine wpAnyH_take (i := 1) (v := ?v2) rfl (by kernel_rfl) (by kernel_rfl) (by kernel_rfl) (fun _ _ _ h => h) (Or.inl ⟨by rfl, ?y2⟩) (by assumption) ?r2
      case y2 => (intro w hSw; (try dsimp only at hSw); go_simp; try (with_reducible rfl))
      simp only [List.getElem_toArray, List.getElem_cons_succ, List.getElem_cons_zero, Act.put, List.setIfInBounds_toArray, List.set_cons_zero, List.set_cons_succ]
      refine wpAnyH_take (i := 2) (v := ?v3) rfl (by kernel_rfl) (by kernel_rfl) (by kernel_rfl) (fun _ _ _ h => h) (Or.inl ⟨by rfl, ?y3⟩) (by assumption) ?r3
      case y3 => (intro w hSw; (try dsimp only at hSw); go_simp; try (with_reducible rfl))
      simp only [List.getElem_toArray, List.getElem_cons_succ, List.getElem_cons_zero, Act.put, List.setIfInBounds_toArray, List.set_cons_zero, List.set_cons_succ]
      refine wpAnyH_take (i := 3) (v := ?v4) rfl (by kernel_rfl) (by kernel_rfl) (by kernel_rfl) (fun _ _ _ h => h) (Or.inl ⟨by rfl, ?y4⟩) (by assumption) ?r4
      case y4 => (intro w hSw; (try dsimp only at hSw); go_simp; try (with_reducible rfl))
      simp only [List.getElem_toArray, List.getElem_cons_succ, List.getElem_cons_zero, Act.put, List.setIfInBounds_toArray, List.set_cons_zero, List.set_cons_succ]
      refine wpAnyH_take (i := 4) (v := ?v5) rfl (by kernel_rfl) (by kernel_rfl) (by kernel_rfl) (fun _ _ _ h => h) (Or.inl ⟨by rfl, ?y5⟩) (by assumption) ?r5
      case y5 => (intro w hSw; (try dsimp only at hSw); go_simp; try (with_reducible rfl))
      simp only [List.getElem_toArray, List.getElem_cons_succ, List.getElem_cons_zero, Act.put, List.setIfInBounds_toArray, List.set_cons_zero, List.set_cons_succ]
      refine wpAnyH_take (i := 5) (v := ?v6) rfl (by kernel_rfl) (by kernel_rfl) (by kernel_rfl) (fun _ _ _ h => h) (Or.inl ⟨by rfl, ?y6⟩) (by assumption) ?r6
      case y6 => (intro w hSw; (try dsimp only at hSw); go_simp; try (with_reducible rfl))
      simp only [List.getElem_toArray, List.getElem_cons_succ, List.getElem_cons_zero, Act.put, List.setIfInBounds_toArray, List.set_cons_zero, List.set_cons_succ]
      refine wpAnyH_ready (rs := [6]) (by kernel_rfl) (by simp) ?_
      refine AllReadyH.cons rfl (fun K hK => ?_) AllReadyH.nil
      simp only [List.getElem_toArray, List.getElem_cons_succ, List.getElem_cons_zero]
      go_simp
      go_at_call 46
      refine (CP.out _).mono ?_
      rintro e w7 ⟨rfl, hb⟩
      have E7 := hide (show Below W5.heap.size W5 w7 from (Below.refl W5.heap.size W5).drew.trans (hb.mono (Nat.le_refl _)))
      have B7 := hide (B5.out.trans (E7.out.mono B5.out.size))
      clear hb
      dsimp only
      refine hK.out _ _ ?_ (fun hHeld => ?_)
      · exact ⟨⟨(E7.out.cell (p := ⟨w5.heap.size, 0, none⟩) (blk_ltO F0.out)).trans F0.out, (E7.out.cell (p := ⟨w5.heap.size, 1, none⟩) (blk_ltO F1.out)).trans F1.out, (E7.out.cell (p := ⟨rb, ro + pn, none⟩) (blk_ltO F2.out)).trans F2.out⟩, B7.out⟩
      clear hK K
      try simp only [Act.put, List.setIfInBounds_toArray, List.set_cons_zero, List.set_cons_succ]
      refine wpAnyH_take (i := 7) (v := ?v7) rfl (by kernel_rfl) (by kernel_rfl) (by kernel_rfl) (fun _ _ _ h => h) (Or.inl ⟨by rfl, ?y7⟩) (by assumption) ?r7
      case y7 => (intro w hSw; (try dsimp only at hSw); go_simp; try (with_reducible rfl))
      simp only [List.getElem_toArray, List.getElem_cons_succ, List.getElem_cons_zero, Act.put, List.setIfInBounds_toArray, List.set_cons_zero, List.set_cons_succ]
      refine wpAnyH_take (i := 8) (v := ?v8) rfl (by kernel_rfl) (by kernel_rfl) (by kernel_rfl) (fun _ _ _ h => h) (Or.inl ⟨by rfl, ?y8⟩) (by assumption) ?r8
      case y8 => (intro w hSw; (try dsimp only at hSw); go_simp; try (with_reducible rfl))
      simp only [List.getElem_toArray, List.getElem_cons_succ, List.getElem_cons_zero, Act.put, List.setIfInBounds_toArray, List.set_cons_zero, List.set_cons_succ]
      refine wpAnyH_take (i := 9) (v := ?v9) rfl (by kernel_rfl) (by kernel_rfl) (by kernel_rfl) (fun _ _ _ h => h) (Or.inl ⟨by rfl, ?y9⟩) (by assumption) ?r9
      case y9 => (intro w hSw; (try dsimp only at hSw); go_simp; try (with_reducible rfl))
      simp only [List.getElem_toArray, List.getElem_cons_succ, List.getElem_cons_zero, Act.put, List.setIfInBounds_toArray, List.set_cons_zero, List.set_cons_succ]
      refine wpAnyH_take (i := 10) (v := ?v10) rfl (by kernel_rfl) (by kernel_rfl) (by kernel_rfl) (fun _ _ _ h => h) (Or.inl ⟨by rfl, ?y10⟩) (by assumption) ?r10
      case y10 => (intro w hSw; (try dsimp only at hSw); go_simp; try (with_reducible rfl))
      simp only [List.getElem_toArray, List.getElem_cons_succ, List.getElem_cons_zero, Act.put, List.setIfInBounds_toArray, List.set_cons_zero, List.set_cons_succ]
      refine wpAnyH_done (by kernel_rfl) ?_ _
      clear hHeld
      have hrel : Hid (Below w3.heap.size w3 w7) := hide (E5.out.trans (E7.out.mono E5.out.size))
      have hmin : Hid (lo x y = z) := hide HGM.out.symm
      by_cases hxy : x < y
      · have hz : z = x := by rw [← hmin.out, lo_lt hxy]
        go_wp2
        go_roundw
        case rel => exact ⟨k + 1, by omega, by go_num, by rw [← HZ.out, hz]; first | rfl | (congr 1; omega), hrel.out⟩
        case measure => simp [intOf]; omega
      · have hz : z = y := by rw [← hmin.out, lo_ge hxy]
        go_wp2
        go_roundw
        case rel => exact ⟨k + 1, by omega, by go_num, by rw [← HZ.out, hz]; first | rfl | (congr 1; omega), hrel.out⟩
        case measure => simp [intOf]; omega
    · obtain rfl : k = n := by omega
      have hltI : ¬ (k : Int) < (k : Int) := by omega
      have E : Hid (r = gmin L s T k) := hide (by rw [HR.out, HN.out])
      obtain ⟨y, hy⟩ : ∃ y, y = gmin L s T k := ⟨_, rfl⟩
      rw [← hy] at E ⊢
      clear hy
      have BF := hide ((B0.out.trans (B3.out.mono B0.out.size)).trans (BW.out.mono (Nat.le_trans B0.out.size B3.out.size)))
      go_wp2
      go_ret2
      exact ⟨by rw [E.out]; rfl, BF.out⟩
end Go.Proofs.Ytfmfnlpajoikman.L15
