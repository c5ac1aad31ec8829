/-
  Contract: spec.GuessOf.
-/
import Derived.Test.YtfmfnlpajoikmanL15SGood
import Derived.Deep.DeepCutAuto
import Derived.Deep.QuietTactic
import Derived.BigQuiet
import Derived.Test.YtfmfnlpajoikmanL15GuM
namespace Go.Proofs.Ytfmfnlpajoikman.L15
open Go.RowKit L1 Own Sli
set_option linter.unusedVariables false

set_option maxRecDepth 100000 in
set_option maxHeartbeats 8000000 in
theorem specGuessOf_any (a : Option Addr) (L : List (List Int)) (n cap : Nat) (T : Int) (s : ByteArray) (w : World) (hn : L.length = n) (hn2 : n ≤ 1048576) (hs : SlSI w a L) (hsz : ∀ i, i < L.length → (L.getD i []).length ≤ 1048576) (hsS : s.size ≤ 9223372036854775807) (ok : Bool) (hok : ok = true ↔ GoodS L T ∧ L3.Word false s) (r : Int) (hr : r = if ok then gmin L s T L.length else 0) :
    Calls Try.prog 16 #[.agg #[.slice a n cap, .int .i64 T], .string s] w fun e w' => e = .returned (.tuple #[.int .i64 r, .bool ok]) ∧ Below w.heap.size w w' := by
  have BX := (Below.refl w.heap.size w).alloc (Nat.le_refl _) (.cells #[.slice a n cap, .int .i64 T] 26 (0, 0))
  have g0 := L8.blk_new w (.cells #[.slice a n cap, .int .i64 T] 26 (0, 0))
  obtain ⟨W0, hW0⟩ : ∃ W0, W0 = w.alloc (.cells #[.slice a n cap, .int .i64 T] 26 (0, 0)) := ⟨_, rfl⟩
  rw [← hW0] at BX g0
  obtain ⟨k0, k1, _, _⟩ := blkp g0
  have HW := hide hW0
  have HS := hide (hs.below BX)
  have B0 := hide BX
  have G0 := hide g0
  have HN := hide hn
  by_cases hg : GoodS L T
  rotate_left
  · have hf : ok = false := bool_no15 hok (fun h => hg h.1)
    subst hf
    obtain rfl : r = 0 := hr
    have CG := hide (fun wx h => specGoodSketch_any a L n cap T wx hn hn2 h hsz false ⟨fun h => (by cases h), fun h => absurd h hg⟩)
    clear hok hs hsz hn BX g0 hW0
    go_enter Try.func16, Try.ntmps16
    go_upto_region 1 with fail
    rw [← HW.out]
    go_wp2_with fail
    refine (CG.out _ HS.out).mono ?_
    rintro e w1 ⟨rfl, hb1⟩
    have B1 := hide (B0.out.trans (hb1.mono B0.out.size))
    clear hb1
    go_wp2
    go_ret2
    exact ⟨rfl, B1.out⟩
  have CG := hide (fun wx h => specGoodSketch_any a L n cap T wx hn hn2 h hsz true ⟨fun _ => hg, fun _ => rfl⟩)
  have HG := hide hg
  have CW := hide (fun wx => L3.l3Name_any s false wx hsS ok ⟨fun h => (hok.1 h).2, fun h => hok.2 ⟨hg, h⟩⟩)
  cases ok with
  | false =>
    obtain rfl : r = 0 := hr
    clear hok hs hsz hn BX g0 hW0 hg
    go_enter Try.func16, Try.ntmps16
    go_upto_region 1 with fail
    rw [← HW.out]
    go_wp2_with fail
    refine (CG.out _ HS.out).mono ?_
    rintro e w1 ⟨rfl, hb1⟩
    have B1 := hide (B0.out.trans (hb1.mono B0.out.size))
    clear hb1
    go_wp2_with fail
    refine (CW.out _).mono ?_
    rintro e w2 ⟨rfl, rfl⟩
    go_wp2
    go_ret2
    exact ⟨rfl, B1.out⟩
  | true =>
  have HR := hide (show r = gmin L s T L.length from hr)
  have hn3 := hg.1
  rw [hn] at hn3
  clear hok hs hsz hn BX g0 hW0 hg hr
  go_enter Try.func16, Try.ntmps16
  go_upto_region 1 with fail
  rw [← HW.out]
  go_wp2_with fail
  refine (CG.out _ HS.out).mono ?_
  rintro e w1 ⟨rfl, hb1⟩
  have B1 := hide hb1
  clear hb1
  go_wp2_with fail
  refine (CW.out _).mono ?_
  rintro e w2 ⟨rfl, rfl⟩
  clear k0 k1
  obtain ⟨k0, k1, _, _⟩ := blkp ((B1.out.block w.heap.size (Array.getElem?_eq_some_iff.1 G0.out).1).trans G0.out)
  have S1 := hide (HS.out.below B1.out)
  obtain ⟨b0, o0, rfl, a0, c0, hc0, hl0⟩ := S1.out 0 (by rw [HN.out]; omega)
  have h110 : (L.getD 0 []).length = 11 := HG.out.at 0 (by rw [HN.out]; omega)
  rw [h110, Nat.add_zero] at hc0
  obtain ⟨rb, ro, rfl, hx0⟩ := HG.out.cell s 0 (by rw [HN.out]; omega) hl0
  have hp0 := plc_bd (r := (0 : Int)) (by omega) s
  obtain ⟨pn, hpn⟩ : ∃ pn, pn = (plc (0 : Int) s).toNat := ⟨_, rfl⟩
  have hx0' : w1.cell? ⟨rb, ro + pn, none⟩ = some (.int .i64 (rv L s 0)) := by rw [hpn]; exact hx0
  have hpn2 : plc (0 : Int) s = (pn : Int) := by omega
  have hpI : (pn : Int) < 11 := by omega
  have hpI0 : (0 : Int) ≤ (pn : Int) := by omega
  have hn0 : (0 : Int) < (n : Int) := by omega
  have hgm : gmin L s T n = gmin L s (rv L s 0) n := gmin_same HG.out s n (by omega)
  obtain ⟨x, hx⟩ : ∃ x, x = rv L s 0 := ⟨_, rfl⟩
  rw [← hx] at hx0' hgm
  have HGM := hide hgm
  have CL := hide (fun q => calls_symm (l15Place_any 0 s (w1.drewN q) (by omega) hsS (pn : Int) hpn2.symm))
  have HC := hide hc0
  clear hpn hpn2 hp0 hx hgm hl0 hx0 h110
  go_upto_region 3 with fail
  go_quiet (first | (go_at_call 36; refine Calls.quiet_of_same (CL.out _)) | fail)
  have BD := hide (below_drewG (Below.refl w1.heap.size w1) nq)
  obtain ⟨w4, hw4⟩ : ∃ w4, w4 = w1.drewN nq := ⟨_, rfl⟩
  rw [← hw4] at BD
  have HW4 := hide hw4
  clear hc0 hx0' k0 k1 hw4
  rw [← HW4.out]
  have G4 := (BD.out.block w.heap.size (Array.getElem?_eq_some_iff.1 ((B1.out.block w.heap.size (Array.getElem?_eq_some_iff.1 G0.out).1).trans G0.out)).1).trans ((B1.out.block w.heap.size (Array.getElem?_eq_some_iff.1 G0.out).1).trans G0.out)
  obtain ⟨k0, k1, _, _⟩ := blkp G4
  have S4 := hide (S1.out.below BD.out)
  have B4 := hide (B0.out.trans ((B1.out.trans (BD.out.mono B1.out.size)).mono B0.out.size))
  clear S1 CL HW4 HC
  go_wp2
  clear k0 k1 G4
  go_loop [6, 29] (fun o t => ∃ k : Nat, k ≤ n ∧ t = .int .i64 (k : Int) ∧ o = .int .i64 (gmin L s x k)) (fun _ t => n - (intOf t).toNat)
  case atStart => exact ⟨0, Nat.zero_le _, rfl, rfl⟩
  case round =>
    obtain ⟨k, hk, rfl, rfl⟩ := hrel
    by_cases hlt : k < n
    · have hltI : (k : Int) < (n : Int) := by omega
      have hk0 : (0 : Int) ≤ (k : Int) := by omega
      have hkL : k < L.length := by rw [HN.out]; exact hlt
      obtain ⟨b5, o5, e5, ai, ci, hc, hl⟩ := S4.out k hkL
      obtain ⟨rfl, rfl⟩ : b0 = b5 ∧ o0 = o5 := by cases e5; exact ⟨rfl, rfl⟩
      have h11 : (L.getD k []).length = 11 := HG.out.at k hkL
      rw [h11] at hc
      obtain ⟨rb, ro, rfl, hxk⟩ := HG.out.cell s k hkL hl
      have hp := plc_bd (r := (k : Int)) (by omega) s
      obtain ⟨pn, hpn⟩ : ∃ pn, pn = (plc (k : Int) s).toNat := ⟨_, rfl⟩
      rw [← hpn] at hxk
      have hpn2 : plc (k : Int) s = (pn : Int) := by omega
      have hpI : (pn : Int) < 11 := by omega
      have hpI0 : (0 : Int) ≤ (pn : Int) := by omega
      have CL := hide (fun wx => l15Place_any (k : Int) s wx (by omega) hsS (pn : Int) hpn2.symm)
      have hgm : gmin L s x (k + 1) = lo (rv L s k) (gmin L s x k) := rfl
      obtain ⟨u, hu⟩ : ∃ u, u = rv L s k := ⟨_, rfl⟩
      rw [← hu] at hxk hgm
      obtain ⟨y, hy⟩ : ∃ y, y = gmin L s x k := ⟨_, rfl⟩
      obtain ⟨z, hz⟩ : ∃ z, z = gmin L s x (k + 1) := ⟨_, rfl⟩
      rw [← hy, ← hz] at hgm
      rw [← hy]
      have HZ := hide hz
      have HG2 := hide hgm
      clear hu hy hz hgm hpn hpn2 hp e5 h11 hl
      go_wp2_with fail
      refine (CL.out _).mono ?_
      rintro e w6 ⟨rfl, rfl⟩
      by_cases hxy : u < y
      · have hz : Hid (z = u) := hide (by rw [HG2.out, lo_lt hxy])
        go_wp2
        go_round
        case rel => exact ⟨k + 1, by omega, by go_num, by rw [← HZ.out, hz.out]⟩
        case measure => simp [intOf]; omega
      · have hz : Hid (z = y) := hide (by rw [HG2.out, lo_ge hxy])
        go_wp2
        go_round
        case rel => exact ⟨k + 1, by omega, by go_num, by rw [← HZ.out, hz.out]⟩
        case measure => simp [intOf]; omega
    · obtain rfl : k = n := by omega
      have hltI : ¬ (k : Int) < (k : Int) := by omega
      have E : Hid (r = gmin L s x k) := hide (by rw [HR.out, HN.out, HGM.out])
      obtain ⟨y, hy⟩ : ∃ y, y = gmin L s x k := ⟨_, rfl⟩
      rw [← hy] at E ⊢
      clear hy
      go_wp2
      go_ret2
      exact ⟨by rw [E.out]; rfl, B4.out⟩
end Go.Proofs.Ytfmfnlpajoikman.L15
