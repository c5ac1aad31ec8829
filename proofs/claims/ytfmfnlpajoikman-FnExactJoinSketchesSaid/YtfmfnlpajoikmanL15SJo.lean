/-
  Contract: spec.JoinSketches.
-/
import Derived.Test.YtfmfnlpajoikmanL15SGood
import Derived.Test.YtfmfnlpajoikmanL15Own
import Derived.Test.YtfmfnlpajoikmanL15JoM
import Derived.Deep.DeepCutAuto
namespace Go.Proofs.Ytfmfnlpajoikman.L15
open Go.RowKit L1 Own Sli
set_option linter.unusedVariables false

set_option maxRecDepth 100000 in
set_option maxHeartbeats 8000000 in
theorem specJoinSketches_any (a : Option Addr) (L : List (List Int)) (n cap : Nat) (T : Int) (b : Option Addr) (K : List (List Int)) (m cb : Nat) (U : Int) (w : World) (hn : L.length = n) (hn2 : n ≤ 1048576) (hs : SlSI w a L) (hsz : ∀ i, i < L.length → (L.getD i []).length ≤ 1048576) (hm : K.length = m) (hm2 : m ≤ 1048576) (hsb : SlSI w b K) (hsk : ∀ i, i < K.length → (K.getD i []).length ≤ 1048576) (ok : Bool) (L' : List (List Int)) (T' : Int) (hr : AddIs (JoinOk L T K U) (joinA L K) (T + U) ok L' T') :
    Calls Try.prog 18 #[.agg #[.slice a n cap, .int .i64 T], .agg #[.slice b m cb, .int .i64 U]] w fun e w' => ∃ v, e = .returned (.tuple #[.agg #[v, .int .i64 T'], .bool ok]) ∧ RH w w' v L' := by
  have BX := (((Below.refl w.heap.size w).alloc (Nat.le_refl _) (.cells #[.slice a n cap, .int .i64 T] 26 (0, 0))).alloc (by simp) (.cells #[.slice b m cb, .int .i64 U] 26 (0, 0))).alloc (by simp; omega) (skO (.slice none 0 0) 0)
  obtain ⟨gR, gB, g0, gz⟩ := blk_three w (.cells #[.slice a n cap, .int .i64 T] 26 (0, 0)) (.cells #[.slice b m cb, .int .i64 U] 26 (0, 0)) (skO (.slice none 0 0) 0)
  obtain ⟨W0, hW0⟩ : ∃ W0, W0 = ((w.alloc (.cells #[.slice a n cap, .int .i64 T] 26 (0, 0))).alloc (.cells #[.slice b m cb, .int .i64 U] 26 (0, 0))).alloc (skO (.slice none 0 0) 0) := ⟨_, rfl⟩
  rw [← hW0] at BX g0 gB gR gz
  have HW := hide hW0
  have HS := hide (hs.below BX)
  have HSB := hide (hsb.below BX)
  have BQ := hide BX
  have G0 := hide g0
  have GB := hide gB
  have GR := hide (show W0.heap[w.heap.size + 2]? = some (skO (.slice none 0 0) 0) from gR)
  have GZ := hide gz
  have HN := hide hn
  have HM := hide hm
  have BB0 := hide (Below.refl W0.heap.size W0)
  have NO := hide (fun (X : World) (hb : Below w.heap.size w X) (hf : ok = false) => (show (∃ v, Ending.returned (.tuple #[.agg #[.slice none 0 0, .int .i64 0], .bool false]) = .returned (.tuple #[.agg #[v, .int .i64 T'], .bool ok]) ∧ RH w X v L') from by
    obtain ⟨rfl, rfl⟩ := hr.no hf
    subst hf
    exact ⟨_, rfl, rh_nil hb⟩))
  by_cases hg : GoodS L T
  rotate_left
  · have hf : ok = false := bool_no15 hr.iff (fun h => hg h.1.1.1)
    have CG := hide (fun wx h => specGoodSketch_any a L n cap T wx hn hn2 h hsz false ⟨fun h => (by cases h), fun h => absurd h hg⟩)
    clear hr
    clear hsz hsk hn hm BX g0 gB gR gz hW0 hs hsb
    go_enter Try.func18, Try.ntmps18
    go_upto_region 1 with fail
    rw [← HW.out]
    obtain ⟨k0, k1, _, _⟩ := blkp (blk_kept G0.out BB0.out)
    obtain ⟨p0, p1, _, _⟩ := blkp (blk_kept GB.out BB0.out)
    go_wp2_with fail
    refine (CG.out _ (HS.out.below BB0.out)).mono ?_
    rintro e w1 ⟨rfl, hb1⟩
    have B1 := hide hb1
    clear hb1 k0 k1 p0 p1
    obtain ⟨k0, k1, _, _⟩ := blkp (blk_kept G0.out B1.out)
    obtain ⟨p0, p1, _, _⟩ := blkp (blk_kept GB.out B1.out)
    obtain ⟨z0, z1, y0, y1⟩ := blkp (blk_kept GR.out B1.out)
    have hz := hide (blkp (set2 (a' := .slice none 0 0) (b' := .int .i64 0) (blk_kept GR.out B1.out)))
    obtain ⟨x0, x1, _, _⟩ := hz.out
    have HF := hide (NO.out _ (((BQ.out.trans ((B1.out).mono BQ.out.size)).setCell (p := ⟨w.heap.size + 2, 0, none⟩) (by show w.heap.size ≤ w.heap.size + 2; omega) (.slice none 0 0)).setCell (p := ⟨w.heap.size + 2, 1, none⟩) (by show w.heap.size ≤ w.heap.size + 2; omega) (.int .i64 0)) hf)
    go_wp2
    refine bodyPost_ret (v := .tuple #[.agg #[.slice none 0 0, .int .i64 0], .bool false]) (by simp [results, Try.f18, go_sem, x0, x1]) rfl HF.out
  have CG := hide (fun wx h => specGoodSketch_any a L n cap T wx hn hn2 h hsz true ⟨fun _ => hg, fun _ => rfl⟩)
  have HG := hide hg
  by_cases hk : GoodS K U
  rotate_left
  · have hf : ok = false := bool_no15 hr.iff (fun h => hk h.1.1.2)
    have CK := hide (fun wx h => specGoodSketch_any b K m cb U wx hm hm2 h hsk false ⟨fun h => (by cases h), fun h => absurd h hk⟩)
    clear hr hg
    clear hsz hsk hn hm BX g0 gB gR gz hW0 hs hsb
    go_enter Try.func18, Try.ntmps18
    go_upto_region 1 with fail
    rw [← HW.out]
    obtain ⟨k0, k1, _, _⟩ := blkp (blk_kept G0.out BB0.out)
    obtain ⟨p0, p1, _, _⟩ := blkp (blk_kept GB.out BB0.out)
    go_wp2_with fail
    refine (CG.out _ (HS.out.below BB0.out)).mono ?_
    rintro e w1 ⟨rfl, hb1⟩
    have B1 := hide hb1
    clear hb1 k0 k1 p0 p1
    obtain ⟨k0, k1, _, _⟩ := blkp (blk_kept G0.out B1.out)
    obtain ⟨p0, p1, _, _⟩ := blkp (blk_kept GB.out B1.out)
    go_wp2_with fail
    refine (CK.out _ (HSB.out.below B1.out)).mono ?_
    rintro e w2 ⟨rfl, hb2⟩
    have B2 := hide (B1.out.trans (hb2.mono B1.out.size))
    clear hb2 k0 k1 p0 p1
    obtain ⟨k0, k1, _, _⟩ := blkp (blk_kept G0.out B2.out)
    obtain ⟨p0, p1, _, _⟩ := blkp (blk_kept GB.out B2.out)
    obtain ⟨z0, z1, y0, y1⟩ := blkp (blk_kept GR.out B2.out)
    have hz := hide (blkp (set2 (a' := .slice none 0 0) (b' := .int .i64 0) (blk_kept GR.out B2.out)))
    obtain ⟨x0, x1, _, _⟩ := hz.out
    have HF := hide (NO.out _ (((BQ.out.trans ((B2.out).mono BQ.out.size)).setCell (p := ⟨w.heap.size + 2, 0, none⟩) (by show w.heap.size ≤ w.heap.size + 2; omega) (.slice none 0 0)).setCell (p := ⟨w.heap.size + 2, 1, none⟩) (by show w.heap.size ≤ w.heap.size + 2; omega) (.int .i64 0)) hf)
    go_wp2
    refine bodyPost_ret (v := .tuple #[.agg #[.slice none 0 0, .int .i64 0], .bool false]) (by simp [results, Try.f18, go_sem, x0, x1]) rfl HF.out
  have CK := hide (fun wx h => specGoodSketch_any b K m cb U wx hm hm2 h hsk true ⟨fun _ => hk, fun _ => rfl⟩)
  have HK := hide hk
  by_cases hnm : n = m
  rotate_left
  · have hf : ok = false := bool_no15 hr.iff (fun h => hnm (by rw [← hn, ← hm]; exact h.1.2))
    have hnI : ¬ (n : Int) = (m : Int) := by omega
    have hd : ((n : Int) != (m : Int)) = true := by simp; omega
    clear hr hg hk
    clear hsz hsk hn hm BX g0 gB gR gz hW0 hs hsb
    go_enter Try.func18, Try.ntmps18
    go_upto_region 1 with fail
    rw [← HW.out]
    obtain ⟨k0, k1, _, _⟩ := blkp (blk_kept G0.out BB0.out)
    obtain ⟨p0, p1, _, _⟩ := blkp (blk_kept GB.out BB0.out)
    go_wp2_with fail
    refine (CG.out _ (HS.out.below BB0.out)).mono ?_
    rintro e w1 ⟨rfl, hb1⟩
    have B1 := hide hb1
    clear hb1 k0 k1 p0 p1
    obtain ⟨k0, k1, _, _⟩ := blkp (blk_kept G0.out B1.out)
    obtain ⟨p0, p1, _, _⟩ := blkp (blk_kept GB.out B1.out)
    go_wp2_with fail
    refine (CK.out _ (HSB.out.below B1.out)).mono ?_
    rintro e w2 ⟨rfl, hb2⟩
    have B2 := hide (B1.out.trans (hb2.mono B1.out.size))
    clear hb2 k0 k1 p0 p1
    obtain ⟨k0, k1, _, _⟩ := blkp (blk_kept G0.out B2.out)
    obtain ⟨p0, p1, _, _⟩ := blkp (blk_kept GB.out B2.out)
    obtain ⟨z0, z1, y0, y1⟩ := blkp (blk_kept GR.out B2.out)
    have hz := hide (blkp (set2 (a' := .slice none 0 0) (b' := .int .i64 0) (blk_kept GR.out B2.out)))
    obtain ⟨x0, x1, _, _⟩ := hz.out
    have HF := hide (NO.out _ (((BQ.out.trans ((B2.out).mono BQ.out.size)).setCell (p := ⟨w.heap.size + 2, 0, none⟩) (by show w.heap.size ≤ w.heap.size + 2; omega) (.slice none 0 0)).setCell (p := ⟨w.heap.size + 2, 1, none⟩) (by show w.heap.size ≤ w.heap.size + 2; omega) (.int .i64 0)) hf)
    go_wp2
    refine bodyPost_ret (v := .tuple #[.agg #[.slice none 0 0, .int .i64 0], .bool false]) (by simp [results, Try.f18, go_sem, x0, x1]) rfl HF.out
  subst hnm
  have hn3 := hg.1
  rw [hn] at hn3
  have hT := hg.tot
  have hU := hk.tot
  have HR := hide hr
  have hJO : Hid (JoinOk L T K U) := hide ⟨⟨hg, hk⟩, hn.trans hm.symm⟩
  have CC := hide (fun wx h => l15Own_any a L n cap T wx hn h hn2 (fun i hi => by have := hg.at i hi; unfold gi at this; omega))
  clear hr hsz hsk hn hm BX g0 gB gR gz hW0 hs hsb hg hk
  go_enter Try.func18, Try.ntmps18
  go_upto_region 1 with fail
  rw [← HW.out]
  obtain ⟨k0, k1, _, _⟩ := blkp (blk_kept G0.out BB0.out)
  obtain ⟨p0, p1, _, _⟩ := blkp (blk_kept GB.out BB0.out)
  go_wp2_with fail
  refine (CG.out _ (HS.out.below BB0.out)).mono ?_
  rintro e w1 ⟨rfl, hb1⟩
  have B1 := hide hb1
  clear hb1 k0 k1 p0 p1
  obtain ⟨k0, k1, _, _⟩ := blkp (blk_kept G0.out B1.out)
  obtain ⟨p0, p1, _, _⟩ := blkp (blk_kept GB.out B1.out)
  go_wp2_with fail
  refine (CK.out _ (HSB.out.below B1.out)).mono ?_
  rintro e w2 ⟨rfl, hb2⟩
  have B2 := hide (B1.out.trans (hb2.mono B1.out.size))
  clear hb2 k0 k1 p0 p1
  obtain ⟨k0, k1, _, _⟩ := blkp (blk_kept G0.out B2.out)
  obtain ⟨p0, p1, _, _⟩ := blkp (blk_kept GB.out B2.out)
  go_wp2_with fail
  refine (CC.out _ (HS.out.below B2.out)).mono ?_
  rintro e w3 ⟨v3, rfl, hrh⟩
  obtain ⟨⟨a3, c3, M3, hv, hG⟩, hb⟩ := hg_made T hrh
  rw [HN.out] at hv hG
  subst hv
  obtain ⟨g3, c3', e3⟩ := hG.ow.begin (by omega)
  obtain ⟨rfl, _, rfl⟩ := Value.slice.inj e3
  obtain ⟨w4, hw4⟩ : ∃ x, x = w3.alloc (skO (.slice (some ⟨g3, 0, none⟩) n c3) T) := ⟨_, rfl⟩
  obtain ⟨ob, hob⟩ : ∃ x, x = w3.heap.size := ⟨_, rfl⟩
  obtain ⟨lo, hlo⟩ : ∃ x, x = w2.heap.size := ⟨_, rfl⟩
  have hA := hb.alloc hb.size (skO (.slice (some ⟨g3, 0, none⟩) n c3) T)
  rw [← hw4] at hG hA
  rw [← hob, ← hlo] at hG
  have HW4 := hide hw4
  have HOB := hide hob
  have HLO := hide hlo
  have G5 := hide hG
  have B5 := hide (B2.out.trans (hA.mono B2.out.size))
  have LO := hide (show w.heap.size + 3 ≤ lo by have h1 := B2.out.size; have h2 := GZ.out; omega)
  clear hw4 hob hlo hG hA hb hrh e3 k0 k1 p0 p1
  go_upto_region 4 with fail
  rw [← HW4.out, ← HOB.out]
  obtain ⟨p0, p1, _, _⟩ := blkp (blk_kept GB.out B5.out)
  have SB5 := hide (HSB.out.below B5.out)
  go_wp2
  clear p0 p1
  go_loopw [34] (fun t wr => ∃ (k : Nat) (M : List PR), k ≤ n ∧ t = .int .i64 (k : Int) ∧ Hid (L15.HG lo wr ob (.slice (some ⟨g3, 0, none⟩) n c3) n M (upTo (joinR L K) L k) T) ∧ Hid (∀ i, i < n → (M.getD i eV).2 = (M3.getD i eV).2) ∧ Hid (L8.Only lo ob w4 wr)) (fun t _ => n - (intOf t).toNat)
  case atStart => exact ⟨0, M3, Nat.zero_le _, rfl, by rw [upTo_zero]; exact G5, fun _ _ => rfl, L8.Only.refl _ _ _⟩
  case round =>
    obtain ⟨k, M, hk, rfl, HH, HMM, ON⟩ := hrel
    by_cases hlt : k < n
    · have hltI : (k : Int) < (n : Int) := by omega
      have hk0 : (0 : Int) ≤ (k : Int) := by omega
      have hkL : k < L.length := by rw [HN.out]; exact hlt
      have hkK : k < K.length := by rw [HM.out]; exact hlt
      have hl11 : (gi L k).length = 11 := HG.out.at k hkL
      have hk11 : (gi K k).length = 11 := HK.out.at k hkK
      obtain ⟨bk, ok', rfl, ai, ci, hc0, hl0⟩ := HSB.out k hkK
      rw [show (K.getD k []).length = 11 from hk11] at hc0
      have hblt : bk < W0.heap.size := blk_ltO hc0
      have oldc : ∀ (q o : Nat) (u : Value), W0.cell? ⟨q, o, none⟩ = some u → ∀ (wy : World), L8.Only lo ob w4 wy → wy.cell? ⟨q, o, none⟩ = some u := fun q o u h wy hO => hO.cell (p := ⟨q, o, none⟩) ((B5.out.cell (p := ⟨q, o, none⟩) (blk_ltO h)).trans h) (.inl (by have h1 : q < W0.heap.size := blk_ltO h; have h2 := B2.out.size; have h3 := HLO.out; show q < lo; omega))
      have hcR := oldc _ _ _ hc0 _ ON.out
      have OLDC := hide oldc
      have HL0 := hide hl0
      have HH0 : Hid (L15.HG lo wr ob (.slice (some ⟨g3, 0, none⟩) n c3) n M (joinK L K k 0) T) := by rw [joinK_zero L K k hkL]; exact HH
      have H11 := hide hl11
      have K11 := hide hk11
      clear hc0 hl0 hl11 hk11 oldc hblt
      go_wp2
      clear hcR
      go_loopw [41] (fun t wr => ∃ (j : Nat) (M : List PR), j ≤ 11 ∧ t = .int .i64 (j : Int) ∧ Hid (L15.HG lo wr ob (.slice (some ⟨g3, 0, none⟩) n c3) n M (joinK L K k j) T) ∧ Hid (∀ i, i < n → (M.getD i eV).2 = (M3.getD i eV).2) ∧ Hid (L8.Only lo ob w4 wr)) (fun t _ => 11 - (intOf t).toNat)
      case atStart => exact ⟨0, M, Nat.zero_le _, rfl, HH0, HMM.out, ON.out⟩
      case round =>
        obtain ⟨j, N, hj, rfl, HI, HNN, OI⟩ := hrel
        by_cases hjl : j < 11
        · have hjI : (j : Int) < (11 : Int) := by omega
          have hj0 : (0 : Int) ≤ (j : Int) := by omega
          have hMl : N.length = n := HI.out.ow.len
          have hrow : (N.getD k eV).1 = joinP (gi L k) (gi K k) j := by
            have h1 := rws_get N k (by omega)
            rw [← h1, HI.out.eq, joinK_row L K k j hkL]
          have h11 : (N.getD k eV).1.length = 11 := by rw [hrow, joinP_len]; exact H11.out
          obtain ⟨rb, cr, hvk, hcells⟩ := HI.out.ow.row0 k hlt (by omega)
          obtain ⟨hx0, hfz⟩ := hcells j (by omega)
          have hxv : (N.getD k eV).1.getD j 0 = (gi L k).getD j 0 := by rw [hrow]; exact joinP_at _ _ _ (by rw [H11.out]; exact hjl)
          rw [hxv] at hx0
          obtain ⟨jb, jo, rfl, hy0⟩ := HL0.out j (by rw [show (K.getD k []).length = 11 from K11.out]; exact hjl)
          have hyc := OLDC.out _ _ _ hy0 _ OI.out
          have b1 := (HG.out.2 k hkL).1.2 j hjl
          have b2 := (HK.out.2 k hkK).1.2 j hjl
          obtain ⟨x, hx⟩ : ∃ x, x = (gi L k).getD j 0 := ⟨_, rfl⟩
          obtain ⟨y, hy⟩ : ∃ y, y = (gi K k).getD j 0 := ⟨_, rfl⟩
          rw [← hx] at hx0 b1
          rw [← hy] at b2
          rw [show (K.getD k []).getD j 0 = y from hy.symm] at hyc
          have HSU := hide (show joinK L K k (j + 1) = (joinK L K k j).set k ((joinP (gi L k) (gi K k) j).set j (x + y)) by rw [hx, hy]; exact joinK_succ L K k j (by rw [H11.out]; exact hjl))
          have HROW := hide hrow
          have HVK := hide hvk
          have rlo := hide (show lo ≤ rb ∧ rb < ob by
            have h1 := HI.out.ow.idx k hlt
            have hb : (N.getD k eV).2.ownBlock = some rb := by rw [hvk]; rfl
            exact ⟨(L8.own_lt h1 rb hb).1, HI.out.inr.idx k hlt rb hb⟩)
          obtain ⟨j0, j1, _, _⟩ := blkp HI.out.box
          obtain ⟨a9, c9, e9, d1, _⟩ := HI.out.ow.at k hlt
          rw [hvk] at e9
          obtain ⟨rfl, _, rfl⟩ := Value.slice.inj e9
          rw [h11] at d1
          clear hx hy hvk hrow h11 hcells hxv hMl hy0 e9
          go_wp2
          have hP := HI.out.ow.setP k hlt rb cr (by rw [HVK.out]) j (x + y)
          have hO : L8.Only lo ob wr (wr.setCell ⟨rb, j, none⟩ (.int .i64 (x + y))) := (L8.Only.refl _ _ _).grown hP.2 (fun g hg => by cases hg; exact rlo.out)
          have hHG : L15.HG lo (wr.setCell ⟨rb, j, none⟩ (.int .i64 (x + y))) ob (.slice (some ⟨g3, 0, none⟩) n c3) n (N.set k ((N.getD k eV).1.set j (x + y), (N.getD k eV).2)) (joinK L K k (j + 1)) T := HI.out.marked hO hP.1 (fun i hi => by
            by_cases e : i = k
            · subst e; rw [L8.getD_self N i _ _ (by have := HI.out.ow.len; omega)]
            · rw [L8.getD_ne N k i _ _ e]) (by
            rw [HSU.out, ← HI.out.eq, ← HROW.out]
            simp [rws, List.map_set])
          have R1 := hide hHG
          have R2 := hide (show ∀ i, i < n → ((N.set k ((N.getD k eV).1.set j (x + y), (N.getD k eV).2)).getD i eV).2 = (M3.getD i eV).2 from fun i hi => by
            by_cases e : i = k
            · subst e; rw [L8.getD_self N i _ _ (by have := HI.out.ow.len; omega)]; exact HNN.out i hi
            · rw [L8.getD_ne N k i _ _ e]; exact HNN.out i hi)
          have R3 := hide (OI.out.trans hO)
          clear hP hO hHG j0 j1 d1 hx0 hfz hyc
          go_roundw
          case rel => exact ⟨j + 1, _, by omega, by go_num, R1.out, R2.out, R3.out⟩
          case measure => simp [intOf]; omega
        · obtain rfl : j = 11 := by omega
          have hjI : ¬ ((11 : Nat) : Int) < (11 : Int) := by omega
          have R1 : Hid (L15.HG lo wr ob (.slice (some ⟨g3, 0, none⟩) n c3) n N (upTo (joinR L K) L (k + 1)) T) := by rw [← joinK_all L K k hkL]; exact HI
          go_wp2
          go_roundw
          case rel => exact ⟨k + 1, N, by omega, by go_num, R1, HNN.out, OI.out⟩
          case measure => simp [intOf]; omega
    · obtain rfl : k = n := by omega
      have hltI : ¬ (k : Int) < (k : Int) := by omega
      have HF := HH.out
      have e0 : upTo (joinR L K) L k = joinA L K := by rw [← HN.out]
      rw [e0] at HF
      obtain ⟨j0, j1, q0, q1⟩ := blkp HF.box
      have hB : Below w.heap.size w wr := BQ.out.trans ((B5.out.trans ((ON.out.below (by have h1 := G5.out.bs; have h2 := G5.out.lt; omega)).mono (by have := LO.out; have := GZ.out; omega))).mono BQ.out.size)
      have hres : wr.heap[w.heap.size + 2]? = some (skO (.slice none 0 0) 0) := (ON.out.block (w.heap.size + 2) (by have h1 := B5.out.size; have h2 := GZ.out; omega) (.inl (by have := LO.out; omega))).trans (blk_kept GR.out B5.out)
      -- the Total
      have hbx : (wr.setCell ⟨ob, 1, none⟩ (.int .i64 (T + U))).heap[ob]? = some (skO (.slice (some ⟨g3, 0, none⟩) k c3) (T + U)) := heap_boxO HF.box 1 (.int .i64 (T + U))
      have hKO : L8.Only ob (ob + 1) wr (wr.setCell ⟨ob, 1, none⟩ (.int .i64 (T + U))) := ⟨rfl, rfl, rfl, by simp, fun q hq ho => Below.heap_setCell _ _ _ _ (by show q ≠ ob; omega)⟩
      have hOw : OwR (wr.setCell ⟨ob, 1, none⟩ (.int .i64 (T + U))) lo (.slice (some ⟨g3, 0, none⟩) k c3) k M := by
        have st : ∀ {c m : Nat} {t : TypeId} {u : Value} {xs : List Value}, wr.ownsRow lo t c u m xs → (∀ g, u.ownBlock = some g → g < ob) → (wr.setCell ⟨ob, 1, none⟩ (.int .i64 (T + U))).ownsRow lo t c u m xs := fun ho hl => own_at ho (fun q hq => Below.heap_setCell _ _ _ _ (by have := hl q hq; show q ≠ ob; omega))
        exact ⟨HF.ow.len, st HF.ow.row HF.inr.row, fun i hi => st (HF.ow.idx i hi) (HF.inr.idx i hi), HF.ow.apart⟩
      obtain ⟨wT, hwT⟩ : ∃ x, x = wr.setCell ⟨ob, 1, none⟩ (.int .i64 (T + U)) := ⟨_, rfl⟩
      rw [← hwT] at hbx hKO hOw
      have hresT : wT.heap[w.heap.size + 2]? = some (skO (.slice none 0 0) 0) := (hKO.block _ (Array.getElem?_eq_some_iff.1 hres).1 (.inl (by have h1 := HF.bs; have h2 := LO.out; omega))).trans hres
      have hBT : Below w.heap.size w wT := by rw [hwT]; exact hB.setCell (p := ⟨ob, 1, none⟩) (by have h1 := HF.bs; have h2 := LO.out; show w.heap.size ≤ ob; omega) _
      have hsl := hOw.sl
      rw [HF.eq] at hsl
      have BX9 := hide hbx
      have RS := hide hresT
      have OW := hide hOw
      have BT := hide hBT
      have SL := hide hsl
      have EQ := hide HF.eq
      have HWT := hide hwT
      have LB := hide (show lo ≤ ob from HF.bs)
      have hl9 : (joinA L K).length = k := by rw [upTo_len]; exact HN.out
      obtain ⟨gb, hgb⟩ := dec_ex15 (GoodS (joinA L K) (T + U))
      have CZ := hide (fun wx h => specGoodSketch_any (some ⟨g3, 0, none⟩) (joinA L K) k c3 (T + U) wx hl9 hn2 h (fun i hi => by
        have h1 := upTo_get (joinR L K) L L.length i (by rw [upTo_len] at hi; exact hi)
        rw [upTo_len] at hi
        rw [if_pos hi] at h1
        have h2 := joinP_len (gi L i) (gi K i) 11
        have h3 := HG.out.at i hi
        unfold gi at h1
        rw [h1, h2, h3]; omega) gb hgb)
      have HGB := hide hgb
      have HL9 := hide hl9
      clear HF hbx hKO hOw hresT hBT hsl hwT hgb hl9 e0 hB hres
      obtain ⟨p0, p1, _, _⟩ := blkp ((ON.out.block (w.heap.size + 1) (by have h1 := B5.out.size; have h2 := GZ.out; omega) (.inl (by have := LO.out; omega))).trans (blk_kept GB.out B5.out))
      go_upto_region 14 with fail
      clear p0 p1
      rw [← HWT.out]
      clear j0 j1 q0 q1
      obtain ⟨j0, j1, _, _⟩ := blkp BX9.out
      go_wp2_with fail
      refine (CZ.out _ SL.out).mono ?_
      rintro e wz ⟨rfl, hbz⟩
      have BZ := hide hbz
      clear hbz j0 j1
      obtain ⟨j0, j1, _, _⟩ := blkp (blk_kept BX9.out BZ.out)
      obtain ⟨z0, z1, y0, y1⟩ := blkp (blk_kept RS.out BZ.out)
      cases gb with
      | false =>
        have hf : ok = false := bool_no15 HR.out.iff (fun h => by have := HGB.out.2 h.2; cases this)
        obtain ⟨x0, x1, _, _⟩ := blkp (set2 (a' := .slice none 0 0) (b' := .int .i64 0) (blk_kept RS.out BZ.out))
        obtain ⟨rfl, rfl⟩ := HR.out.no hf
        have hbf := hide (((BT.out.trans (BZ.out.mono BT.out.size)).setCell (p := ⟨w.heap.size + 2, 0, none⟩) (by show w.heap.size ≤ w.heap.size + 2; omega) (.slice none 0 0)).setCell (p := ⟨w.heap.size + 2, 1, none⟩) (by show w.heap.size ≤ w.heap.size + 2; omega) (.int .i64 0))
        subst hf
        go_wp2
        refine bodyPost_ret (v := .tuple #[.agg #[.slice none 0 0, .int .i64 0], .bool false]) (by simp [results, Try.f18, go_sem, x0, x1]) rfl ⟨_, rfl, rh_nil hbf.out⟩
      | true =>
        have hf : ok = true := HR.out.iff.2 ⟨hJO.out, HGB.out.1 rfl⟩
        obtain ⟨rfl, rfl⟩ := HR.out.yes hf
        subst hf
        obtain ⟨x0, x1, _, _⟩ := blkp (set2 (a' := .slice (some ⟨g3, 0, none⟩) k c3) (b' := .int .i64 (T + U)) (blk_kept RS.out BZ.out))
        have hbf := hide (((BT.out.trans (BZ.out.mono BT.out.size)).setCell (p := ⟨w.heap.size + 2, 0, none⟩) (by show w.heap.size ≤ w.heap.size + 2; omega) (.slice (some ⟨g3, 0, none⟩) k c3)).setCell (p := ⟨w.heap.size + 2, 1, none⟩) (by show w.heap.size ≤ w.heap.size + 2; omega) (.int .i64 (T + U)))
        have lt1 : w.heap.size + 2 < lo := by have := LO.out; omega
        have hO9 := hide (OwR.base (b2 := w.heap.size) (((OW.out.below BZ.out).setC ⟨w.heap.size + 2, 0, none⟩ (.slice (some ⟨g3, 0, none⟩) k c3) lt1).setC ⟨w.heap.size + 2, 1, none⟩ (.int .i64 (T + U)) lt1) (by omega))
        go_wp2
        refine bodyPost_ret (v := .tuple #[.agg #[.slice (some ⟨g3, 0, none⟩) k c3, .int .i64 (T + U)], .bool true]) (by simp [results, Try.f18, go_sem, x0, x1]) rfl ⟨_, rfl, ⟨M, EQ.out, ?_⟩, hbf.out⟩
        rw [HL9.out]
        exact hO9.out
end Go.Proofs.Ytfmfnlpajoikman.L15
