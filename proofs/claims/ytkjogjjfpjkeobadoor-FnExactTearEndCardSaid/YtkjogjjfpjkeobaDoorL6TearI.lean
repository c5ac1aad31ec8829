/-
  Contract: impl.TearEnd.
-/
import Derived.Test.YtkjogjjfpjkeobaDoorL6Copy
import Derived.Test.YtkjogjjfpjkeobaDoorL6Tear
import Derived.Test.YtkjogjjfpjkeobaDoorL6GoodLog
import Derived.Test.YtkjogjjfpjkeobaDoorL6Whole
import Derived.Deep.RegionWith
import Derived.Deep.RegionHeld3
import Derived.Deep.DeepCutAuto
namespace Go.Proofs.YtkjogjjfpjkeobaDoor.L6
open Go.RowKit L1
set_option linter.unusedVariables false

theorem blk_second (w : World) (x y : Obj) : ((w.alloc x).alloc y).heap[w.heap.size + 1]? = some y := by
  have := blk_new (w.alloc x) y
  rw [World.size_alloc] at this
  exact this
theorem blk_first (w : World) (x y : Obj) : ((w.alloc x).alloc y).heap[w.heap.size]? = some x :=
  (((Below.refl (w.alloc x).heap.size _).alloc (Nat.le_refl _) _).block w.heap.size (by simp)).trans (blk_new _ _)

theorem gc_set_self (L : List Pc) (m : Nat) (p : Pc) (h : m < L.length) : gc (L.set m p) m = p := by simp [gc, List.getD, h]
theorem gc_set_ne (L : List Pc) (m i : Nat) (p : Pc) (h : i ≠ m) : gc (L.set m p) i = gc L i := by simp [gc, List.getD, List.getElem?_set_ne (Ne.symm h)]
/-- The copy with its last piece torn. -/
structure TornAt (w : World) (base go g n m : Nat) (B : Int) (M : List PV) (p : Pc) (wx : World) : Prop where
  own : ∃ u, OwC wx base (.slice (some ⟨g, 0, none⟩) n n) n (M.set m (p, u))
  bel : Below w.heap.size w wx
  res : wx.heap[w.heap.size + 1]? = some (.cells #[.slice none 0 0, .int .i64 0] 28 (0, 0))
  out : wx.heap[go]? = some (.cells #[.slice (some ⟨g, 0, none⟩) n n, .int .i64 B] 28 (0, 0))

open Classical in
set_option maxRecDepth 100000 in
set_option maxHeartbeats 4000000 in
theorem implTear_any (a : Option Addr) (L : List Pc) (n cap : Nat) (B b : Int) (w : World) (hn : L.length = n) (hm : n ≤ 9223372036854775807) (hs : SlC w a L) (hst : TxC L) (ht : Tab w) (L' : List Pc) (B' left : Int) (ok : Bool) (hr : TearIs L B b L' B' left ok) :
    Calls Tryd.prog 22 #[.agg #[.slice a n cap, .int .i64 B], .int .i64 b] w (RetG w L' B' left ok) := by
  obtain ⟨bk, hbk⟩ : ∃ bk : Bool, bk = true ↔ GoodG L B := ⟨decide (GoodG L B), by simp⟩
  have C1 := hide (fun wx (hb : Below w.heap.size w wx) => goodLog_any a L n cap B wx hn hm (hs.below hb) hst (ht.below hb) bk hbk)
  cases bk with
  | false =>
    obtain ⟨rfl, rfl, rfl, rfl⟩ := hr.no (fun h => absurd (hbk.2 h.1) (by simp))
    clear hr hs hn hst hbk ht
    go_enter Tryd.func22, Tryd.ntmps22
    go_wp2_with fail
    refine (C1.out _ (((Below.refl _ _).alloc (Nat.le_refl _) _).alloc (by simp) _)).mono ?_
    rintro e w1 ⟨rfl, hb1⟩
    obtain ⟨z0, z1, z2, z3⟩ := blkp ((hb1.block (w.heap.size + 1) (by simp)).trans (blk_second w _ _))
    have B1 := hide ((((Below.refl w.heap.size w).alloc (Nat.le_refl _) (.cells #[.slice a n cap, .int .i64 B] 28 (0, 0))).alloc (by simp) (.cells #[.slice none 0 0, .int .i64 0] 28 (0, 0))).trans (hb1.mono (by simp; omega)))
    clear hb1
    go_wp2
    refine bodyPost_ret (v := .tuple #[.agg #[.slice none 0 0, .int .i64 0], .int .i64 0, .bool false]) (by simp [results, Tryd.f22, go_sem, z0, z1]) rfl (retG_none ((B1.out.setCell (p := ⟨_, _, none⟩) (Nat.le_succ _) _).setCell (p := ⟨_, _, none⟩) (Nat.le_succ _) _))
  | true =>
    have hg := hbk.1 rfl
    have hn1 : 1 ≤ n := by have := hg.one; omega
    have hn20 : n ≤ 20 := by have := hg.many; omega
    have C2 := hide (fun wx (hb : Below w.heap.size w wx) => copyLog_any a L n cap B wx hn hn1 hn20 (hs.below hb) (hg.small hn))
    have HS := hide hs
    have HN := hide hn
    have HG := hide hg
    have HT := hide ht
    have HR := hide hr
    clear hs hn hg hst hbk hr ht
    go_enter Tryd.func22, Tryd.ntmps22
    go_wp2_with fail
    refine (C1.out _ (((Below.refl _ _).alloc (Nat.le_refl _) _).alloc (by simp) _)).mono ?_
    rintro e w0 ⟨rfl, hb1⟩
    have G1 : Hid (w0.heap[w.heap.size + 1]? = some (.cells #[.slice none 0 0, .int .i64 0] 28 (0, 0))) := (hb1.block (w.heap.size + 1) (by simp)).trans (blk_second w _ _)
    have B1 := hide ((((Below.refl w.heap.size w).alloc (Nat.le_refl _) (.cells #[.slice a n cap, .int .i64 B] 28 (0, 0))).alloc (by simp) (.cells #[.slice none 0 0, .int .i64 0] 28 (0, 0))).trans (hb1.mono (by simp; omega)))
    obtain ⟨k0, k1, _, _⟩ := blkp ((hb1.block w.heap.size (by simp only [World.size_alloc]; omega)).trans (blk_first w _ _))
    clear hb1
    go_wp2_with fail
    refine (C2.out _ (by first | exact B1.out | exact B1.out.alloc B1.out.size _)).mono ?_
    rintro e w1 ⟨g, M, rfl, hM, ho, hb2⟩
    have B2 := hide (B1.out.trans (hb2.mono B1.out.size))
    have G2 : Hid (w1.heap[w.heap.size + 1]? = some (.cells #[.slice none 0 0, .int .i64 0] 28 (0, 0))) := (hb2.block (w.heap.size + 1) (Array.getElem?_eq_some_iff.1 G1.out).1).trans G1.out
    obtain ⟨z0, z1, z2, z3⟩ := blkp G2.out
    have hz1 : w.heap.size + 1 < w0.heap.size := (Array.getElem?_eq_some_iff.1 G1.out).1
    have hgb := own_ltC ho.row g rfl
    have hml := ho.len
    obtain ⟨m, hm'⟩ : ∃ m, m = n - 1 := ⟨_, rfl⟩
    have hnm : (n : Int) - 1 = (m : Int) := by omega
    have hmn : (m : Int) < (n : Int) := by omega
    have hm0 : (0 : Int) ≤ (m : Int) := by omega
    have hmN : m < n := by omega
    obtain ⟨f1, f2, f3⟩ := flatC_get M m (by omega)
    have hp1 : (M.getD m eV).1 = gc L m := by
      have := pcs_get M m (by omega)
      rw [hM] at this
      exact this.symm
    obtain ⟨ai, ci, hv, hsl, _⟩ := own_form (ho.idx m hmN)
    rw [hv] at f3
    rw [hp1] at f1 f2 f3
    have hfl : (flatC M).length = n * 3 := by rw [flatC_len, hml]
    have d1 := (ho.row.cellAt (m * 3) (by omega)).trans f1
    have d2 := (ho.row.cellAt (m * 3 + 1) (by omega)).trans f2
    have d3 := (ho.row.cellAt (m * 3 + 2) (by omega)).trans f3
    have fz := fun k => ho.row.frozenAt k
    have hlp : lastP L = gc L m := by show gc L (L.length - 1) = _; rw [HN.out, hm']
    have hgp := (HG.out.ps m (by rw [HN.out]; exact hmN)).1
    have hsz := hgp.1
    have hla := HG.out.logAt HN.out HS.out HT.out
    have hfl2 := hla.fl
    rw [← hm'] at hfl2
    obtain ⟨p, hp⟩ : ∃ p, p = gc L m := ⟨_, rfl⟩
    rw [← hp] at d1 d2 d3 hlp hsz hfl2
    obtain ⟨f, s, x⟩ := p
    simp only at d1 d2 d3 hsz hfl2
    obtain ⟨xl, hxl⟩ : ∃ xl, xl = x.length := ⟨_, rfl⟩
    rw [← hxl] at d3
    have e1 := Go.Lib.cell?_alloc_some (.cells #[.slice (some ⟨g, 0, none⟩) n n, .int .i64 B] 28 (0, 0)) d1
    have e2 := Go.Lib.cell?_alloc_some (.cells #[.slice (some ⟨g, 0, none⟩) n n, .int .i64 B] 28 (0, 0)) d2
    have e3 := Go.Lib.cell?_alloc_some (.cells #[.slice (some ⟨g, 0, none⟩) n n, .int .i64 B] 28 (0, 0)) d3
    have HXL := hide hxl
    have HO := hide ho
    have HM := hide hM
    have HLP := hide hlp
    have HV := hide hv
    have HP1 := hide hp1
    have HP := hide hp
    clear hxl ho hM hlp hv hp1 hp f1 f2 f3 hfl hsl hla hgp hb2 fz hm' hml
    go_upto_region 6 with fail
    generalize hW : (w1.alloc (.cells #[.slice (some ⟨g, 0, none⟩) n n, .int .i64 B] 28 (0, 0))).alloc (.cells #[.int .i64 f, .string s, .slice ai xl ci] 37 (0, 0)) = W
    have BW : Below w1.heap.size w1 W := by rw [← hW]; exact ((Below.refl _ _).alloc (Nat.le_refl _) _).alloc (by simp) _
    have GO : W.heap[w1.heap.size]? = some (.cells #[.slice (some ⟨g, 0, none⟩) n n, .int .i64 B] 28 (0, 0)) := by rw [← hW]; exact blk_first _ _ _
    have GP : W.heap[w1.heap.size + 1]? = some (.cells #[.int .i64 f, .string s, .slice ai xl ci] 37 (0, 0)) := by rw [← hW]; exact blk_second _ _ _
    obtain ⟨o0, o1, o2, o3⟩ := blkp GO
    obtain ⟨p0, p1, p2, _, _, _⟩ := blk3 GP
    have G3 : W.heap[w.heap.size + 1]? = some (.cells #[.slice none 0 0, .int .i64 0] 28 (0, 0)) := (BW.block (w.heap.size + 1) (Array.getElem?_eq_some_iff.1 G2.out).1).trans G2.out
    have B3 := hide (B2.out.trans (BW.mono B2.out.size))
    have HO3 := hide (HO.out.below BW)
    have HG3 := hide G3
    have HGO := hide GO
    have hwW : w1.heap.size + 1 < W.heap.size := (Array.getElem?_eq_some_iff.1 GP).1
    clear z0 z1 z2 z3
    obtain ⟨z0, z1, z2, z3⟩ := blkp G3
    clear hW BW GO GP G3 d1 d2 d3 e1 e2 e3 k0 k1
    by_cases hb0 : b < 0
    · have hno : ¬ TearOk L B b := fun h => by have := h.2.1.1; omega
      obtain ⟨rfl, rfl, rfl, rfl⟩ := HR.out.no hno
      clear hno
      go_wp2
      refine bodyPost_ret (v := .tuple #[.agg #[.slice none 0 0, .int .i64 0], .int .i64 0, .bool false]) (by simp [results, Tryd.f22, go_sem, z0, z1]) rfl (retG_none ((B3.out.setCell (p := ⟨_, _, none⟩) (Nat.le_succ _) _).setCell (p := ⟨_, _, none⟩) (Nat.le_succ _) _))
    by_cases hb1 : (s.size : Int) < b
    · have hno : ¬ TearOk L B b := fun h => by have := h.2.1.2; rw [HLP.out] at this; simp only at this; omega
      obtain ⟨rfl, rfl, rfl, rfl⟩ := HR.out.no hno
      clear hno
      go_wp2
      refine bodyPost_ret (v := .tuple #[.agg #[.slice none 0 0, .int .i64 0], .int .i64 0, .bool false]) (by simp [results, Tryd.f22, go_sem, z0, z1]) rfl (retG_none ((B3.out.setCell (p := ⟨_, _, none⟩) (Nat.le_succ _) _).setCell (p := ⟨_, _, none⟩) (Nat.le_succ _) _))
    obtain ⟨bn, rfl⟩ : ∃ bn : Nat, b = (bn : Int) := ⟨b.toNat, by omega⟩
    obtain ⟨k, hk⟩ : ∃ k : Nat, k = s.size - bn := ⟨_, rfl⟩
    have hks : k ≤ s.size := by omega
    have hsub : (s.size : Int) - (bn : Int) = (k : Int) := by omega
    have hwr : IntKind.i64.wrap ((s.size : Int) - (bn : Int)) = (k : Int) := by rw [hsub]; exact wrap6 (by omega) (by omega)
    have q := fun w => slice_to w s k hks
    obtain ⟨y, hy⟩ : ∃ y, y = s.extract 0 k := ⟨_, rfl⟩
    rw [← hy] at q
    have HY : Hid (tornS (lastP L) (bn : Int) = y) := by
      show tornS (lastP L) (bn : Int) = y
      rw [HLP.out, hy, hk]
      rfl
    have hys : y.size ≤ 60 := by rw [hy]; simp; omega
    clear hy hk
    go_upto_region 9 with fail
    obtain ⟨N, hN⟩ : ∃ N, N = (ix y).length := ⟨_, rfl⟩
    obtain ⟨Y, hY⟩ : ∃ Y, Y = y.extract 0 (wh y) := ⟨_, rfl⟩
    have C3 := hide (fun wx (hb : Below W.heap.size W wx) => (wholePiece_any f y wx (by omega) (HT.out.below (B3.out.trans (hb.mono B3.out.size)))).mono (R' := fun e w2 => ∃ a2 q2, e = .returned (.agg #[.int .i64 f, .string Y, .slice a2 N q2]) ∧ (w2.ownsRow W.heap.size 3 1 (.slice a2 N q2) N ((ix y).map (Value.int .i64)) ∧ Below W.heap.size W w2) ∧ (∃ u0 u1 u2, w2.cell? ⟨g, m * 3, none⟩ = some u0 ∧ w2.cell? ⟨g, m * 3 + 1, none⟩ = some u1 ∧ w2.cell? ⟨g, m * 3 + 2, none⟩ = some u2) ∧ (w2.frozen? ⟨g, m * 3, none⟩ = false ∧ w2.frozen? ⟨g, m * 3 + 1, none⟩ = false ∧ w2.frozen? ⟨g, m * 3 + 2, none⟩ = false) ∧ (w2.cell? ⟨w1.heap.size, 0, none⟩ = some (.slice (some ⟨g, 0, none⟩) n n) ∧ w2.cell? ⟨w1.heap.size, 1, none⟩ = some (.int .i64 B))) (by
      rintro e w2 ⟨v2, rfl, ho2, hb2⟩
      have hb3 := hb.trans (hb2.mono hb.size)
      rw [← hN] at ho2
      obtain ⟨a2, q2, rfl, _, _⟩ := own_form ho2
      rw [← hY]
      have R := (HO3.out.below hb3).row
      have hfl : (flatC M).length = n * 3 := by rw [flatC_len, HO3.out.len]
      refine ⟨a2, q2, rfl, ⟨own_baseC ho2 hb.size, hb3⟩, ⟨_, _, _, (R.cellAt (m * 3) (by omega)).trans (List.getElem?_eq_getElem (by omega)), (R.cellAt (m * 3 + 1) (by omega)).trans (List.getElem?_eq_getElem (by omega)), (R.cellAt (m * 3 + 2) (by omega)).trans (List.getElem?_eq_getElem (by omega))⟩, ⟨R.frozenAt _, R.frozenAt _, R.frozenAt _⟩, ?_⟩
      obtain ⟨o0, o1, _, _⟩ := blkp ((hb3.block w1.heap.size (Array.getElem?_eq_some_iff.1 HGO.out).1).trans HGO.out)
      exact ⟨o0, o1⟩))
    have HNN := hide hN
    have HYY := hide hY
    have hw1W : w0.heap.size ≤ W.heap.size := by omega
    have PP : Hid (∀ w2 a2 q2, (w2.ownsRow W.heap.size 3 1 (.slice a2 N q2) N ((ix y).map (Value.int .i64)) ∧ Below W.heap.size W w2) → TornAt w w0.heap.size w1.heap.size g n m B M ⟨f, Y, ix y⟩ (((w2.setCell ⟨g, m * 3, none⟩ (.int .i64 f)).setCell ⟨g, m * 3 + 1, none⟩ (.string Y)).setCell ⟨g, m * 3 + 2, none⟩ (.slice a2 N q2))) := by
      intro w2 a2 q2 h
      have P := (HO3.out.below h.2).put m hmN ⟨f, Y, ix y⟩ (.slice a2 N q2) (by show w2.ownsRow _ _ _ _ (ix y).length _; rw [← HNN.out]; exact own_baseC h.1 hw1W) (fun i hi _ bb hbb e => by
        have h1 := (own_ltC h.1 bb hbb).1
        have h2 := (own_ltC (HO3.out.idx i hi) bb e).2
        omega)
      have hs2 := h.2.size
      exact ⟨⟨_, P.1⟩, (B3.out.trans (h.2.mono B3.out.size)).grown P.2 (Nat.le_trans B3.out.size hs2) (fun q hq => by cases hq; omega), (P.2.block (w.heap.size + 1) (by omega) (by simp; omega)).trans ((h.2.block _ (by omega)).trans HG3.out), (P.2.block w1.heap.size (by omega) (by simp; omega)).trans ((h.2.block _ (by omega)).trans HGO.out)⟩
    clear hN hY
    go_cut [8] (fun t wx => t = .int .i64 m ∧ TornAt w w0.heap.size w1.heap.size g n m B M ⟨f, Y, ix y⟩ wx)
    case first =>
      go_region_with (go_at_call 33; refine (C3.out _ ?_).mono ?_; (first | exact Below.refl _ _ | exact (Below.refl _ _).drew | exact ((Below.refl _ _).drew).drew); rintro e w2 ⟨a2, q2, rfl, ho2, ⟨u0, u1, u2, c0, c1, c2⟩, ⟨c3, c4, c5⟩, c6, c7⟩)
      all_goals (
        go_wp2_with fail
        go_meet
        case rel => exact ⟨rfl, PP.out _ _ _ ho2⟩)
    case rest =>
      obtain ⟨rfl, hta⟩ := hcut
      have hwh := wh_le y
      have hYs : Y.size = wh y := by rw [HYY.out]; simp; omega
      have hcY : cnt Y = cnt y := by rw [HYY.out]; exact whole_cnt y
      have hlen2 : (L.set m ⟨f, Y, ix y⟩).length = n := by simpa using HN.out
      obtain ⟨u, hown⟩ := hta.own
      have hpc : pcs (M.set m (⟨f, Y, ix y⟩, u)) = L.set m ⟨f, Y, ix y⟩ := by rw [← HM.out]; show List.map _ _ = _; rw [List.map_set]
      have hgm : gc (L.set m ⟨f, Y, ix y⟩) m = ⟨f, Y, ix y⟩ := gc_set_self L m _ (by rw [HN.out]; exact hmN)
      have hnm1 : n - 1 = m := by omega
      have hla : LogAt wc (some ⟨g, 0, none⟩) (L.set m ⟨f, Y, ix y⟩) n := by
        refine ⟨hlen2, hn1, hn20, by rw [← hpc]; exact hown.sl, ?_, ?_, ?_, HT.out.below hta.bel⟩
        · by_cases hm2 : m = 0
          · subst hm2
            rw [hgm]
            have h0 := HG.out.f0
            have h1 := HG.out.f1
            rw [← HP.out] at h0 h1
            exact ⟨h0, h1⟩
          · rw [show gc (L.set m ⟨f, Y, ix y⟩) 0 = gc L 0 from gc_set_ne L m 0 _ (by omega)]
            exact ⟨HG.out.f0, HG.out.f1⟩
        · rw [hnm1, hgm]; exact hfl2
        · rw [hnm1, hgm]; show Y.size ≤ 60; omega
      have hE : lastEnd (L.set m ⟨f, Y, ix y⟩) n = f + (cnt y : Int) := by
        unfold lastEnd
        rw [hnm1, hgm]
        show f + (cnt Y : Int) = _
        rw [hcY]
      have C4 := hide (fun wx (hb : Below wc.heap.size wc wx) => endOf_any (some ⟨g, 0, none⟩) (L.set m ⟨f, Y, ix y⟩) n n B wx (hla.below hb))
      rw [hE] at C4
      have hok : TearOk L B (bn : Int) ↔ B ≤ f + (cnt y : Int) := by
        unfold TearOk
        rw [HY.out, HLP.out]
        constructor
        · intro h
          exact h.2.2
        · intro h
          exact ⟨HG.out, ⟨by omega, by show (bn : Int) ≤ (s.size : Int); omega⟩, h⟩
      have HOK := hide hok
      have HTA := hide hta
      have HOW := hide hown
      have HPC := hide hpc
      have HL2 := hide hlen2
      have hcl := cnt_le y
      obtain ⟨E, hEE⟩ : ∃ E, E = f + (cnt y : Int) := ⟨_, rfl⟩
      rw [← hEE] at C4 HOK
      obtain ⟨z0, z1, z2, z3⟩ := blkp hta.res
      obtain ⟨o0, o1, _, _⟩ := blkp hta.out
      clear hta hown hpc hlen2 hla hok hE hgm hcY hEE
      go_upto_region 10 with fail
      go_region_held3 (fun wx => (wx.cell? ⟨w1.heap.size, 0, none⟩ = some (.slice (some ⟨g, 0, none⟩) n n) ∧ wx.cell? ⟨w1.heap.size, 1, none⟩ = some (.int .i64 B) ∧ wx.cell? ⟨w.heap.size + 1, 0, none⟩ = some (.slice none 0 0)) ∧ Below wc.heap.size wc wx) (first | exact ⟨⟨o0, o1, z0⟩, (Below.refl _ _).drew⟩ | exact keep3 (by assumption) (by assumption) (Nat.le_refl _)) ((go_at_call 45; refine (C4.out _ (by first | exact And.right (by assumption) | exact (Below.refl _ _).drew | exact Below.refl _ _)).mono ?_; rintro e w5 ⟨rfl, hb⟩))
      rename_i hHeld
      have hb5 := hHeld.2
      have HB5 := hide (HTA.out.bel.trans (hb5.mono HTA.out.bel.size))
      have HOW5 := hide (HOW.out.below hb5)
      clear z0 z1 z2 z3 o0 o1
      obtain ⟨z0, z1, z2, z3⟩ := blkp ((hb5.block (w.heap.size + 1) (Array.getElem?_eq_some_iff.1 HTA.out.res).1).trans HTA.out.res)
      obtain ⟨o0, o1, _, _⟩ := blkp ((hb5.block w1.heap.size (Array.getElem?_eq_some_iff.1 HTA.out.out).1).trans HTA.out.out)
      have hfl : (flatC (M.set m (⟨f, Y, ix y⟩, u))).length = n * 3 := by rw [flatC_len, HOW5.out.len]
      obtain ⟨_, f2, _⟩ := flatC_get (M.set m (⟨f, Y, ix y⟩, u)) m (by rw [HOW5.out.len]; exact hmN)
      have r2 := (HOW5.out.row.cellAt (m * 3 + 1) (by omega)).trans f2
      rw [getD_set_self M m _ (by rw [HO3.out.len]; exact hmN)] at r2
      simp only at r2
      have hnr : ¬ g = w.heap.size + 1 := by omega
      have hnr2 : ¬ w1.heap.size = w.heap.size + 1 := by omega
      clear hHeld hb5 hfl f2 C1 C2 C3 C4 PP
      by_cases hBE : E < B
      · obtain ⟨rfl, rfl, rfl, rfl⟩ := HR.out.no (fun h => by have := HOK.out.1 h; omega)
        go_wp2
        refine bodyPost_ret (v := .tuple #[.agg #[.slice none 0 0, .int .i64 0], .int .i64 0, .bool false]) (by simp [results, Tryd.f22, go_sem, z0, z1]) rfl (retG_none ((HB5.out.setCell (p := ⟨_, _, none⟩) (Nat.le_succ _) _).setCell (p := ⟨_, _, none⟩) (Nat.le_succ _) _))
      · obtain ⟨rfl, hL', rfl, hleft⟩ := HR.out.yes (HOK.out.2 (by omega))
        have hL2 : L' = L.set m ⟨f, Y, ix y⟩ := by
          rw [hL', HN.out, hnm1]
          unfold tornP
          rw [HY.out, HLP.out, ← HYY.out]
        rw [HY.out] at hleft
        have hwr2 : IntKind.i64.wrap ((y.size : Int) - (Y.size : Int)) = left := by rw [hleft, hYs]; exact wrap6 (by omega) (by omega)
        have HL' := hide hL2
        have HLL := hide hleft
        clear hL' hL2 hleft
        go_upto_region 12 with fail
        go_region
        go_wp2
        have hlt0 : w.heap.size + 1 < w0.heap.size := hz1
        refine bodyPost_ret (v := .tuple #[.agg #[.slice (some ⟨g, 0, none⟩) n n, .int .i64 B'], .int .i64 ((y.size : Int) - (wh y : Int)), .bool true]) (by simp [results, Tryd.f22, go_sem, z0, z1]) rfl ⟨some ⟨g, 0, none⟩, n, by rw [HL'.out, HL2.out, HLL.out], M.set m (⟨f, Y, ix y⟩, u), by rw [HL'.out]; exact HPC.out, ?_, ?_⟩
        · rw [HL'.out, HL2.out]
          exact (((HOW5.out.setC ⟨_, _, none⟩ _ hlt0).setC ⟨_, _, none⟩ _ hlt0).base (by omega)).below (Below.refl _ _).drew
        · exact ((HB5.out.setCell (p := ⟨_, _, none⟩) (Nat.le_succ _) _).setCell (p := ⟨_, _, none⟩) (Nat.le_succ _) _).drew
end Go.Proofs.YtkjogjjfpjkeobaDoor.L6
