/-
  Contract: impl.TearEnd.
  Contract: spec.l6Own.
  Contract: spec.l1Varint makes the digits to 128 of a number's ZigZag, as a text; memory that was there stays as it was.
  Contracts: spec.l1Zag, spec.l1Get (of a text and a place the number whose digits stand there, and the place behind, -1 where there is none), spec.GetVarint.
  Contracts: spec.l1In, spec.l6Starts, spec.l6Index.
  Contracts: spec.l6Piece, spec.l1Same.
  Contract: spec.l6Many: how many records a piece has, -1 where it is none.
  Contract: spec.GoodLog.
-/
import Derived.Test.YtapffbbmofhpobaDoorBundle4
import Derived.Test.YtapffbbmofhpobaDoorBundle5
import Derived.Deep.RegionWith
import Derived.Deep.RegionHeld3
import Derived.Deep.DeepCutAuto
import Derived.Test.YtapffbbmofhpobaDoorBundle1
import Derived.Lib.VarintBits
import Derived.Deep.QuietTactic
import Derived.BigQuiet
import Derived.Test.YtapffbbmofhpobaDoorBundle2
import Derived.OwnWalk
import Derived.Test.YtapffbbmofhpobaDoorBundle3
namespace Go.Proofs.YtapffbbmofhpobaDoor.L6
open Go.RowKit L1
set_option linter.unusedVariables false

theorem blk_second (w : World) (x y : Obj) : ((w.alloc x).alloc y).heap[w.heap.size + 1]? = some y := by
  have := blk_new (w.alloc x) y
  rw [World.size_alloc] at this
  exact this
theorem blk_first (w : World) (x y : Obj) : ((w.alloc x).alloc y).heap[w.heap.size]? = some x :=
  (((Below.refl (w.alloc x).heap.size _).alloc (Nat.le_refl _) _).block w.heap.size (by simp)).trans (blk_new _ _)

theorem gc_set_self (L : List Pc) (m : Nat) (p : Pc) (h : m < L.length) : gc (L.set m p) m = p := by simp [gc, List.getD, h]
theorem gc_set_ne (L : List Pc) (m i : Nat) (p : Pc) (h : i ≠ m) : gc (L.set m p) i = gc L i := by simp [gc, List.getD, List.getElem?_set_ne (Ne.symm h)]
/-- The copy with its last piece torn. -/
structure TornAt (w : World) (base go g n m : Nat) (B : Int) (M : List PV) (p : Pc) (wx : World) : Prop where
  own : ∃ u, OwC wx base (.slice (some ⟨g, 0, none⟩) n n) n (M.set m (p, u))
  bel : Below w.heap.size w wx
  res : wx.heap[w.heap.size + 1]? = some (.cells #[.slice none 0 0, .int .i64 0] 28 (0, 0))
  out : wx.heap[go]? = some (.cells #[.slice (some ⟨g, 0, none⟩) n n, .int .i64 B] 28 (0, 0))

open Classical in
set_option maxRecDepth 100000 in
set_option maxHeartbeats 4000000 in
theorem implTear_any (a : Option Addr) (L : List Pc) (n cap : Nat) (B b : Int) (w : World) (hn : L.length = n) (hm : n ≤ 9223372036854775807) (hs : SlC w a L) (hst : TxC L) (ht : Tab w) (L' : List Pc) (B' left : Int) (ok : Bool) (hr : TearIs L B b L' B' left ok) :
    Calls Tryd.prog 22 #[.agg #[.slice a n cap, .int .i64 B], .int .i64 b] w (RetG w L' B' left ok) := by
  obtain ⟨bk, hbk⟩ : ∃ bk : Bool, bk = true ↔ GoodG L B := ⟨decide (GoodG L B), by simp⟩
  have C1 := hide (fun wx (hb : Below w.heap.size w wx) => goodLog_any a L n cap B wx hn hm (hs.below hb) hst (ht.below hb) bk hbk)
  cases bk with
  | false =>
    obtain ⟨rfl, rfl, rfl, rfl⟩ := hr.no (fun h => absurd (hbk.2 h.1) (by simp))
    clear hr hs hn hst hbk ht
    go_enter Tryd.func22, Tryd.ntmps22
    go_wp2_with fail
    refine (C1.out _ (((Below.refl _ _).alloc (Nat.le_refl _) _).alloc (by simp) _)).mono ?_
    rintro e w1 ⟨rfl, hb1⟩
    obtain ⟨z0, z1, z2, z3⟩ := blkp ((hb1.block (w.heap.size + 1) (by simp)).trans (blk_second w _ _))
    have B1 := hide ((((Below.refl w.heap.size w).alloc (Nat.le_refl _) (.cells #[.slice a n cap, .int .i64 B] 28 (0, 0))).alloc (by simp) (.cells #[.slice none 0 0, .int .i64 0] 28 (0, 0))).trans (hb1.mono (by simp; omega)))
    clear hb1
    go_wp2
    refine bodyPost_ret (v := .tuple #[.agg #[.slice none 0 0, .int .i64 0], .int .i64 0, .bool false]) (by simp [results, Tryd.f22, go_sem, z0, z1]) rfl (retG_none ((B1.out.setCell (p := ⟨_, _, none⟩) (Nat.le_succ _) _).setCell (p := ⟨_, _, none⟩) (Nat.le_succ _) _))
  | true =>
    have hg := hbk.1 rfl
    have hn1 : 1 ≤ n := by have := hg.one; omega
    have hn20 : n ≤ 20 := by have := hg.many; omega
    have C2 := hide (fun wx (hb : Below w.heap.size w wx) => copyLog_any a L n cap B wx hn hn1 hn20 (hs.below hb) (hg.small hn))
    have HS := hide hs
    have HN := hide hn
    have HG := hide hg
    have HT := hide ht
    have HR := hide hr
    clear hs hn hg hst hbk hr ht
    go_enter Tryd.func22, Tryd.ntmps22
    go_wp2_with fail
    refine (C1.out _ (((Below.refl _ _).alloc (Nat.le_refl _) _).alloc (by simp) _)).mono ?_
    rintro e w0 ⟨rfl, hb1⟩
    have G1 : Hid (w0.heap[w.heap.size + 1]? = some (.cells #[.slice none 0 0, .int .i64 0] 28 (0, 0))) := (hb1.block (w.heap.size + 1) (by simp)).trans (blk_second w _ _)
    have B1 := hide ((((Below.refl w.heap.size w).alloc (Nat.le_refl _) (.cells #[.slice a n cap, .int .i64 B] 28 (0, 0))).alloc (by simp) (.cells #[.slice none 0 0, .int .i64 0] 28 (0, 0))).trans (hb1.mono (by simp; omega)))
    obtain ⟨k0, k1, _, _⟩ := blkp ((hb1.block w.heap.size (by simp only [World.size_alloc]; omega)).trans (blk_first w _ _))
    clear hb1
    go_wp2_with fail
    refine (C2.out _ (by first | exact B1.out | exact B1.out.alloc B1.out.size _)).mono ?_
    rintro e w1 ⟨g, M, rfl, hM, ho, hb2⟩
    have B2 := hide (B1.out.trans (hb2.mono B1.out.size))
    have G2 : Hid (w1.heap[w.heap.size + 1]? = some (.cells #[.slice none 0 0, .int .i64 0] 28 (0, 0))) := (hb2.block (w.heap.size + 1) (Array.getElem?_eq_some_iff.1 G1.out).1).trans G1.out
    obtain ⟨z0, z1, z2, z3⟩ := blkp G2.out
    have hz1 : w.heap.size + 1 < w0.heap.size := (Array.getElem?_eq_some_iff.1 G1.out).1
    have hgb := own_ltC ho.row g rfl
    have hml := ho.len
    obtain ⟨m, hm'⟩ : ∃ m, m = n - 1 := ⟨_, rfl⟩
    have hnm : (n : Int) - 1 = (m : Int) := by omega
    have hmn : (m : Int) < (n : Int) := by omega
    have hm0 : (0 : Int) ≤ (m : Int) := by omega
    have hmN : m < n := by omega
    obtain ⟨f1, f2, f3⟩ := flatC_get M m (by omega)
    have hp1 : (M.getD m eV).1 = gc L m := by
      have := pcs_get M m (by omega)
      rw [hM] at this
      exact this.symm
    obtain ⟨ai, ci, hv, hsl, _⟩ := own_form (ho.idx m hmN)
    rw [hv] at f3
    rw [hp1] at f1 f2 f3
    have hfl : (flatC M).length = n * 3 := by rw [flatC_len, hml]
    have d1 := (ho.row.cellAt (m * 3) (by omega)).trans f1
    have d2 := (ho.row.cellAt (m * 3 + 1) (by omega)).trans f2
    have d3 := (ho.row.cellAt (m * 3 + 2) (by omega)).trans f3
    have fz := fun k => ho.row.frozenAt k
    have hlp : lastP L = gc L m := by show gc L (L.length - 1) = _; rw [HN.out, hm']
    have hgp := (HG.out.ps m (by rw [HN.out]; exact hmN)).1
    have hsz := hgp.1
    have hla := HG.out.logAt HN.out HS.out HT.out
    have hfl2 := hla.fl
    rw [← hm'] at hfl2
    obtain ⟨p, hp⟩ : ∃ p, p = gc L m := ⟨_, rfl⟩
    rw [← hp] at d1 d2 d3 hlp hsz hfl2
    obtain ⟨f, s, x⟩ := p
    simp only at d1 d2 d3 hsz hfl2
    obtain ⟨xl, hxl⟩ : ∃ xl, xl = x.length := ⟨_, rfl⟩
    rw [← hxl] at d3
    have e1 := Go.Lib.cell?_alloc_some (.cells #[.slice (some ⟨g, 0, none⟩) n n, .int .i64 B] 28 (0, 0)) d1
    have e2 := Go.Lib.cell?_alloc_some (.cells #[.slice (some ⟨g, 0, none⟩) n n, .int .i64 B] 28 (0, 0)) d2
    have e3 := Go.Lib.cell?_alloc_some (.cells #[.slice (some ⟨g, 0, none⟩) n n, .int .i64 B] 28 (0, 0)) d3
    have HXL := hide hxl
    have HO := hide ho
    have HM := hide hM
    have HLP := hide hlp
    have HV := hide hv
    have HP1 := hide hp1
    have HP := hide hp
    clear hxl ho hM hlp hv hp1 hp f1 f2 f3 hfl hsl hla hgp hb2 fz hm' hml
    go_upto_region 6 with fail
    generalize hW : (w1.alloc (.cells #[.slice (some ⟨g, 0, none⟩) n n, .int .i64 B] 28 (0, 0))).alloc (.cells #[.int .i64 f, .string s, .slice ai xl ci] 37 (0, 0)) = W
    have BW : Below w1.heap.size w1 W := by rw [← hW]; exact ((Below.refl _ _).alloc (Nat.le_refl _) _).alloc (by simp) _
    have GO : W.heap[w1.heap.size]? = some (.cells #[.slice (some ⟨g, 0, none⟩) n n, .int .i64 B] 28 (0, 0)) := by rw [← hW]; exact blk_first _ _ _
    have GP : W.heap[w1.heap.size + 1]? = some (.cells #[.int .i64 f, .string s, .slice ai xl ci] 37 (0, 0)) := by rw [← hW]; exact blk_second _ _ _
    obtain ⟨o0, o1, o2, o3⟩ := blkp GO
    obtain ⟨p0, p1, p2, _, _, _⟩ := blk3 GP
    have G3 : W.heap[w.heap.size + 1]? = some (.cells #[.slice none 0 0, .int .i64 0] 28 (0, 0)) := (BW.block (w.heap.size + 1) (Array.getElem?_eq_some_iff.1 G2.out).1).trans G2.out
    have B3 := hide (B2.out.trans (BW.mono B2.out.size))
    have HO3 := hide (HO.out.below BW)
    have HG3 := hide G3
    have HGO := hide GO
    have hwW : w1.heap.size + 1 < W.heap.size := (Array.getElem?_eq_some_iff.1 GP).1
    clear z0 z1 z2 z3
    obtain ⟨z0, z1, z2, z3⟩ := blkp G3
    clear hW BW GO GP G3 d1 d2 d3 e1 e2 e3 k0 k1
    by_cases hb0 : b < 0
    · have hno : ¬ TearOk L B b := fun h => by have := h.2.1.1; omega
      obtain ⟨rfl, rfl, rfl, rfl⟩ := HR.out.no hno
      clear hno
      go_wp2
      refine bodyPost_ret (v := .tuple #[.agg #[.slice none 0 0, .int .i64 0], .int .i64 0, .bool false]) (by simp [results, Tryd.f22, go_sem, z0, z1]) rfl (retG_none ((B3.out.setCell (p := ⟨_, _, none⟩) (Nat.le_succ _) _).setCell (p := ⟨_, _, none⟩) (Nat.le_succ _) _))
    by_cases hb1 : (s.size : Int) < b
    · have hno : ¬ TearOk L B b := fun h => by have := h.2.1.2; rw [HLP.out] at this; simp only at this; omega
      obtain ⟨rfl, rfl, rfl, rfl⟩ := HR.out.no hno
      clear hno
      go_wp2
      refine bodyPost_ret (v := .tuple #[.agg #[.slice none 0 0, .int .i64 0], .int .i64 0, .bool false]) (by simp [results, Tryd.f22, go_sem, z0, z1]) rfl (retG_none ((B3.out.setCell (p := ⟨_, _, none⟩) (Nat.le_succ _) _).setCell (p := ⟨_, _, none⟩) (Nat.le_succ _) _))
    obtain ⟨bn, rfl⟩ : ∃ bn : Nat, b = (bn : Int) := ⟨b.toNat, by omega⟩
    obtain ⟨k, hk⟩ : ∃ k : Nat, k = s.size - bn := ⟨_, rfl⟩
    have hks : k ≤ s.size := by omega
    have hsub : (s.size : Int) - (bn : Int) = (k : Int) := by omega
    have hwr : IntKind.i64.wrap ((s.size : Int) - (bn : Int)) = (k : Int) := by rw [hsub]; exact wrap6 (by omega) (by omega)
    have q := fun w => slice_to w s k hks
    obtain ⟨y, hy⟩ : ∃ y, y = s.extract 0 k := ⟨_, rfl⟩
    rw [← hy] at q
    have HY : Hid (tornS (lastP L) (bn : Int) = y) := by
      show tornS (lastP L) (bn : Int) = y
      rw [HLP.out, hy, hk]
      rfl
    have hys : y.size ≤ 60 := by rw [hy]; simp; omega
    clear hy hk
    go_upto_region 9 with fail
    obtain ⟨N, hN⟩ : ∃ N, N = (ix y).length := ⟨_, rfl⟩
    obtain ⟨Y, hY⟩ : ∃ Y, Y = y.extract 0 (wh y) := ⟨_, rfl⟩
    have C3 := hide (fun wx (hb : Below W.heap.size W wx) => (wholePiece_any f y wx (by omega) (HT.out.below (B3.out.trans (hb.mono B3.out.size)))).mono (R' := fun e w2 => ∃ a2 q2, e = .returned (.agg #[.int .i64 f, .string Y, .slice a2 N q2]) ∧ (w2.ownsRow W.heap.size 3 1 (.slice a2 N q2) N ((ix y).map (Value.int .i64)) ∧ Below W.heap.size W w2) ∧ (∃ u0 u1 u2, w2.cell? ⟨g, m * 3, none⟩ = some u0 ∧ w2.cell? ⟨g, m * 3 + 1, none⟩ = some u1 ∧ w2.cell? ⟨g, m * 3 + 2, none⟩ = some u2) ∧ (w2.frozen? ⟨g, m * 3, none⟩ = false ∧ w2.frozen? ⟨g, m * 3 + 1, none⟩ = false ∧ w2.frozen? ⟨g, m * 3 + 2, none⟩ = false) ∧ (w2.cell? ⟨w1.heap.size, 0, none⟩ = some (.slice (some ⟨g, 0, none⟩) n n) ∧ w2.cell? ⟨w1.heap.size, 1, none⟩ = some (.int .i64 B))) (by
      rintro e w2 ⟨v2, rfl, ho2, hb2⟩
      have hb3 := hb.trans (hb2.mono hb.size)
      rw [← hN] at ho2
      obtain ⟨a2, q2, rfl, _, _⟩ := own_form ho2
      rw [← hY]
      have R := (HO3.out.below hb3).row
      have hfl : (flatC M).length = n * 3 := by rw [flatC_len, HO3.out.len]
      refine ⟨a2, q2, rfl, ⟨own_baseC ho2 hb.size, hb3⟩, ⟨_, _, _, (R.cellAt (m * 3) (by omega)).trans (List.getElem?_eq_getElem (by omega)), (R.cellAt (m * 3 + 1) (by omega)).trans (List.getElem?_eq_getElem (by omega)), (R.cellAt (m * 3 + 2) (by omega)).trans (List.getElem?_eq_getElem (by omega))⟩, ⟨R.frozenAt _, R.frozenAt _, R.frozenAt _⟩, ?_⟩
      obtain ⟨o0, o1, _, _⟩ := blkp ((hb3.block w1.heap.size (Array.getElem?_eq_some_iff.1 HGO.out).1).trans HGO.out)
      exact ⟨o0, o1⟩))
    have HNN := hide hN
    have HYY := hide hY
    have hw1W : w0.heap.size ≤ W.heap.size := by omega
    have PP : Hid (∀ w2 a2 q2, (w2.ownsRow W.heap.size 3 1 (.slice a2 N q2) N ((ix y).map (Value.int .i64)) ∧ Below W.heap.size W w2) → TornAt w w0.heap.size w1.heap.size g n m B M ⟨f, Y, ix y⟩ (((w2.setCell ⟨g, m * 3, none⟩ (.int .i64 f)).setCell ⟨g, m * 3 + 1, none⟩ (.string Y)).setCell ⟨g, m * 3 + 2, none⟩ (.slice a2 N q2))) := by
      intro w2 a2 q2 h
      have P := (HO3.out.below h.2).put m hmN ⟨f, Y, ix y⟩ (.slice a2 N q2) (by show w2.ownsRow _ _ _ _ (ix y).length _; rw [← HNN.out]; exact own_baseC h.1 hw1W) (fun i hi _ bb hbb e => by
        have h1 := (own_ltC h.1 bb hbb).1
        have h2 := (own_ltC (HO3.out.idx i hi) bb e).2
        omega)
      have hs2 := h.2.size
      exact ⟨⟨_, P.1⟩, (B3.out.trans (h.2.mono B3.out.size)).grown P.2 (Nat.le_trans B3.out.size hs2) (fun q hq => by cases hq; omega), (P.2.block (w.heap.size + 1) (by omega) (by simp; omega)).trans ((h.2.block _ (by omega)).trans HG3.out), (P.2.block w1.heap.size (by omega) (by simp; omega)).trans ((h.2.block _ (by omega)).trans HGO.out)⟩
    clear hN hY
    go_cut [8] (fun t wx => t = .int .i64 m ∧ TornAt w w0.heap.size w1.heap.size g n m B M ⟨f, Y, ix y⟩ wx)
    case first =>
      go_region_with (go_at_call 33; refine (C3.out _ ?_).mono ?_; (first | exact Below.refl _ _ | exact (Below.refl _ _).drew | exact ((Below.refl _ _).drew).drew); rintro e w2 ⟨a2, q2, rfl, ho2, ⟨u0, u1, u2, c0, c1, c2⟩, ⟨c3, c4, c5⟩, c6, c7⟩)
      all_goals (
        go_wp2_with fail
        go_meet
        case rel => exact ⟨rfl, PP.out _ _ _ ho2⟩)
    case rest =>
      obtain ⟨rfl, hta⟩ := hcut
      have hwh := wh_le y
      have hYs : Y.size = wh y := by rw [HYY.out]; simp; omega
      have hcY : cnt Y = cnt y := by rw [HYY.out]; exact whole_cnt y
      have hlen2 : (L.set m ⟨f, Y, ix y⟩).length = n := by simpa using HN.out
      obtain ⟨u, hown⟩ := hta.own
      have hpc : pcs (M.set m (⟨f, Y, ix y⟩, u)) = L.set m ⟨f, Y, ix y⟩ := by rw [← HM.out]; show List.map _ _ = _; rw [List.map_set]
      have hgm : gc (L.set m ⟨f, Y, ix y⟩) m = ⟨f, Y, ix y⟩ := gc_set_self L m _ (by rw [HN.out]; exact hmN)
      have hnm1 : n - 1 = m := by omega
      have hla : LogAt wc (some ⟨g, 0, none⟩) (L.set m ⟨f, Y, ix y⟩) n := by
        refine ⟨hlen2, hn1, hn20, by rw [← hpc]; exact hown.sl, ?_, ?_, ?_, HT.out.below hta.bel⟩
        · by_cases hm2 : m = 0
          · subst hm2
            rw [hgm]
            have h0 := HG.out.f0
            have h1 := HG.out.f1
            rw [← HP.out] at h0 h1
            exact ⟨h0, h1⟩
          · rw [show gc (L.set m ⟨f, Y, ix y⟩) 0 = gc L 0 from gc_set_ne L m 0 _ (by omega)]
            exact ⟨HG.out.f0, HG.out.f1⟩
        · rw [hnm1, hgm]; exact hfl2
        · rw [hnm1, hgm]; show Y.size ≤ 60; omega
      have hE : lastEnd (L.set m ⟨f, Y, ix y⟩) n = f + (cnt y : Int) := by
        unfold lastEnd
        rw [hnm1, hgm]
        show f + (cnt Y : Int) = _
        rw [hcY]
      have C4 := hide (fun wx (hb : Below wc.heap.size wc wx) => endOf_any (some ⟨g, 0, none⟩) (L.set m ⟨f, Y, ix y⟩) n n B wx (hla.below hb))
      rw [hE] at C4
      have hok : TearOk L B (bn : Int) ↔ B ≤ f + (cnt y : Int) := by
        unfold TearOk
        rw [HY.out, HLP.out]
        constructor
        · intro h
          exact h.2.2
        · intro h
          exact ⟨HG.out, ⟨by omega, by show (bn : Int) ≤ (s.size : Int); omega⟩, h⟩
      have HOK := hide hok
      have HTA := hide hta
      have HOW := hide hown
      have HPC := hide hpc
      have HL2 := hide hlen2
      have hcl := cnt_le y
      obtain ⟨E, hEE⟩ : ∃ E, E = f + (cnt y : Int) := ⟨_, rfl⟩
      rw [← hEE] at C4 HOK
      obtain ⟨z0, z1, z2, z3⟩ := blkp hta.res
      obtain ⟨o0, o1, _, _⟩ := blkp hta.out
      clear hta hown hpc hlen2 hla hok hE hgm hcY hEE
      go_upto_region 10 with fail
      go_region_held3 (fun wx => (wx.cell? ⟨w1.heap.size, 0, none⟩ = some (.slice (some ⟨g, 0, none⟩) n n) ∧ wx.cell? ⟨w1.heap.size, 1, none⟩ = some (.int .i64 B) ∧ wx.cell? ⟨w.heap.size + 1, 0, none⟩ = some (.slice none 0 0)) ∧ Below wc.heap.size wc wx) (first | exact ⟨⟨o0, o1, z0⟩, (Below.refl _ _).drew⟩ | exact keep3 (by assumption) (by assumption) (Nat.le_refl _)) ((go_at_call 45; refine (C4.out _ (by first | exact And.right (by assumption) | exact (Below.refl _ _).drew | exact Below.refl _ _)).mono ?_; rintro e w5 ⟨rfl, hb⟩))
      rename_i hHeld
      have hb5 := hHeld.2
      have HB5 := hide (HTA.out.bel.trans (hb5.mono HTA.out.bel.size))
      have HOW5 := hide (HOW.out.below hb5)
      clear z0 z1 z2 z3 o0 o1
      obtain ⟨z0, z1, z2, z3⟩ := blkp ((hb5.block (w.heap.size + 1) (Array.getElem?_eq_some_iff.1 HTA.out.res).1).trans HTA.out.res)
      obtain ⟨o0, o1, _, _⟩ := blkp ((hb5.block w1.heap.size (Array.getElem?_eq_some_iff.1 HTA.out.out).1).trans HTA.out.out)
      have hfl : (flatC (M.set m (⟨f, Y, ix y⟩, u))).length = n * 3 := by rw [flatC_len, HOW5.out.len]
      obtain ⟨_, f2, _⟩ := flatC_get (M.set m (⟨f, Y, ix y⟩, u)) m (by rw [HOW5.out.len]; exact hmN)
      have r2 := (HOW5.out.row.cellAt (m * 3 + 1) (by omega)).trans f2
      rw [getD_set_self M m _ (by rw [HO3.out.len]; exact hmN)] at r2
      simp only at r2
      have hnr : ¬ g = w.heap.size + 1 := by omega
      have hnr2 : ¬ w1.heap.size = w.heap.size + 1 := by omega
      clear hHeld hb5 hfl f2 C1 C2 C3 C4 PP
      by_cases hBE : E < B
      · obtain ⟨rfl, rfl, rfl, rfl⟩ := HR.out.no (fun h => by have := HOK.out.1 h; omega)
        go_wp2
        refine bodyPost_ret (v := .tuple #[.agg #[.slice none 0 0, .int .i64 0], .int .i64 0, .bool false]) (by simp [results, Tryd.f22, go_sem, z0, z1]) rfl (retG_none ((HB5.out.setCell (p := ⟨_, _, none⟩) (Nat.le_succ _) _).setCell (p := ⟨_, _, none⟩) (Nat.le_succ _) _))
      · obtain ⟨rfl, hL', rfl, hleft⟩ := HR.out.yes (HOK.out.2 (by omega))
        have hL2 : L' = L.set m ⟨f, Y, ix y⟩ := by
          rw [hL', HN.out, hnm1]
          unfold tornP
          rw [HY.out, HLP.out, ← HYY.out]
        rw [HY.out] at hleft
        have hwr2 : IntKind.i64.wrap ((y.size : Int) - (Y.size : Int)) = left := by rw [hleft, hYs]; exact wrap6 (by omega) (by omega)
        have HL' := hide hL2
        have HLL := hide hleft
        clear hL' hL2 hleft
        go_upto_region 12 with fail
        go_region
        go_wp2
        have hlt0 : w.heap.size + 1 < w0.heap.size := hz1
        refine bodyPost_ret (v := .tuple #[.agg #[.slice (some ⟨g, 0, none⟩) n n, .int .i64 B'], .int .i64 ((y.size : Int) - (wh y : Int)), .bool true]) (by simp [results, Tryd.f22, go_sem, z0, z1]) rfl ⟨some ⟨g, 0, none⟩, n, by rw [HL'.out, HL2.out, HLL.out], M.set m (⟨f, Y, ix y⟩, u), by rw [HL'.out]; exact HPC.out, ?_, ?_⟩
        · rw [HL'.out, HL2.out]
          exact (((HOW5.out.setC ⟨_, _, none⟩ _ hlt0).setC ⟨_, _, none⟩ _ hlt0).base (by omega)).below (Below.refl _ _).drew
        · exact ((HB5.out.setCell (p := ⟨_, _, none⟩) (Nat.le_succ _) _).setCell (p := ⟨_, _, none⟩) (Nat.le_succ _) _).drew
end Go.Proofs.YtapffbbmofhpobaDoor.L6

namespace Go.Proofs.YtapffbbmofhpobaDoor.L6
open Go.RowKit L1
set_option linter.unusedVariables false

theorem own_empty6 (w : World) (base : Nat) (hb : base ≤ w.heap.size) : (w.alloc (.cells #[] 3)).ownsRow base 3 1 (.slice (some ⟨w.heap.size, 0, none⟩) 0 0) 0 [] :=
  ⟨rfl, .inr ⟨w.heap.size, 0, #[], rfl, hb, by show (w.heap.push _)[w.heap.size]? = _; simp, Nat.le_refl _, by unfold maxLen; omega, rfl, rfl⟩⟩
theorem cell_three_new (w : World) (g : Nat) (hg : w.heap.size = g) (a b c : Value) (t : TypeId) : ∀ j u, [a, b, c][j]? = some u → (w.alloc (.cells #[a, b, c] t)).cell? ((⟨g, 0, none⟩ : Addr).add j) = some u := by
  subst hg
  intro j u h
  rw [addr_add]
  match j, h with
  | 0, h => simp at h; subst h; simp
  | 1, h => simp at h; subst h; simp
  | 2, h => simp at h; subst h; simp
  | j + 3, h => simp at h
theorem getD_app_lt (M : List PV) (q : PV) (i : Nat) (h : i < M.length) : (M ++ [q]).getD i eV = M.getD i eV := by simp [List.getD, List.getElem?_append_left h]
theorem getD_app_at (M : List PV) (q : PV) (n : Nat) (h : M.length = n) : (M ++ [q]).getD n eV = q := by subst h; simp [List.getD]
/-- One more piece. -/
theorem OwC.more {w w' : World} {base n : Nat} {v v' : Value} {M : List PV} {p : Pc} {u : Value} (h : OwC w base v n M) (hu : w.ownsRow base 3 1 u p.x.length (p.x.map (Value.int .i64)))
    (hnew : ∀ i, i < n → ∀ b, u.ownBlock = some b → (M.getD i eV).2.ownBlock ≠ some b) (hg : w.grownBy w' v.ownBlock) (hr : w'.ownsRow base 37 3 v' (n + 1) (flatC M ++ [.int .i64 p.f, .string p.s, u])) :
    OwC w' base v' (n + 1) (M ++ [(p, u)]) := by
  have hl := h.len
  have keep : ∀ {c m : Nat} {v2 : Value} {ys : List Value}, w.ownsRow base 3 c v2 m ys → w'.ownsRow base 3 c v2 m ys := fun hv =>
    own_keptC hv hg (fun b hb e => own_two h.row hv int_piece b e hb)
  refine ⟨by simp [hl], by rw [flatC_append]; exact hr, fun i hi => ?_, fun i j hij hj => ?_⟩
  · by_cases e : i = n
    · subst e
      rw [getD_app_at M _ _ hl]
      exact keep hu
    · rw [getD_app_lt M _ i (by omega)]
      exact keep (h.idx i (by omega))
  · intro b
    by_cases e : j = n
    · subst e
      rw [getD_app_at M _ _ hl, getD_app_lt M _ i (by omega)]
      intro h1 h2
      exact hnew i (by omega) b h2 h1
    · rw [getD_app_lt M _ i (by omega), getD_app_lt M _ j (by omega)]
      exact h.apart i j hij (by omega) b

set_option maxRecDepth 100000 in
set_option maxHeartbeats 4000000 in
theorem l6Own_any (a : Option Addr) (L : List Pc) (n cap : Nat) (B : Int) (w : World) (hn : L.length = n) (h20 : n ≤ 20) (hs : SlC w a L) (hX : ∀ i, i < n → (gc L i).x.length ≤ 60) :
    Calls Tryd.prog 38 #[.agg #[.slice a n cap, .int .i64 B]] w fun e w' => ∃ a' c', e = .returned (.agg #[.slice a' n c', .int .i64 B]) ∧ ∃ M, pcs M = L ∧ OwC w' w.heap.size (.slice a' n c') n M ∧ Below w.heap.size w w' := by
  obtain ⟨i0, hi, hz0, hz1, hz2⟩ := info_parts info_piece
  have HS := hide hs
  have HN := hide hn
  have HX := hide hX
  clear hs hn hX
  go_enter Tryd.func38, Tryd.ntmps38
  go_wp2
  go_loopw [12] (fun i wr => ∃ (k : Nat) (M : List PV) (a1 : Option Addr) (c1 : Nat), k ≤ n ∧ i = .int .i64 k ∧ Hid (OwC wr (w.heap.size + 3) (.slice a1 k c1) k M) ∧ Hid (pcs M = L.take k) ∧ Hid (wr.heap[w.heap.size + 2]? = some (.cells #[.slice a1 k c1, .int .i64 B] 28 (0, 0))) ∧ Hid (wr.heap[w.heap.size + 1]? = some (.cells #[.slice none 0 0, .int .i64 0] 28 (0, 0))) ∧ Below w.heap.size w wr) (fun i _ => n - (intOf i).toNat)
  case atStart =>
    obtain ⟨b3, b2, b1, bz⟩ := blk_three w (.cells #[.slice a n cap, .int .i64 B] 28 (0, 0)) (.cells #[.slice none 0 0, .int .i64 0] 28 (0, 0)) (.cells #[.slice none 0 0, .int .i64 B] 28 (0, 0))
    exact ⟨0, [], none, 0, Nat.zero_le _, rfl, ⟨rfl, World.ownsRow_nil _ _ _ _, fun i hi => absurd hi (Nat.not_lt_zero _), fun i j _ hj => absurd hj (Nat.not_lt_zero _)⟩, rfl, b3, b2, (((Below.refl _ _).alloc (Nat.le_refl _) _).alloc (by simp) _).alloc (by simp; omega) _⟩
  case round =>
    obtain ⟨k, M, a1, c1, hk, rfl, HO, HP, HB2, HB1, hbel⟩ := hrel
    by_cases hlt : k < n
    · obtain ⟨b, off, rfl, ai, ci, hat⟩ := HS.out.below hbel k (by rw [HN.out]; exact hlt)
      have hltI : (k : Int) < (n : Int) := by omega
      have hxl := HX.out k hlt
      have htk : L.take (k + 1) = L.take k ++ [gc L k] := by
        rw [List.take_succ_eq_append_getElem (show k < L.length by rw [HN.out]; exact hlt)]
        simp [gc, List.getD, List.getElem?_eq_getElem (show k < L.length by rw [HN.out]; exact hlt)]
      have d1 := hat.f
      have d2 := hat.s
      have d3 := hat.x
      have d4 := hat.l
      rw [show L.getD k eC = gc L k from rfl] at d1 d2 d3 d4
      obtain ⟨p, hp⟩ : ∃ p, p = gc L k := ⟨_, rfl⟩
      rw [← hp] at d1 d2 d3 d4 hxl htk
      obtain ⟨f, s, x⟩ := p
      simp only at d1 d2 d3 d4 hxl
      obtain ⟨m, hm⟩ : ∃ m, m = x.length := ⟨_, rfl⟩
      rw [← hm] at d3 hxl
      have hsz : w.heap.size + 3 ≤ wr.heap.size := (Array.getElem?_eq_some_iff.1 HB2.out).1
      have HD4 := hide d4
      have HMX := hide hm
      have HTK := hide htk
      have BB := hide hbel
      clear hat d4 hp hm htk hbel
      go_wp2_with (first
        | (at_builtin; refine wpList_append_copy rfl _ _ rfl (w.heap.size + 3) (some ⟨wr.heap.size + 1, 0, none⟩) ai 0 m ci x HMX.out.symm (by omega) rfl (by have := own_empty6 (wr.alloc (.cells #[.int .i64 f, .string s, .slice ai m ci] 37 (0, 0))) (w.heap.size + 3) (by simp; omega); rw [World.size_alloc] at this; exact this) rfl (HD4.out.below (((Below.refl _ _).alloc (Nat.le_refl _) _).alloc (by simp) _)) (by simp; omega) ?_)
        | go_in)
      intro a' c' w6 h6 g6 hat6
      have hal := ((Below.refl wr.heap.size wr).alloc (Nat.le_refl _) (.cells #[.int .i64 f, .string s, .slice ai m ci] 37 (0, 0))).alloc (by simp) (.cells #[] 3 (0, 0))
      have hgs := g6.size
      simp at hgs
      have hb6 : Below wr.heap.size wr w6 := ⟨g6.os.trans hal.os, g6.tape.trans hal.tape, g6.output.trans hal.output, by omega, fun q hq => (g6.block q (by simp; omega) (by simp [Value.ownBlock]; omega)).trans (hal.block q hq)⟩
      have GP : w6.heap[wr.heap.size]? = some (.cells #[.int .i64 f, .string s, .slice ai m ci] 37 (0, 0)) := (g6.block wr.heap.size (by simp; omega) (by simp [Value.ownBlock])).trans ((((Below.refl (wr.alloc (.cells #[.int .i64 f, .string s, .slice ai m ci] 37 (0, 0))).heap.size _).alloc (Nat.le_refl _) _).block wr.heap.size (by simp)).trans (blk_new _ _))
      obtain ⟨e0, e1, e2, e3, e4, e5⟩ := blk3 GP
      have hub : ∀ q, (Value.slice a' m c').ownBlock = some q → wr.heap.size + 1 ≤ q := fun q hq => by
        rcases hat6 with h | h
        · rw [h] at hq; simp [Value.ownBlock] at hq; omega
        · rw [h] at hq; simp at hq; omega
      -- the piece's own box is written into
      have g7 : w6.grownBy (w6.setCell ⟨wr.heap.size, 2, none⟩ (.slice a' m c')) (some wr.heap.size) := ⟨rfl, rfl, rfl, by simp, fun q hq hne => Below.heap_setCell _ _ _ _ (fun e => hne (by rw [e]))⟩
      have O6 := HO.out.below hb6
      have O7 : OwC (w6.setCell ⟨wr.heap.size, 2, none⟩ (.slice a' m c')) (w.heap.size + 3) (.slice a1 k c1) k M := by
        refine ⟨O6.len, own_keptC O6.row g7 (fun q hq e => ?_), fun i hi => own_keptC (O6.idx i hi) g7 (fun q hq e => ?_), O6.apart⟩
        · have := (own_ltC HO.out.row q hq).2
          cases e
          omega
        · have := (own_ltC (HO.out.idx i hi) q hq).2
          cases e
          omega
      have u7 : (w6.setCell ⟨wr.heap.size, 2, none⟩ (.slice a' m c')).ownsRow (w.heap.size + 3) 3 1 (.slice a' m c') m (x.map (Value.int .i64)) := own_keptC h6 g7 (fun q hq e => by
        have := hub q hq
        cases e
        omega)
      have GO6 : w6.heap[w.heap.size + 2]? = some (.cells #[.slice a1 k c1, .int .i64 B] 28 (0, 0)) := (hb6.block (w.heap.size + 2) (by omega)).trans HB2.out
      have GR6 : w6.heap[w.heap.size + 1]? = some (.cells #[.slice none 0 0, .int .i64 0] 28 (0, 0)) := (hb6.block (w.heap.size + 1) (by omega)).trans HB1.out
      have o1 : (w6.setCell ⟨wr.heap.size, 2, none⟩ (.slice a' m c')).cell? ⟨w.heap.size + 2, 0, none⟩ = some (.slice a1 k c1) := grown_cell g7 ⟨w.heap.size + 2, 0, none⟩ (blkp GO6).1 (by simp; omega)
      have HO7 := hide O7
      have HU7 := hide u7
      have HG7 := hide g7
      have HUB := hide hub
      have HGO := hide GO6
      have HGR := hide GR6
      have HB6 := hide hb6
      have hs6 : wr.heap.size + 2 ≤ w6.heap.size := by omega
      have HOL := hide HO.out.inC
      clear h6 g6 hat6 hal GP O6 O7 u7 g7 hub GO6 GR6 hb6 hgs
      go_wp2_with (first
        | (at_builtin; refine wpList_append_own_at _ rfl _ _ 26 rfl (w.heap.size + 3) 37 i0 (.agg #[.int .i64 0, .string ByteArray.empty, .slice none 0 0]) 3 48 Tryd.underlying26 hi hz0 hz1 hz2 rfl (by decide) _ _ _ rfl (HO7.out.row.alloc _) ⟨w6.heap.size, 0, none⟩ 1 1 [.int .i64 f, .string s, .slice a' m c'] rfl rfl (cell_three_new _ _ (by simp) _ _ _ _) (by intro u hu; simp at hu; rcases hu with rfl | rfl | rfl <;> rfl) (by unfold maxLen; omega) (by omega) (by simp; omega) ?_)
        | go_in)
      intro v8 w8 h8 g8 _ hat8
      have O8 : OwC w8 (w.heap.size + 3) v8 (k + 1) (M ++ [((⟨f, s, x⟩ : Pc), .slice a' m c')]) := by
        refine (HO7.out.below ((Below.refl _ _).alloc (Nat.le_refl _) _)).more (w' := w8) (by show World.ownsRow _ _ _ _ _ x.length _; rw [← HMX.out]; exact own_belowC HU7.out ((Below.refl _ _).alloc (Nat.le_refl _) _)) (fun i hi q hq e => ?_) g8 h8
        have h1 := HUB.out q hq
        have h2 := HOL.out.idx i hi q e
        omega
      have gsz := g8.size
      simp at gsz
      have nob : ∀ q, q < w.heap.size + 3 → some q ≠ (Value.slice a1 k c1).ownBlock := fun q hq e => by
        have := (own_ltC HO7.out.row q e.symm).1
        omega
      have blk : ∀ q, q < w.heap.size + 3 → w8.heap[q]? = w6.heap[q]? := fun q hq =>
        (g8.block q (by simp; omega) (nob q hq)).trans ((((Below.refl (w6.setCell ⟨wr.heap.size, 2, none⟩ (.slice a' m c')).heap.size _).alloc (Nat.le_refl _) _).block q (by simp; omega)).trans (Below.heap_setCell _ _ _ _ (show q ≠ wr.heap.size by omega)))
      have GO8 := (blk (w.heap.size + 2) (by omega)).trans HGO.out
      obtain ⟨y0, y1, y2, y3⟩ := blkp GO8
      have GR8 := (blk (w.heap.size + 1) (by omega)).trans HGR.out
      have B8 : Below w.heap.size w w8 := ⟨g8.os.trans (HB6.out.os.trans BB.out.os), g8.tape.trans (HB6.out.tape.trans BB.out.tape), g8.output.trans (HB6.out.output.trans BB.out.output), by have := BB.out.size; omega, fun q hq => (blk q (by omega)).trans ((HB6.out.block q (by omega)).trans (BB.out.block q hq))⟩
      obtain ⟨a8, c8, rfl, _⟩ := O8.form
      have R : ∃ (k' : Nat) (M' : List PV) (a1' : Option Addr) (c1' : Nat), k' ≤ n ∧ Value.int .i64 ((k : Int) + 1) = .int .i64 k' ∧ Hid (OwC (w8.setCell ⟨w.heap.size + 2, 0, none⟩ (.slice a8 (k + 1) c8)) (w.heap.size + 3) (.slice a1' k' c1') k' M') ∧ Hid (pcs M' = L.take k') ∧ Hid ((w8.setCell ⟨w.heap.size + 2, 0, none⟩ (.slice a8 (k + 1) c8)).heap[w.heap.size + 2]? = some (.cells #[.slice a1' k' c1', .int .i64 B] 28 (0, 0))) ∧ Hid ((w8.setCell ⟨w.heap.size + 2, 0, none⟩ (.slice a8 (k + 1) c8)).heap[w.heap.size + 1]? = some (.cells #[.slice none 0 0, .int .i64 0] 28 (0, 0))) ∧ Below w.heap.size w (w8.setCell ⟨w.heap.size + 2, 0, none⟩ (.slice a8 (k + 1) c8)) := by
        refine ⟨k + 1, _, a8, c8, by omega, by simp, O8.setC ⟨w.heap.size + 2, 0, none⟩ _ (Nat.lt_succ_self _), ?_, ?_, (Below.heap_setCell _ _ _ _ (show w.heap.size + 1 ≠ w.heap.size + 2 by omega)).trans GR8, B8.setCell (p := ⟨w.heap.size + 2, 0, none⟩) (by show w.heap.size ≤ w.heap.size + 2; omega) _⟩
        · show pcs (M ++ [_]) = _
          rw [HTK.out, ← HP.out]
          simp
        · show (w8.setCell ⟨w.heap.size + 2, 0, none⟩ (.slice a8 (k + 1) c8)).heap[w.heap.size + 2]? = _
          rw [setCell_eq_setRow w8 (w.heap.size + 2) 0 _ 28 (0, 0) _ GO8, setRow_heap w8 (w.heap.size + 2) _ _ 28 _ GO8]
          rfl
      have HRR := hide R
      clear R O8 gsz nob blk GO8 GR8 B8 h8 g8 hat8
      go_wp2
      go_roundw
      case rel => exact HRR.out
      case measure => simp [intOf]; omega
    · obtain rfl : k = n := by omega
      have hltI : ¬ (k : Int) < (k : Int) := by omega
      obtain ⟨z0, z1, z2, z3⟩ := blkp HB1.out
      obtain ⟨y0, y1, _, _⟩ := blkp HB2.out
      have HPL : Hid (pcs M = L) := by show pcs M = L; rw [HP.out]; exact List.take_of_length_le (by rw [HN.out]; exact Nat.le_refl _)
      have BB := hide hbel
      clear hbel
      go_wp2
      refine bodyPost_ret (v := .agg #[.slice a1 k c1, .int .i64 B]) (by simp [results, Tryd.f38, go_sem, z0, z1]) rfl ⟨_, _, rfl, M, HPL.out, ?_, ?_⟩
      · have z : w.heap.size + 1 < w.heap.size + 3 := by omega
        exact ((HO.out.setC ⟨_, _, none⟩ _ z).setC ⟨_, _, none⟩ _ z).base (by omega)
      · exact (BB.out.setCell (p := ⟨_, _, none⟩) (by show w.heap.size ≤ w.heap.size + 1; omega) _).setCell (p := ⟨_, _, none⟩) (by show w.heap.size ≤ w.heap.size + 1; omega) _
end Go.Proofs.YtapffbbmofhpobaDoor.L6

namespace Go.Proofs.YtapffbbmofhpobaDoor.L1
open Go.RowKit
set_option linter.unusedVariables false

set_option maxRecDepth 100000 in
set_option maxHeartbeats 400000 in
theorem l1Zig_any (n : Int) (w : World) (h1 : -1000000000000 ≤ n) (h2 : n ≤ 1000000000000) :
    Calls Tryd.prog 68 #[.int .i64 n] w fun e w' => e = .returned (.int .i64 (zig n)) ∧ w = w' := by
  unfold zig
  by_cases h : n < 0
  · rw [if_pos h]
    go_enter Tryd.func68, Tryd.ntmps68
    go_wp2
    go_ret
    exact ⟨rfl, rfl⟩
  · rw [if_neg h]
    go_enter Tryd.func68, Tryd.ntmps68
    go_wp2
    go_ret
    exact ⟨rfl, rfl⟩

set_option maxRecDepth 100000 in
set_option maxHeartbeats 1000000 in
theorem l1Varint_any (n : Int) (w : World) (h1 : -1000000000000 ≤ n) (h2 : n ≤ 1000000000000) :
    Calls Tryd.prog 65 #[.int .i64 n] w fun e w' => e = .returned (.string (strOfNums (vd (zig n)))) ∧ Below w.heap.size w w' := by
  have z0 := zig_lo n
  have z1 := zig_hi n h1 h2
  obtain ⟨i0, hi, hz0, hz1, hz2⟩ := info_parts info_u8
  go_enter Tryd.func65, Tryd.ntmps65
  go_wp2_with (go_at_call 68; refine (l1Zig_any _ _ h1 h2).mono ?_; rintro e w' ⟨rfl, rfl⟩)
  obtain ⟨Z, hZ⟩ : ∃ Z, Z = zig n := ⟨_, rfl⟩
  rw [← hZ] at z0 z1 ⊢
  have HZ := hide hZ
  clear hZ h1 h2
  go_loopw [3, 4] (fun z b wr => ∃ (f : Nat) (pre : List Int) (zk : Int), f ≤ 5 ∧ Hid (vd Z = pre ++ vdf f zk) ∧ 0 ≤ zk ∧ zk < wor (f + 1) ∧ zk ≤ 2000000000000 ∧ pre.length = 5 - f ∧ z = .int .i64 zk ∧
      wr.ownsRow w.heap.size 5 1 b pre.length (pre.map (Value.int .u8)) ∧ Below w.heap.size w wr) (fun z _ _ => (intOf z).toNat)
  case atStart => exact ⟨5, [], Z, by omega, rfl, z0, by simp [wor]; omega, z1, rfl, rfl, World.ownsRow_nil _ _ _ _, Below.refl _ _⟩
  case round =>
    obtain ⟨f, pre, zk, hf, HV, hz0', hz1', hz2', hpl, rfl, hown, hbel⟩ := hrel
    have HP := hide hpl
    have HW := hide hz1'
    have hpl5 : pre.length ≤ 5 := by omega
    clear hpl hz1'
    by_cases hlt : zk < 128
    · go_wp2_with (first
        | (at_builtin; refine wpList_append_own _ rfl _ _ 76 rfl w.heap.size 5 i0 (.int .u8 0) 1 1 Tryd.underlying76 hi hz0 hz1 hz2 rfl (by decide) _ _ _ rfl (hown.alloc _) ⟨wr.heap.size, 0, none⟩ 1 1 [.int .u8 zk] rfl rfl (cell_one_new _ _ _) (by intro u hu; simp at hu; subst hu; rfl) (by unfold maxLen; omega) (by omega) (by have := hbel.size; simp; omega) ?_)
        | go_in)
      · intro v' w1 hown' hgrow _
        have e : vd (zig n) = pre ++ [zk] := by
          rw [← HZ.out, HV.out]
          congr 1
          cases f with
          | zero => rfl
          | succ f => simp only [vdf]; rw [if_pos hlt]
        have hcv := conv_own (l := pre ++ [zk]) (v := v') (w := w1) (base := w.heap.size) (n := pre.length + 1) (by simpa using hown') (by omega)
        have hb1 : Below w.heap.size w w1 := (hbel.alloc hbel.size _).grown hgrow (by have := hbel.size; simp; omega) (fun k hk => (hown.lt k hk).1)
        have E := hide e
        clear e hown' hgrow hown
        go_wp2
        go_ret
        exact ⟨by rw [E.out]; rfl, hb1⟩
    · go_wp2_with (first
        | (at_builtin; refine wpList_append_own _ rfl _ _ 76 rfl w.heap.size 5 i0 (.int .u8 0) 1 1 Tryd.underlying76 hi hz0 hz1 hz2 rfl (by decide) _ _ _ rfl (hown.alloc _) ⟨wr.heap.size, 0, none⟩ 1 1 [.int .u8 (128 + zk % 128)] rfl rfl (cell_one_new _ _ _) (by intro u hu; simp at hu; subst hu; rfl) (by unfold maxLen; omega) (by omega) (by have := hbel.size; simp; omega) ?_)
        | go_in)
      · intro v' w1 hown' hgrow _
        have hb1 : Below w.heap.size w w1 := (hbel.alloc hbel.size _).grown hgrow (by have := hbel.size; simp; omega) (fun k hk => (hown.lt k hk).1)
        have hown2 : w1.ownsRow w.heap.size 5 1 v' (pre ++ [128 + zk % 128]).length ((pre ++ [128 + zk % 128]).map (Value.int .u8)) := by simpa using hown'
        obtain ⟨g, rfl⟩ : ∃ g, f = g + 1 := by
          cases f with
          | zero => have := HW.out; simp [wor] at this; omega
          | succ g => exact ⟨g, rfl⟩
        clear hown' hgrow hown
        go_wp2
        go_roundw
        case rel =>
          refine ⟨g, pre ++ [128 + zk % 128], zk / 128, by omega, ?_, by omega, ?_, by omega, ?_, rfl, hown2, hb1⟩
          · show vd Z = _
            rw [HV.out]
            simp only [vdf]
            rw [if_neg (by omega)]
            simp
          · have := HW.out
            have hw : wor (g + 1 + 1) = 128 * wor (g + 1) := rfl
            omega
          · have := HP.out
            simp
            omega
        case measure => simp [intOf]; omega
end Go.Proofs.YtapffbbmofhpobaDoor.L1

namespace Go.Proofs.YtapffbbmofhpobaDoor.L1
open Go.RowKit
set_option linter.unusedVariables false

def lgRes (a : Nat) : Option (List Int) → Value
  | none => .tuple #[.int .i64 0, .int .i64 (-1)]
  | some l => .tuple #[.int .i64 (zag (val l)), .int .i64 ((a + l.length : Nat) : Int)]
theorem lgRes_some {a k : Nat} {l : List Int} {v : Int} (hv : val l = v) (hl : l.length = k + 1) : lgRes a (some l) = .tuple #[.int .i64 (zag v), .int .i64 ((a : Int) + (k : Int) + 1)] := by
  subst hv
  simp only [lgRes, hl]
  congr 4

theorem tdiv_zag7 (z : Int) (h : 0 ≤ z) (h2 : z ≤ 1125899906842624) (ho : z % 2 = 1) : wrap64 (-(z + 1).tdiv 2) = zag z := by
  unfold zag
  rw [if_pos ho, Int.tdiv_eq_ediv_of_nonneg (by omega)]
  unfold wrap64
  omega

set_option maxRecDepth 100000 in
set_option maxHeartbeats 400000 in
theorem l1Zag_any (z : Int) (w : World) (h1 : 0 ≤ z) (h2 : z ≤ 1125899906842624) :
    Calls Tryd.prog 64 #[.int .i64 z] w fun e w' => e = .returned (.int .i64 (zag z)) ∧ w = w' := by
  by_cases h : z % 2 = 1
  · have e := tdiv_zag7 z h1 h2 h
    have E := hide e
    clear e
    go_enter Tryd.func64, Tryd.ntmps64
    go_wp2
    go_ret
    rw [← E.out]
    exact ⟨rfl, rfl⟩
  · have e : zag z = z / 2 := by unfold zag; rw [if_neg h]
    rw [e]
    clear e
    go_enter Tryd.func64, Tryd.ntmps64
    go_wp2
    go_ret
    exact ⟨rfl, rfl⟩

theorem slice_nat (w : World) (s : ByteArray) (a k : Nat) (h : a + k < s.size) :
    (Instr.slice 9 (.string s) (some (.int .i64 (a : Int))) (some (.int .i64 ((a : Int) + (k : Int) + 1))) none).run Tryd.prog w = .ok (.string (s.extract a (a + k + 1))) w := by
  have h := run_slice_string (P := Tryd.prog) w 9 s .i64 .i64 (a : Int) ((a : Int) + (k : Int) + 1) Tryd.underlying9 (by omega) (by omega) (by omega)
  rw [h]
  congr 4
attribute [local go_sem ↓] slice_nat
set_option maxRecDepth 100000 in
set_option maxHeartbeats 1000000 in
theorem l1Get_any (s : ByteArray) (a : Nat) (w : World) (ha : a < s.size) (hs : s.size ≤ 1048576) :
    Calls Tryd.prog 57 #[.string s, .int .i64 a] w fun e w' => e = .returned (lgRes a (gv (bts s a))) ∧ Below w.heap.size w w' := by
  have hI : (a : Int) < (s.size : Int) := by omega
  have htl := hide (bts_len s a)
  go_enter Tryd.func57, Tryd.ntmps57
  go_wp2
  go_loop [6, 7, 8] (fun z by_ i => ∃ j : Nat, j ≤ 7 ∧ j ≤ s.size - a ∧ i = .int .i64 ((a : Int) + (j : Int)) ∧ by_ = .int .i64 (wor j) ∧ z = .int .i64 (val ((bts s a).take j)) ∧ Hid (Hi ((bts s a).take j)) ∧ Hid (gv (bts s a) = gvf (6 - j) ((bts s a).take j) ((bts s a).drop j))) (fun _ _ i => a + 7 - (intOf i).toNat)
  case atStart => exact ⟨0, by omega, by omega, by simp, rfl, rfl, fun x hx => by simp at hx, rfl⟩
  case round =>
    obtain ⟨k, hk7, hkl, rfl, rfl, rfl, HH, HG⟩ := hrel
    by_cases hl : k < s.size - a
    · by_cases h7 : k < 7
      · have hlt : a + k < s.size := by omega
        have hb := bts_get s a k hlt
        have hbb := bts_byte s a k
        have hd := digit_bd ((bts s a).getD k 0) k (by omega)
        have hv := val_bd7 (bts s a) k (by rw [htl.out]; omega) (by omega)
        have h7I : (k : Int) < 7 := by omega
        have h7J : (a : Int) + (k : Int) < (a : Int) + 7 := by omega
        have hlI : (a : Int) + (k : Int) < (s.size : Int) := by omega
        have hb1I : (a : Int) ≤ (a : Int) + (k : Int) + 1 := by omega
        have hb2I : (a : Int) + (k : Int) + 1 ≤ (s.size : Int) := by omega
        have hb3I : (0 : Int) ≤ (a : Int) := by omega
        have hwr : IntKind.i64.wrap ((a : Int) + (k : Int) + 1) = (a : Int) + (k : Int) + 1 := by
          simp [IntKind.wrap, IntKind.bits, IntKind.signed]
          omega
        have hw1 := wor_pos k
        have hw2 : wor k ≤ 4398046511104 := by
          have : wor k ≤ wor 6 := wor_le (by omega)
          simpa [wor] using this
        obtain ⟨b, hbe⟩ : ∃ b, b = (bts s a).getD k 0 := ⟨_, rfl⟩
        rw [← hbe] at hb hbb hd
        obtain ⟨v, hve⟩ : ∃ v, v = val ((bts s a).take k) := ⟨_, rfl⟩
        rw [← hve] at hv ⊢
        have HB := hide hbe
        have HV := hide hve
        obtain ⟨hb0, hb1⟩ := hbb
        obtain ⟨hd0, hd1⟩ := hd
        obtain ⟨hv0, hv1⟩ := hv
        have hb' := hb.symm
        have hand := u8_and127 b hb0 hb1
        clear hbe hve hb
        by_cases h128 : b < 128
        · have hsep := vd_sep k (bts s a) (by rw [htl.out]; omega) h7 HH.out (by rw [← HB.out]; omega) (by rw [← HB.out]; omega)
          rw [← HG.out] at hsep
          have hst : val ((bts s a).take (k + 1)) = v + b % 128 * wor k := by rw [val_take _ _ (by rw [htl.out]; omega), ← HB.out, ← HV.out]
          rw [hst] at hsep
          have hsl : ((bts s a).take (k + 1)).length = k + 1 := by rw [List.length_take, htl.out]; omega
          have hpc := str_piece s a (k + 1) (by omega)
          have hmem : ∀ x ∈ (bts s a).take (k + 1), 0 ≤ x ∧ x < 256 := fun x hx => bts_mem s a x (List.mem_of_mem_take hx)
          have ST := hide hsep
          have VT := hide hst
          have SL := hide hsl
          have PC := hide hpc
          have ME := hide hmem
          clear hsep hst hsl hpc hmem HH HG
          by_cases hz : v + b % 128 * wor k ≤ 2000000000000
          · have hd : decide (2000000000000 < v + b % 128 * wor k) = false := by simp; omega
            have hzl := zag_lo (v + b % 128 * wor k) (by omega) hz
            have hvc := fun wx => l1Varint_any (zag (v + b % 128 * wor k)) wx hzl.1 hzl.2
            rw [zig_zag _ (by omega)] at hvc
            have hdec : vd (v + b % 128 * wor k) = (bts s a).take (k + 1) ↔ strOfNums (vd (v + b % 128 * wor k)) = s.extract a (a + k + 1) :=
              ⟨fun h => by rw [h]; exact PC.out, fun h => str_inj (vdf_byte 5 _ (by omega) (by simp [wor]; omega)) ME.out (h.trans PC.out.symm)⟩
            obtain ⟨A, hA⟩ : ∃ A, A = strOfNums (vd (v + b % 128 * wor k)) := ⟨_, rfl⟩
            rw [← hA] at hvc hdec
            have VC := hide hvc
            have DE := hide hdec
            clear hA hvc hdec
            by_cases hAB : A = s.extract a (a + k + 1)
            · have hcmp : (A.toList == (s.extract a (a + k + 1)).toList) = true := by rw [hAB]; simp
              have HQ := hide hAB
              clear hAB
              go_wp2_with (go_at_call 64; refine (l1Zag_any _ _ (by omega) (by omega)).mono ?_; rintro e w' ⟨rfl, rfl⟩)
              go_region_held3 (fun _ => True) (trivial) ((go_at_call 65; refine (unhide VC _).mono ?_; rintro e w1 ⟨rfl, hb⟩))
              go_wp2
              go_ret2
              rw [ST.out, if_pos ⟨hz, DE.out.2 HQ.out⟩, lgRes_some VT.out SL.out]
              exact ⟨rfl, (Below.drew (Below.refl _ _)).trans (by assumption)⟩
            · have hcmp : (A.toList == (s.extract a (a + k + 1)).toList) = false := by
                apply Bool.eq_false_iff.2
                intro h
                exact hAB (L1.toList_inj (eq_of_beq h))
              have HN := hide hAB
              clear hAB
              go_wp2_with (go_at_call 64; refine (l1Zag_any _ _ (by omega) (by omega)).mono ?_; rintro e w' ⟨rfl, rfl⟩)
              go_region_held3 (fun _ => True) (trivial) ((go_at_call 65; refine (unhide VC _).mono ?_; rintro e w1 ⟨rfl, hb⟩))
              go_wp2
              go_ret2
              rw [ST.out, if_neg (fun h => HN.out (DE.out.1 h.2))]
              exact ⟨rfl, (Below.drew (Below.refl _ _)).trans (by assumption)⟩
          · have hz' : 2000000000000 < v + b % 128 * wor k := by omega
            have hd : decide (2000000000000 < v + b % 128 * wor k) = true := by simp; omega
            go_wp2_with (go_at_call 64; refine (l1Zag_any _ _ (by omega) (by omega)).mono ?_; rintro e w' ⟨rfl, rfl⟩)
            go_quiet (fail)
            go_wp2
            go_ret2
            rw [ST.out, if_neg (by omega)]
            exact ⟨rfl, below_drewN (Below.refl _ _) _⟩
        · go_wp2
          go_round
          case rel =>
            refine ⟨k + 1, by omega, by omega, by go_num, ?_, ?_, ?_, ?_⟩
            · show Value.int .i64 (wor k * 128) = .int .i64 (128 * wor k)
              rw [Int.mul_comm]
            · rw [val_take _ _ (by rw [htl.out]; omega), ← HB.out, ← HV.out]
            · exact hi_take (by rw [htl.out]; omega) HH.out (by rw [← HB.out]; omega) (by rw [← HB.out]; exact hb1)
            · by_cases h6 : k < 6
              · exact HG.out.trans (gvf_on (by rw [htl.out]; omega) h6 (by rw [← HB.out]; omega))
              · rw [HG.out]
                show _ = _
                rw [gvf_six (by omega), gvf_six (by omega)]
          case measure => simp [intOf]; omega
      · have hend := gvf_six (t := bts s a) (k := k) (by omega)
        rw [← HG.out] at hend
        have h7J : ¬ (a : Int) + (k : Int) < (a : Int) + 7 := by omega
        have hlI : (a : Int) + (k : Int) < (s.size : Int) := by omega
        have HE := hide hend
        clear hend
        go_wp2
        go_ret2
        rw [HE.out]
        exact ⟨rfl, Below.refl _ _⟩
    · have hend := gvf_end (t := bts s a) (k := k) (by rw [htl.out]; omega)
      rw [← HG.out] at hend
      have hlI : ¬ (a : Int) + (k : Int) < (s.size : Int) := by omega
      have HE := hide hend
      clear hend
      go_wp2
      go_ret2
      rw [HE.out]
      exact ⟨rfl, Below.refl _ _⟩
end Go.Proofs.YtapffbbmofhpobaDoor.L1

namespace Go.Proofs.YtapffbbmofhpobaDoor.L6
open Go.RowKit L1
set_option linter.unusedVariables false

set_option maxRecDepth 100000 in
set_option maxHeartbeats 400000 in
theorem l1In_any (x lo hi : Int) (w : World) (b : Bool) (hb : b = true ↔ lo ≤ x ∧ x ≤ hi) :
    Calls Tryd.prog 39 #[.int .i64 x, .int .i64 lo, .int .i64 hi] w fun e w' => e = .returned (.bool b) ∧ w = w' := by
  by_cases h1 : lo ≤ x
  · by_cases h2 : x ≤ hi
    · obtain rfl : b = true := hb.2 ⟨h1, h2⟩
      clear hb
      go_enter Tryd.func39, Tryd.ntmps39
      go_wp2
      go_ret
      exact ⟨rfl, rfl⟩
    · obtain rfl : b = false := by
        cases b with
        | false => rfl
        | true => exact absurd (hb.1 rfl).2 h2
      clear hb
      go_enter Tryd.func39, Tryd.ntmps39
      go_wp2
      go_ret
      exact ⟨rfl, rfl⟩
  · obtain rfl : b = false := by
      cases b with
      | false => rfl
      | true => exact absurd (hb.1 rfl).1 h1
    clear hb
    go_enter Tryd.func39, Tryd.ntmps39
    go_wp2
    go_ret
    exact ⟨rfl, rfl⟩

set_option maxRecDepth 100000 in
set_option maxHeartbeats 2000000 in
theorem l6Starts_any (s : ByteArray) (w : World) (hs : s.size ≤ 1048576) :
    Calls Tryd.prog 40 #[.string s] w fun e w' => ∃ v, e = .returned (.tuple #[v, .int .i64 (wh s : Nat)]) ∧ w'.ownsRow w.heap.size 3 1 v (cnt s) ((st s).map (Value.int .i64)) ∧ Below w.heap.size w w' := by
  obtain ⟨i0, hi, hz0, hz1, hz2⟩ := info_parts info_int
  have hcl := cnt_le s
  go_enter Tryd.func40, Tryd.ntmps40
  go_wp2
  go_loopw [4, 5] (fun o i wr => ∃ j : Nat, j ≤ cnt s ∧ i = .int .i64 (pl s 0 j : Nat) ∧ wr.ownsRow w.heap.size 3 1 o j ((stk s j).map (Value.int .i64)) ∧ Below w.heap.size w wr) (fun _ i _ => s.size - (intOf i).toNat)
  case atStart => exact ⟨0, by omega, rfl, World.ownsRow_nil _ _ _ _, Below.refl _ _⟩
  case round =>
    obtain ⟨j, hj, rfl, hown, hbel⟩ := hrel
    obtain ⟨b1, q1, rfl, _, _⟩ := own_form hown
    have hpl := pl_le s j
    by_cases hlt : j < cnt s
    · obtain ⟨c, n, hrc, hnx⟩ := cnt_rc s j hlt
      have hpl2 := pl_le s (j + 1)
      have hps := pl_lt s j hlt
      have hsk := stk_succ s j
      obtain ⟨l, hg, hz, hc, hn, hle⟩ := rc_gv hrc
      have hps2 : pl s 0 j < s.size := by omega
      have C := hide (l1Get_any s (pl s 0 j) wr hps2 hs)
      rw [hg] at C
      simp only [lgRes, hz, ← hc] at C
      have CI := hide (fun w => l1In_any (n : Int) 0 20 w true (by simp; omega))
      obtain ⟨p, hp⟩ : ∃ p, p = pl s 0 j := ⟨_, rfl⟩
      obtain ⟨q, hq⟩ : ∃ q, q = pl s 0 (j + 1) := ⟨_, rfl⟩
      rw [← hp] at C hpl hps hsk hps2
      rw [← hq] at hpl2 hps hnx
      rw [← hp]
      have hpI : (p : Int) < (s.size : Int) := by omega
      have hc0 : ¬ (c : Int) < 0 := by omega
      have hn0 : ¬ (s.size : Int) - (c : Int) < (n : Int) := by omega
      have hqq : (c : Int) + (n : Int) = (q : Int) := by omega
      have HSK := hide hsk
      have HQ := hide hq
      have O := hide hown
      have B := hide hbel
      have hp' := hide hp
      clear hrc hnx hsk hq hown hbel hp hg hz hc hle
      go_wp2_with fail
      refine C.out.mono ?_
      rintro e w1 ⟨rfl, hb1⟩
      have O1 := hide (own_below O.out hb1)
      have B1 := hide (B.out.trans (hb1.mono B.out.size))
      clear hb1
      go_wp2_with fail
      refine (CI.out _).mono ?_
      rintro e w2 ⟨rfl, rfl⟩
      go_wp2_with (first
        | (at_builtin; refine wpList_append_own _ rfl _ _ 35 rfl w.heap.size 3 i0 (.int .i64 0) 1 8 Tryd.underlying35 hi hz0 hz1 hz2 rfl (by decide) _ _ _ rfl (O1.out.alloc _) ⟨w1.heap.size, 0, none⟩ 1 1 [.int .i64 (p : Int)] rfl rfl (cell_one_new _ _ _) (by intro u hu; simp at hu; subst hu; rfl) (by unfold maxLen; omega) (by omega) (by have := B1.out.size; simp; omega) ?_)
        | go_in)
      intro v6 w6 h6 g6 _
      have hbase : w.heap.size ≤ (w1.alloc (.cells #[.int .i64 (p : Int)] 3)).heap.size := by have := B1.out.size; simp; omega
      have O6 : w6.ownsRow w.heap.size 3 1 v6 (j + 1) ((stk s (j + 1)).map (Value.int .i64)) := by
        rw [HSK.out, List.map_append]
        exact h6
      have B6 := (B1.out.alloc (Nat.le_trans B1.out.size (Nat.le_refl _)) _).grown g6 hbase (fun k hk => (O1.out.lt k hk).1)
      have HR := hide (And.intro O6 B6)
      obtain ⟨a6, c6, rfl, _, _⟩ := own_form O6
      clear h6 g6 O6 B6 hbase
      go_wp2
      go_roundw
      case rel => exact ⟨j + 1, by omega, by rw [HQ.out], HR.out⟩
      case measure => simp [intOf]; omega
    · obtain rfl : j = cnt s := by omega
      have hrc := cnt_no s
      obtain ⟨p, hp⟩ : ∃ p, p = pl s 0 (cnt s) := ⟨_, rfl⟩
      rw [← hp] at hpl hrc
      rw [← hp]
      have E : Hid (wh s = p) := hp.symm
      have O := hide hown
      have B := hide hbel
      clear hp hown hbel
      by_cases hps2 : p < s.size
      · have hpI : (p : Int) < (s.size : Int) := by omega
        have C := hide (l1Get_any s p wr hps2 hs)
        cases hg : gv (bts s p) with
        | none =>
          rw [hg] at C
          simp only [lgRes] at C
          clear hg hrc
          go_wp2_with fail
          refine C.out.mono ?_
          rintro e w1 ⟨rfl, hb1⟩
          have O1 := hide (own_below O.out hb1)
          have B1 := hide (B.out.trans (hb1.mono B.out.size))
          clear hb1
          go_wp2
          go_ret2
          exact ⟨_, by rw [E.out]; rfl, O1.out, B1.out⟩
        | some l =>
          rw [hg] at C
          simp only [lgRes] at C
          have hf := gv_form (bts_mem s p) hg
          have hz := zag_lo (val l) (val_nonneg l) hf.2
          have hl := gv_some hg
          rw [bts_len] at hl
          have hno : ¬ (0 ≤ zag (val l) ∧ zag (val l) ≤ 20 ∧ zag (val l) ≤ (s.size : Int) - ((p + l.length : Nat) : Int)) := by
            intro hc
            unfold rc at hrc
            rw [hg] at hrc
            simp only [if_pos hc] at hrc
            cases hrc
          obtain ⟨z, hzz⟩ : ∃ z, z = zag (val l) := ⟨_, rfl⟩
          obtain ⟨e, hee⟩ : ∃ e, e = p + l.length := ⟨_, rfl⟩
          rw [← hzz] at C hz hno
          rw [← hee] at C hno
          have he : e ≤ s.size := by omega
          have he0 : ¬ (e : Int) < 0 := by omega
          clear hg hf hl hzz hee hrc
          by_cases h1 : 0 ≤ z ∧ z ≤ 20
          · have h3 : (s.size : Int) - (e : Int) < z := by omega
            have CI := hide (fun w => l1In_any z 0 20 w true (by simp; omega))
            clear hno h1
            go_wp2_with fail
            refine C.out.mono ?_
            rintro e w1 ⟨rfl, hb1⟩
            have O1 := hide (own_below O.out hb1)
            have B1 := hide (B.out.trans (hb1.mono B.out.size))
            clear hb1
            go_wp2_with fail
            refine (CI.out _).mono ?_
            rintro e w2 ⟨rfl, rfl⟩
            go_wp2
            go_ret2
            exact ⟨_, by rw [E.out]; rfl, O1.out, B1.out⟩
          · have CI := hide (fun w => l1In_any z 0 20 w false (by simp; omega))
            clear hno h1
            go_wp2_with fail
            refine C.out.mono ?_
            rintro e w1 ⟨rfl, hb1⟩
            have O1 := hide (own_below O.out hb1)
            have B1 := hide (B.out.trans (hb1.mono B.out.size))
            clear hb1
            go_wp2_with fail
            refine (CI.out _).mono ?_
            rintro e w2 ⟨rfl, rfl⟩
            go_wp2
            go_ret2
            exact ⟨_, by rw [E.out]; rfl, O1.out, B1.out⟩
      · have hpI : ¬ (p : Int) < (s.size : Int) := by omega
        clear hrc
        go_wp2
        go_ret2
        exact ⟨_, by rw [E.out]; rfl, O.out, B.out⟩

set_option maxRecDepth 100000 in
set_option maxHeartbeats 2000000 in
theorem l6Index_any (s : ByteArray) (a : Option Addr) (n cap : Nat) (w : World) (hn : cnt s = n) (hn2 : n ≤ 1048576) (hs : Sl w a (st s)) :
    Calls Tryd.prog 58 #[.slice a n cap] w fun e w' => ∃ v, e = .returned v ∧ w'.ownsRow w.heap.size 3 1 v (ix s).length ((ix s).map (Value.int .i64)) ∧ Below w.heap.size w w' := by
  obtain ⟨i0, hi, hz0, hz1, hz2⟩ := info_parts info_int
  have HS := hide hs
  have HN := hide hn
  clear hs hn
  go_enter Tryd.func58, Tryd.ntmps58
  go_wp2
  go_loopw [3, 8] (fun o i wr => ∃ j : Nat, j ≤ n ∧ i = .int .i64 j ∧ wr.ownsRow w.heap.size 3 1 o ((j + 2) / 3) ((ixk s ((j + 2) / 3)).map (Value.int .i64)) ∧ Below w.heap.size w wr) (fun _ i _ => n - (intOf i).toNat)
  case atStart => exact ⟨0, by omega, rfl, World.ownsRow_nil _ _ _ _, Below.refl _ _⟩
  case round =>
    obtain ⟨j, hj, rfl, hown, hbel⟩ := hrel
    obtain ⟨b1, q1, rfl, _, _⟩ := own_form hown
    by_cases hlt : j < n
    · obtain ⟨b, off, rfl, hc0⟩ := HS.out j (by rw [stk_len, HN.out]; exact hlt)
      have hc := (hbel.cell (p := ⟨b, off + j, none⟩) (blk_lt hc0)).trans hc0
      rw [stk_get s (cnt s) j (by rw [HN.out]; exact hlt)] at hc
      have hltI : (j : Int) < (n : Int) := by omega
      have hj0 : (0 : Int) ≤ (j : Int) := by omega
      by_cases h3 : j % 3 = 0
      · have hm : (j : Int).tmod 3 = 0 := by rw [Int.tmod_eq_emod_of_nonneg (by omega)]; omega
        have hsk := ixk_succ s (j / 3)
        have ej : 3 * (j / 3) = j := by omega
        rw [ej] at hsk
        have ek : (j + 2) / 3 = j / 3 := by omega
        have ek2 : (j + 1 + 2) / 3 = j / 3 + 1 := by omega
        rw [ek] at hown ⊢
        obtain ⟨k, hk⟩ : ∃ k, k = j / 3 := ⟨_, rfl⟩
        rw [← hk] at hown hsk ek2 ⊢
        obtain ⟨p, hp⟩ : ∃ p : Int, p = (pl s 0 j : Int) := ⟨_, rfl⟩
        rw [← hp] at hc hsk
        have HSK := hide hsk
        have HK := hide ek2
        have O := hide hown
        have B := hide hbel
        have hkn : k ≤ n := by omega
        clear hsk hown hbel hp hc0 ek ek2 ej hk
        go_wp2_with (first
          | (at_builtin; refine wpList_append_own _ rfl _ _ 35 rfl w.heap.size 3 i0 (.int .i64 0) 1 8 Tryd.underlying35 hi hz0 hz1 hz2 rfl (by decide) _ _ _ rfl (O.out.alloc _) ⟨wr.heap.size, 0, none⟩ 1 1 [.int .i64 p] rfl rfl (cell_one_new _ _ _) (by intro u hu; simp at hu; subst hu; rfl) (by unfold maxLen; omega) (by omega) (by have := B.out.size; simp; omega) ?_)
          | go_in)
        intro v6 w6 h6 g6 _
        have hbase : w.heap.size ≤ (wr.alloc (.cells #[.int .i64 p] 3)).heap.size := by have := B.out.size; simp; omega
        have O6 : w6.ownsRow w.heap.size 3 1 v6 (k + 1) ((ixk s (k + 1)).map (Value.int .i64)) := by
          rw [HSK.out, List.map_append]
          exact h6
        have B6 := (B.out.alloc (Nat.le_trans B.out.size (Nat.le_refl _)) _).grown g6 hbase (fun k hk => (O.out.lt k hk).1)
        have HR := hide (And.intro O6 B6)
        obtain ⟨a6, c6, rfl, _, _⟩ := own_form O6
        clear h6 g6 O6 B6 hbase
        go_wp2
        go_roundw
        case rel => exact ⟨j + 1, by omega, by go_num, by rw [HK.out]; exact HR.out⟩
        case measure => simp [intOf]; omega
      · have hm : ¬ (j : Int).tmod 3 = 0 := by rw [Int.tmod_eq_emod_of_nonneg (by omega)]; omega
        have ek2 : (j + 1 + 2) / 3 = (j + 2) / 3 := by omega
        obtain ⟨p, hp⟩ : ∃ p : Int, p = (pl s 0 j : Int) := ⟨_, rfl⟩
        rw [← hp] at hc
        obtain ⟨k, hk⟩ : ∃ k, k = (j + 2) / 3 := ⟨_, rfl⟩
        rw [← hk] at hown ek2 ⊢
        have HK := hide ek2
        have O := hide hown
        have B := hide hbel
        clear hown hbel hp hc0 ek2 hk
        go_wp2
        go_roundw
        case rel => exact ⟨j + 1, by omega, by go_num, by rw [HK.out]; exact ⟨O.out, B.out⟩⟩
        case measure => simp [intOf]; omega
    · obtain rfl : j = n := by omega
      have hltI : ¬ (j : Int) < (j : Int) := by omega
      have E : ixk s ((j + 2) / 3) = ix s := by unfold ix; rw [HN.out]
      have E2 : (ix s).length = (j + 2) / 3 := by rw [← E, ixk_len]
      rw [E, ← E2] at hown
      rw [← E2]
      have O := hide hown
      clear E E2 hown
      go_wp2
      go_ret
      exact ⟨_, rfl, O.out, hbel⟩
end Go.Proofs.YtapffbbmofhpobaDoor.L6

namespace Go.Proofs.YtapffbbmofhpobaDoor.L6
open Go.RowKit L1
set_option linter.unusedVariables false

set_option maxRecDepth 100000 in
set_option maxHeartbeats 2000000 in
theorem l6Piece_any (f : Int) (s : ByteArray) (w : World) (hs : s.size ≤ 1048576) :
    Calls Tryd.prog 41 #[.int .i64 f, .string s] w fun e w' => ∃ v, e = .returned (.agg #[.int .i64 f, .string s, v]) ∧ w'.ownsRow w.heap.size 3 1 v (ix s).length ((ix s).map (Value.int .i64)) ∧ Below w.heap.size w w' := by
  obtain ⟨N, hN⟩ : ∃ N, N = (ix s).length := ⟨_, rfl⟩
  rw [← hN]
  have C1 := hide (fun w => l6Starts_any s w hs)
  have hcl := cnt_le s
  obtain ⟨m, hm⟩ : ∃ m, m = cnt s := ⟨_, rfl⟩
  have C2 := hide (fun a cap w hs => l6Index_any s a m cap w hm.symm (by omega) hs)
  rw [← hm] at C1
  obtain ⟨k, hk⟩ : ∃ k, k = wh s := ⟨_, rfl⟩
  rw [← hk] at C1
  clear hk hm
  go_enter Tryd.func41, Tryd.ntmps41
  go_wp2_with fail
  refine (C1.out _).mono ?_
  rintro e w1 ⟨v1, rfl, ho1, hb1⟩
  obtain ⟨a1, q1, rfl, s1, _⟩ := own_form ho1
  have G1 : w1.heap[w.heap.size]? = some (.cells #[.int .i64 0, .string ByteArray.empty, .slice none 0 0] 37 (0, 0)) := (hb1.block w.heap.size (by simp)).trans (blk_new _ _)
  have B1 := hide (((Below.refl w.heap.size w).alloc (Nat.le_refl _) (.cells #[.int .i64 0, .string ByteArray.empty, .slice none 0 0] 37 (0, 0))).trans (hb1.mono (by simp)))
  have hlt : w.heap.size < w1.heap.size := (Array.getElem?_eq_some_iff.1 G1).1
  have C3 := hide (fun wx (hb : Below w1.heap.size w1 wx) => (C2.out a1 q1 wx (s1.below hb)).mono (R' := fun e w2 => ∃ a2 q2, e = .returned (.slice a2 N q2) ∧ (w2.ownsRow w1.heap.size 3 1 (.slice a2 N q2) N ((ix s).map (Value.int .i64)) ∧ Below w1.heap.size w1 w2) ∧ (w2.cell? ⟨w.heap.size, 0, none⟩ = some (.int .i64 0) ∧ w2.cell? ⟨w.heap.size, 1, none⟩ = some (.string ByteArray.empty) ∧ w2.cell? ⟨w.heap.size, 2, none⟩ = some (.slice none 0 0) ∧ w2.frozen? ⟨w.heap.size, 0, none⟩ = false ∧ w2.frozen? ⟨w.heap.size, 1, none⟩ = false ∧ w2.frozen? ⟨w.heap.size, 2, none⟩ = false)) (by
    rintro e w2 ⟨v2, rfl, ho2, hb2⟩
    have hb3 := hb.trans (hb2.mono hb.size)
    rw [← hN] at ho2
    obtain ⟨a2, q2, rfl, _, _⟩ := own_form ho2
    exact ⟨a2, q2, rfl, ⟨own_baseC ho2 hb.size, hb3⟩, blk3 ((hb3.block w.heap.size (Array.getElem?_eq_some_iff.1 G1).1).trans G1)⟩))
  clear ho1 hb1 s1 G1 C2 hN
  go_wp2_with fail
  refine (C3.out _ (Below.refl _ _)).mono ?_
  rintro e w2 ⟨a2, q2, rfl, ho2, c0, c1, c2, c3, c4, c5⟩
  have H2 := hide ho2
  clear ho2
  go_wp2
  refine bodyPost_ret (v := .agg #[.int .i64 f, .string s, .slice a2 N q2]) (by simp [results, Tryd.f41, go_sem, c0, c1, c2]) rfl ⟨_, rfl, ?_, ?_⟩
  · exact own_setC (own_setC (own_setC (own_baseC H2.out.1 (Nat.le_refl _)) ⟨_, _, none⟩ _ hlt) ⟨_, _, none⟩ _ hlt) ⟨_, _, none⟩ _ hlt |> fun h => own_baseC h (Nat.le_of_lt hlt)
  · exact (((B1.out.trans (H2.out.2.mono B1.out.size)).setCell (p := ⟨_, _, none⟩) (Nat.le_refl _) _).setCell (p := ⟨_, _, none⟩) (Nat.le_refl _) _).setCell (p := ⟨_, _, none⟩) (Nat.le_refl _) _

set_option maxRecDepth 100000 in
set_option maxHeartbeats 1000000 in
theorem l1Same_any (a b : Option Addr) (xs ys : List Int) (n m c1 c2 : Nat) (w : World) (hn : xs.length = n) (hm : ys.length = m) (ha : Sl w a xs) (hb : Sl w b ys) (hn2 : n ≤ 9223372036854775807) (hm2 : m ≤ 9223372036854775807) (bb : Bool) (hbb : bb = true ↔ xs = ys) :
    Calls Tryd.prog 60 #[.slice a n c1, .slice b m c2] w fun e w' => e = .returned (.bool bb) ∧ Below w.heap.size w w' := by
  have HA := hide ha
  have HB := hide hb
  have HN := hide hn
  have HM := hide hm
  have HBB := hide hbb
  clear ha hb hn hm hbb
  by_cases hnm : n = m
  · subst hnm
    go_enter Tryd.func60, Tryd.ntmps60
    go_wp2
    go_loopw [13] (fun i wr => ∃ k : Nat, k ≤ n ∧ i = .int .i64 k ∧ Hid (∀ j, j < k → xs.getD j 0 = ys.getD j 0) ∧ Below w.heap.size w wr) (fun i _ => n - (intOf i).toNat)
    case atStart => exact ⟨0, Nat.zero_le _, rfl, fun j hj => absurd hj (Nat.not_lt_zero _), Below.refl _ _⟩
    case round =>
      obtain ⟨k, hk, rfl, HK, hbel⟩ := hrel
      by_cases hlt : k < n
      · obtain ⟨b1, o1, rfl, h1⟩ := HA.out k (by rw [HN.out]; exact hlt)
        obtain ⟨b2, o2, rfl, h2⟩ := HB.out k (by rw [HM.out]; exact hlt)
        have g1 := (hbel.cell (p := ⟨b1, o1 + k, none⟩) (blk_lt h1)).trans h1
        have g2 := (hbel.cell (p := ⟨b2, o2 + k, none⟩) (blk_lt h2)).trans h2
        obtain ⟨x, hx⟩ : ∃ x, x = xs.getD k 0 := ⟨_, rfl⟩
        obtain ⟨y, hy⟩ : ∃ y, y = ys.getD k 0 := ⟨_, rfl⟩
        rw [← hx] at g1
        rw [← hy] at g2
        have hltI : (k : Int) < (n : Int) := by omega
        clear h1 h2
        by_cases hxy : x = y
        · have HK2 : Hid (∀ j, j < k + 1 → xs.getD j 0 = ys.getD j 0) := fun j hj => by
            by_cases e : j = k
            · subst e; rw [← hx, ← hy, hxy]
            · exact HK.out j (by omega)
          clear hx hy
          subst hxy
          go_wp2
          go_quiet (fail)
          go_wp2
          go_roundw
          case rel => exact ⟨k + 1, by omega, by go_num, HK2.out, below_drewN hbel _⟩
          case measure => simp [intOf]; omega
        · have hE : bb = false := by
            cases bb with
            | false => rfl
            | true =>
              have := HBB.out.1 rfl
              exact absurd (by rw [hx, hy, this]) hxy
          subst hE
          clear hx hy
          go_wp2
          go_quiet (fail)
          go_wp2
          go_ret
          exact ⟨rfl, below_drewN hbel _⟩
      · obtain rfl : k = n := by omega
        have hltI : ¬ (k : Int) < (k : Int) := by omega
        have hE : bb = true := HBB.out.2 (list_same HM.out HN.out (fun j hj => HK.out j hj))
        subst hE
        go_wp2
        go_ret
        exact ⟨rfl, hbel⟩
  · have hE : bb = false := by
      cases bb with
      | false => rfl
      | true =>
        have := HBB.out.1 rfl
        have h1 := HN.out
        rw [this, HM.out] at h1
        exact absurd h1.symm hnm
    subst hE
    have hI : ¬ (n : Int) = (m : Int) := by omega
    go_enter Tryd.func60, Tryd.ntmps60
    go_wp2
    go_ret
    exact ⟨rfl, Below.refl _ _⟩

end Go.Proofs.YtapffbbmofhpobaDoor.L6

namespace Go.Proofs.YtapffbbmofhpobaDoor.L6
open Go.RowKit L1
set_option linter.unusedVariables false

open Classical in
noncomputable def many (p : Pc) : Int := if GoodP p then (cnt p.s : Int) else -1

set_option maxRecDepth 100000 in
set_option maxHeartbeats 4000000 in
theorem l6Many_any (f : Int) (s : ByteArray) (a : Option Addr) (xs : List Int) (n q : Nat) (w : World) (hn : xs.length = n) (ha : Sl w a xs) (hn2 : n ≤ 9223372036854775807) (hs : s.size ≤ 1048576) (r : Int) (hr : r = many ⟨f, s, xs⟩) :
    Calls Tryd.prog 47 #[.agg #[.int .i64 f, .string s, .slice a n q]] w fun e w' => e = .returned (.int .i64 r) ∧ Below w.heap.size w w' := by
  have C1 := hide (fun w => l6Starts_any s w hs)
  have hcl := cnt_le s
  have hwl := wh_le s
  have HR := hide hr
  have HA := hide ha
  have HN := hide hn
  obtain ⟨m, hm⟩ : ∃ m, m = cnt s := ⟨_, rfl⟩
  rw [← hm] at C1
  obtain ⟨k, hk⟩ : ∃ k, k = wh s := ⟨_, rfl⟩
  rw [← hk] at C1 hwl
  have HM := hide hm
  have HK := hide hk
  have hmm : m ≤ 1048576 := by omega
  clear hr ha hn hm hk hcl
  go_enter Tryd.func47, Tryd.ntmps47
  go_wp2_with fail
  refine (C1.out _).mono ?_
  rintro e w1 ⟨v1, rfl, ho1, hb1⟩
  obtain ⟨a1, q1, rfl, s1, _⟩ := own_form ho1
  have G1 : w1.heap[w.heap.size]? = some (.cells #[.int .i64 f, .string s, .slice a n q] 37 (0, 0)) := (hb1.block w.heap.size (by simp)).trans (blk_new _ _)
  obtain ⟨c0, c1, c2, _, _, _⟩ := blk3 G1
  have B1 := hide (((Below.refl w.heap.size w).alloc (Nat.le_refl _) (.cells #[.int .i64 f, .string s, .slice a n q] 37 (0, 0))).trans (hb1.mono (by simp)))
  have HS1 := hide s1
  clear ho1 hb1 G1 s1
  go_wp2
  by_cases h60 : (60 : Int) < (s.size : Int)
  · have hA : decide ((60 : Int) < (s.size : Int)) = true := decide_eq_true h60
    have E : Hid (r = -1) := by
      show r = -1
      rw [HR.out]
      unfold many
      rw [if_neg (fun h => by have := h.1; simp only at this; omega)]
    refine wp_region_held_drew (S := fun wx => (wx.cell? ⟨w.heap.size, 0, none⟩ = some (.int .i64 f) ∧ wx.cell? ⟨w.heap.size, 1, none⟩ = some (.string s) ∧ wx.cell? ⟨w.heap.size, 2, none⟩ = some (.slice a n q)) ∧ Below w1.heap.size w1 wx) (by kernel_rfl) ⟨⟨c0, c1, c2⟩, (Below.refl _ _).drew⟩ (fun hHeld => ?_)
    refine wpAnyH_take (i := 0) (v := ?v1) rfl (by kernel_rfl) (by kernel_rfl) (by kernel_rfl) (fun _ _ _ h => h) (Or.inl ⟨by rfl, ?y1⟩) (by assumption) ?r1
    case y1 => (intro w hSw; (try dsimp only at hSw); go_simp; try (with_reducible rfl))
    simp only [List.getElem_toArray, List.getElem_cons_zero, Act.put, List.setIfInBounds_toArray, List.set_cons_zero, List.set_cons_succ]
    refine wpAnyH_take (i := 1) (v := ?v2) rfl (by kernel_rfl) (by kernel_rfl) (by kernel_rfl) (fun _ _ _ h => h) (Or.inl ⟨by rfl, ?y2⟩) (by assumption) ?r2
    case y2 => (intro w hSw; (try dsimp only at hSw); go_simp; try (with_reducible rfl))
    simp only [List.getElem_toArray, List.getElem_cons_succ, List.getElem_cons_zero, Act.put, List.setIfInBounds_toArray, List.set_cons_zero, List.set_cons_succ]
    refine wpAnyH_take (i := 2) (v := ?v3) rfl (by kernel_rfl) (by kernel_rfl) (by kernel_rfl) (fun _ _ _ h => h) (Or.inl ⟨by rfl, ?y3⟩) (by assumption) ?r3
    case y3 => (intro w hSw; (try dsimp only at hSw); go_simp; try (with_reducible rfl))
    simp only [List.getElem_toArray, List.getElem_cons_succ, List.getElem_cons_zero, Act.put, List.setIfInBounds_toArray, List.set_cons_zero, List.set_cons_succ]
    refine wpAnyH_take (i := 3) (v := ?v4) rfl (by kernel_rfl) (by kernel_rfl) (by kernel_rfl) (fun _ _ _ h => h) (Or.inl ⟨by rfl, ?y4⟩) (by assumption) ?r4
    case y4 => (intro w hSw; (try dsimp only at hSw); go_simp; try (with_reducible rfl))
    simp only [List.getElem_toArray, List.getElem_cons_succ, List.getElem_cons_zero, Act.put, List.setIfInBounds_toArray, List.set_cons_zero, List.set_cons_succ]
    try simp only [hA]
    refine wpAnyH_take (i := 4) (v := ?v5) rfl (by kernel_rfl) (by kernel_rfl) (by kernel_rfl) (fun _ _ _ h => h) (Or.inl ⟨by rfl, ?y5⟩) (by assumption) ?r5
    case y5 => (intro w hSw; (try dsimp only at hSw); go_simp; try (with_reducible rfl))
    simp only [List.getElem_toArray, List.getElem_cons_succ, List.getElem_cons_zero, Act.put, List.setIfInBounds_toArray, List.set_cons_zero, List.set_cons_succ]
    refine wpAnyH_take (i := 5) (v := undef) rfl (by kernel_rfl) (by kernel_rfl) (by kernel_rfl) (fun _ _ _ h => h) (Or.inr ⟨by rfl, rfl⟩) (by assumption) ?_
    simp only [List.getElem_toArray, List.getElem_cons_succ, List.getElem_cons_zero, Act.put, List.setIfInBounds_toArray, List.set_cons_zero, List.set_cons_succ]
    refine wpAnyH_take (i := 6) (v := undef) rfl (by kernel_rfl) (by kernel_rfl) (by kernel_rfl) (fun _ _ _ h => h) (Or.inr ⟨by rfl, rfl⟩) (by assumption) ?_
    simp only [List.getElem_toArray, List.getElem_cons_succ, List.getElem_cons_zero, Act.put, List.setIfInBounds_toArray, List.set_cons_zero, List.set_cons_succ]
    refine wpAnyH_take (i := 7) (v := undef) rfl (by kernel_rfl) (by kernel_rfl) (by kernel_rfl) (fun _ _ _ h => h) (Or.inr ⟨by rfl, rfl⟩) (by assumption) ?_
    simp only [List.getElem_toArray, List.getElem_cons_succ, List.getElem_cons_zero, Act.put, List.setIfInBounds_toArray, List.set_cons_zero, List.set_cons_succ]
    refine wpAnyH_take (i := 8) (v := undef) rfl (by kernel_rfl) (by kernel_rfl) (by kernel_rfl) (fun _ _ _ h => h) (Or.inr ⟨by rfl, rfl⟩) (by assumption) ?_
    simp only [List.getElem_toArray, List.getElem_cons_succ, List.getElem_cons_zero, Act.put, List.setIfInBounds_toArray, List.set_cons_zero, List.set_cons_succ]
    refine wpAnyH_take (i := 9) (v := undef) rfl (by kernel_rfl) (by kernel_rfl) (by kernel_rfl) (fun _ _ _ h => h) (Or.inr ⟨by rfl, rfl⟩) (by assumption) ?_
    simp only [List.getElem_toArray, List.getElem_cons_succ, List.getElem_cons_zero, Act.put, List.setIfInBounds_toArray, List.set_cons_zero, List.set_cons_succ]
    refine wpAnyH_take (i := 10) (v := ?v11) rfl (by kernel_rfl) (by kernel_rfl) (by kernel_rfl) (fun _ _ _ h => h) (Or.inl ⟨by rfl, ?y11⟩) (by assumption) ?r11
    case y11 => (intro w hSw; (try dsimp only at hSw); go_simp; try (with_reducible rfl))
    simp only [List.getElem_toArray, List.getElem_cons_succ, List.getElem_cons_zero, Act.put, List.setIfInBounds_toArray, List.set_cons_zero, List.set_cons_succ]
    refine wpAnyH_take (i := 11) (v := ?v12) rfl (by kernel_rfl) (by kernel_rfl) (by kernel_rfl) (fun _ _ _ h => h) (Or.inl ⟨by rfl, ?y12⟩) (by assumption) ?r12
    case y12 => (intro w hSw; (try dsimp only at hSw); go_simp; try (with_reducible rfl))
    simp only [List.getElem_toArray, List.getElem_cons_succ, List.getElem_cons_zero, Act.put, List.setIfInBounds_toArray, List.set_cons_zero, List.set_cons_succ]
    refine wpAnyH_take (i := 12) (v := undef) rfl (by kernel_rfl) (by kernel_rfl) (by kernel_rfl) (fun _ _ _ h => h) (Or.inr ⟨by rfl, rfl⟩) (by assumption) ?_
    simp only [List.getElem_toArray, List.getElem_cons_succ, List.getElem_cons_zero, Act.put, List.setIfInBounds_toArray, List.set_cons_zero, List.set_cons_succ]
    refine wpAnyH_take (i := 13) (v := undef) rfl (by kernel_rfl) (by kernel_rfl) (by kernel_rfl) (fun _ _ _ h => h) (Or.inr ⟨by rfl, rfl⟩) (by assumption) ?_
    simp only [List.getElem_toArray, List.getElem_cons_succ, List.getElem_cons_zero, Act.put, List.setIfInBounds_toArray, List.set_cons_zero, List.set_cons_succ]
    refine wpAnyH_take (i := 14) (v := undef) rfl (by kernel_rfl) (by kernel_rfl) (by kernel_rfl) (fun _ _ _ h => h) (Or.inr ⟨by rfl, rfl⟩) (by assumption) ?_
    simp only [List.getElem_toArray, List.getElem_cons_succ, List.getElem_cons_zero, Act.put, List.setIfInBounds_toArray, List.set_cons_zero, List.set_cons_succ]
    refine wpAnyH_take (i := 15) (v := undef) rfl (by kernel_rfl) (by kernel_rfl) (by kernel_rfl) (fun _ _ _ h => h) (Or.inr ⟨by rfl, rfl⟩) (by assumption) ?_
    simp only [List.getElem_toArray, List.getElem_cons_succ, List.getElem_cons_zero, Act.put, List.setIfInBounds_toArray, List.set_cons_zero, List.set_cons_succ]
    refine wpAnyH_take (i := 16) (v := undef) rfl (by kernel_rfl) (by kernel_rfl) (by kernel_rfl) (fun _ _ _ h => h) (Or.inr ⟨by rfl, rfl⟩) (by assumption) ?_
    simp only [List.getElem_toArray, List.getElem_cons_succ, List.getElem_cons_zero, Act.put, List.setIfInBounds_toArray, List.set_cons_zero, List.set_cons_succ]
    refine wpAnyH_take (i := 17) (v := undef) rfl (by kernel_rfl) (by kernel_rfl) (by kernel_rfl) (fun _ _ _ h => h) (Or.inr ⟨by rfl, rfl⟩) (by assumption) ?_
    simp only [List.getElem_toArray, List.getElem_cons_succ, List.getElem_cons_zero, Act.put, List.setIfInBounds_toArray, List.set_cons_zero, List.set_cons_succ]
    refine wpAnyH_take (i := 18) (v := ?v19) rfl (by kernel_rfl) (by kernel_rfl) (by kernel_rfl) (fun _ _ _ h => h) (Or.inl ⟨by rfl, ?y19⟩) (by assumption) ?r19
    case y19 => (intro w hSw; (try dsimp only at hSw); go_simp; try (with_reducible rfl))
    simp only [List.getElem_toArray, List.getElem_cons_succ, List.getElem_cons_zero, Act.put, List.setIfInBounds_toArray, List.set_cons_zero, List.set_cons_succ]
    refine wpAnyH_done (by kernel_rfl) ?_ _
    have B2 := hide (B1.out.trans (hHeld.2.mono B1.out.size))
    clear hHeld
    go_wp2
    go_ret
    exact ⟨by rw [E.out]; rfl, B2.out⟩
  · have hA : decide ((60 : Int) < (s.size : Int)) = false := decide_eq_false h60
    by_cases hws : (k : Int) < (s.size : Int)
    · have hB : decide ((k : Int) < (s.size : Int)) = true := decide_eq_true hws
      have E : Hid (r = -1) := by
        show r = -1
        rw [HR.out]
        unfold many
        rw [if_neg (fun h => by have := h.2.1; simp only at this; rw [← HK.out] at this; omega)]
      refine wp_region_held_drew (S := fun wx => (wx.cell? ⟨w.heap.size, 0, none⟩ = some (.int .i64 f) ∧ wx.cell? ⟨w.heap.size, 1, none⟩ = some (.string s) ∧ wx.cell? ⟨w.heap.size, 2, none⟩ = some (.slice a n q)) ∧ Below w1.heap.size w1 wx) (by kernel_rfl) ⟨⟨c0, c1, c2⟩, (Below.refl _ _).drew⟩ (fun hHeld => ?_)
      refine wpAnyH_take (i := 0) (v := ?v20) rfl (by kernel_rfl) (by kernel_rfl) (by kernel_rfl) (fun _ _ _ h => h) (Or.inl ⟨by rfl, ?y20⟩) (by assumption) ?r20
      case y20 => (intro w hSw; (try dsimp only at hSw); go_simp; try (with_reducible rfl))
      simp only [List.getElem_toArray, List.getElem_cons_zero, Act.put, List.setIfInBounds_toArray, List.set_cons_zero, List.set_cons_succ]
      refine wpAnyH_take (i := 1) (v := ?v21) rfl (by kernel_rfl) (by kernel_rfl) (by kernel_rfl) (fun _ _ _ h => h) (Or.inl ⟨by rfl, ?y21⟩) (by assumption) ?r21
      case y21 => (intro w hSw; (try dsimp only at hSw); go_simp; try (with_reducible rfl))
      simp only [List.getElem_toArray, List.getElem_cons_succ, List.getElem_cons_zero, Act.put, List.setIfInBounds_toArray, List.set_cons_zero, List.set_cons_succ]
      refine wpAnyH_take (i := 2) (v := ?v22) rfl (by kernel_rfl) (by kernel_rfl) (by kernel_rfl) (fun _ _ _ h => h) (Or.inl ⟨by rfl, ?y22⟩) (by assumption) ?r22
      case y22 => (intro w hSw; (try dsimp only at hSw); go_simp; try (with_reducible rfl))
      simp only [List.getElem_toArray, List.getElem_cons_succ, List.getElem_cons_zero, Act.put, List.setIfInBounds_toArray, List.set_cons_zero, List.set_cons_succ]
      refine wpAnyH_take (i := 3) (v := ?v23) rfl (by kernel_rfl) (by kernel_rfl) (by kernel_rfl) (fun _ _ _ h => h) (Or.inl ⟨by rfl, ?y23⟩) (by assumption) ?r23
      case y23 => (intro w hSw; (try dsimp only at hSw); go_simp; try (with_reducible rfl))
      simp only [List.getElem_toArray, List.getElem_cons_succ, List.getElem_cons_zero, Act.put, List.setIfInBounds_toArray, List.set_cons_zero, List.set_cons_succ]
      try simp only [hA]
      refine wpAnyH_take (i := 4) (v := ?v24) rfl (by kernel_rfl) (by kernel_rfl) (by kernel_rfl) (fun _ _ _ h => h) (Or.inl ⟨by rfl, ?y24⟩) (by assumption) ?r24
      case y24 => (intro w hSw; (try dsimp only at hSw); go_simp; try (with_reducible rfl))
      simp only [List.getElem_toArray, List.getElem_cons_succ, List.getElem_cons_zero, Act.put, List.setIfInBounds_toArray, List.set_cons_zero, List.set_cons_succ]
      refine wpAnyH_take (i := 5) (v := ?v25) rfl (by kernel_rfl) (by kernel_rfl) (by kernel_rfl) (fun _ _ _ h => h) (Or.inl ⟨by rfl, ?y25⟩) (by assumption) ?r25
      case y25 => (intro w hSw; (try dsimp only at hSw); go_simp; try (with_reducible rfl))
      simp only [List.getElem_toArray, List.getElem_cons_succ, List.getElem_cons_zero, Act.put, List.setIfInBounds_toArray, List.set_cons_zero, List.set_cons_succ]
      refine wpAnyH_take (i := 6) (v := ?v26) rfl (by kernel_rfl) (by kernel_rfl) (by kernel_rfl) (fun _ _ _ h => h) (Or.inl ⟨by rfl, ?y26⟩) (by assumption) ?r26
      case y26 => (intro w hSw; (try dsimp only at hSw); go_simp; try (with_reducible rfl))
      simp only [List.getElem_toArray, List.getElem_cons_succ, List.getElem_cons_zero, Act.put, List.setIfInBounds_toArray, List.set_cons_zero, List.set_cons_succ]
      refine wpAnyH_take (i := 7) (v := ?v27) rfl (by kernel_rfl) (by kernel_rfl) (by kernel_rfl) (fun _ _ _ h => h) (Or.inl ⟨by rfl, ?y27⟩) (by assumption) ?r27
      case y27 => (intro w hSw; (try dsimp only at hSw); go_simp; try (with_reducible rfl))
      simp only [List.getElem_toArray, List.getElem_cons_succ, List.getElem_cons_zero, Act.put, List.setIfInBounds_toArray, List.set_cons_zero, List.set_cons_succ]
      refine wpAnyH_take (i := 8) (v := ?v28) rfl (by kernel_rfl) (by kernel_rfl) (by kernel_rfl) (fun _ _ _ h => h) (Or.inl ⟨by rfl, ?y28⟩) (by assumption) ?r28
      case y28 => (intro w hSw; (try dsimp only at hSw); go_simp; try (with_reducible rfl))
      simp only [List.getElem_toArray, List.getElem_cons_succ, List.getElem_cons_zero, Act.put, List.setIfInBounds_toArray, List.set_cons_zero, List.set_cons_succ]
      refine wpAnyH_take (i := 9) (v := ?v29) rfl (by kernel_rfl) (by kernel_rfl) (by kernel_rfl) (fun _ _ _ h => h) (Or.inl ⟨by rfl, ?y29⟩) (by assumption) ?r29
      case y29 => (intro w hSw; (try dsimp only at hSw); go_simp; try (with_reducible rfl))
      simp only [List.getElem_toArray, List.getElem_cons_succ, List.getElem_cons_zero, Act.put, List.setIfInBounds_toArray, List.set_cons_zero, List.set_cons_succ]
      try simp only [hB]
      refine wpAnyH_take (i := 10) (v := ?v30) rfl (by kernel_rfl) (by kernel_rfl) (by kernel_rfl) (fun _ _ _ h => h) (Or.inl ⟨by rfl, ?y30⟩) (by assumption) ?r30
      case y30 => (intro w hSw; (try dsimp only at hSw); go_simp; try (with_reducible rfl))
      simp only [List.getElem_toArray, List.getElem_cons_succ, List.getElem_cons_zero, Act.put, List.setIfInBounds_toArray, List.set_cons_zero, List.set_cons_succ]
      refine wpAnyH_take (i := 11) (v := ?v31) rfl (by kernel_rfl) (by kernel_rfl) (by kernel_rfl) (fun _ _ _ h => h) (Or.inl ⟨by rfl, ?y31⟩) (by assumption) ?r31
      case y31 => (intro w hSw; (try dsimp only at hSw); go_simp; try (with_reducible rfl))
      simp only [List.getElem_toArray, List.getElem_cons_succ, List.getElem_cons_zero, Act.put, List.setIfInBounds_toArray, List.set_cons_zero, List.set_cons_succ]
      refine wpAnyH_take (i := 12) (v := undef) rfl (by kernel_rfl) (by kernel_rfl) (by kernel_rfl) (fun _ _ _ h => h) (Or.inr ⟨by rfl, rfl⟩) (by assumption) ?_
      simp only [List.getElem_toArray, List.getElem_cons_succ, List.getElem_cons_zero, Act.put, List.setIfInBounds_toArray, List.set_cons_zero, List.set_cons_succ]
      refine wpAnyH_take (i := 13) (v := undef) rfl (by kernel_rfl) (by kernel_rfl) (by kernel_rfl) (fun _ _ _ h => h) (Or.inr ⟨by rfl, rfl⟩) (by assumption) ?_
      simp only [List.getElem_toArray, List.getElem_cons_succ, List.getElem_cons_zero, Act.put, List.setIfInBounds_toArray, List.set_cons_zero, List.set_cons_succ]
      refine wpAnyH_take (i := 14) (v := undef) rfl (by kernel_rfl) (by kernel_rfl) (by kernel_rfl) (fun _ _ _ h => h) (Or.inr ⟨by rfl, rfl⟩) (by assumption) ?_
      simp only [List.getElem_toArray, List.getElem_cons_succ, List.getElem_cons_zero, Act.put, List.setIfInBounds_toArray, List.set_cons_zero, List.set_cons_succ]
      refine wpAnyH_take (i := 15) (v := undef) rfl (by kernel_rfl) (by kernel_rfl) (by kernel_rfl) (fun _ _ _ h => h) (Or.inr ⟨by rfl, rfl⟩) (by assumption) ?_
      simp only [List.getElem_toArray, List.getElem_cons_succ, List.getElem_cons_zero, Act.put, List.setIfInBounds_toArray, List.set_cons_zero, List.set_cons_succ]
      refine wpAnyH_take (i := 16) (v := undef) rfl (by kernel_rfl) (by kernel_rfl) (by kernel_rfl) (fun _ _ _ h => h) (Or.inr ⟨by rfl, rfl⟩) (by assumption) ?_
      simp only [List.getElem_toArray, List.getElem_cons_succ, List.getElem_cons_zero, Act.put, List.setIfInBounds_toArray, List.set_cons_zero, List.set_cons_succ]
      refine wpAnyH_take (i := 17) (v := undef) rfl (by kernel_rfl) (by kernel_rfl) (by kernel_rfl) (fun _ _ _ h => h) (Or.inr ⟨by rfl, rfl⟩) (by assumption) ?_
      simp only [List.getElem_toArray, List.getElem_cons_succ, List.getElem_cons_zero, Act.put, List.setIfInBounds_toArray, List.set_cons_zero, List.set_cons_succ]
      refine wpAnyH_take (i := 18) (v := ?v38) rfl (by kernel_rfl) (by kernel_rfl) (by kernel_rfl) (fun _ _ _ h => h) (Or.inl ⟨by rfl, ?y38⟩) (by assumption) ?r38
      case y38 => (intro w hSw; (try dsimp only at hSw); go_simp; try (with_reducible rfl))
      simp only [List.getElem_toArray, List.getElem_cons_succ, List.getElem_cons_zero, Act.put, List.setIfInBounds_toArray, List.set_cons_zero, List.set_cons_succ]
      refine wpAnyH_done (by kernel_rfl) ?_ _
      have B2 := hide (B1.out.trans (hHeld.2.mono B1.out.size))
      clear hHeld
      go_wp2
      go_ret
      exact ⟨by rw [E.out]; rfl, B2.out⟩
    · have hB : decide ((k : Int) < (s.size : Int)) = false := decide_eq_false hws
      obtain ⟨N, hN⟩ : ∃ N, N = (ix s).length := ⟨_, rfl⟩
      have hN2 : N ≤ 1048576 := by
        rw [hN]
        unfold ix
        rw [ixk_len, ← HM.out]
        omega
      obtain ⟨bb, hbb⟩ : ∃ bb : Bool, bb = true ↔ xs = ix s := ⟨decide (xs = ix s), by simp⟩
      have C2 := hide (fun wx (hb : Below w1.heap.size w1 wx) => (l6Index_any s a1 m q1 wx HM.out.symm hmm (HS1.out.below hb)).mono (R' := fun e w2 => ∃ a2 q2, e = .returned (.slice a2 N q2) ∧ w2.ownsRow wx.heap.size 3 1 (.slice a2 N q2) N ((ix s).map (Value.int .i64)) ∧ Below wx.heap.size wx w2) (by
        rintro e w2 ⟨v2, rfl, ho2, hb2⟩
        rw [← hN] at ho2
        obtain ⟨a2, q2, rfl, _, _⟩ := own_form ho2
        exact ⟨a2, q2, rfl, ho2, hb2⟩))
      have C3 := hide (fun a2 c2 wx h1 h2 => l1Same_any a a2 xs (ix s) n N q c2 wx HN.out hN.symm h1 h2 hn2 (by omega) bb hbb)
      have E : Hid (r = if bb then (m : Int) else -1) := by
        show r = _
        rw [HR.out, HM.out]
        unfold many
        cases bb with
        | true =>
          rw [if_pos (show GoodP ⟨f, s, xs⟩ from ⟨by simp only; omega, by simp only; rw [← HK.out]; omega, hbb.1 rfl⟩)]
          rfl
        | false =>
          rw [if_neg (show ¬ GoodP ⟨f, s, xs⟩ from fun h => absurd (hbb.2 h.2.2) (by simp))]
          rfl
      clear hN hbb
      refine wp_region_held_drew (S := fun wx => (wx.cell? ⟨w.heap.size, 0, none⟩ = some (.int .i64 f) ∧ wx.cell? ⟨w.heap.size, 1, none⟩ = some (.string s) ∧ wx.cell? ⟨w.heap.size, 2, none⟩ = some (.slice a n q)) ∧ Below w1.heap.size w1 wx) (by kernel_rfl) ⟨⟨c0, c1, c2⟩, (Below.refl _ _).drew⟩ (fun hHeld => ?_)
      refine wpAnyH_take (i := 0) (v := ?v39) rfl (by kernel_rfl) (by kernel_rfl) (by kernel_rfl) (fun _ _ _ h => h) (Or.inl ⟨by rfl, ?y39⟩) (by assumption) ?r39
      case y39 => (intro w hSw; (try dsimp only at hSw); go_simp; try (with_reducible rfl))
      simp only [List.getElem_toArray, List.getElem_cons_zero, Act.put, List.setIfInBounds_toArray, List.set_cons_zero, List.set_cons_succ]
      refine wpAnyH_take (i := 1) (v := ?v40) rfl (by kernel_rfl) (by kernel_rfl) (by kernel_rfl) (fun _ _ _ h => h) (Or.inl ⟨by rfl, ?y40⟩) (by assumption) ?r40
      case y40 => (intro w hSw; (try dsimp only at hSw); go_simp; try (with_reducible rfl))
      simp only [List.getElem_toArray, List.getElem_cons_succ, List.getElem_cons_zero, Act.put, List.setIfInBounds_toArray, List.set_cons_zero, List.set_cons_succ]
      refine wpAnyH_take (i := 2) (v := ?v41) rfl (by kernel_rfl) (by kernel_rfl) (by kernel_rfl) (fun _ _ _ h => h) (Or.inl ⟨by rfl, ?y41⟩) (by assumption) ?r41
      case y41 => (intro w hSw; (try dsimp only at hSw); go_simp; try (with_reducible rfl))
      simp only [List.getElem_toArray, List.getElem_cons_succ, List.getElem_cons_zero, Act.put, List.setIfInBounds_toArray, List.set_cons_zero, List.set_cons_succ]
      refine wpAnyH_take (i := 3) (v := ?v42) rfl (by kernel_rfl) (by kernel_rfl) (by kernel_rfl) (fun _ _ _ h => h) (Or.inl ⟨by rfl, ?y42⟩) (by assumption) ?r42
      case y42 => (intro w hSw; (try dsimp only at hSw); go_simp; try (with_reducible rfl))
      simp only [List.getElem_toArray, List.getElem_cons_succ, List.getElem_cons_zero, Act.put, List.setIfInBounds_toArray, List.set_cons_zero, List.set_cons_succ]
      try simp only [hA]
      refine wpAnyH_take (i := 4) (v := ?v43) rfl (by kernel_rfl) (by kernel_rfl) (by kernel_rfl) (fun _ _ _ h => h) (Or.inl ⟨by rfl, ?y43⟩) (by assumption) ?r43
      case y43 => (intro w hSw; (try dsimp only at hSw); go_simp; try (with_reducible rfl))
      simp only [List.getElem_toArray, List.getElem_cons_succ, List.getElem_cons_zero, Act.put, List.setIfInBounds_toArray, List.set_cons_zero, List.set_cons_succ]
      refine wpAnyH_take (i := 5) (v := ?v44) rfl (by kernel_rfl) (by kernel_rfl) (by kernel_rfl) (fun _ _ _ h => h) (Or.inl ⟨by rfl, ?y44⟩) (by assumption) ?r44
      case y44 => (intro w hSw; (try dsimp only at hSw); go_simp; try (with_reducible rfl))
      simp only [List.getElem_toArray, List.getElem_cons_succ, List.getElem_cons_zero, Act.put, List.setIfInBounds_toArray, List.set_cons_zero, List.set_cons_succ]
      refine wpAnyH_take (i := 6) (v := ?v45) rfl (by kernel_rfl) (by kernel_rfl) (by kernel_rfl) (fun _ _ _ h => h) (Or.inl ⟨by rfl, ?y45⟩) (by assumption) ?r45
      case y45 => (intro w hSw; (try dsimp only at hSw); go_simp; try (with_reducible rfl))
      simp only [List.getElem_toArray, List.getElem_cons_succ, List.getElem_cons_zero, Act.put, List.setIfInBounds_toArray, List.set_cons_zero, List.set_cons_succ]
      refine wpAnyH_take (i := 7) (v := ?v46) rfl (by kernel_rfl) (by kernel_rfl) (by kernel_rfl) (fun _ _ _ h => h) (Or.inl ⟨by rfl, ?y46⟩) (by assumption) ?r46
      case y46 => (intro w hSw; (try dsimp only at hSw); go_simp; try (with_reducible rfl))
      simp only [List.getElem_toArray, List.getElem_cons_succ, List.getElem_cons_zero, Act.put, List.setIfInBounds_toArray, List.set_cons_zero, List.set_cons_succ]
      refine wpAnyH_take (i := 8) (v := ?v47) rfl (by kernel_rfl) (by kernel_rfl) (by kernel_rfl) (fun _ _ _ h => h) (Or.inl ⟨by rfl, ?y47⟩) (by assumption) ?r47
      case y47 => (intro w hSw; (try dsimp only at hSw); go_simp; try (with_reducible rfl))
      simp only [List.getElem_toArray, List.getElem_cons_succ, List.getElem_cons_zero, Act.put, List.setIfInBounds_toArray, List.set_cons_zero, List.set_cons_succ]
      refine wpAnyH_take (i := 9) (v := ?v48) rfl (by kernel_rfl) (by kernel_rfl) (by kernel_rfl) (fun _ _ _ h => h) (Or.inl ⟨by rfl, ?y48⟩) (by assumption) ?r48
      case y48 => (intro w hSw; (try dsimp only at hSw); go_simp; try (with_reducible rfl))
      simp only [List.getElem_toArray, List.getElem_cons_succ, List.getElem_cons_zero, Act.put, List.setIfInBounds_toArray, List.set_cons_zero, List.set_cons_succ]
      try simp only [hB]
      refine wpAnyH_take (i := 10) (v := ?v49) rfl (by kernel_rfl) (by kernel_rfl) (by kernel_rfl) (fun _ _ _ h => h) (Or.inl ⟨by rfl, ?y49⟩) (by assumption) ?r49
      case y49 => (intro w hSw; (try dsimp only at hSw); go_simp; try (with_reducible rfl))
      simp only [List.getElem_toArray, List.getElem_cons_succ, List.getElem_cons_zero, Act.put, List.setIfInBounds_toArray, List.set_cons_zero, List.set_cons_succ]
      refine wpAnyH_take (i := 11) (v := ?v50) rfl (by kernel_rfl) (by kernel_rfl) (by kernel_rfl) (fun _ _ _ h => h) (Or.inl ⟨by rfl, ?y50⟩) (by assumption) ?r50
      case y50 => (intro w hSw; (try dsimp only at hSw); go_simp; try (with_reducible rfl))
      simp only [List.getElem_toArray, List.getElem_cons_succ, List.getElem_cons_zero, Act.put, List.setIfInBounds_toArray, List.set_cons_zero, List.set_cons_succ]
      refine wpAnyH_take (i := 12) (v := ?v51) rfl (by kernel_rfl) (by kernel_rfl) (by kernel_rfl) (fun _ _ _ h => h) (Or.inl ⟨by rfl, ?y51⟩) (by assumption) ?r51
      case y51 => (intro w hSw; (try dsimp only at hSw); go_simp; try (with_reducible rfl))
      simp only [List.getElem_toArray, List.getElem_cons_succ, List.getElem_cons_zero, Act.put, List.setIfInBounds_toArray, List.set_cons_zero, List.set_cons_succ]
      refine wpAnyH_take (i := 13) (v := ?v52) rfl (by kernel_rfl) (by kernel_rfl) (by kernel_rfl) (fun _ _ _ h => h) (Or.inl ⟨by rfl, ?y52⟩) (by assumption) ?r52
      case y52 => (intro w hSw; (try dsimp only at hSw); go_simp; try (with_reducible rfl))
      simp only [List.getElem_toArray, List.getElem_cons_succ, List.getElem_cons_zero, Act.put, List.setIfInBounds_toArray, List.set_cons_zero, List.set_cons_succ]
      refine wpAnyH_take (i := 14) (v := ?v53) rfl (by kernel_rfl) (by kernel_rfl) (by kernel_rfl) (fun _ _ _ h => h) (Or.inl ⟨by rfl, ?y53⟩) (by assumption) ?r53
      case y53 => (intro w hSw; (try dsimp only at hSw); go_simp; try (with_reducible rfl))
      simp only [List.getElem_toArray, List.getElem_cons_succ, List.getElem_cons_zero, Act.put, List.setIfInBounds_toArray, List.set_cons_zero, List.set_cons_succ]
      refine wpAnyH_ready (rs := [15]) (by kernel_rfl) (by simp) ?_
      refine AllReadyH.cons rfl (fun K hK => ?_) AllReadyH.nil
      simp only [List.getElem_toArray, List.getElem_cons_succ, List.getElem_cons_zero]
      go_simp
      go_at_call 58
      refine (C2.out _ (hHeld.2)).mono ?_
      rintro e w2 ⟨a2, q2, rfl, ho2, hb2⟩
      have HO2 := hide ho2
      clear ho2
      dsimp only
      refine hK.out _ _ ?_ (fun hHeld => ?_)
      · exact keep3 hHeld hb2 (Nat.le_refl _)
      clear hK K
      try simp only [Act.put, List.setIfInBounds_toArray, List.set_cons_zero, List.set_cons_succ]
      refine wpAnyH_ready (rs := [16]) (by kernel_rfl) (by simp) ?_
      refine AllReadyH.cons rfl (fun K hK => ?_) AllReadyH.nil
      simp only [List.getElem_toArray, List.getElem_cons_succ, List.getElem_cons_zero]
      go_simp
      go_at_call 60
      refine (C3.out _ _ _ (HA.out.below (B1.out.trans (hHeld.2.mono B1.out.size))) (own_slI6 HO2.out)).mono ?_
      rintro e w3 ⟨rfl, hb3⟩
      dsimp only
      refine hK.out _ _ ?_ (fun hHeld => ?_)
      · exact keep3 (by assumption) hb3 (Nat.le_refl _)
      clear hK K
      try simp only [Act.put, List.setIfInBounds_toArray, List.set_cons_zero, List.set_cons_succ]
      refine wpAnyH_take (i := 17) (v := ?v54) rfl (by kernel_rfl) (by kernel_rfl) (by kernel_rfl) (fun _ _ _ h => h) (Or.inl ⟨by rfl, ?y54⟩) (by assumption) ?r54
      case y54 => (intro w hSw; (try dsimp only at hSw); go_simp; try (with_reducible rfl))
      simp only [List.getElem_toArray, List.getElem_cons_succ, List.getElem_cons_zero, Act.put, List.setIfInBounds_toArray, List.set_cons_zero, List.set_cons_succ]
      refine wpAnyH_take (i := 18) (v := ?v55) rfl (by kernel_rfl) (by kernel_rfl) (by kernel_rfl) (fun _ _ _ h => h) (Or.inl ⟨by rfl, ?y55⟩) (by assumption) ?r55
      case y55 => (intro w hSw; (try dsimp only at hSw); go_simp; try (with_reducible rfl))
      simp only [List.getElem_toArray, List.getElem_cons_succ, List.getElem_cons_zero, Act.put, List.setIfInBounds_toArray, List.set_cons_zero, List.set_cons_succ]
      refine wpAnyH_done (by kernel_rfl) ?_ _
      have B2 := hide (B1.out.trans (hHeld.2.mono B1.out.size))
      clear hHeld
      cases bb with
      | true =>
        go_wp2
        go_ret
        exact ⟨by rw [E.out]; rfl, B2.out⟩
      | false =>
        go_wp2
        go_ret
        exact ⟨by rw [E.out]; rfl, B2.out⟩
end Go.Proofs.YtapffbbmofhpobaDoor.L6

namespace Go.Proofs.YtapffbbmofhpobaDoor.L6
open Go.RowKit L1
set_option linter.unusedVariables false

/-- Texts and lists are no longer than a law lets them be. -/
def SzC (l : List Pc) : Prop := ∀ j, j < l.length → (gc l j).s.size ≤ 1048576 ∧ (gc l j).x.length ≤ 1048576
theorem SzC.tx {l : List Pc} (h : SzC l) : TxC l := fun j hj => ⟨Nat.le_trans (h j hj).1 (by omega), Nat.le_trans (h j hj).2 (by omega)⟩
theorem bool_no6 {bb : Bool} {P : Prop} (h : bb = true ↔ P) (hn : ¬ P) : bb = false := by
  cases bb with
  | false => rfl
  | true => exact absurd (h.1 rfl) hn
theorem blk2s {w : World} {g : Nat} {a b : Value} {t : TypeId} (h : w.heap[g]? = some (.cells #[a, b] t (0, 0))) :
    w.cell? ⟨g, 0, none⟩ = some a ∧ w.cell? ⟨g, 1, none⟩ = some b := by
  simp [World.cell?, h]

open Classical in
set_option maxRecDepth 100000 in
set_option maxHeartbeats 4000000 in
theorem specGoodLog_any (a : Option Addr) (L : List Pc) (n cap : Nat) (B : Int) (w : World) (hn : L.length = n) (hm : n ≤ 9223372036854775807) (hs : SlC w a L) (hsz : SzC L) (bb : Bool) (hbb : bb = true ↔ GoodG L B) :
    Calls Tryd.prog 24 #[.agg #[.slice a n cap, .int .i64 B]] w fun e w' => e = .returned (.bool bb) ∧ Below w.heap.size w w' := by
  by_cases h1 : 1 ≤ (n : Int) ∧ (n : Int) ≤ 20
  · have CL := hide (fun w => l1In_any (n : Int) 1 20 w true (by simp; omega))
    have hn1 : 1 ≤ n := by omega
    have hn0 : 0 < n := by omega
    have hn20 : n ≤ 20 := by omega
    obtain ⟨b, off, rfl, a0, c0, hat0⟩ := hs 0 (by rw [hn]; omega)
    have hk0 := hat0.f
    rw [Nat.zero_mul, Nat.add_zero] at hk0
    rw [show L.getD 0 eC = gc L 0 from rfl] at hk0
    obtain ⟨f0, hf0⟩ : ∃ f0, f0 = (gc L 0).f := ⟨_, rfl⟩
    rw [← hf0] at hk0
    have e1 : ∀ ob, (w.alloc ob).cell? ⟨b, off, none⟩ = some (.int .i64 f0) := fun ob => Go.Lib.cell?_alloc_some ob hk0
    have HF0 := hide hf0
    have HS := hide hs
    have HN := hide hn
    have HSZ := hide hsz
    have HBB := hide hbb
    clear hs hn hsz hbb hat0 hf0 h1
    by_cases hf : 0 ≤ f0 ∧ f0 ≤ 100000
    · have CF := hide (fun w => l1In_any f0 0 100000 w true (by simp; omega))
      have E : Hid (GoodPs L → ((gc L 0).f ≤ B ∧ B ≤ (gc L 0).f + (cnt (gc L 0).s : Int)) → (GoodG L B ↔ atg L n - f0 ≤ 60)) := fun hp hB => by
        constructor
        · intro h
          have := h.few
          rw [HN.out, ← HF0.out] at this
          exact this
        · intro h
          exact ⟨by rw [HN.out]; omega, by rw [HN.out]; omega, by rw [← HF0.out]; omega, by rw [← HF0.out]; omega, hp, hB.1, hB.2, by rw [HN.out, ← HF0.out]; exact h⟩
      go_enter Tryd.func24, Tryd.ntmps24
      go_wp2_with fail
      refine (CL.out _).mono ?_
      rintro e w1 ⟨rfl, rfl⟩
      go_wp2_with fail
      refine (CF.out _).mono ?_
      rintro e w1 ⟨rfl, rfl⟩
      go_wp2
      go_loopw [3, 29] (fun t i wr => ∃ k : Nat, k ≤ n ∧ i = .int .i64 k ∧ t = .int .i64 (atg L k) ∧ Hid (∀ j, j < k → OkC L j) ∧ Hid (0 < k → (gc L 0).f ≤ B ∧ B ≤ (gc L 0).f + (cnt (gc L 0).s : Int)) ∧ Below w.heap.size w wr ∧ wr.cell? ⟨w.heap.size, 0, none⟩ = some (.slice (some ⟨b, off, none⟩) n cap) ∧ wr.cell? ⟨w.heap.size, 1, none⟩ = some (.int .i64 B)) (fun _ i _ => n - (intOf i).toNat)
      case atStart =>
        obtain ⟨q0, q1⟩ := blk2s (blk_new w (.cells #[.slice (some ⟨b, off, none⟩) n cap, .int .i64 B] 28 (0, 0)))
        exact ⟨0, Nat.zero_le _, rfl, by rw [HF0.out]; rfl, fun j hj => absurd hj (Nat.not_lt_zero _), fun h => absurd h (Nat.lt_irrefl _), (Below.refl _ _).alloc (Nat.le_refl _) _, q0, q1⟩
      case round =>
        obtain ⟨k, hk, rfl, rfl, HK, HB0, hbel, g0, g1⟩ := hrel
        by_cases hlt : k < n
        · obtain ⟨b', off', hab, ai, ci, hat⟩ := HS.out.below hbel k (by rw [HN.out]; exact hlt)
          cases hab
          have hltI : (k : Int) < (n : Int) := by omega
          have hsx := HSZ.out k (by rw [HN.out]; exact hlt)
          have hgb := atg_bd L k (fun j hj => (HK.out j hj).1)
          have hok : GoodG L B → OkC L k := fun h => h.ps k (by rw [HN.out]; exact hlt)
          have hnext : atg L (k + 1) = atg L k + (cnt (gc L k).s : Int) := rfl
          have hstep : OkC L k → ∀ j, j < k + 1 → OkC L j := fun h j hj => by
            by_cases e : j = k
            · subst e; exact h
            · exact HK.out j (by omega)
          have hOk : OkC L k ↔ GoodP (gc L k) ∧ (gc L k).f = atg L k ∧ (k + 1 < n → cnt (gc L k).s ≠ 0) := by unfold OkC; rw [HN.out]
          have h0e : k = 0 → gc L 0 = gc L k := fun e => by rw [e]
          have hd1 := hat.f
          have hd2 := hat.s
          have hd3 := hat.x
          have hd4 := hat.l
          obtain ⟨p, hp⟩ : ∃ p, p = gc L k := ⟨_, rfl⟩
          rw [show L.getD k eC = p from hp.symm] at hd1 hd2 hd3 hd4
          rw [← hp] at hnext hOk hsx h0e
          obtain ⟨f, s, x⟩ := p
          simp only at hd1 hd2 hd3 hd4 hsx hnext hOk
          obtain ⟨m, hm⟩ : ∃ m, m = x.length := ⟨_, rfl⟩
          rw [← hm] at hd3 hsx
          obtain ⟨t, htt⟩ : ∃ t, t = atg L k := ⟨_, rfl⟩
          rw [← htt] at hnext hOk hgb ⊢
          have hgb2 : 0 ≤ t ∧ t ≤ 101200 := by rw [← HF0.out] at hgb; omega
          obtain ⟨N, hN⟩ : ∃ N, N = many ⟨f, s, x⟩ := ⟨_, rfl⟩
          have C1 := hide (fun w ha => l6Many_any f s ai x m ci w hm.symm ha (by omega) hsx.1 N hN)
          have HD4 := hide hd4
          have HNX := hide hnext
          have HST2 := hide hstep
          have HOK := hide hOk
          have HOK0 := hide hok
          have H0E := hide h0e
          have B0 := hide hbel
          have HNN := hide hN
          clear hat hp hm htt hgb hnext hstep hOk hok hd4 hbel hsx h0e hN
          by_cases hgp : GoodP ⟨f, s, x⟩
          · have hNc : N = (cnt s : Int) := by rw [HNN.out]; unfold many; rw [if_pos hgp]
            have hc60 := good_cnt hgp
            simp only at hc60
            obtain ⟨c, hc⟩ : ∃ c, c = cnt s := ⟨_, rfl⟩
            rw [← hc] at hNc hc60 HNX HOK
            have hN0 : ¬ N < 0 := by omega
            have HC := hide hc
            subst hNc
            clear hc
            by_cases hft : f = t
            · subst hft
              by_cases hem : (c : Int) = 0 ∧ (k : Int) < (n : Int) - 1
              · obtain ⟨hem1, hem2⟩ := hem
                obtain rfl := bool_no6 HBB.out (fun h => (HOK.out.1 (HOK0.out h)).2.2 (by omega) (by omega))
                have hc0 : c = 0 := by omega
                subst hc0
                go_wp2_with fail
                refine (C1.out _ (HD4.out.below ((Below.refl _ _).alloc (Nat.le_refl _) _))).mono ?_
                rintro e w1 ⟨rfl, hb1⟩
                have B1 := hide ((B0.out.alloc B0.out.size (.cells #[.int .i64 f, .string s, .slice ai m ci] 37 (0, 0))).trans (hb1.mono (by have := B0.out.size; simp; omega)))
                have G1 : w1.heap[wr.heap.size]? = some (.cells #[.int .i64 f, .string s, .slice ai m ci] 37 (0, 0)) := (hb1.block wr.heap.size (by simp)).trans (blk_new _ _)
                obtain ⟨c0, c1, c2, _, _, _⟩ := blk3 G1
                have k0 := (hb1.cell (p := ⟨w.heap.size, 0, none⟩) (by have := blk_lt g0; simp; omega)).trans (Go.Lib.cell?_alloc_some (.cells #[.int .i64 f, .string s, .slice ai m ci] 37 (0, 0)) g0)
                have k1 := (hb1.cell (p := ⟨w.heap.size, 1, none⟩) (by have := blk_lt g1; simp; omega)).trans (Go.Lib.cell?_alloc_some (.cells #[.int .i64 f, .string s, .slice ai m ci] 37 (0, 0)) g1)
                clear hb1 G1
                go_wp2
                go_ret
                exact ⟨rfl, B1.out⟩
              · have hokk := HOK.out.2 ⟨hgp, rfl, fun h e0 => hem ⟨by omega, by omega⟩⟩
                have HALL := hide (HST2.out hokk)
                clear hokk
                by_cases hk0 : k = 0
                · subst hk0
                  rw [Nat.zero_mul, Nat.add_zero] at hd1 hd2 hd3
                  have hA1 : (gc L 0) = ⟨f, s, x⟩ := H0E.out rfl
                  obtain ⟨bi, hbi⟩ : ∃ bi : Bool, bi = true ↔ f ≤ B ∧ B ≤ f + (c : Int) := ⟨decide (f ≤ B ∧ B ≤ f + (c : Int)), by simp⟩
                  have CI := hide (fun w => l1In_any B f (f + (c : Int)) w bi hbi)
                  have HBI : Hid (bi = true ↔ (gc L 0).f ≤ B ∧ B ≤ (gc L 0).f + (cnt (gc L 0).s : Int)) := by show _ ↔ _; rw [hbi, hA1, HC.out]
                  clear hA1 hbi
                  by_cases hem1 : (c : Int) = 0
                  · have hem2 : ¬ (0 : Int) < (n : Int) - 1 := fun h => hem ⟨hem1, by omega⟩
                    have hc0 : c = 0 := by omega
                    subst hc0
                    rw [show ((0 : Nat) : Int) = 0 from rfl, Int.add_zero] at CI HNX
                    clear hem
                    cases bi with
                    | true =>
                      go_wp2_with fail
                      refine (C1.out _ (HD4.out.below ((Below.refl _ _).alloc (Nat.le_refl _) _))).mono ?_
                      rintro e w1 ⟨rfl, hb1⟩
                      have B1 := hide ((B0.out.alloc B0.out.size (.cells #[.int .i64 f, .string s, .slice ai m ci] 37 (0, 0))).trans (hb1.mono (by have := B0.out.size; simp; omega)))
                      have G1 : w1.heap[wr.heap.size]? = some (.cells #[.int .i64 f, .string s, .slice ai m ci] 37 (0, 0)) := (hb1.block wr.heap.size (by simp)).trans (blk_new _ _)
                      obtain ⟨c0, c1, c2, _, _, _⟩ := blk3 G1
                      have k0 := (hb1.cell (p := ⟨w.heap.size, 0, none⟩) (by have := blk_lt g0; simp; omega)).trans (Go.Lib.cell?_alloc_some (.cells #[.int .i64 f, .string s, .slice ai m ci] 37 (0, 0)) g0)
                      have k1 := (hb1.cell (p := ⟨w.heap.size, 1, none⟩) (by have := blk_lt g1; simp; omega)).trans (Go.Lib.cell?_alloc_some (.cells #[.int .i64 f, .string s, .slice ai m ci] 37 (0, 0)) g1)
                      clear hb1 G1
                      go_wp2_with fail
                      refine (CI.out _).mono ?_
                      rintro e w2 ⟨rfl, rfl⟩
                      go_wp2
                      go_roundw
                      case rel => exact ⟨0 + 1, by omega, by go_num, by rw [HNX.out], HALL.out, fun _ => HBI.out.mp (by first | trivial | rfl), B1.out, k0, k1⟩
                      case measure => simp [intOf]; omega
                    | false =>
                      obtain rfl := bool_no6 HBB.out (fun h => absurd (HBI.out.2 ⟨h.b0, h.b1⟩) (by simp))
                      go_wp2_with fail
                      refine (C1.out _ (HD4.out.below ((Below.refl _ _).alloc (Nat.le_refl _) _))).mono ?_
                      rintro e w1 ⟨rfl, hb1⟩
                      have B1 := hide ((B0.out.alloc B0.out.size (.cells #[.int .i64 f, .string s, .slice ai m ci] 37 (0, 0))).trans (hb1.mono (by have := B0.out.size; simp; omega)))
                      have G1 : w1.heap[wr.heap.size]? = some (.cells #[.int .i64 f, .string s, .slice ai m ci] 37 (0, 0)) := (hb1.block wr.heap.size (by simp)).trans (blk_new _ _)
                      obtain ⟨c0, c1, c2, _, _, _⟩ := blk3 G1
                      have k0 := (hb1.cell (p := ⟨w.heap.size, 0, none⟩) (by have := blk_lt g0; simp; omega)).trans (Go.Lib.cell?_alloc_some (.cells #[.int .i64 f, .string s, .slice ai m ci] 37 (0, 0)) g0)
                      have k1 := (hb1.cell (p := ⟨w.heap.size, 1, none⟩) (by have := blk_lt g1; simp; omega)).trans (Go.Lib.cell?_alloc_some (.cells #[.int .i64 f, .string s, .slice ai m ci] 37 (0, 0)) g1)
                      clear hb1 G1
                      go_wp2_with fail
                      refine (CI.out _).mono ?_
                      rintro e w2 ⟨rfl, rfl⟩
                      go_wp2
                      go_ret
                      exact ⟨rfl, B1.out⟩
                  · clear hem
                    have hc1 : ¬ c = 0 := by omega
                    cases bi with
                    | true =>
                      go_wp2_with fail
                      refine (C1.out _ (HD4.out.below ((Below.refl _ _).alloc (Nat.le_refl _) _))).mono ?_
                      rintro e w1 ⟨rfl, hb1⟩
                      have B1 := hide ((B0.out.alloc B0.out.size (.cells #[.int .i64 f, .string s, .slice ai m ci] 37 (0, 0))).trans (hb1.mono (by have := B0.out.size; simp; omega)))
                      have G1 : w1.heap[wr.heap.size]? = some (.cells #[.int .i64 f, .string s, .slice ai m ci] 37 (0, 0)) := (hb1.block wr.heap.size (by simp)).trans (blk_new _ _)
                      obtain ⟨c0, c1, c2, _, _, _⟩ := blk3 G1
                      have k0 := (hb1.cell (p := ⟨w.heap.size, 0, none⟩) (by have := blk_lt g0; simp; omega)).trans (Go.Lib.cell?_alloc_some (.cells #[.int .i64 f, .string s, .slice ai m ci] 37 (0, 0)) g0)
                      have k1 := (hb1.cell (p := ⟨w.heap.size, 1, none⟩) (by have := blk_lt g1; simp; omega)).trans (Go.Lib.cell?_alloc_some (.cells #[.int .i64 f, .string s, .slice ai m ci] 37 (0, 0)) g1)
                      clear hb1 G1
                      go_wp2_with fail
                      refine (CI.out _).mono ?_
                      rintro e w2 ⟨rfl, rfl⟩
                      go_wp2
                      go_roundw
                      case rel => exact ⟨0 + 1, by omega, by go_num, by rw [HNX.out], HALL.out, fun _ => HBI.out.mp (by first | trivial | rfl), B1.out, k0, k1⟩
                      case measure => simp [intOf]; omega
                    | false =>
                      obtain rfl := bool_no6 HBB.out (fun h => absurd (HBI.out.2 ⟨h.b0, h.b1⟩) (by simp))
                      go_wp2_with fail
                      refine (C1.out _ (HD4.out.below ((Below.refl _ _).alloc (Nat.le_refl _) _))).mono ?_
                      rintro e w1 ⟨rfl, hb1⟩
                      have B1 := hide ((B0.out.alloc B0.out.size (.cells #[.int .i64 f, .string s, .slice ai m ci] 37 (0, 0))).trans (hb1.mono (by have := B0.out.size; simp; omega)))
                      have G1 : w1.heap[wr.heap.size]? = some (.cells #[.int .i64 f, .string s, .slice ai m ci] 37 (0, 0)) := (hb1.block wr.heap.size (by simp)).trans (blk_new _ _)
                      obtain ⟨c0, c1, c2, _, _, _⟩ := blk3 G1
                      have k0 := (hb1.cell (p := ⟨w.heap.size, 0, none⟩) (by have := blk_lt g0; simp; omega)).trans (Go.Lib.cell?_alloc_some (.cells #[.int .i64 f, .string s, .slice ai m ci] 37 (0, 0)) g0)
                      have k1 := (hb1.cell (p := ⟨w.heap.size, 1, none⟩) (by have := blk_lt g1; simp; omega)).trans (Go.Lib.cell?_alloc_some (.cells #[.int .i64 f, .string s, .slice ai m ci] 37 (0, 0)) g1)
                      clear hb1 G1
                      go_wp2_with fail
                      refine (CI.out _).mono ?_
                      rintro e w2 ⟨rfl, rfl⟩
                      go_wp2
                      go_ret
                      exact ⟨rfl, B1.out⟩
                · have hkI : ¬ (k : Int) = 0 := by omega
                  by_cases hem1 : (c : Int) = 0
                  · have hem2 : ¬ (k : Int) < (n : Int) - 1 := fun h => hem ⟨hem1, h⟩
                    have hc0 : c = 0 := by omega
                    subst hc0
                    rw [show ((0 : Nat) : Int) = 0 from rfl, Int.add_zero] at HNX
                    clear hem
                    go_wp2_with fail
                    refine (C1.out _ (HD4.out.below ((Below.refl _ _).alloc (Nat.le_refl _) _))).mono ?_
                    rintro e w1 ⟨rfl, hb1⟩
                    have B1 := hide ((B0.out.alloc B0.out.size (.cells #[.int .i64 f, .string s, .slice ai m ci] 37 (0, 0))).trans (hb1.mono (by have := B0.out.size; simp; omega)))
                    have G1 : w1.heap[wr.heap.size]? = some (.cells #[.int .i64 f, .string s, .slice ai m ci] 37 (0, 0)) := (hb1.block wr.heap.size (by simp)).trans (blk_new _ _)
                    obtain ⟨c0, c1, c2, _, _, _⟩ := blk3 G1
                    have k0 := (hb1.cell (p := ⟨w.heap.size, 0, none⟩) (by have := blk_lt g0; simp; omega)).trans (Go.Lib.cell?_alloc_some (.cells #[.int .i64 f, .string s, .slice ai m ci] 37 (0, 0)) g0)
                    have k1 := (hb1.cell (p := ⟨w.heap.size, 1, none⟩) (by have := blk_lt g1; simp; omega)).trans (Go.Lib.cell?_alloc_some (.cells #[.int .i64 f, .string s, .slice ai m ci] 37 (0, 0)) g1)
                    clear hb1 G1
                    go_wp2
                    go_roundw
                    case rel => exact ⟨k + 1, by omega, by go_num, by rw [HNX.out], HALL.out, fun _ => HB0.out (by omega), B1.out, k0, k1⟩
                    case measure => simp [intOf]; omega
                  · clear hem
                    have hc1 : ¬ c = 0 := by omega
                    go_wp2_with fail
                    refine (C1.out _ (HD4.out.below ((Below.refl _ _).alloc (Nat.le_refl _) _))).mono ?_
                    rintro e w1 ⟨rfl, hb1⟩
                    have B1 := hide ((B0.out.alloc B0.out.size (.cells #[.int .i64 f, .string s, .slice ai m ci] 37 (0, 0))).trans (hb1.mono (by have := B0.out.size; simp; omega)))
                    have G1 : w1.heap[wr.heap.size]? = some (.cells #[.int .i64 f, .string s, .slice ai m ci] 37 (0, 0)) := (hb1.block wr.heap.size (by simp)).trans (blk_new _ _)
                    obtain ⟨c0, c1, c2, _, _, _⟩ := blk3 G1
                    have k0 := (hb1.cell (p := ⟨w.heap.size, 0, none⟩) (by have := blk_lt g0; simp; omega)).trans (Go.Lib.cell?_alloc_some (.cells #[.int .i64 f, .string s, .slice ai m ci] 37 (0, 0)) g0)
                    have k1 := (hb1.cell (p := ⟨w.heap.size, 1, none⟩) (by have := blk_lt g1; simp; omega)).trans (Go.Lib.cell?_alloc_some (.cells #[.int .i64 f, .string s, .slice ai m ci] 37 (0, 0)) g1)
                    clear hb1 G1
                    go_wp2
                    go_roundw
                    case rel => exact ⟨k + 1, by omega, by go_num, by rw [HNX.out], HALL.out, fun _ => HB0.out (by omega), B1.out, k0, k1⟩
                    case measure => simp [intOf]; omega
            · obtain rfl := bool_no6 HBB.out (fun h => hft (HOK.out.1 (HOK0.out h)).2.1)
              go_wp2_with fail
              refine (C1.out _ (HD4.out.below ((Below.refl _ _).alloc (Nat.le_refl _) _))).mono ?_
              rintro e w1 ⟨rfl, hb1⟩
              have B1 := hide ((B0.out.alloc B0.out.size (.cells #[.int .i64 f, .string s, .slice ai m ci] 37 (0, 0))).trans (hb1.mono (by have := B0.out.size; simp; omega)))
              have G1 : w1.heap[wr.heap.size]? = some (.cells #[.int .i64 f, .string s, .slice ai m ci] 37 (0, 0)) := (hb1.block wr.heap.size (by simp)).trans (blk_new _ _)
              obtain ⟨c0, c1, c2, _, _, _⟩ := blk3 G1
              have k0 := (hb1.cell (p := ⟨w.heap.size, 0, none⟩) (by have := blk_lt g0; simp; omega)).trans (Go.Lib.cell?_alloc_some (.cells #[.int .i64 f, .string s, .slice ai m ci] 37 (0, 0)) g0)
              have k1 := (hb1.cell (p := ⟨w.heap.size, 1, none⟩) (by have := blk_lt g1; simp; omega)).trans (Go.Lib.cell?_alloc_some (.cells #[.int .i64 f, .string s, .slice ai m ci] 37 (0, 0)) g1)
              clear hb1 G1
              go_wp2
              go_ret
              exact ⟨rfl, B1.out⟩
          · obtain rfl := bool_no6 HBB.out (fun h => hgp (HOK.out.1 (HOK0.out h)).1)
            have hNc : N = -1 := by rw [HNN.out]; unfold many; rw [if_neg hgp]
            subst hNc
            go_wp2_with fail
            refine (C1.out _ (HD4.out.below ((Below.refl _ _).alloc (Nat.le_refl _) _))).mono ?_
            rintro e w1 ⟨rfl, hb1⟩
            have B1 := hide ((B0.out.alloc B0.out.size (.cells #[.int .i64 f, .string s, .slice ai m ci] 37 (0, 0))).trans (hb1.mono (by have := B0.out.size; simp; omega)))
            have G1 : w1.heap[wr.heap.size]? = some (.cells #[.int .i64 f, .string s, .slice ai m ci] 37 (0, 0)) := (hb1.block wr.heap.size (by simp)).trans (blk_new _ _)
            obtain ⟨c0, c1, c2, _, _, _⟩ := blk3 G1
            have k0 := (hb1.cell (p := ⟨w.heap.size, 0, none⟩) (by have := blk_lt g0; simp; omega)).trans (Go.Lib.cell?_alloc_some (.cells #[.int .i64 f, .string s, .slice ai m ci] 37 (0, 0)) g0)
            have k1 := (hb1.cell (p := ⟨w.heap.size, 1, none⟩) (by have := blk_lt g1; simp; omega)).trans (Go.Lib.cell?_alloc_some (.cells #[.int .i64 f, .string s, .slice ai m ci] 37 (0, 0)) g1)
            clear hb1 G1
            go_wp2
            go_ret
            exact ⟨rfl, B1.out⟩
        · obtain rfl : k = n := by omega
          have hltI : ¬ (k : Int) < (k : Int) := by omega
          have hps : GoodPs L := fun i hi => HK.out i (by rw [← HN.out]; exact hi)
          have hE := E.out hps (HB0.out hn0)
          have hgb := atg_bd L k (fun j hj => (HK.out j hj).1)
          rw [← HF0.out] at hgb
          obtain ⟨t, htt⟩ : ∃ t, t = atg L k := ⟨_, rfl⟩
          rw [← htt] at hE hgb ⊢
          have e2 := (hbel.cell (p := ⟨b, off, none⟩) (blk_lt hk0)).trans hk0
          have hE2 : bb = decide (t - f0 ≤ 60) := by
            have h1 := HBB.out
            rw [hE] at h1
            cases bb with
            | true => exact (decide_eq_true (h1.1 rfl)).symm
            | false =>
              refine (decide_eq_false (fun h => ?_)).symm
              exact absurd (h1.2 h) (by simp)
          subst hE2
          have HBEL := hide hbel
          clear hbel hps hE htt
          go_wp2
          go_ret
          exact ⟨rfl, HBEL.out⟩
    · have CF := hide (fun w => l1In_any f0 0 100000 w false (by simp; omega))
      obtain rfl := bool_no6 HBB.out (fun h => hf (by rw [HF0.out]; exact ⟨h.f0, h.f1⟩))
      go_enter Tryd.func24, Tryd.ntmps24
      go_wp2_with fail
      refine (CL.out _).mono ?_
      rintro e w1 ⟨rfl, rfl⟩
      go_wp2_with fail
      refine (CF.out _).mono ?_
      rintro e w1 ⟨rfl, rfl⟩
      go_wp2
      go_ret
      exact ⟨rfl, (Below.refl _ _).alloc (Nat.le_refl _) _⟩
  · have CL := hide (fun w => l1In_any (n : Int) 1 20 w false (by simp; omega))
    obtain rfl := bool_no6 hbb (fun h => h1 (by have := h.one; have := h.many; omega))
    clear hbb hs hn hsz
    go_enter Tryd.func24, Tryd.ntmps24
    go_wp2_with fail
    refine (CL.out _).mono ?_
    rintro e w1 ⟨rfl, rfl⟩
    go_wp2
    go_ret
    exact ⟨rfl, (Below.refl _ _).alloc (Nat.le_refl _) _⟩
end Go.Proofs.YtapffbbmofhpobaDoor.L6
