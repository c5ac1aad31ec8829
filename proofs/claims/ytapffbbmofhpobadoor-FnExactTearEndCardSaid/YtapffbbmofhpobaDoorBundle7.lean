/-
  Contracts: spec.l6End, spec.EndOf.
  Contract: spec.TearEnd.
  What TearEnd answers is small. Nothing of the program's text is proved here.
  Contracts of the laws' own helpers: laws.heldPieceS, laws.heldLog find the marks of a log.
  Contracts of the laws' own helpers: laws.markPieceS, laws.markLog.
  How far the marks of a log go. Nothing of the program's text is proved here.
-/
import Derived.Test.YtapffbbmofhpobaDoorBundle6
import Derived.Test.YtapffbbmofhpobaDoorBundle4
import Derived.Deep.RegionWith
import Derived.Deep.RegionHeld3
import Derived.Deep.DeepCutAuto
import Derived.Test.YtapffbbmofhpobaDoorBundle2
namespace Go.Proofs.YtapffbbmofhpobaDoor.L6
open Go.RowKit L1
set_option linter.unusedVariables false

set_option maxRecDepth 100000 in
set_option maxHeartbeats 1000000 in
theorem l6End_any (a : Option Addr) (L : List Pc) (n cap : Nat) (B : Int) (w : World) (hn : L.length = n) (hs : SlC w a L) (h1 : 1 ≤ n) (h20 : n ≤ 20) (hg : GoodP (gc L (n - 1))) (hf : 0 ≤ (gc L (n - 1)).f ∧ (gc L (n - 1)).f ≤ 1000000) :
    Calls Tryd.prog 25 #[.agg #[.slice a n cap, .int .i64 B]] w fun e w' => e = .returned (.int .i64 (lastEnd L n)) ∧ Below w.heap.size w w' := by
  obtain ⟨m, hm⟩ : ∃ m, m = n - 1 := ⟨_, rfl⟩
  have hnm : (n : Int) - 1 = (m : Int) := by omega
  have hmn : (m : Int) < (n : Int) := by omega
  have hm0 : (0 : Int) ≤ (m : Int) := by omega
  obtain ⟨b, off, rfl, ai, ci, hat⟩ := hs m (by rw [hn]; omega)
  unfold lastEnd
  rw [← hm] at hg hf ⊢
  have hc60 := good_cnt hg
  have hs60 := hg.1
  have hx : (gc L m).x.length ≤ 1048576 := by
    rw [hg.2.2]
    unfold ix
    rw [ixk_len]
    omega
  have hd1 := hat.f
  have hd2 := hat.s
  have hd3 := hat.x
  have hd4 := hat.l
  have hN : many (gc L m) = (cnt (gc L m).s : Int) := by unfold many; rw [if_pos hg]
  obtain ⟨p, hp⟩ : ∃ p, p = gc L m := ⟨_, rfl⟩
  rw [show L.getD m eC = p from hp.symm] at hd1 hd2 hd3 hd4
  rw [← hp] at hf hc60 hs60 hx hN ⊢
  obtain ⟨f, s, x⟩ := p
  simp only at hd1 hd2 hd3 hd4 hf hc60 hs60 hx hN ⊢
  obtain ⟨k, hk⟩ : ∃ k, k = x.length := ⟨_, rfl⟩
  rw [← hk] at hd3 hx
  obtain ⟨c, hc⟩ : ∃ c, c = cnt s := ⟨_, rfl⟩
  rw [← hc] at hc60 hN ⊢
  have C := hide (fun wx (hb : Below w.heap.size w wx) => l6Many_any f s ai x k ci wx hk.symm (hd4.below hb) (by omega) (by omega) (c : Int) hN.symm)
  have hwr : IntKind.i64.wrap (f + (c : Int)) = f + (c : Int) := wrap6 (by omega) (by omega)
  obtain ⟨w0, hw0⟩ : ∃ w0, w0 = w.alloc (.cells #[.slice (some ⟨b, off, none⟩) n cap, .int .i64 B] 28 (0, 0)) := ⟨_, rfl⟩
  have e1 := Go.Lib.cell?_alloc_some (.cells #[.slice (some ⟨b, off, none⟩) n cap, .int .i64 B] 28 (0, 0)) hd1
  have e2 := Go.Lib.cell?_alloc_some (.cells #[.slice (some ⟨b, off, none⟩) n cap, .int .i64 B] 28 (0, 0)) hd2
  have e3 := Go.Lib.cell?_alloc_some (.cells #[.slice (some ⟨b, off, none⟩) n cap, .int .i64 B] 28 (0, 0)) hd3
  clear hat hp hk hd4 hc hN hg hn hs hm
  go_enter Tryd.func25, Tryd.ntmps25
  go_wp2
  obtain ⟨w1, hw1⟩ : ∃ w1, w1 = (w.alloc (.cells #[.slice (some ⟨b, off, none⟩) n cap, .int .i64 B] 28 (0, 0))).alloc (.cells #[.int .i64 f, .string s, .slice ai k ci] 37 (0, 0)) := ⟨_, rfl⟩
  have B1 : Below w.heap.size w w1 := by rw [hw1]; exact ((Below.refl _ _).alloc (Nat.le_refl _) _).alloc (by simp) _
  obtain ⟨c0, c1, c2, _, _, _⟩ := blk3 (show w1.heap[w.heap.size + 1]? = some (.cells #[.int .i64 f, .string s, .slice ai k ci] 37 (0, 0)) by rw [hw1]; have := blk_new (w.alloc (.cells #[.slice (some ⟨b, off, none⟩) n cap, .int .i64 B] 28 (0, 0))) (.cells #[.int .i64 f, .string s, .slice ai k ci] 37 (0, 0)); rw [World.size_alloc] at this; exact this)
  have HB1 := hide B1
  rw [← hw1]
  clear B1 hw1 hw0 e1 e2 e3
  go_region_held3 (fun wx => (wx.cell? ⟨w.heap.size + 1, 0, none⟩ = some (.int .i64 f) ∧ wx.cell? ⟨w.heap.size + 1, 1, none⟩ = some (.string s) ∧ wx.cell? ⟨w.heap.size + 1, 2, none⟩ = some (.slice ai k ci)) ∧ Below w1.heap.size w1 wx) (first | exact ⟨⟨c0, c1, c2⟩, (Below.refl _ _).drew⟩ | exact keep3 (by assumption) (by assumption) (Nat.le_refl _)) ((go_at_call 47; refine (C.out _ (HB1.out.trans ((by first | exact And.right (by assumption) | exact (Below.refl _ _).drew | exact Below.refl _ _ : Below w1.heap.size w1 _).mono HB1.out.size))).mono ?_; rintro e w2 ⟨rfl, hb⟩))
  rename_i hHeld
  have B2 := hide (HB1.out.trans (hHeld.2.mono HB1.out.size))
  clear hHeld
  go_wp2
  go_ret
  exact ⟨rfl, B2.out⟩

/-- Of a good log, as spec.l6End asks it. -/
theorem l6End_good (a : Option Addr) (L : List Pc) (n cap : Nat) (B : Int) (w : World) (hn : L.length = n) (hs : SlC w a L) (hg : GoodG L B) (B' : Int) :
    Calls Tryd.prog 25 #[.agg #[.slice a n cap, .int .i64 B']] w fun e w' => e = .returned (.int .i64 (lastEnd L n)) ∧ Below w.heap.size w w' := by
  have h1 := hg.one
  have h20 := hg.many
  have hk := hg.ps (n - 1) (by omega)
  have hb := atg_bd L (n - 1) (fun j hj => (hg.ps j (by omega)).1)
  have hf0 := hg.f0
  have hf1 := hg.f1
  exact l6End_any a L n cap B' w hn hs (by omega) (by omega) hk.1 (by rw [hk.2.1]; omega)
end Go.Proofs.YtapffbbmofhpobaDoor.L6

namespace Go.Proofs.YtapffbbmofhpobaDoor.L6
open Go.RowKit L1
set_option linter.unusedVariables false

/-- The copy with its last piece torn. -/
structure TornAtS (w : World) (base go g n m c : Nat) (B : Int) (M : List PV) (p : Pc) (wx : World) : Prop where
  own : ∃ u, OwC wx base (.slice (some ⟨g, 0, none⟩) n c) n (M.set m (p, u))
  bel : Below w.heap.size w wx
  res : wx.heap[w.heap.size + 1]? = some (.cells #[.slice none 0 0, .int .i64 0] 28 (0, 0))
  out : wx.heap[go]? = some (.cells #[.slice (some ⟨g, 0, none⟩) n c, .int .i64 B] 28 (0, 0))

open Classical in
set_option maxRecDepth 100000 in
set_option maxHeartbeats 4000000 in
theorem specTear_any (a : Option Addr) (L : List Pc) (n cap : Nat) (B b : Int) (w : World) (hn : L.length = n) (hm : n ≤ 9223372036854775807) (hs : SlC w a L) (hst : SzC L) (L' : List Pc) (B' left : Int) (ok : Bool) (hr : TearIs L B b L' B' left ok) :
    Calls Tryd.prog 21 #[.agg #[.slice a n cap, .int .i64 B], .int .i64 b] w (RetG w L' B' left ok) := by
  obtain ⟨bk, hbk⟩ : ∃ bk : Bool, bk = true ↔ GoodG L B := ⟨decide (GoodG L B), by simp⟩
  have C1 := hide (fun wx (hb : Below w.heap.size w wx) => specGoodLog_any a L n cap B wx hn hm (hs.below hb) hst bk hbk)
  cases bk with
  | false =>
    obtain ⟨rfl, rfl, rfl, rfl⟩ := hr.no (fun h => absurd (hbk.2 h.1) (by simp))
    clear hr hs hn hst hbk
    go_enter Tryd.func21, Tryd.ntmps21
    go_wp2_with fail
    refine (C1.out _ (((Below.refl _ _).alloc (Nat.le_refl _) _).alloc (by simp) _)).mono ?_
    rintro e w1 ⟨rfl, hb1⟩
    obtain ⟨z0, z1, z2, z3⟩ := blkp ((hb1.block (w.heap.size + 1) (by simp)).trans (blk_second w _ _))
    have B1 := hide ((((Below.refl w.heap.size w).alloc (Nat.le_refl _) (.cells #[.slice a n cap, .int .i64 B] 28 (0, 0))).alloc (by simp) (.cells #[.slice none 0 0, .int .i64 0] 28 (0, 0))).trans (hb1.mono (by simp; omega)))
    clear hb1
    go_wp2
    refine bodyPost_ret (v := .tuple #[.agg #[.slice none 0 0, .int .i64 0], .int .i64 0, .bool false]) (by simp [results, Tryd.f21, go_sem, z0, z1]) rfl (retG_none ((B1.out.setCell (p := ⟨_, _, none⟩) (Nat.le_succ _) _).setCell (p := ⟨_, _, none⟩) (Nat.le_succ _) _))
  | true =>
    have hg := hbk.1 rfl
    have hn1 : 1 ≤ n := by have := hg.one; omega
    have hn20 : n ≤ 20 := by have := hg.many; omega
    have C2 := hide (fun wx (hb : Below w.heap.size w wx) => l6Own_any a L n cap B wx hn hn20 (hs.below hb) (hg.small hn))
    have HS := hide hs
    have HN := hide hn
    have HG := hide hg
    have HR := hide hr
    clear hs hn hg hst hbk hr
    go_enter Tryd.func21, Tryd.ntmps21
    go_wp2_with fail
    refine (C1.out _ (((Below.refl _ _).alloc (Nat.le_refl _) _).alloc (by simp) _)).mono ?_
    rintro e w0 ⟨rfl, hb1⟩
    have G1 : Hid (w0.heap[w.heap.size + 1]? = some (.cells #[.slice none 0 0, .int .i64 0] 28 (0, 0))) := (hb1.block (w.heap.size + 1) (by simp)).trans (blk_second w _ _)
    have B1 := hide ((((Below.refl w.heap.size w).alloc (Nat.le_refl _) (.cells #[.slice a n cap, .int .i64 B] 28 (0, 0))).alloc (by simp) (.cells #[.slice none 0 0, .int .i64 0] 28 (0, 0))).trans (hb1.mono (by simp; omega)))
    obtain ⟨k0, k1, _, _⟩ := blkp ((hb1.block w.heap.size (by simp only [World.size_alloc]; omega)).trans (blk_first w _ _))
    clear hb1
    go_wp2_with fail
    refine (C2.out _ (by first | exact B1.out | exact B1.out.alloc B1.out.size _)).mono ?_
    rintro e w1 ⟨a1, cc, rfl, M, hM, ho, hb2⟩
    obtain ⟨g, rfl⟩ : ∃ g, a1 = some ⟨g, 0, none⟩ := by
      rcases ho.row.2 with ⟨hv, h0⟩ | ⟨g, cap, cur, hv, _⟩
      · omega
      · cases hv
        exact ⟨g, rfl⟩
    have B2 := hide (B1.out.trans (hb2.mono B1.out.size))
    have G2 : Hid (w1.heap[w.heap.size + 1]? = some (.cells #[.slice none 0 0, .int .i64 0] 28 (0, 0))) := (hb2.block (w.heap.size + 1) (Array.getElem?_eq_some_iff.1 G1.out).1).trans G1.out
    obtain ⟨z0, z1, z2, z3⟩ := blkp G2.out
    have hz1 : w.heap.size + 1 < w0.heap.size := (Array.getElem?_eq_some_iff.1 G1.out).1
    have hgb := own_ltC ho.row g rfl
    have hml := ho.len
    obtain ⟨m, hm'⟩ : ∃ m, m = n - 1 := ⟨_, rfl⟩
    have hnm : (n : Int) - 1 = (m : Int) := by omega
    have hmn : (m : Int) < (n : Int) := by omega
    have hm0 : (0 : Int) ≤ (m : Int) := by omega
    have hmN : m < n := by omega
    obtain ⟨f1, f2, f3⟩ := flatC_get M m (by omega)
    have hp1 : (M.getD m eV).1 = gc L m := by
      have := pcs_get M m (by omega)
      rw [hM] at this
      exact this.symm
    obtain ⟨ai, ci, hv, hsl, _⟩ := own_form (ho.idx m hmN)
    rw [hv] at f3
    rw [hp1] at f1 f2 f3
    have hfl : (flatC M).length = n * 3 := by rw [flatC_len, hml]
    have d1 := (ho.row.cellAt (m * 3) (by omega)).trans f1
    have d2 := (ho.row.cellAt (m * 3 + 1) (by omega)).trans f2
    have d3 := (ho.row.cellAt (m * 3 + 2) (by omega)).trans f3
    have fz := fun k => ho.row.frozenAt k
    have hlp : lastP L = gc L m := by show gc L (L.length - 1) = _; rw [HN.out, hm']
    have hgp := (HG.out.ps m (by rw [HN.out]; exact hmN)).1
    have hsz := hgp.1
    have hfl2 : 0 ≤ (gc L m).f ∧ (gc L m).f ≤ 1000000 := by
      have hb := atg_bd L m (fun j hj => (HG.out.ps j (by rw [HN.out]; omega)).1)
      have hf0 := HG.out.f0
      have hf1 := HG.out.f1
      rw [(HG.out.ps m (by rw [HN.out]; exact hmN)).2.1]
      omega
    obtain ⟨p, hp⟩ : ∃ p, p = gc L m := ⟨_, rfl⟩
    rw [← hp] at d1 d2 d3 hlp hsz hfl2
    obtain ⟨f, s, x⟩ := p
    simp only at d1 d2 d3 hsz hfl2
    obtain ⟨xl, hxl⟩ : ∃ xl, xl = x.length := ⟨_, rfl⟩
    rw [← hxl] at d3
    have e1 := Go.Lib.cell?_alloc_some (.cells #[.slice (some ⟨g, 0, none⟩) n cc, .int .i64 B] 28 (0, 0)) d1
    have e2 := Go.Lib.cell?_alloc_some (.cells #[.slice (some ⟨g, 0, none⟩) n cc, .int .i64 B] 28 (0, 0)) d2
    have e3 := Go.Lib.cell?_alloc_some (.cells #[.slice (some ⟨g, 0, none⟩) n cc, .int .i64 B] 28 (0, 0)) d3
    have HXL := hide hxl
    have HGP := hide hgp
    have HO := hide ho
    have HM := hide hM
    have HLP := hide hlp
    have HV := hide hv
    have HP1 := hide hp1
    have HP := hide hp
    clear hxl ho hM hlp hv hp1 hp f1 f2 f3 hfl hsl hgp hb2 fz hm' hml
    go_upto_region 6 with fail
    generalize hW : (w1.alloc (.cells #[.slice (some ⟨g, 0, none⟩) n cc, .int .i64 B] 28 (0, 0))).alloc (.cells #[.int .i64 f, .string s, .slice ai xl ci] 37 (0, 0)) = W
    have BW : Below w1.heap.size w1 W := by rw [← hW]; exact ((Below.refl _ _).alloc (Nat.le_refl _) _).alloc (by simp) _
    have GO : W.heap[w1.heap.size]? = some (.cells #[.slice (some ⟨g, 0, none⟩) n cc, .int .i64 B] 28 (0, 0)) := by rw [← hW]; exact blk_first _ _ _
    have GP : W.heap[w1.heap.size + 1]? = some (.cells #[.int .i64 f, .string s, .slice ai xl ci] 37 (0, 0)) := by rw [← hW]; exact blk_second _ _ _
    obtain ⟨o0, o1, o2, o3⟩ := blkp GO
    obtain ⟨p0, p1, p2, _, _, _⟩ := blk3 GP
    have G3 : W.heap[w.heap.size + 1]? = some (.cells #[.slice none 0 0, .int .i64 0] 28 (0, 0)) := (BW.block (w.heap.size + 1) (Array.getElem?_eq_some_iff.1 G2.out).1).trans G2.out
    have B3 := hide (B2.out.trans (BW.mono B2.out.size))
    have HO3 := hide (HO.out.below BW)
    have HG3 := hide G3
    have HGO := hide GO
    have hwW : w1.heap.size + 1 < W.heap.size := (Array.getElem?_eq_some_iff.1 GP).1
    clear z0 z1 z2 z3
    obtain ⟨z0, z1, z2, z3⟩ := blkp G3
    have HGP2 := hide GP
    clear hW BW GO GP G3 d1 d2 d3 e1 e2 e3 k0 k1
    obtain ⟨bb, hbb⟩ : ∃ bb : Bool, bb = true ↔ 0 ≤ b ∧ b ≤ (s.size : Int) := ⟨decide (0 ≤ b ∧ b ≤ (s.size : Int)), by simp⟩
    have CI := hide (fun w => l1In_any b 0 (s.size : Int) w bb hbb)
    go_wp2_with fail
    refine (CI.out _).mono ?_
    rintro e w2 ⟨rfl, rfl⟩
    by_cases hrg : ¬ (0 ≤ b ∧ b ≤ (s.size : Int))
    · obtain rfl : bb = false := by cases bb with
        | false => rfl
        | true => exact absurd (hbb.1 rfl) hrg
      have hno : ¬ TearOk L B b := fun h => by have := h.2.1; rw [HLP.out] at this; exact hrg this
      obtain ⟨rfl, rfl, rfl, rfl⟩ := HR.out.no hno
      clear hno hrg hbb CI
      go_wp2
      refine bodyPost_ret (v := .tuple #[.agg #[.slice none 0 0, .int .i64 0], .int .i64 0, .bool false]) (by simp [results, Tryd.f21, go_sem, z0, z1]) rfl (retG_none ((B3.out.setCell (p := ⟨_, _, none⟩) (Nat.le_succ _) _).setCell (p := ⟨_, _, none⟩) (Nat.le_succ _) _))
    replace hrg := Classical.not_not.1 hrg
    obtain rfl : bb = true := hbb.2 hrg
    clear hbb CI
    obtain ⟨bn, rfl⟩ : ∃ bn : Nat, b = (bn : Int) := ⟨b.toNat, by omega⟩
    obtain ⟨k, hk⟩ : ∃ k : Nat, k = s.size - bn := ⟨_, rfl⟩
    have hks : k ≤ s.size := by omega
    have hsub : (s.size : Int) - (bn : Int) = (k : Int) := by omega
    have hwr : IntKind.i64.wrap ((s.size : Int) - (bn : Int)) = (k : Int) := by rw [hsub]; exact wrap6 (by omega) (by omega)
    have q := fun w => slice_to w s k hks
    obtain ⟨y, hy⟩ : ∃ y, y = s.extract 0 k := ⟨_, rfl⟩
    rw [← hy] at q
    have HY : Hid (tornS (lastP L) (bn : Int) = y) := by
      show tornS (lastP L) (bn : Int) = y
      rw [HLP.out, hy, hk]
      rfl
    have hys : y.size ≤ 60 := by rw [hy]; simp; omega
    clear hy hk
    have CS := hide (fun w => l6Starts_any y w (by omega))
    have hwh := wh_le y
    obtain ⟨kw, hkw⟩ : ∃ kw, kw = wh y := ⟨_, rfl⟩
    rw [← hkw] at CS hwh
    obtain ⟨Y, hY⟩ : ∃ Y, Y = y.extract 0 kw := ⟨_, rfl⟩
    have q2 := fun w => slice_to w y kw hwh
    rw [← hY] at q2
    have hYs : Y.size = kw := by rw [hY]; simp; omega
    have hcY : cnt Y = cnt y := by rw [hY, hkw]; exact whole_cnt y
    have hxY : ix Y = ix y := by rw [hY, hkw]; exact whole_ix y
    have HYY : Hid (Y = y.extract 0 (wh y)) := by show Y = _; rw [hY, hkw]
    have HKW := hide hkw
    have HCY := hide hcY
    clear hcY hY hkw
    go_wp2_with fail
    refine (CS.out _).mono ?_
    rintro e V ⟨v2, rfl, hos, hbV⟩
    obtain ⟨ast, qst, rfl, _, _⟩ := own_form hos
    have BV := hide (B3.out.trans (hbV.mono B3.out.size))
    have HOV := hide (HO3.out.below hbV)
    have HGR := hide ((hbV.block (w.heap.size + 1) (by omega)).trans HG3.out)
    have HGV := hide ((hbV.block w1.heap.size (by omega)).trans HGO.out)
    have HGQ := hide ((hbV.block (w1.heap.size + 1) (by omega)).trans HGP2.out)
    have hWV := hbV.size
    clear z0 z1 z2 z3 o0 o1 o2 o3 p0 p1 p2 hos hbV
    obtain ⟨z0, z1, z2, z3⟩ := blkp HGR.out
    obtain ⟨o0, o1, o2, o3⟩ := blkp HGV.out
    obtain ⟨p0, p1, p2, _, _, _⟩ := blk3 HGQ.out
    obtain ⟨N, hN⟩ : ∃ N, N = (ix y).length := ⟨_, rfl⟩
    have C3 := hide (fun wx (hb : Below V.heap.size V wx) => (l6Piece_any f Y wx (by omega)).mono (R' := fun e w2 => ∃ a2 q2, e = .returned (.agg #[.int .i64 f, .string Y, .slice a2 N q2]) ∧ (w2.ownsRow V.heap.size 3 1 (.slice a2 N q2) N ((ix y).map (Value.int .i64)) ∧ Below V.heap.size V w2) ∧ (∃ u0 u1 u2, w2.cell? ⟨g, m * 3, none⟩ = some u0 ∧ w2.cell? ⟨g, m * 3 + 1, none⟩ = some u1 ∧ w2.cell? ⟨g, m * 3 + 2, none⟩ = some u2) ∧ (w2.frozen? ⟨g, m * 3, none⟩ = false ∧ w2.frozen? ⟨g, m * 3 + 1, none⟩ = false ∧ w2.frozen? ⟨g, m * 3 + 2, none⟩ = false) ∧ (w2.cell? ⟨w1.heap.size, 0, none⟩ = some (.slice (some ⟨g, 0, none⟩) n cc) ∧ w2.cell? ⟨w1.heap.size, 1, none⟩ = some (.int .i64 B))) (by
      rintro e w2 ⟨v2, rfl, ho2, hb2⟩
      have hb3 := hb.trans (hb2.mono hb.size)
      rw [hxY, ← hN] at ho2
      obtain ⟨a2, q2, rfl, _, _⟩ := own_form ho2
      have R := (HOV.out.below hb3).row
      have hfl : (flatC M).length = n * 3 := by rw [flatC_len, HOV.out.len]
      refine ⟨a2, q2, rfl, ⟨own_baseC ho2 hb.size, hb3⟩, ⟨_, _, _, (R.cellAt (m * 3) (by omega)).trans (List.getElem?_eq_getElem (by omega)), (R.cellAt (m * 3 + 1) (by omega)).trans (List.getElem?_eq_getElem (by omega)), (R.cellAt (m * 3 + 2) (by omega)).trans (List.getElem?_eq_getElem (by omega))⟩, ⟨R.frozenAt _, R.frozenAt _, R.frozenAt _⟩, ?_⟩
      obtain ⟨o0, o1, _, _⟩ := blkp ((hb3.block w1.heap.size (Array.getElem?_eq_some_iff.1 HGV.out).1).trans HGV.out)
      exact ⟨o0, o1⟩))
    have HNN := hide hN
    have hw1V : w0.heap.size ≤ V.heap.size := by omega
    have PP : Hid (∀ w2 a2 q2, (w2.ownsRow V.heap.size 3 1 (.slice a2 N q2) N ((ix y).map (Value.int .i64)) ∧ Below V.heap.size V w2) → TornAtS w w0.heap.size w1.heap.size g n m cc B M ⟨f, Y, ix y⟩ (((w2.setCell ⟨g, m * 3, none⟩ (.int .i64 f)).setCell ⟨g, m * 3 + 1, none⟩ (.string Y)).setCell ⟨g, m * 3 + 2, none⟩ (.slice a2 N q2))) := by
      intro w2 a2 q2 h
      have P := (HOV.out.below h.2).put m hmN ⟨f, Y, ix y⟩ (.slice a2 N q2) (by show w2.ownsRow _ _ _ _ (ix y).length _; rw [← HNN.out]; exact own_baseC h.1 hw1V) (fun i hi _ bb hbb e => by
        have h1 := (own_ltC h.1 bb hbb).1
        have h2 := (own_ltC (HOV.out.idx i hi) bb e).2
        omega)
      have hs2 := h.2.size
      exact ⟨⟨_, P.1⟩, (BV.out.trans (h.2.mono BV.out.size)).grown P.2 (Nat.le_trans BV.out.size hs2) (fun q hq => by cases hq; omega), (P.2.block (w.heap.size + 1) (by omega) (by simp; omega)).trans ((h.2.block _ (by omega)).trans HGR.out), (P.2.block w1.heap.size (by omega) (by simp; omega)).trans ((h.2.block _ (by omega)).trans HGV.out)⟩
    clear hN hxY C1 C2 CS
    go_upto_region 10 with fail
    go_cut [8, 12] (fun t t2 wx => t = .int .i64 m ∧ t2 = .int .i64 kw ∧ TornAtS w w0.heap.size w1.heap.size g n m cc B M ⟨f, Y, ix y⟩ wx)
    case first =>
      go_region_with (go_at_call 41; refine (C3.out _ ?_).mono ?_; (first | exact Below.refl _ _ | exact (Below.refl _ _).drew | exact ((Below.refl _ _).drew).drew); rintro e w2 ⟨a2, q2, rfl, ho2, ⟨u0, u1, u2, c0, c1, c2⟩, ⟨c3, c4, c5⟩, c6, c7⟩)
      all_goals (
        go_wp2_with fail
        go_meet
        case rel => exact ⟨rfl, rfl, PP.out _ _ _ ho2⟩)
    case rest =>
      obtain ⟨rfl, rfl, hta⟩ := hcut
      have hlen2 : (L.set m ⟨f, Y, ix y⟩).length = n := by simpa using HN.out
      obtain ⟨u, hown⟩ := hta.own
      have hpc : pcs (M.set m (⟨f, Y, ix y⟩, u)) = L.set m ⟨f, Y, ix y⟩ := by rw [← HM.out]; show List.map _ _ = _; rw [List.map_set]
      have hgm : gc (L.set m ⟨f, Y, ix y⟩) m = ⟨f, Y, ix y⟩ := gc_set_self L m _ (by rw [HN.out]; exact hmN)
      have hnm1 : n - 1 = m := by omega
      have hsl : SlC wc (some ⟨g, 0, none⟩) (L.set m ⟨f, Y, ix y⟩) := by rw [← hpc]; exact hown.sl
      have htp : tornP (lastP L) (bn : Int) = ⟨f, Y, ix y⟩ := by
        unfold tornP
        rw [HY.out, HLP.out, ← HYY.out]
      have hgd : GoodP (⟨f, Y, ix y⟩ : Pc) := by
        rw [← htp]
        exact tornP_good _ (by show GoodP (gc L (L.length - 1)); rw [HN.out, hnm1]; exact HGP.out)
      have hE : lastEnd (L.set m ⟨f, Y, ix y⟩) n = f + (cnt y : Int) := by
        unfold lastEnd
        rw [hnm1, hgm]
        show f + (cnt Y : Int) = _
        rw [HCY.out]
      have C4 := hide (fun wx (hb : Below wc.heap.size wc wx) => l6End_any (some ⟨g, 0, none⟩) (L.set m ⟨f, Y, ix y⟩) n cc B wx hlen2 (hsl.below hb) hn1 hn20 (by rw [hnm1, hgm]; exact hgd) (by rw [hnm1, hgm]; exact hfl2))
      have hxs : ∀ i, i < n → (gc (L.set m ⟨f, Y, ix y⟩) i).x.length ≤ 60 := fun i hi => by
        by_cases e : i = m
        · subst e
          rw [hgm]
          have h1 := good_cnt hgd
          show (ix y).length ≤ 60
          unfold ix
          rw [ixk_len]
          have h2 : cnt Y ≤ 60 := h1
          rw [HCY.out] at h2
          omega
        · rw [gc_set_ne L m i _ e]
          exact HG.out.small HN.out i hi
      have C5 := hide (fun wx (hb : Below wc.heap.size wc wx) => l6Own_any (some ⟨g, 0, none⟩) (L.set m ⟨f, Y, ix y⟩) n cc B wx hlen2 hn20 (hsl.below hb) hxs)
      rw [hE] at C4
      have hok : TearOk L B (bn : Int) ↔ B ≤ f + (cnt y : Int) := by
        unfold TearOk
        rw [HY.out, HLP.out]
        constructor
        · intro h
          exact h.2.2
        · intro h
          exact ⟨HG.out, ⟨by omega, by show (bn : Int) ≤ (s.size : Int); omega⟩, h⟩
      have HOK := hide hok
      have HTA := hide hta
      have HTP := hide htp
      have HL2 := hide hlen2
      obtain ⟨E, hEE⟩ : ∃ E, E = f + (cnt y : Int) := ⟨_, rfl⟩
      rw [← hEE] at C4 HOK
      clear z0 z1 z2 z3 o0 o1 o2 o3 p0 p1 p2
      obtain ⟨z0, z1, z2, z3⟩ := blkp hta.res
      obtain ⟨o0, o1, _, _⟩ := blkp hta.out
      clear hta hown hpc hlen2 hok hE hgm hEE hsl htp hgd hxs C3 PP
      go_upto_region 11 with fail
      go_region_held3 (fun wx => (wx.cell? ⟨w1.heap.size, 0, none⟩ = some (.slice (some ⟨g, 0, none⟩) n cc) ∧ wx.cell? ⟨w1.heap.size, 1, none⟩ = some (.int .i64 B) ∧ wx.cell? ⟨w.heap.size + 1, 0, none⟩ = some (.slice none 0 0)) ∧ Below wc.heap.size wc wx) (first | exact ⟨⟨o0, o1, z0⟩, (Below.refl _ _).drew⟩ | exact keep3 (by assumption) (by assumption) (Nat.le_refl _)) ((go_at_call 25; refine (C4.out _ (by first | exact And.right (by assumption) | exact (Below.refl _ _).drew | exact Below.refl _ _)).mono ?_; rintro e w5 ⟨rfl, hb⟩))
      rename_i hHeld
      have hb5 := hHeld.2
      have HB5 := hide hb5
      have HB6 := hide (HTA.out.bel.trans (hb5.mono HTA.out.bel.size))
      have HG5 := hide ((hb5.block (w.heap.size + 1) (Array.getElem?_eq_some_iff.1 HTA.out.res).1).trans HTA.out.res)
      clear z0 z1 z2 z3 o0 o1
      obtain ⟨z0, z1, z2, z3⟩ := blkp HG5.out
      obtain ⟨o0, o1, _, _⟩ := blkp ((hb5.block w1.heap.size (Array.getElem?_eq_some_iff.1 HTA.out.out).1).trans HTA.out.out)
      have hz5 : w.heap.size + 1 < w5.heap.size := (Array.getElem?_eq_some_iff.1 HG5.out).1
      clear hHeld hb5 C4
      by_cases hBE : E < B
      · obtain ⟨rfl, rfl, rfl, rfl⟩ := HR.out.no (fun h => by have := HOK.out.1 h; omega)
        go_wp2
        refine bodyPost_ret (v := .tuple #[.agg #[.slice none 0 0, .int .i64 0], .int .i64 0, .bool false]) (by simp [results, Tryd.f21, go_sem, z0, z1]) rfl (retG_none ((HB6.out.setCell (p := ⟨_, _, none⟩) (Nat.le_succ _) _).setCell (p := ⟨_, _, none⟩) (Nat.le_succ _) _))
      · obtain ⟨rfl, hL', rfl, hleft⟩ := HR.out.yes (HOK.out.2 (by omega))
        have hL2 : L' = L.set m ⟨f, Y, ix y⟩ := by rw [hL', HN.out, hnm1, HTP.out]
        rw [HY.out, ← HKW.out] at hleft
        have hwr2 : IntKind.i64.wrap ((y.size : Int) - (kw : Int)) = left := by rw [hleft]; exact wrap6 (by omega) (by omega)
        have HL' := hide hL2
        have HLL := hide hleft
        clear hL' hL2 hleft
        go_wp2_with fail
        refine (C5.out _ HB5.out).mono ?_
        rintro e w6 ⟨a6, c6, rfl, M6, hM6, ho6, hb6⟩
        have BF := hide (HB6.out.trans (hb6.mono HB6.out.size))
        have HO6 := hide ho6
        have HM6 := hide hM6
        clear z0 z1 z2 z3 o0 o1
        obtain ⟨z0, z1, z2, z3⟩ := blkp ((hb6.block (w.heap.size + 1) hz5).trans HG5.out)
        clear hb6 ho6 hM6
        go_wp2
        refine bodyPost_ret (v := .tuple #[.agg #[.slice a6 n c6, .int .i64 B'], .int .i64 left, .bool true]) (by simp [results, Tryd.f21, go_sem, z0, z1]) rfl ⟨a6, c6, by rw [HL'.out, HL2.out], M6, by rw [HL'.out]; exact HM6.out, ?_, ?_⟩
        · rw [HL'.out, HL2.out]
          exact ((HO6.out.setC ⟨_, _, none⟩ _ hz5).setC ⟨_, _, none⟩ _ hz5).base HB6.out.size
        · exact ((BF.out.setCell (p := ⟨_, _, none⟩) (Nat.le_succ _) _).setCell (p := ⟨_, _, none⟩) (Nat.le_succ _) _)
end Go.Proofs.YtapffbbmofhpobaDoor.L6

namespace Go.Proofs.YtapffbbmofhpobaDoor.L6
open Go.RowKit L1
set_option linter.unusedVariables false

theorem kat_small (L : List Pc) (n : Nat) (h : ∀ i, i < n → (gc L i).x.length ≤ 60) : ∀ i, i ≤ n → kat L i ≤ 1 + 62 * (i : Int)
  | 0, _ => by simp [kat]
  | i + 1, hi => by
    have h1 := kat_small L n h i (by omega)
    have h2 := h i (by omega)
    show kat L i + 2 + ((gc L i).x.length : Int) ≤ _
    omega
open Classical in
theorem TearIs.few {L L' : List Pc} {B b B' left : Int} {ok : Bool} (h : TearIs L B b L' B' left ok) : L'.length ≤ 20 ∧ ∀ i, i < L'.length → (gc L' i).x.length ≤ 60 := by
  by_cases ht : TearOk L B b
  · obtain ⟨_, rfl, _, _⟩ := h.yes ht
    have hg := ht.1
    have h1 := hg.one
    refine ⟨by simpa using hg.many, fun i hi => ?_⟩
    have hi' : i < L.length := by simpa using hi
    by_cases e : i = L.length - 1
    · subst e
      have e2 : gc (L.set (L.length - 1) (tornP (lastP L) b)) (L.length - 1) = tornP (lastP L) b := by
        have : L.length - 1 < L.length := by omega
        simp [gc, List.getD, this]
      rw [e2]
      have hgd := tornP_good b (hg.ps (L.length - 1) (by omega)).1
      have h2 := good_cnt hgd
      have h3 := hgd.2.2
      show (tornP (gc L (L.length - 1)) b).x.length ≤ 60
      rw [h3]
      unfold ix
      rw [ixk_len]
      omega
    · have e2 : gc (L.set (L.length - 1) (tornP (lastP L) b)) i = gc L i := by simp [gc, List.getD, List.getElem?_set_ne (Ne.symm e)]
      rw [e2]
      exact hg.small rfl i hi'
  · obtain ⟨_, rfl, _, _⟩ := h.no ht
    exact ⟨Nat.zero_le _, fun i hi => absurd hi (Nat.not_lt_zero _)⟩
end Go.Proofs.YtapffbbmofhpobaDoor.L6

namespace Go.Proofs.YtapffbbmofhpobaDoor.L6
open Go.RowKit L1
set_option linter.unusedVariables false

set_option maxRecDepth 100000 in
set_option maxHeartbeats 1000000 in
theorem heldIntS_from (a : Option Addr) (n cap : Nat) (c : Int) (w : World) (hc0 : 0 ≤ c) (hc1 : c ≤ 4294967296) (hn2 : n ≤ 1048576) (hs : Sl w a (L4.mkC c n)) :
    Calls Tryd.prog 44 #[.slice a n cap, .int .i64 c] w fun e w' => e = .returned (.int .i64 (c + (n : Int))) ∧ Below w.heap.size w w' := by
  have HS := hide hs
  clear hs
  go_enter Tryd.func44, Tryd.ntmps44
  go_wp2
  go_loop [1, 5] (fun k i => ∃ j : Nat, j ≤ n ∧ i = .int .i64 j ∧ k = .int .i64 (c + (j : Int))) (fun _ i => n - (intOf i).toNat)
  case atStart => exact ⟨0, by omega, rfl, by simp⟩
  case round =>
    obtain ⟨j, hj, rfl, rfl⟩ := hrel
    by_cases hlt : j < n
    · obtain ⟨b, off, rfl, hc⟩ := HS.out j (by rw [L4.mkC_len]; exact hlt)
      rw [L4.mkC_get c n j hlt] at hc
      have hltI : (j : Int) < (n : Int) := by omega
      go_wp2
      go_round
      case rel => exact ⟨j + 1, by omega, by go_num, by go_num⟩
      case measure => simp [intOf]; omega
    · have hltI : ¬ (j : Int) < (n : Int) := by omega
      obtain rfl : j = n := by omega
      go_wp2
      go_ret
      exact ⟨rfl, Below.refl _ _⟩

set_option maxRecDepth 100000 in
set_option maxHeartbeats 2000000 in
theorem heldPieceS_any (a : Option Addr) (n cap : Nat) (L : List Pc) (w : World) (hLn : L.length = n) (hn2 : n ≤ 1048576) (hk : ∀ i, i ≤ n → kat L i ≤ 2147483648) (hX : ∀ i, i < n → (gc L i).x.length ≤ 1048576) (hs : SlC w a (mks L)) :
    Calls Tryd.prog 37 #[.slice a n cap, .int .i64 1] w fun e w' => e = .returned (.int .i64 (kat L n)) ∧ Below w.heap.size w w' := by
  have HS := hide hs
  have HLN := hide hLn
  have HK := hide hk
  have HX := hide hX
  clear hs hLn hk hX
  go_enter Tryd.func37, Tryd.ntmps37
  go_wp2
  go_loopw [1, 5] (fun k i wr => ∃ j : Nat, j ≤ n ∧ i = .int .i64 j ∧ k = .int .i64 (kat L j) ∧ Below w.heap.size w wr) (fun _ i _ => n - (intOf i).toNat)
  case atStart => exact ⟨0, Nat.zero_le _, rfl, rfl, Below.refl _ _⟩
  case round =>
    obtain ⟨j, hj, rfl, rfl, hbel⟩ := hrel
    by_cases hlt : j < n
    · obtain ⟨b, off, rfl, ai, ci, hat⟩ := HS.out.below hbel j (by rw [mks_len, HLN.out]; exact hlt)
      have hmk := mks_get L j (by rw [HLN.out]; exact hlt)
      have hd1 := hat.f
      have hd2 := hat.s
      have hd3 := hat.x
      have hd4 := hat.l
      rw [show (mks L).getD j eC = mkp L j from hmk] at hd1 hd2 hd3 hd4
      unfold mkp at hd1 hd2 hd3 hd4
      simp only [L4.mkC_len] at hd1 hd2 hd3 hd4
      have hltI : (j : Int) < (n : Int) := by omega
      have hj0 : (0 : Int) ≤ (j : Int) := by omega
      have hpos := kat_pos L j
      have hkle := HK.out (j + 1) (by omega)
      have hkn : kat L (j + 1) = kat L j + 2 + ((gc L j).x.length : Int) := rfl
      have hxl := HX.out j hlt
      obtain ⟨c, hc⟩ : ∃ c, c = kat L j := ⟨_, rfl⟩
      obtain ⟨m, hm⟩ : ∃ m, m = (gc L j).x.length := ⟨_, rfl⟩
      rw [← hc] at hd1 hd2 hd4 hpos hkn ⊢
      rw [← hm] at hd3 hd4 hkn hxl
      rw [hkn] at hkle
      have CT := hide (fun wx => L3.markText_any (c + 1) wx (by omega) (by omega))
      obtain ⟨y, hy⟩ : ∃ y, y = L3.mkT (c + 1) := ⟨_, rfl⟩
      rw [← hy] at hd2 CT
      have CX := hide (fun wx (hb : Below wr.heap.size wr wx) => heldIntS_from ai m ci (c + 2) wx (by omega) (by omega) (by omega) (hd4.below hb))
      rw [show c + 2 = c + 1 + 1 by omega] at CX
      have h0 : ¬ (c + 1 + 1 + (m : Int)) < 0 := by omega
      have HKN := hide hkn
      have HB := hide hbel
      clear hat hmk hd4 hc hm hkn hy hbel
      go_wp2
      go_region_held3 (fun wx => (wx.cell? ⟨b, off + j * 3 + 1, none⟩ = some (.string y) ∧ wx.cell? ⟨b, off + j * 3 + 2, none⟩ = some (.slice ai m ci)) ∧ Below wr.heap.size wr wx) (first | exact ⟨⟨hd2, hd3⟩, (Below.refl _ _).drew⟩ | exact keep2 (by assumption) (by assumption) (Nat.le_refl _)) ((go_at_call 56; refine (CT.out _).mono ?_; rintro e w1 ⟨rfl, hb⟩))
      rename_i hHeld
      have hHeld' := hHeld
      obtain ⟨⟨k1, k2⟩, hb3⟩ := hHeld'
      have B3 := hide hb3
      clear hHeld hb3
      go_wp2_with fail
      refine (CX.out _ B3.out).mono ?_
      rintro e w4 ⟨rfl, hb4⟩
      have B4 := hide (HB.out.trans ((B3.out.trans (hb4.mono B3.out.size)).mono HB.out.size))
      clear hb4
      go_wp2
      go_roundw
      case rel => exact ⟨j + 1, by omega, by go_num, by rw [HKN.out]; go_num, B4.out⟩
      case measure => simp [intOf]; omega
    · obtain rfl : j = n := by omega
      have hltI : ¬ (j : Int) < (j : Int) := by omega
      obtain ⟨c, hc⟩ : ∃ c, c = kat L j := ⟨_, rfl⟩
      rw [← hc]
      have HC := hide hc
      clear hc
      go_wp2
      go_ret
      exact ⟨by rw [← HC.out]; rfl, hbel⟩

set_option maxRecDepth 100000 in
set_option maxHeartbeats 1000000 in
theorem heldLog_any (a : Option Addr) (n cap : Nat) (L : List Pc) (B : Int) (w : World) (hLn : L.length = n) (hn2 : n ≤ 1048576) (hk : ∀ i, i ≤ n → kat L i ≤ 2147483648) (hX : ∀ i, i < n → (gc L i).x.length ≤ 1048576) (hs : SlC w a (mks L)) :
    Calls Tryd.prog 13 #[.agg #[.slice a n cap, .int .i64 B], .int .i64 1] w fun e w' => e = .returned (.int .i64 (kat L n)) ∧ Below w.heap.size w w' := by
  have C := hide (fun wx hs => heldPieceS_any a n cap L wx hLn hn2 hk hX hs)
  have HS := hide hs
  have hpos := kat_pos L n
  obtain ⟨c, hc⟩ : ∃ c, c = kat L n := ⟨_, rfl⟩
  rw [← hc] at C hpos ⊢
  have h0 : ¬ c < 0 := by omega
  clear hs hLn hk hX hc
  go_enter Tryd.func13, Tryd.ntmps13
  go_wp2_with fail
  refine (C.out _ (HS.out.below ((Below.refl _ _).alloc (Nat.le_refl _) _))).mono ?_
  rintro e w1 ⟨rfl, hb1⟩
  have B1 := hide (((Below.refl w.heap.size w).alloc (Nat.le_refl _) (.cells #[.slice a n cap, .int .i64 B] 28 (0, 0))).trans (hb1.mono (by simp)))
  clear hb1
  go_wp2
  go_ret
  exact ⟨rfl, B1.out⟩
end Go.Proofs.YtapffbbmofhpobaDoor.L6

namespace Go.Proofs.YtapffbbmofhpobaDoor.L6
open Go.RowKit L1
set_option linter.unusedVariables false

theorem set_set (M : List PV) (k : Nat) (p q : PV) : (M.set k p).set k q = M.set k q := by simp
set_option maxRecDepth 100000 in
set_option maxHeartbeats 4000000 in
theorem markPieceS_any (base hi : Nat) (v : Value) (n : Nat) (M : List PV) (L : List Pc) (w : World) (hML : pcs M = L) (hn2 : n ≤ 1048576) (hk : ∀ i, i ≤ n → kat L i ≤ 2147483648) (hX : ∀ i, i < n → (gc L i).x.length ≤ 1048576) (hin : InC hi v n M) (ho : OwC w base v n M) :
    Calls Tryd.prog 36 #[v, .int .i64 1] w fun e w' => e = .returned (.int .i64 (kat L n)) ∧ (∃ M', pcs M' = mks L ∧ OwC w' base v n M') ∧ Only base hi w w' := by
  have hLn : L.length = n := by rw [← hML]; simpa using ho.len
  obtain ⟨a, cap, rfl, _⟩ := ho.form
  by_cases hn0 : n = 0
  · subst hn0
    have hL0 : L = [] := List.eq_nil_of_length_eq_zero hLn
    have hM0 : M = [] := List.eq_nil_of_length_eq_zero ho.len
    subst hL0 hM0
    have O := hide ho
    clear ho hML hk hX hin hLn
    go_enter Tryd.func36, Tryd.ntmps36
    go_wp2
    go_loop [1, 5] (fun k i => k = .int .i64 1 ∧ i = .int .i64 0) (fun _ _ => 0)
    case atStart => exact ⟨rfl, rfl⟩
    case round =>
      obtain ⟨rfl, rfl⟩ := hrel
      go_wp2
      go_ret
      exact ⟨rfl, ⟨[], rfl, O.out⟩, Only.refl _ _ _⟩
  · obtain ⟨g, rfl⟩ : ∃ g, a = some ⟨g, 0, none⟩ := by
      rcases ho.row.2 with ⟨_, h0⟩ | ⟨g, cap2, cur, hv, _⟩
      · omega
      · cases hv; exact ⟨g, rfl⟩
    have hgr : base ≤ g ∧ g < hi := ⟨(own_ltC ho.row g rfl).1, hin.row g rfl⟩
    have O := hide ho
    have HML := hide hML
    have HLN := hide hLn
    have HK := hide hk
    have HX := hide hX
    have HI := hide hin
    clear ho hML hk hX hin hLn hn0
    go_enter Tryd.func36, Tryd.ntmps36
    go_wp2
    go_loopw [1, 5] (fun k i wr => ∃ (j : Nat) (N : List PV), j ≤ n ∧ i = .int .i64 j ∧ k = .int .i64 (kat L j) ∧ Hid (∀ t, t < j → (N.getD t eV).1 = mkp L t) ∧ Hid (∀ t, j ≤ t → t < n → N.getD t eV = M.getD t eV) ∧ Hid (∀ t, t < n → (N.getD t eV).2 = (M.getD t eV).2) ∧ OwC wr base (.slice (some ⟨g, 0, none⟩) n cap) n N ∧ Only base hi w wr) (fun _ i _ => n - (intOf i).toNat)
    case atStart => exact ⟨0, M, Nat.zero_le _, rfl, rfl, fun t ht => absurd ht (Nat.not_lt_zero _), fun t _ _ => rfl, fun t _ => rfl, O.out, Only.refl _ _ _⟩
    case round =>
      obtain ⟨j, N, hj, rfl, rfl, H1, H2, H3, hown, honly⟩ := hrel
      by_cases hlt : j < n
      · have hltI : (j : Int) < (n : Int) := by omega
        have hpos := kat_pos L j
        have hkle := HK.out (j + 1) (by omega)
        have hkn : kat L (j + 1) = kat L j + 2 + ((gc L j).x.length : Int) := rfl
        have hxl := HX.out j hlt
        have hl := hown.len
        have hMj : (N.getD j eV) = M.getD j eV := H2.out j (Nat.le_refl _) hlt
        have hgc : (M.getD j eV).1 = gc L j := by
          have := pcs_get M j (by rw [O.out.len]; exact hlt)
          rw [HML.out] at this
          exact this.symm
        obtain ⟨c, hc⟩ : ∃ c, c = kat L j := ⟨_, rfl⟩
        -- the first store
        have P1 := hown.setF j hlt c
        obtain ⟨m, hm⟩ : ∃ m, m = (gc L j).x.length := ⟨_, rfl⟩
        have hfl : (flatC N).length = n * 3 := by rw [flatC_len, hl]
        have hcl0 := hown.row.cellAt (j * 3) (by omega)
        have hfr0 := hown.row.frozenAt (j * 3)
        obtain ⟨v0, hv0⟩ : ∃ v, wr.cell? ⟨g, j * 3, none⟩ = some v := ⟨_, hcl0.trans (List.getElem?_eq_getElem (by omega))⟩
        have CT := hide (fun wx => L3.markText_any (c + 1) wx (by omega) (by omega))
        rw [← hc]
        rw [← hc] at hpos hkn
        rw [hkn, ← hm] at hkle
        have HP1 := hide P1
        have HKN := hide hkn
        have HMJ := hide hMj
        have HGC := hide hgc
        have HM := hide hm
        have HC := hide hc
        have HL := hide hl
        have HON := hide honly
        rw [← hm] at hxl
        clear P1 hkn hMj hgc hm hc hcl0 hfl hl hown honly
        go_wp2_with fail
        refine (CT.out _).mono ?_
        rintro e w1 ⟨rfl, hb1⟩
        -- the second store
        have O1 := HP1.out.1.below hb1
        have P2 := O1.setS j hlt (L3.mkT (c + 1))
        rw [getD_set_self N j _ (by rw [HL.out]; exact hlt), set_set] at P2
        simp only at P2
        have hfl1 : (flatC (N.set j (⟨c, (N.getD j eV).1.s, (N.getD j eV).1.x⟩, (N.getD j eV).2))).length = n * 3 := by rw [flatC_len]; simp; rw [HL.out]
        have hcl1 := O1.row.cellAt (j * 3 + 1) (by omega)
        have hfr1 := O1.row.frozenAt (j * 3 + 1)
        obtain ⟨v1, hv1⟩ : ∃ v, w1.cell? ⟨g, j * 3 + 1, none⟩ = some v := ⟨_, hcl1.trans (List.getElem?_eq_getElem (by omega))⟩
        -- the Index
        have hidx := P2.1.idx j hlt
        rw [getD_set_self N j _ (by rw [HL.out]; exact hlt)] at hidx
        simp only at hidx
        rw [HMJ.out, HGC.out, ← HM.out] at hidx
        obtain ⟨ai, ci, hvi, _, _⟩ := own_form hidx
        have hcl2 := P2.1.row.cellAt (j * 3 + 2) (by omega)
        have hg3 := (flatC_get (N.set j (⟨c, L3.mkT (c + 1), (N.getD j eV).1.x⟩, (N.getD j eV).2)) j (by simp; rw [HL.out]; exact hlt)).2.2
        rw [getD_set_self N j _ (by rw [HL.out]; exact hlt)] at hg3
        simp only at hg3
        have hk2 := hcl2.trans hg3
        rw [HMJ.out, hvi] at hk2
        have CX := hide (L4.markIntS_from base (.slice ai m ci) (gc L j).x m (w1.setCell ⟨g, j * 3 + 1, none⟩ (.string (L3.mkT (c + 1)))) (c + 1 + 1) (by omega) (by omega) (by omega) (by rw [hvi] at hidx; exact hidx))
        have HP2 := hide P2
        have HVI := hide hvi
        have HB1 := hide hb1
        clear P2 O1 hcl1 hcl2 hfl1 hidx hg3 hvi hb1
        go_wp2_with fail
        refine CX.out.mono ?_
        rintro e w2 ⟨rfl, ho2, hb2, hg2⟩
        have hblk : (N.getD j eV).2 = .slice ai m ci := by rw [HMJ.out]; exact HVI.out
        have O3 := HP2.out.1.setX j hlt (L4.mkC (c + 1 + 1) m) (by
          rw [getD_set_self N j _ (by rw [HL.out]; exact hlt)]
          show w2.ownsRow base _ 1 (N.getD j eV).2 _ _
          rw [hblk, L4.mkC_len]
          exact ho2) (by
          rw [getD_set_self N j _ (by rw [HL.out]; exact hlt)]
          show World.grownBy _ _ (N.getD j eV).2.ownBlock
          rw [hblk]
          exact hg2)
        rw [getD_set_self N j _ (by rw [HL.out]; exact hlt), set_set] at O3
        simp only at O3
        have ON3 := ((((HON.out.grown HP1.out.2 (fun q hq => by cases hq; exact hgr)).grown (r := none) (grown_below HB1.out) (fun q hq => by cases hq)).grown HP2.out.2 (fun q hq => by cases hq; exact hgr)).grown hg2 (fun q hq => by
          have h1 := (own_ltC (O.out.idx j hlt) q (by rw [HVI.out]; exact hq)).1
          have h2 := HI.out.idx j hlt q (by rw [HVI.out]; exact hq)
          exact ⟨h1, h2⟩))
        have R : ∃ (j' : Nat) (N' : List PV), j' ≤ n ∧ Value.int .i64 ((j : Int) + 1) = .int .i64 j' ∧ Value.int .i64 (c + 1 + 1 + (m : Int)) = .int .i64 (kat L j') ∧ Hid (∀ t, t < j' → (N'.getD t eV).1 = mkp L t) ∧ Hid (∀ t, j' ≤ t → t < n → N'.getD t eV = M.getD t eV) ∧ Hid (∀ t, t < n → (N'.getD t eV).2 = (M.getD t eV).2) ∧ OwC w2 base (.slice (some ⟨g, 0, none⟩) n cap) n N' ∧ Only base hi w w2 := by
          refine ⟨j + 1, _, by omega, by simp, ?_, fun t ht => ?_, fun t h1 h2 => ?_, fun t ht => ?_, O3, ON3⟩
          · rw [HKN.out, ← HM.out]
            congr 1
            omega
          · by_cases e : t = j
            · subst e
              rw [getD_set_self N t _ (by rw [HL.out]; exact hlt)]
              show (⟨c, L3.mkT (c + 1), L4.mkC (c + 1 + 1) m⟩ : Pc) = mkp L t
              unfold mkp
              rw [← HC.out, ← HM.out, show c + 1 + 1 = c + 2 by omega]
            · rw [getD_set_ne N j t _ e]
              exact H1.out t (by omega)
          · rw [getD_set_ne N j t _ (by omega)]
            exact H2.out t (by omega) h2
          · by_cases e : t = j
            · subst e
              rw [getD_set_self N t _ (by rw [HL.out]; exact hlt)]
              exact H3.out t ht
            · rw [getD_set_ne N j t _ e]
              exact H3.out t ht
        have HR := hide R
        clear R O3 ON3 ho2 hb2 hg2 hblk
        go_wp2
        go_roundw
        case rel => exact HR.out
        case measure => simp [intOf]; omega
      · obtain rfl : j = n := by omega
        have hltI : ¬ (j : Int) < (j : Int) := by omega
        have E : pcs N = mks L := by
          refine list_sameC hown.len (by rw [mks_len]; exact HLN.out) (fun t ht => ?_)
          rw [mks_get L t (by rw [HLN.out]; exact ht)]
          exact H1.out t ht
        obtain ⟨c, hc⟩ : ∃ c, c = kat L j := ⟨_, rfl⟩
        rw [← hc]
        have HC := hide hc
        have HE := hide E
        have HO := hide hown
        have HON := hide honly
        clear E hown honly hc
        go_wp2
        go_ret
        exact ⟨by rw [← HC.out]; rfl, ⟨N, HE.out, HO.out⟩, HON.out⟩

set_option maxRecDepth 100000 in
set_option maxHeartbeats 1000000 in
theorem markLog_any (base hi : Nat) (v : Value) (n : Nat) (M : List PV) (L : List Pc) (B : Int) (w : World) (hML : pcs M = L) (hn2 : n ≤ 1048576) (hk : ∀ i, i ≤ n → kat L i ≤ 2147483648) (hX : ∀ i, i < n → (gc L i).x.length ≤ 1048576) (hin : InC hi v n M) (ho : OwC w base v n M) :
    Calls Tryd.prog 12 #[.agg #[v, .int .i64 B], .int .i64 1] w fun e w' => e = .returned (.int .i64 (kat L n)) ∧ (∃ M', pcs M' = mks L ∧ OwC w' base v n M') ∧ Only base hi w w' := by
  have C := hide (fun wx (ho : OwC wx base v n M) => markPieceS_any base hi v n M L wx hML hn2 hk hX hin ho)
  have O := hide ho
  obtain ⟨a, cap, rfl, _⟩ := ho.form
  obtain ⟨c, hc⟩ : ∃ c, c = kat L n := ⟨_, rfl⟩
  rw [← hc] at C ⊢
  clear ho hML hk hX hin hc
  go_enter Tryd.func12, Tryd.ntmps12
  go_wp2_with fail
  refine (C.out _ (O.out.below ((Below.refl _ _).alloc (Nat.le_refl _) _))).mono ?_
  rintro e w1 ⟨rfl, hM, hon⟩
  have H := hide (And.intro hM (show Only base hi w w1 from ⟨hon.os, hon.tape, hon.output, Nat.le_trans (by simp) hon.size, fun k hk ho => (hon.block k (by simp; omega) ho).trans (((Below.refl w.heap.size w).alloc (Nat.le_refl _) _).block k hk)⟩))
  clear hM hon
  go_wp2
  go_ret
  exact ⟨rfl, H.out⟩
end Go.Proofs.YtapffbbmofhpobaDoor.L6

namespace Go.Proofs.YtapffbbmofhpobaDoor.L6
open Go.RowKit L1
set_option linter.unusedVariables false

theorem kat_sz (L : List Pc) : ∀ i, i ≤ L.length → kat L i ≤ 1 + 2 * (i : Int) + (szc (L.take i) : Int)
  | 0, _ => by simp [kat, szc]
  | i + 1, hi => by
    have h1 := kat_sz L i (by omega)
    have h2 := szc_take L i (by omega)
    show kat L i + 2 + ((gc L i).x.length : Int) ≤ _
    have e : (gc L i).x.length = (L.getD i eC).x.length := rfl
    omega
theorem kat_few (L : List Pc) (h : L.length + szc L ≤ 1048576) : ∀ i, i ≤ L.length → kat L i ≤ 2147483648 := fun i hi => by
  have h1 := kat_sz L i hi
  have h2 := szc_le L i
  omega
end Go.Proofs.YtapffbbmofhpobaDoor.L6
