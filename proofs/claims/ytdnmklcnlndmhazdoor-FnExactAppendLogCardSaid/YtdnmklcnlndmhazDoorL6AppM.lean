/-
  Contract: impl.AppendLog where a piece more is put behind.
-/
import Derived.Test.YtdnmklcnlndmhazDoorL6AppI
import Derived.Test.YtdnmklcnlndmhazDoorL6SOwn
import Derived.Test.YtdnmklcnlndmhazDoorL6End
import Derived.Deep.RegionLaw
import Derived.Deep.AppendLies
namespace Go.Proofs.YtdnmklcnlndmhazDoor.L6
open Go.RowKit L1
set_option linter.unusedVariables false

theorem own_other {w : World} {base c n G : Nat} {t T : TypeId} {v : Value} {ys : List Value} {cs : Array Value} (h : w.ownsRow base t c v n ys) (hG : w.heap[G]? = some (.cells cs T (0, 0))) (ht : t ≠ T) : v.ownBlock ≠ some G := by
  rcases h.2 with ⟨hv, _⟩ | ⟨g, cap, cur, hv, _, hg, _⟩
  · rw [hv]; simp [Value.ownBlock]
  · rw [hv]
    intro e
    simp [Value.ownBlock] at e
    subst e
    rw [hg] at hG
    simp at hG
    exact ht hG.2
/-- A log's row stays where a box of another kind is written into. -/
theorem OwC.setB {w : World} {base n G j : Nat} {v u : Value} {M : List PV} {cs : Array Value} {T : TypeId} (h : OwC w base v n M) (hG : w.heap[G]? = some (.cells cs T (0, 0))) (h1 : 51 ≠ T) (h2 : 3 ≠ T) : OwC (w.setCell ⟨G, j, none⟩ u) base v n M := by
  have g7 : w.grownBy (w.setCell ⟨G, j, none⟩ u) (some G) := ⟨rfl, rfl, rfl, by simp, fun q hq hne => Below.heap_setCell _ _ _ _ (fun e => hne (by rw [e]))⟩
  exact ⟨h.len, own_keptC h.row g7 (fun q hq e => own_other h.row hG h1 (by rw [hq, ← e])), fun i hi => own_keptC (h.idx i hi) g7 (fun q hq e => own_other (h.idx i hi) hG h2 (by rw [hq, ← e])), h.apart⟩
theorem piece_log : 51 ≠ 29 := by decide
theorem int_log : 3 ≠ 29 := by decide
/-- The copy with a piece more. -/
structure MoreAt (w : World) (base go n : Nat) (B : Int) (M : List PV) (p : Pc) (wx : World) : Prop where
  own : ∃ g c u, OwC wx base (.slice (some ⟨g, 0, none⟩) (n + 1) c) (n + 1) (M ++ [(p, u)]) ∧ wx.heap[go]? = some (.cells #[.slice (some ⟨g, 0, none⟩) (n + 1) c, .int .i64 B] 29 (0, 0))
  bel : Below w.heap.size w wx
  res : wx.heap[w.heap.size + 1]? = some (.cells #[.slice none 0 0, .int .i64 0] 29 (0, 0))
theorem three_cells {wx w3 : World} {k : Nat} {a b c : Value} {t : TypeId} (h : wx.heap[k]? = some (.cells #[a, b, c] t (0, 0))) : ∀ j u, [a, b, c][j]? = some u → wx.cell? ((⟨k, 0, none⟩ : Addr).add j) = some u := by
  intro j u hj
  rw [addr_add]
  match j, hj with
  | 0, hj => simp at hj; subst hj; simp [World.cell?, h]
  | 1, hj => simp at hj; subst hj; simp [World.cell?, h]
  | 2, hj => simp at hj; subst hj; simp [World.cell?, h]
  | j + 3, hj => simp at hj

open Classical in
set_option maxRecDepth 100000 in
set_option maxHeartbeats 4000000 in
theorem implAppend_more (a : Option Addr) (L : List Pc) (n cap : Nat) (B : Int) (r : ByteArray) (w : World) (hn : L.length = n) (hm : n ≤ 9223372036854775807) (hs : SlC w a L) (hst : TxC L) (ht : Tab w) (hp : AppPre L B r) (hf : ¬ AppFits L r) (hfull : L.length ≠ 20) :
    Calls Tryd.prog 14 #[.agg #[.slice a n cap, .int .i64 B], .string r] w (RetL w (L ++ [⟨lastEnd L L.length, rec r, ix (rec r)⟩]) B true) := by
  obtain ⟨L', hL'⟩ : ∃ L', L' = L ++ [(⟨lastEnd L L.length, rec r, ix (rec r)⟩ : Pc)] := ⟨_, rfl⟩
  rw [← hL']
  have HL' := hide hL'
  clear hL'
  have hg := hp.1
  have hr20 := hp.2.1
  have h60 := hp.2.2
  rw [hn] at h60
  have C1 := hide (fun wx (hb : Below w.heap.size w wx) => goodLog_any a L n cap B wx hn hm (hs.below hb) hst (ht.below hb) true (by simp; exact hg))
  have hla := hg.logAt hn hs ht
  have C2 := hide (fun wx (hb : Below w.heap.size w wx) => recordsIn_any a L n cap B wx (hla.below hb))
  have C5 := hide (fun wx (hb : Below w.heap.size w wx) => endOf_any a L n cap B wx (hla.below hb))
  have hn1 : 1 ≤ n := hla.one
  have hn20 : n ≤ 20 := hla.few
  have hsm : ∀ i, i < n → (gc L i).x.length ≤ 60 := fun i hi => by
    have hgd := (hg.ps i (by omega)).1
    rw [hgd.2.2]
    exact ix_len60 hgd.1
  have C3 := hide (fun wx (hb : Below w.heap.size w wx) => putVarint_yes (r.size : Int) wx (by omega) (by omega) (ht.below hb))
  have C4 := hide (fun wx (hb : Below w.heap.size w wx) => copyLog_any a L n cap B wx hn hn1 hn20 (hs.below hb) hsm)
  obtain ⟨E0, hE0⟩ : ∃ E0, E0 = lastEnd L n - (gc L 0).f := ⟨_, rfl⟩
  rw [← hE0] at C2 h60
  have hE6 : (E0 == 60) = false := by simp only [beq_eq_false_iff_ne]; exact h60
  have hr20' : ¬ (20 : Int) < (r.size : Int) := by omega
  obtain ⟨P, hP⟩ : ∃ P, P = strOfNums (vd (zig (r.size : Int))) := ⟨_, rfl⟩
  rw [← hP] at C3
  obtain ⟨R, hR⟩ : ∃ R, R = rec r := ⟨_, rfl⟩
  have hPr : P ++ r = R := by rw [hR, hP]; rfl
  have hRs : R.size = 1 + r.size := by rw [hR]; exact rec_size r hr20
  have hPs : P.size + r.size = R.size := by rw [← hPr, ByteArray.size_append]
  have qa : ∀ w : World, (Op.stringOp .add P r).run Tryd.prog w = .ok (.string R) w := fun w => by rw [← hPr]; exact run_string_add_sum w _ _ (by omega)
  obtain ⟨E, hE⟩ : ∃ E, E = lastEnd L n := ⟨_, rfl⟩
  rw [← hE] at C5
  have HE := hide hE
  clear hE
  have HS := hide hs
  have HN := hide hn
  have HG := hide hg
  have HT := hide ht
  have HF := hide hf
  have HRR := hide hR
  clear hs hn hg hst ht hp hf hla hsm hE0 hP hR hPr
  go_enter Tryd.func14, Tryd.ntmps14
  go_wp2_with fail
  refine (C1.out _ (((Below.refl _ _).alloc (Nat.le_refl _) _).alloc (by simp) _)).mono ?_
  rintro e v1 ⟨rfl, hb1⟩
  have G1 : Hid (v1.heap[w.heap.size + 1]? = some (.cells #[.slice none 0 0, .int .i64 0] 29 (0, 0))) := (hb1.block (w.heap.size + 1) (by simp)).trans (blk_second w _ _)
  have H1 : Hid (v1.heap[w.heap.size]? = some (.cells #[.slice a n cap, .int .i64 B] 29 (0, 0))) := (hb1.block w.heap.size (by simp only [World.size_alloc]; omega)).trans (blk_first w _ _)
  obtain ⟨k0, k1, _, _⟩ := blkp H1.out
  have B1 := hide ((((Below.refl w.heap.size w).alloc (Nat.le_refl _) (.cells #[.slice a n cap, .int .i64 B] 29 (0, 0))).alloc (by simp) (.cells #[.slice none 0 0, .int .i64 0] 29 (0, 0))).trans (hb1.mono (by simp; omega)))
  clear hb1
  go_wp2_with fail
  refine (C2.out _ B1.out).mono ?_
  rintro e v2 ⟨rfl, hb2⟩
  have B2 := hide (B1.out.trans (hb2.mono B1.out.size))
  have hs1 : w.heap.size + 1 < v1.heap.size := (Array.getElem?_eq_some_iff.1 G1.out).1
  have hs2 := hb2.size
  have G2 : Hid (v2.heap[w.heap.size + 1]? = some (.cells #[.slice none 0 0, .int .i64 0] 29 (0, 0))) := (hb2.block _ hs1).trans G1.out
  have H2 : Hid (v2.heap[w.heap.size]? = some (.cells #[.slice a n cap, .int .i64 B] 29 (0, 0))) := (hb2.block _ (by omega)).trans H1.out
  clear k0 k1 hb2
  go_wp2_with fail
  refine (C3.out _ B2.out).mono ?_
  rintro e w0 ⟨rfl, hb3⟩
  have B3 := hide (B2.out.trans (hb3.mono B2.out.size))
  have hs3 := hb3.size
  have G3 : Hid (w0.heap[w.heap.size + 1]? = some (.cells #[.slice none 0 0, .int .i64 0] 29 (0, 0))) := (hb3.block _ (by omega)).trans G2.out
  have H3 : Hid (w0.heap[w.heap.size]? = some (.cells #[.slice a n cap, .int .i64 B] 29 (0, 0))) := (hb3.block _ (by omega)).trans H2.out
  obtain ⟨k0, k1, _, _⟩ := blkp H3.out
  clear hb3
  go_wp2_with fail
  refine (C4.out _ B3.out).mono ?_
  rintro e w1 ⟨g, M, rfl, hM, ho, hb4⟩
  have B4 := hide (B3.out.trans (hb4.mono B3.out.size))
  have hs4 := hb4.size
  have G4 : Hid (w1.heap[w.heap.size + 1]? = some (.cells #[.slice none 0 0, .int .i64 0] 29 (0, 0))) := (hb4.block _ (by omega)).trans G3.out
  have hgb := own_ltC ho.row g rfl
  have hml := ho.len
  obtain ⟨m, hm'⟩ : ∃ m, m = n - 1 := ⟨_, rfl⟩
  have hnm : (n : Int) - 1 = (m : Int) := by omega
  have hmn : (m : Int) < (n : Int) := by omega
  have hm0 : (0 : Int) ≤ (m : Int) := by omega
  have hmN : m < n := by omega
  obtain ⟨f1, f2, f3⟩ := flatC_get M m (by omega)
  have hp1 : (M.getD m eV).1 = gc L m := by
    have := pcs_get M m (by omega)
    rw [hM] at this
    exact this.symm
  rw [hp1] at f1 f2
  have hfl : (flatC M).length = n * 3 := by rw [flatC_len, hml]
  have d1 := (ho.row.cellAt (m * 3) (by omega)).trans f1
  have d2 := (ho.row.cellAt (m * 3 + 1) (by omega)).trans f2
  have hlp : endP L = gc L m := by show gc L (L.length - 1) = _; rw [HN.out, hm']
  have hgp := (HG.out.ps m (by rw [HN.out]; exact hmN)).1
  have hfit := HF.out
  unfold AppFits at hfit
  rw [hlp] at hfit
  obtain ⟨p, hp⟩ : ∃ p, p = gc L m := ⟨_, rfl⟩
  rw [← hp] at d1 d2 hlp hfit hgp
  obtain ⟨f, s, x⟩ := p
  simp only at d1 d2 hfit
  obtain ⟨Y, hY⟩ : ∃ Y, Y = s ++ R := ⟨_, rfl⟩
  have hYs : Y.size = s.size + R.size := by rw [hY, ByteArray.size_append]
  have q2 : ∀ w : World, (Op.stringOp .add s R).run Tryd.prog w = .ok (.string Y) w := fun w => by rw [hY]; exact run_string_add_sum w _ _ (by have := hgp.1; simp only at this; omega)
  have hY60 : ¬ (Y.size : Int) ≤ 60 := by omega
  have hnn : ((n : Int) == 20) = false := by have := HN.out; simp; omega
  generalize hW : w1.alloc (.cells #[.slice (some ⟨g, 0, none⟩) n n, .int .i64 B] 29 (0, 0)) = W
  have BW : Below w1.heap.size w1 W := by rw [← hW]; exact (Below.refl _ _).alloc (Nat.le_refl _) _
  have GO : Hid (W.heap[w1.heap.size]? = some (.cells #[.slice (some ⟨g, 0, none⟩) n n, .int .i64 B] 29 (0, 0))) := by show _ = _; rw [← hW]; exact blk_new _ _
  obtain ⟨o0, o1, o2, o3⟩ := blkp GO.out
  have G5 : Hid (W.heap[w.heap.size + 1]? = some (.cells #[.slice none 0 0, .int .i64 0] 29 (0, 0))) := (BW.block _ (by omega)).trans G4.out
  have e1 := (BW.cell (p := ⟨g, m * 3, none⟩) (blk_lt d1)).trans d1
  have e2 := (BW.cell (p := ⟨g, m * 3 + 1, none⟩) (blk_lt d2)).trans d2
  have B5 := hide (B4.out.trans (BW.mono B4.out.size))
  have HO5 := hide (ho.below BW)
  have HM := hide hM
  have HLP := hide hlp
  have HYY := hide hY
  have hwW : w1.heap.size < W.heap.size := (Array.getElem?_eq_some_iff.1 GO.out).1
  have H5 : Hid (W.heap[w.heap.size]? = some (.cells #[.slice a n cap, .int .i64 B] 29 (0, 0))) := (BW.block _ (by omega)).trans ((hb4.block _ (by omega)).trans H3.out)
  obtain ⟨z0, z1, z2, z3⟩ := blkp G5.out
  obtain ⟨y0, y1, _, _⟩ := blkp H5.out
  have HW := hide hW
  have hwr := rec_whole hr20
  rw [← HRR.out] at hwr
  have HWR := hide hwr
  clear hwr
  clear hW BW ho hM hlp hp1 f1 f2 f3 hfl hgp hY hfit hb4 hm' hml hp d1 d2 k0 k1
  go_upto_region 13 with (first | (rw [HW.out]) | fail)
  first | rw [HW.out] | skip
  obtain ⟨i0, hi, hz0, hz1, hz2⟩ := info_parts info_piece
  obtain ⟨N, hN⟩ : ∃ N, N = (ix R).length := ⟨_, rfl⟩
  have CE := hide (fun wx (hb : Below W.heap.size W wx) => (C5.out wx (B5.out.trans (hb.mono B5.out.size))).mono (R' := fun e w2 => e = .returned (.int .i64 E) ∧ Below W.heap.size W w2 ∧ w2.cell? ⟨w1.heap.size, 0, none⟩ = some (.slice (some ⟨g, 0, none⟩) n n)) (by
    rintro e w2 ⟨rfl, hb2⟩
    have hb3 := hb.trans (hb2.mono hb.size)
    exact ⟨rfl, hb3, (hb3.cell (p := ⟨w1.heap.size, 0, none⟩) hwW).trans o0⟩))
  have C6 := hide (fun wx (hb : Below W.heap.size W wx) => (wholePiece_any E R wx (by omega) (HT.out.below (B5.out.trans (hb.mono B5.out.size)))).mono (R' := fun e w2 => ∃ a2 q2, e = .returned (.agg #[.int .i64 E, .string R, .slice a2 N q2]) ∧ (w2.ownsRow W.heap.size 3 1 (.slice a2 N q2) N ((ix R).map (Value.int .i64)) ∧ Below W.heap.size W w2) ∧ w2.cell? ⟨w1.heap.size, 0, none⟩ = some (.slice (some ⟨g, 0, none⟩) n n) ∧ ∀ ob, (w2.alloc ob).cell? ⟨w1.heap.size, 0, none⟩ = some (.slice (some ⟨g, 0, none⟩) n n)) (by
    rintro e w2 ⟨v2, rfl, ho2, hb2⟩
    have hb3 := hb.trans (hb2.mono hb.size)
    rw [← hN] at ho2
    obtain ⟨a2, q2, rfl, _, _⟩ := own_form ho2
    rw [HWR.out.1]
    have hc := (hb3.cell (p := ⟨w1.heap.size, 0, none⟩) hwW).trans o0
    exact ⟨a2, q2, rfl, ⟨own_baseC ho2 hb.size, hb3⟩, hc, fun ob => Go.Lib.cell?_alloc_some ob hc⟩))
  have HNN := hide hN
  have hw0W : w0.heap.size ≤ W.heap.size := by omega
  have hgW : g < w1.heap.size := hgb.2
  have PP : Hid (∀ w3 a2 q2 g4 c4 w4, (w3.ownsRow W.heap.size 3 1 (.slice a2 N q2) N ((ix R).map (Value.int .i64)) ∧ Below W.heap.size W w3) → w4.ownsRow w0.heap.size 51 3 (.slice (some ⟨g4, 0, none⟩) (n + 1) c4) (n + 1) (flatC M ++ [.int .i64 E, .string R, .slice a2 N q2]) → (w3.alloc (.cells #[.int .i64 E, .string R, .slice a2 N q2] 51 (0, 0))).grownBy w4 (some g) → MoreAt w w0.heap.size w1.heap.size n B M ⟨E, R, ix R⟩ (w4.setCell ⟨w1.heap.size, 0, none⟩ (.slice (some ⟨g4, 0, none⟩) (n + 1) c4)) ∧ w4.cell? ⟨w1.heap.size, 0, none⟩ = some (.slice (some ⟨g, 0, none⟩) n n) ∧ w4.frozen? ⟨w1.heap.size, 0, none⟩ = false) := by
    intro w3 a2 q2 g4 c4 w4 h h4 hg4
    have hs9 := h.2.size
    have hal : Below w3.heap.size w3 (w3.alloc (.cells #[.int .i64 E, .string R, .slice a2 N q2] 51 (0, 0))) := (Below.refl _ _).alloc (Nat.le_refl _) _
    have hba := h.2.trans (hal.mono hs9)
    have hblk : ∀ q, q < W.heap.size → q ≠ g → w4.heap[q]? = W.heap[q]? := fun q hq hne => (hg4.block q (by simp; omega) (by simp; omega)).trans (hba.block q hq)
    have hGo := (hblk w1.heap.size hwW (by omega)).trans GO.out
    have O4 := ((HO5.out.below h.2).below hal).more (w' := w4) (p := ⟨E, R, ix R⟩) (u := .slice a2 N q2) (by show World.ownsRow _ _ _ _ _ (ix R).length _; rw [← HNN.out]; exact own_baseC (own_belowC h.1 hal) hw0W) (fun i hi bb hbb e => by
      have h1 := (own_ltC h.1 bb hbb).1
      have h2 := (own_ltC (HO5.out.idx i hi) bb e).2
      omega) hg4 h4
    have B9 : Below w.heap.size w w4 := ⟨hg4.os.trans (hba.os.trans B5.out.os), hg4.tape.trans (hba.tape.trans B5.out.tape), hg4.output.trans (hba.output.trans B5.out.output), by have := hg4.size; simp at this; have := B5.out.size; omega, fun q hq => (hblk q (by have := B5.out.size; omega) (by omega)).trans (B5.out.block q hq)⟩
    obtain ⟨r0, _, r2, _⟩ := blkp hGo
    refine ⟨⟨⟨g4, c4, .slice a2 N q2, O4.setB hGo piece_log int_log, ?_⟩, B9.setCell (p := ⟨w1.heap.size, 0, none⟩) (by show w.heap.size ≤ w1.heap.size; omega) _, (Below.heap_setCell _ _ _ _ (show w.heap.size + 1 ≠ w1.heap.size by omega)).trans ((hblk (w.heap.size + 1) (by omega) (by omega)).trans G5.out)⟩, r0, r2⟩
    rw [setCell_eq_setRow w4 w1.heap.size 0 _ 29 (0, 0) _ hGo, setRow_heap w4 w1.heap.size _ _ 29 _ hGo]
    rfl
  have HROW := hide HO5.out.row
  clear hN C1 C2 C3 C4 C5
  go_cut [10] (fun t wx => t = .int .i64 m ∧ MoreAt w w0.heap.size w1.heap.size n B M ⟨E, R, ix R⟩ wx)
  case first =>
    go_region_law (first
      | (rw [if_pos (by rfl)]; go_simp; go_at_call 39; refine (CE.out _ ?_).mono ?_; (first | exact Below.refl _ _ | exact (Below.refl _ _).drew | exact ((Below.refl _ _).drew).drew); rintro e w2 ⟨rfl, hb2, c2⟩; dsimp only)
      | (rw [if_pos (by rfl)]; go_simp; go_at_call 38; refine (C6.out _ ?_).mono ?_; (first | exact hb2 | exact hb2.drew | exact (hb2.drew).drew); rintro e w3 ⟨a2, q2, rfl, ho3, c3, c3a⟩; dsimp only)
      | (refine step_append_lies _ rfl (.tmp 71) (.tmp 76) 27 rfl w0.heap.size 51 i0 (.agg #[.int .i64 0, .string ByteArray.empty, .slice none 0 0]) 3 48 Tryd.underlying27 hi hz0 hz1 hz2 rfl (by decide) (.slice (some ⟨g, 0, none⟩) n n) n (flatC M) rfl (own_belowC HROW.out (ho3.2.trans (((Below.refl _ _).alloc (Nat.le_refl _) _).mono ho3.2.size))) ⟨w3.heap.size, 0, none⟩ 1 1 [.int .i64 E, .string R, .slice a2 N q2] rfl rfl (cell_three_new w3 _ rfl _ _ _ _) (by intro u hu; simp at hu; rcases hu with rfl | rfl | rfl <;> rfl) (by decide) (by unfold maxLen; omega) (by omega) (Nat.le_trans hw0W (Nat.le_trans ho3.2.size (by show w3.heap.size ≤ (w3.alloc _).heap.size; simp))) _ rfl ?_; intro g4 c4 w4 h4 hg4 _ _; obtain ⟨pp, r0, r2⟩ := PP.out w3 a2 q2 g4 c4 w4 ho3 h4 hg4))
    all_goals (
      go_wp2_with fail
      go_meet
      case rel => exact ⟨rfl, pp⟩)
  case rest =>
    obtain ⟨rfl, hta⟩ := hcut
    obtain ⟨g4, c4, u, hown, hout⟩ := hta.own
    have hpc : pcs (M ++ [((⟨E, R, ix R⟩ : Pc), u)]) = L ++ [⟨E, R, ix R⟩] := by rw [← HM.out]; show List.map _ _ = _; rw [List.map_append]; rfl
    have hL2 : L' = L ++ [⟨E, R, ix R⟩] := by rw [HL'.out, HN.out, HE.out, HRR.out]
    have hlen2 : L'.length = n + 1 := by rw [hL2]; simp [HN.out]
    have HL2 := hide hL2
    have HLN := hide hlen2
    have HPC := hide hpc
    have HOW := hide hown
    have HTA := hide hta
    clear z0 z1 z2 z3 o0 o1 o2 o3 e1 e2 y0 y1
    obtain ⟨z0, z1, z2, z3⟩ := blkp hta.res
    obtain ⟨o0, o1, _, _⟩ := blkp hout
    have hlt0 : w.heap.size + 1 < w0.heap.size := by omega
    clear hta hown hpc hlen2 hL2 C6 PP CE hout
    go_wp2
    refine bodyPost_ret (v := .tuple #[.agg #[.slice (some ⟨g4, 0, none⟩) (n + 1) c4, .int .i64 B], .bool true]) (by simp [results, Tryd.f14, go_sem, z0, z1]) rfl ⟨some ⟨g4, 0, none⟩, c4, by rw [HLN.out], _, by rw [HL2.out]; exact HPC.out, ?_, ?_⟩
    · rw [HLN.out]
      exact ((HOW.out.setC ⟨_, _, none⟩ _ hlt0).setC ⟨_, _, none⟩ _ hlt0).base (by omega)
    · exact (HTA.out.bel.setCell (p := ⟨_, _, none⟩) (Nat.le_succ _) _).setCell (p := ⟨_, _, none⟩) (Nat.le_succ _) _
end Go.Proofs.YtdnmklcnlndmhazDoor.L6
