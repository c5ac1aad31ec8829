/-
  Contract: impl.AppendLog where a piece more is put behind.
  What stands behind spec.l6Append's writing.
  Contract: spec.l6Append where the last piece has room.
  Contract: spec.l6Append where no piece is left.
  Contract: spec.l6Append where a piece more is put behind.
  Contract: spec.AppendLog.
  Contract: spec.EndOf.
  A log that is being drawn: the cursor, the box that holds it, its memory; and the contracts of a record put behind and of what is dropped ahead, said of it.
-/
import Derived.Test.YtbcljhafdpnjbabDoorBundle8
import Derived.Test.YtbcljhafdpnjbabDoorBundle5
import Derived.Deep.RegionLaw
import Derived.Deep.AppendLies
import Derived.Test.YtbcljhafdpnjbabDoorBundle6
namespace Go.Proofs.YtbcljhafdpnjbabDoor.L6
open Go.RowKit L1
set_option linter.unusedVariables false

theorem own_other {w : World} {base c n G : Nat} {t T : TypeId} {v : Value} {ys : List Value} {cs : Array Value} (h : w.ownsRow base t c v n ys) (hG : w.heap[G]? = some (.cells cs T (0, 0))) (ht : t ≠ T) : v.ownBlock ≠ some G := by
  rcases h.2 with ⟨hv, _⟩ | ⟨g, cap, cur, hv, _, hg, _⟩
  · rw [hv]; simp [Value.ownBlock]
  · rw [hv]
    intro e
    simp [Value.ownBlock] at e
    subst e
    rw [hg] at hG
    simp at hG
    exact ht hG.2
/-- A log's row stays where a box of another kind is written into. -/
theorem OwC.setB {w : World} {base n G j : Nat} {v u : Value} {M : List PV} {cs : Array Value} {T : TypeId} (h : OwC w base v n M) (hG : w.heap[G]? = some (.cells cs T (0, 0))) (h1 : 50 ≠ T) (h2 : 3 ≠ T) : OwC (w.setCell ⟨G, j, none⟩ u) base v n M := by
  have g7 : w.grownBy (w.setCell ⟨G, j, none⟩ u) (some G) := ⟨rfl, rfl, rfl, by simp, fun q hq hne => Below.heap_setCell _ _ _ _ (fun e => hne (by rw [e]))⟩
  exact ⟨h.len, own_keptC h.row g7 (fun q hq e => own_other h.row hG h1 (by rw [hq, ← e])), fun i hi => own_keptC (h.idx i hi) g7 (fun q hq e => own_other (h.idx i hi) hG h2 (by rw [hq, ← e])), h.apart⟩
theorem piece_log : 50 ≠ 25 := by decide
theorem int_log : 3 ≠ 25 := by decide
/-- The copy with a piece more. -/
structure MoreAt (w : World) (base go n : Nat) (B : Int) (M : List PV) (p : Pc) (wx : World) : Prop where
  own : ∃ g c u, OwC wx base (.slice (some ⟨g, 0, none⟩) (n + 1) c) (n + 1) (M ++ [(p, u)]) ∧ wx.heap[go]? = some (.cells #[.slice (some ⟨g, 0, none⟩) (n + 1) c, .int .i64 B] 25 (0, 0))
  bel : Below w.heap.size w wx
  res : wx.heap[w.heap.size + 1]? = some (.cells #[.slice none 0 0, .int .i64 0] 25 (0, 0))
theorem three_cells {wx w3 : World} {k : Nat} {a b c : Value} {t : TypeId} (h : wx.heap[k]? = some (.cells #[a, b, c] t (0, 0))) : ∀ j u, [a, b, c][j]? = some u → wx.cell? ((⟨k, 0, none⟩ : Addr).add j) = some u := by
  intro j u hj
  rw [addr_add]
  match j, hj with
  | 0, hj => simp at hj; subst hj; simp [World.cell?, h]
  | 1, hj => simp at hj; subst hj; simp [World.cell?, h]
  | 2, hj => simp at hj; subst hj; simp [World.cell?, h]
  | j + 3, hj => simp at hj

open Classical in
set_option maxRecDepth 100000 in
set_option maxHeartbeats 4000000 in
theorem implAppend_more (a : Option Addr) (L : List Pc) (n cap : Nat) (B : Int) (r : ByteArray) (w : World) (hn : L.length = n) (hm : n ≤ 9223372036854775807) (hs : SlC w a L) (hst : TxC L) (ht : Tab w) (hp : AppPre L B r) (hf : ¬ AppFits L r) (hfull : L.length ≠ 20) :
    Calls Tryd.prog 6 #[.agg #[.slice a n cap, .int .i64 B], .string r] w (RetL w (L ++ [⟨lastEnd L L.length, rec r, ix (rec r)⟩]) B true) := by
  obtain ⟨L', hL'⟩ : ∃ L', L' = L ++ [(⟨lastEnd L L.length, rec r, ix (rec r)⟩ : Pc)] := ⟨_, rfl⟩
  rw [← hL']
  have HL' := hide hL'
  clear hL'
  have hg := hp.1
  have hr20 := hp.2.1
  have h60 := hp.2.2
  rw [hn] at h60
  have C1 := hide (fun wx (hb : Below w.heap.size w wx) => goodLog_any a L n cap B wx hn hm (hs.below hb) hst (ht.below hb) true (by simp; exact hg))
  have hla := hg.logAt hn hs ht
  have C2 := hide (fun wx (hb : Below w.heap.size w wx) => recordsIn_any a L n cap B wx (hla.below hb))
  have C5 := hide (fun wx (hb : Below w.heap.size w wx) => endOf_any a L n cap B wx (hla.below hb))
  have hn1 : 1 ≤ n := hla.one
  have hn20 : n ≤ 20 := hla.few
  have hsm : ∀ i, i < n → (gc L i).x.length ≤ 60 := fun i hi => by
    have hgd := (hg.ps i (by omega)).1
    rw [hgd.2.2]
    exact ix_len60 hgd.1
  have C3 := hide (fun wx (hb : Below w.heap.size w wx) => putVarint_yes (r.size : Int) wx (by omega) (by omega) (ht.below hb))
  have C4 := hide (fun wx (hb : Below w.heap.size w wx) => copyLog_any a L n cap B wx hn hn1 hn20 (hs.below hb) hsm)
  obtain ⟨E0, hE0⟩ : ∃ E0, E0 = lastEnd L n - (gc L 0).f := ⟨_, rfl⟩
  rw [← hE0] at C2 h60
  have hE6 : (E0 == 60) = false := by simp only [beq_eq_false_iff_ne]; exact h60
  have hr20' : ¬ (20 : Int) < (r.size : Int) := by omega
  obtain ⟨P, hP⟩ : ∃ P, P = strOfNums (vd (zig (r.size : Int))) := ⟨_, rfl⟩
  rw [← hP] at C3
  obtain ⟨R, hR⟩ : ∃ R, R = rec r := ⟨_, rfl⟩
  have hPr : P ++ r = R := by rw [hR, hP]; rfl
  have hRs : R.size = 1 + r.size := by rw [hR]; exact rec_size r hr20
  have hPs : P.size + r.size = R.size := by rw [← hPr, ByteArray.size_append]
  have qa : ∀ w : World, (Op.stringOp .add P r).run Tryd.prog w = .ok (.string R) w := fun w => by rw [← hPr]; exact run_string_add_sum w _ _ (by omega)
  obtain ⟨E, hE⟩ : ∃ E, E = lastEnd L n := ⟨_, rfl⟩
  rw [← hE] at C5
  have HE := hide hE
  clear hE
  have HS := hide hs
  have HN := hide hn
  have HG := hide hg
  have HT := hide ht
  have HF := hide hf
  have HRR := hide hR
  clear hs hn hg hst ht hp hf hla hsm hE0 hP hR hPr
  go_enter Tryd.func6, Tryd.ntmps6
  go_wp2_with fail
  refine (C1.out _ (((Below.refl _ _).alloc (Nat.le_refl _) _).alloc (by simp) _)).mono ?_
  rintro e v1 ⟨rfl, hb1⟩
  have G1 : Hid (v1.heap[w.heap.size + 1]? = some (.cells #[.slice none 0 0, .int .i64 0] 25 (0, 0))) := (hb1.block (w.heap.size + 1) (by simp)).trans (blk_second w _ _)
  have H1 : Hid (v1.heap[w.heap.size]? = some (.cells #[.slice a n cap, .int .i64 B] 25 (0, 0))) := (hb1.block w.heap.size (by simp only [World.size_alloc]; omega)).trans (blk_first w _ _)
  obtain ⟨k0, k1, _, _⟩ := blkp H1.out
  have B1 := hide ((((Below.refl w.heap.size w).alloc (Nat.le_refl _) (.cells #[.slice a n cap, .int .i64 B] 25 (0, 0))).alloc (by simp) (.cells #[.slice none 0 0, .int .i64 0] 25 (0, 0))).trans (hb1.mono (by simp; omega)))
  clear hb1
  go_wp2_with fail
  refine (C2.out _ B1.out).mono ?_
  rintro e v2 ⟨rfl, hb2⟩
  have B2 := hide (B1.out.trans (hb2.mono B1.out.size))
  have hs1 : w.heap.size + 1 < v1.heap.size := (Array.getElem?_eq_some_iff.1 G1.out).1
  have hs2 := hb2.size
  have G2 : Hid (v2.heap[w.heap.size + 1]? = some (.cells #[.slice none 0 0, .int .i64 0] 25 (0, 0))) := (hb2.block _ hs1).trans G1.out
  have H2 : Hid (v2.heap[w.heap.size]? = some (.cells #[.slice a n cap, .int .i64 B] 25 (0, 0))) := (hb2.block _ (by omega)).trans H1.out
  clear k0 k1 hb2
  go_wp2_with fail
  refine (C3.out _ B2.out).mono ?_
  rintro e w0 ⟨rfl, hb3⟩
  have B3 := hide (B2.out.trans (hb3.mono B2.out.size))
  have hs3 := hb3.size
  have G3 : Hid (w0.heap[w.heap.size + 1]? = some (.cells #[.slice none 0 0, .int .i64 0] 25 (0, 0))) := (hb3.block _ (by omega)).trans G2.out
  have H3 : Hid (w0.heap[w.heap.size]? = some (.cells #[.slice a n cap, .int .i64 B] 25 (0, 0))) := (hb3.block _ (by omega)).trans H2.out
  obtain ⟨k0, k1, _, _⟩ := blkp H3.out
  clear hb3
  go_wp2_with fail
  refine (C4.out _ B3.out).mono ?_
  rintro e w1 ⟨g, M, rfl, hM, ho, hb4⟩
  have B4 := hide (B3.out.trans (hb4.mono B3.out.size))
  have hs4 := hb4.size
  have G4 : Hid (w1.heap[w.heap.size + 1]? = some (.cells #[.slice none 0 0, .int .i64 0] 25 (0, 0))) := (hb4.block _ (by omega)).trans G3.out
  have hgb := own_ltC ho.row g rfl
  have hml := ho.len
  obtain ⟨m, hm'⟩ : ∃ m, m = n - 1 := ⟨_, rfl⟩
  have hnm : (n : Int) - 1 = (m : Int) := by omega
  have hmn : (m : Int) < (n : Int) := by omega
  have hm0 : (0 : Int) ≤ (m : Int) := by omega
  have hmN : m < n := by omega
  obtain ⟨f1, f2, f3⟩ := flatC_get M m (by omega)
  have hp1 : (M.getD m eV).1 = gc L m := by
    have := pcs_get M m (by omega)
    rw [hM] at this
    exact this.symm
  rw [hp1] at f1 f2
  have hfl : (flatC M).length = n * 3 := by rw [flatC_len, hml]
  have d1 := (ho.row.cellAt (m * 3) (by omega)).trans f1
  have d2 := (ho.row.cellAt (m * 3 + 1) (by omega)).trans f2
  have hlp : endP L = gc L m := by show gc L (L.length - 1) = _; rw [HN.out, hm']
  have hgp := (HG.out.ps m (by rw [HN.out]; exact hmN)).1
  have hfit := HF.out
  unfold AppFits at hfit
  rw [hlp] at hfit
  obtain ⟨p, hp⟩ : ∃ p, p = gc L m := ⟨_, rfl⟩
  rw [← hp] at d1 d2 hlp hfit hgp
  obtain ⟨f, s, x⟩ := p
  simp only at d1 d2 hfit
  obtain ⟨Y, hY⟩ : ∃ Y, Y = s ++ R := ⟨_, rfl⟩
  have hYs : Y.size = s.size + R.size := by rw [hY, ByteArray.size_append]
  have q2 : ∀ w : World, (Op.stringOp .add s R).run Tryd.prog w = .ok (.string Y) w := fun w => by rw [hY]; exact run_string_add_sum w _ _ (by have := hgp.1; simp only at this; omega)
  have hY60 : ¬ (Y.size : Int) ≤ 60 := by omega
  have hnn : ((n : Int) == 20) = false := by have := HN.out; simp; omega
  generalize hW : w1.alloc (.cells #[.slice (some ⟨g, 0, none⟩) n n, .int .i64 B] 25 (0, 0)) = W
  have BW : Below w1.heap.size w1 W := by rw [← hW]; exact (Below.refl _ _).alloc (Nat.le_refl _) _
  have GO : Hid (W.heap[w1.heap.size]? = some (.cells #[.slice (some ⟨g, 0, none⟩) n n, .int .i64 B] 25 (0, 0))) := by show _ = _; rw [← hW]; exact blk_new _ _
  obtain ⟨o0, o1, o2, o3⟩ := blkp GO.out
  have G5 : Hid (W.heap[w.heap.size + 1]? = some (.cells #[.slice none 0 0, .int .i64 0] 25 (0, 0))) := (BW.block _ (by omega)).trans G4.out
  have e1 := (BW.cell (p := ⟨g, m * 3, none⟩) (blk_lt d1)).trans d1
  have e2 := (BW.cell (p := ⟨g, m * 3 + 1, none⟩) (blk_lt d2)).trans d2
  have B5 := hide (B4.out.trans (BW.mono B4.out.size))
  have HO5 := hide (ho.below BW)
  have HM := hide hM
  have HLP := hide hlp
  have HYY := hide hY
  have hwW : w1.heap.size < W.heap.size := (Array.getElem?_eq_some_iff.1 GO.out).1
  have H5 : Hid (W.heap[w.heap.size]? = some (.cells #[.slice a n cap, .int .i64 B] 25 (0, 0))) := (BW.block _ (by omega)).trans ((hb4.block _ (by omega)).trans H3.out)
  obtain ⟨z0, z1, z2, z3⟩ := blkp G5.out
  obtain ⟨y0, y1, _, _⟩ := blkp H5.out
  have HW := hide hW
  have hwr := rec_whole hr20
  rw [← HRR.out] at hwr
  have HWR := hide hwr
  clear hwr
  clear hW BW ho hM hlp hp1 f1 f2 f3 hfl hgp hY hfit hb4 hm' hml hp d1 d2 k0 k1
  go_upto_region 13 with (first | (rw [HW.out]) | fail)
  first | rw [HW.out] | skip
  obtain ⟨i0, hi, hz0, hz1, hz2⟩ := info_parts info_piece
  obtain ⟨N, hN⟩ : ∃ N, N = (ix R).length := ⟨_, rfl⟩
  have CE := hide (fun wx (hb : Below W.heap.size W wx) => (C5.out wx (B5.out.trans (hb.mono B5.out.size))).mono (R' := fun e w2 => e = .returned (.int .i64 E) ∧ Below W.heap.size W w2 ∧ w2.cell? ⟨w1.heap.size, 0, none⟩ = some (.slice (some ⟨g, 0, none⟩) n n)) (by
    rintro e w2 ⟨rfl, hb2⟩
    have hb3 := hb.trans (hb2.mono hb.size)
    exact ⟨rfl, hb3, (hb3.cell (p := ⟨w1.heap.size, 0, none⟩) hwW).trans o0⟩))
  have C6 := hide (fun wx (hb : Below W.heap.size W wx) => (wholePiece_any E R wx (by omega) (HT.out.below (B5.out.trans (hb.mono B5.out.size)))).mono (R' := fun e w2 => ∃ a2 q2, e = .returned (.agg #[.int .i64 E, .string R, .slice a2 N q2]) ∧ (w2.ownsRow W.heap.size 3 1 (.slice a2 N q2) N ((ix R).map (Value.int .i64)) ∧ Below W.heap.size W w2) ∧ w2.cell? ⟨w1.heap.size, 0, none⟩ = some (.slice (some ⟨g, 0, none⟩) n n) ∧ ∀ ob, (w2.alloc ob).cell? ⟨w1.heap.size, 0, none⟩ = some (.slice (some ⟨g, 0, none⟩) n n)) (by
    rintro e w2 ⟨v2, rfl, ho2, hb2⟩
    have hb3 := hb.trans (hb2.mono hb.size)
    rw [← hN] at ho2
    obtain ⟨a2, q2, rfl, _, _⟩ := own_form ho2
    rw [HWR.out.1]
    have hc := (hb3.cell (p := ⟨w1.heap.size, 0, none⟩) hwW).trans o0
    exact ⟨a2, q2, rfl, ⟨own_baseC ho2 hb.size, hb3⟩, hc, fun ob => Go.Lib.cell?_alloc_some ob hc⟩))
  have HNN := hide hN
  have hw0W : w0.heap.size ≤ W.heap.size := by omega
  have hgW : g < w1.heap.size := hgb.2
  have PP : Hid (∀ w3 a2 q2 g4 c4 w4, (w3.ownsRow W.heap.size 3 1 (.slice a2 N q2) N ((ix R).map (Value.int .i64)) ∧ Below W.heap.size W w3) → w4.ownsRow w0.heap.size 50 3 (.slice (some ⟨g4, 0, none⟩) (n + 1) c4) (n + 1) (flatC M ++ [.int .i64 E, .string R, .slice a2 N q2]) → (w3.alloc (.cells #[.int .i64 E, .string R, .slice a2 N q2] 50 (0, 0))).grownBy w4 (some g) → MoreAt w w0.heap.size w1.heap.size n B M ⟨E, R, ix R⟩ (w4.setCell ⟨w1.heap.size, 0, none⟩ (.slice (some ⟨g4, 0, none⟩) (n + 1) c4)) ∧ w4.cell? ⟨w1.heap.size, 0, none⟩ = some (.slice (some ⟨g, 0, none⟩) n n) ∧ w4.frozen? ⟨w1.heap.size, 0, none⟩ = false) := by
    intro w3 a2 q2 g4 c4 w4 h h4 hg4
    have hs9 := h.2.size
    have hal : Below w3.heap.size w3 (w3.alloc (.cells #[.int .i64 E, .string R, .slice a2 N q2] 50 (0, 0))) := (Below.refl _ _).alloc (Nat.le_refl _) _
    have hba := h.2.trans (hal.mono hs9)
    have hblk : ∀ q, q < W.heap.size → q ≠ g → w4.heap[q]? = W.heap[q]? := fun q hq hne => (hg4.block q (by simp; omega) (by simp; omega)).trans (hba.block q hq)
    have hGo := (hblk w1.heap.size hwW (by omega)).trans GO.out
    have O4 := ((HO5.out.below h.2).below hal).more (w' := w4) (p := ⟨E, R, ix R⟩) (u := .slice a2 N q2) (by show World.ownsRow _ _ _ _ _ (ix R).length _; rw [← HNN.out]; exact own_baseC (own_belowC h.1 hal) hw0W) (fun i hi bb hbb e => by
      have h1 := (own_ltC h.1 bb hbb).1
      have h2 := (own_ltC (HO5.out.idx i hi) bb e).2
      omega) hg4 h4
    have B9 : Below w.heap.size w w4 := ⟨hg4.os.trans (hba.os.trans B5.out.os), hg4.tape.trans (hba.tape.trans B5.out.tape), hg4.output.trans (hba.output.trans B5.out.output), by have := hg4.size; simp at this; have := B5.out.size; omega, fun q hq => (hblk q (by have := B5.out.size; omega) (by omega)).trans (B5.out.block q hq)⟩
    obtain ⟨r0, _, r2, _⟩ := blkp hGo
    refine ⟨⟨⟨g4, c4, .slice a2 N q2, O4.setB hGo piece_log int_log, ?_⟩, B9.setCell (p := ⟨w1.heap.size, 0, none⟩) (by show w.heap.size ≤ w1.heap.size; omega) _, (Below.heap_setCell _ _ _ _ (show w.heap.size + 1 ≠ w1.heap.size by omega)).trans ((hblk (w.heap.size + 1) (by omega) (by omega)).trans G5.out)⟩, r0, r2⟩
    rw [setCell_eq_setRow w4 w1.heap.size 0 _ 25 (0, 0) _ hGo, setRow_heap w4 w1.heap.size _ _ 25 _ hGo]
    rfl
  have HROW := hide HO5.out.row
  clear hN C1 C2 C3 C4 C5
  go_cut [10] (fun t wx => t = .int .i64 m ∧ MoreAt w w0.heap.size w1.heap.size n B M ⟨E, R, ix R⟩ wx)
  case first =>
    go_region_law (first
      | (rw [if_pos (by rfl)]; go_simp; go_at_call 37; refine (CE.out _ ?_).mono ?_; (first | exact Below.refl _ _ | exact (Below.refl _ _).drew | exact ((Below.refl _ _).drew).drew); rintro e w2 ⟨rfl, hb2, c2⟩; dsimp only)
      | (rw [if_pos (by rfl)]; go_simp; go_at_call 36; refine (C6.out _ ?_).mono ?_; (first | exact hb2 | exact hb2.drew | exact (hb2.drew).drew); rintro e w3 ⟨a2, q2, rfl, ho3, c3, c3a⟩; dsimp only)
      | (refine step_append_lies _ rfl (.tmp 71) (.tmp 76) 23 rfl w0.heap.size 50 i0 (.agg #[.int .i64 0, .string ByteArray.empty, .slice none 0 0]) 3 48 Tryd.underlying23 hi hz0 hz1 hz2 rfl (by decide) (.slice (some ⟨g, 0, none⟩) n n) n (flatC M) rfl (own_belowC HROW.out (ho3.2.trans (((Below.refl _ _).alloc (Nat.le_refl _) _).mono ho3.2.size))) ⟨w3.heap.size, 0, none⟩ 1 1 [.int .i64 E, .string R, .slice a2 N q2] rfl rfl (cell_three_new w3 _ rfl _ _ _ _) (by intro u hu; simp at hu; rcases hu with rfl | rfl | rfl <;> rfl) (by decide) (by unfold maxLen; omega) (by omega) (Nat.le_trans hw0W (Nat.le_trans ho3.2.size (by show w3.heap.size ≤ (w3.alloc _).heap.size; simp))) _ rfl ?_; intro g4 c4 w4 h4 hg4 _ _; obtain ⟨pp, r0, r2⟩ := PP.out w3 a2 q2 g4 c4 w4 ho3 h4 hg4))
    all_goals (
      go_wp2_with fail
      go_meet
      case rel => exact ⟨rfl, pp⟩)
  case rest =>
    obtain ⟨rfl, hta⟩ := hcut
    obtain ⟨g4, c4, u, hown, hout⟩ := hta.own
    have hpc : pcs (M ++ [((⟨E, R, ix R⟩ : Pc), u)]) = L ++ [⟨E, R, ix R⟩] := by rw [← HM.out]; show List.map _ _ = _; rw [List.map_append]; rfl
    have hL2 : L' = L ++ [⟨E, R, ix R⟩] := by rw [HL'.out, HN.out, HE.out, HRR.out]
    have hlen2 : L'.length = n + 1 := by rw [hL2]; simp [HN.out]
    have HL2 := hide hL2
    have HLN := hide hlen2
    have HPC := hide hpc
    have HOW := hide hown
    have HTA := hide hta
    clear z0 z1 z2 z3 o0 o1 o2 o3 e1 e2 y0 y1
    obtain ⟨z0, z1, z2, z3⟩ := blkp hta.res
    obtain ⟨o0, o1, _, _⟩ := blkp hout
    have hlt0 : w.heap.size + 1 < w0.heap.size := by omega
    clear hta hown hpc hlen2 hL2 C6 PP CE hout
    go_wp2
    refine bodyPost_ret (v := .tuple #[.agg #[.slice (some ⟨g4, 0, none⟩) (n + 1) c4, .int .i64 B], .bool true]) (by simp [results, Tryd.f6, go_sem, z0, z1]) rfl ⟨some ⟨g4, 0, none⟩, c4, by rw [HLN.out], _, by rw [HL2.out]; exact HPC.out, ?_, ?_⟩
    · rw [HLN.out]
      exact ((HOW.out.setC ⟨_, _, none⟩ _ hlt0).setC ⟨_, _, none⟩ _ hlt0).base (by omega)
    · exact (HTA.out.bel.setCell (p := ⟨_, _, none⟩) (Nat.le_succ _) _).setCell (p := ⟨_, _, none⟩) (Nat.le_succ _) _
end Go.Proofs.YtbcljhafdpnjbabDoor.L6

namespace Go.Proofs.YtbcljhafdpnjbabDoor.L6
open Go.RowKit L1
set_option linter.unusedVariables false

theorem empty6 (s : ByteArray) : s.toList.isEmpty = decide (s.size = 0) := by
  rw [ByteArray.toList_eq]
  have : s.size = s.data.toList.length := by show s.data.size = _; simp
  rw [this]
  cases s.data.toList with
  | nil => simp
  | cons x l => simp
theorem OwC.setB2 {w : World} {base n G : Nat} {v u u2 : Value} {M : List PV} {cs : Array Value} {T : TypeId} (h : OwC w base v n M) (hG : w.heap[G]? = some (.cells cs T (0, 0))) (h1 : 50 ≠ T) (h2 : 3 ≠ T) : OwC ((w.setCell ⟨G, 0, none⟩ u).setCell ⟨G, 1, none⟩ u2) base v n M :=
  (h.setB hG h1 h2).setB (heap_setCell_same w G 0 _ _ u hG) h1 h2
/-- What stands behind l6Append's writing. -/
structure PutS (w : World) (base g n c m : Nat) (B : Int) (M : List PV) (p : Pc) (wx : World) : Prop where
  own : ∃ u, OwC wx base (.slice (some ⟨g, 0, none⟩) n c) n (M.set m (p, u))
  bel : Below base w wx
  res : wx.heap[w.heap.size + 1]? = some (.cells #[.slice none 0 0, .int .i64 0] 25 (0, 0))
  out : wx.heap[w.heap.size]? = some (.cells #[.slice (some ⟨g, 0, none⟩) n c, .int .i64 B] 25 (0, 0))
structure MoreS (w : World) (base n : Nat) (B : Int) (M : List PV) (p : Pc) (wx : World) : Prop where
  own : ∃ g c u, OwC wx base (.slice (some ⟨g, 0, none⟩) (n + 1) c) (n + 1) (M ++ [(p, u)]) ∧ wx.heap[w.heap.size]? = some (.cells #[.slice (some ⟨g, 0, none⟩) (n + 1) c, .int .i64 B] 25 (0, 0))
  bel : Below base w wx
  res : wx.heap[w.heap.size + 1]? = some (.cells #[.slice none 0 0, .int .i64 0] 25 (0, 0))
end Go.Proofs.YtbcljhafdpnjbabDoor.L6

namespace Go.Proofs.YtbcljhafdpnjbabDoor.L6
open Go.RowKit L1
set_option linter.unusedVariables false

set_option maxRecDepth 100000 in
set_option maxHeartbeats 4000000 in
theorem l6Append_put (g : Nat) (L : List Pc) (M : List PV) (n c base : Nat) (B : Int) (r : ByteArray) (w : World) (ho : OwC w base (.slice (some ⟨g, 0, none⟩) n c) n M) (hM : pcs M = L) (hg : GoodG L B) (hbase : base ≤ w.heap.size) (hr : r.size ≤ 20) (h60 : lastEnd L n - (gc L 0).f ≠ 60) (hf : AppFits L r) : Calls Tryd.prog 39 #[.agg #[.slice (some ⟨g, 0, none⟩) n c, .int .i64 B], .string r] w fun e w' => e = .returned (.tuple #[.agg #[.slice (some ⟨g, 0, none⟩) n c, .int .i64 B], .bool true]) ∧ SlC w' (some ⟨g, 0, none⟩) (L.set (n - 1) (appP (endP L) r)) ∧ Below base w w' := by
  obtain ⟨L', hL'⟩ : ∃ L', L' = L.set (n - 1) (appP (endP L) r) := ⟨_, rfl⟩
  rw [← hL']
  have HL' := hide hL'
  clear hL'
  have hn : L.length = n := by rw [← hM]; simp [ho.len]
  have hs : SlC w (some ⟨g, 0, none⟩) L := by rw [← hM]; exact ho.sl
  have hn1 : 1 ≤ n := by have := hg.one; omega
  have hn20 : n ≤ 20 := by have := hg.many; omega
  have hn0I : 0 < n := by omega
  have hml := ho.len
  have hgb := own_ltC ho.row g rfl
  have hfl : (flatC M).length = n * 3 := by rw [flatC_len, hml]
  have gcM : ∀ i, i < n → (M.getD i eV).1 = gc L i := fun i hi => by
    have := pcs_get M i (by omega)
    rw [hM] at this
    exact this.symm
  have d0 : w.cell? ⟨g, 0, none⟩ = some (.int .i64 (gc L 0).f) := by
    have := (ho.row.cellAt (0 * 3) (by omega)).trans (flatC_get M 0 (by omega)).1
    rw [gcM 0 (by omega)] at this
    simpa using this
  have C1 := hide (fun wx (hb : Below w.heap.size w wx) => l6End_good (some ⟨g, 0, none⟩) L n c B wx hn (hs.below hb) hg B)
  have hfb := hg.f0
  have hfb1 := hg.f1
  have hEb : 0 ≤ lastEnd L n ∧ lastEnd L n ≤ 1000060 := by
    have hk := hg.ps (n - 1) (by omega)
    have hb := atg_bd L (n - 1) (fun j hj => (hg.ps j (by omega)).1)
    have h3 := cnt_le (gc L (n - 1)).s
    have h4 := hk.1.1
    unfold lastEnd
    rw [hk.2.1]
    omega
  obtain ⟨E, hE⟩ : ∃ E, E = lastEnd L n := ⟨_, rfl⟩
  obtain ⟨f0, hf0⟩ : ∃ f0, f0 = (gc L 0).f := ⟨_, rfl⟩
  rw [← hE] at C1 hEb
  rw [← hf0] at d0 hfb hfb1
  obtain ⟨W, hW⟩ : ∃ W, (w.alloc (.cells #[.slice (some ⟨g, 0, none⟩) n c, .int .i64 B] 25 (0, 0))).alloc (.cells #[.slice none 0 0, .int .i64 0] 25 (0, 0)) = W := ⟨_, rfl⟩
  have BW : Below w.heap.size w W := by rw [← hW]; exact ((Below.refl _ _).alloc (Nat.le_refl _) _).alloc (by simp) _
  have GB : Hid (W.heap[w.heap.size]? = some (.cells #[.slice (some ⟨g, 0, none⟩) n c, .int .i64 B] 25 (0, 0))) := by show _ = _; rw [← hW]; exact blk_first _ _ _
  have GZ : Hid (W.heap[w.heap.size + 1]? = some (.cells #[.slice none 0 0, .int .i64 0] 25 (0, 0))) := by show _ = _; rw [← hW]; exact blk_second _ _ _
  have hwW : w.heap.size + 1 < W.heap.size := (Array.getElem?_eq_some_iff.1 GZ.out).1
  obtain ⟨o0, o1, _, _⟩ := blkp GB.out
  obtain ⟨z0, z1, z2, z3⟩ := blkp GZ.out
  have dg := (BW.cell (p := ⟨g, 0, none⟩) (blk_lt d0)).trans d0
  have HBW := hide BW
  have HO := hide (ho.below BW)
  have HM := hide hM
  have HN := hide hn
  have HG := hide hg
  have HE := hide hE
  have HF0 := hide hf0
  have HWW := hide hW
  have HGM := hide gcM
  have hr20 : ¬ (20 : Int) < (r.size : Int) := by omega
  rw [← hE, ← hf0] at h60
  have hsb : (E - f0 == 60) = false := by simp only [beq_eq_false_iff_ne]; exact h60
  have hwr : IntKind.i64.wrap (E - f0) = E - f0 := wrap6 (by omega) (by omega)
  have C3 := hide (fun wx => l1Varint_any (r.size : Int) wx (by omega) (by omega))
  obtain ⟨P, hP⟩ : ∃ P, P = strOfNums (vd (zig (r.size : Int))) := ⟨_, rfl⟩
  rw [← hP] at C3
  obtain ⟨R, hR⟩ : ∃ R, R = rec r := ⟨_, rfl⟩
  have hPr : P ++ r = R := by rw [hR, hP]; rfl
  have hRs : R.size = 1 + r.size := by rw [hR]; exact rec_size r hr
  have hPs : P.size + r.size = R.size := by rw [← hPr, ByteArray.size_append]
  have qa : ∀ w : World, (Op.stringOp .add P r).run Tryd.prog w = .ok (.string R) w := fun w => by rw [← hPr]; exact run_string_add_sum w _ _ (by omega)
  have HRR := hide hR
  obtain ⟨m, hm'⟩ : ∃ m, m = n - 1 := ⟨_, rfl⟩
  have hnm : (n : Int) - 1 = (m : Int) := by omega
  have hmn : (m : Int) < (n : Int) := by omega
  have hm0 : (0 : Int) ≤ (m : Int) := by omega
  have hmN : m < n := by omega
  have hwm : IntKind.i64.wrap (m : Int) = (m : Int) := wrap6 (by omega) (by omega)
  obtain ⟨f1, f2, f3⟩ := flatC_get M m (by omega)
  obtain ⟨ai, ci, hv, hsl, _⟩ := own_form (ho.idx m hmN)
  rw [hv] at f3
  rw [gcM m hmN] at f1 f2 f3
  have d1 := (ho.row.cellAt (m * 3) (by omega)).trans f1
  have d2 := (ho.row.cellAt (m * 3 + 1) (by omega)).trans f2
  have d3 := (ho.row.cellAt (m * 3 + 2) (by omega)).trans f3
  have hlp : endP L = gc L m := by show gc L (L.length - 1) = _; rw [hn, hm']
  have hgp := (hg.ps m (by rw [hn]; exact hmN)).1
  have hfit := (show (gc L m).s.size + (1 + r.size) ≤ 60 by have h := hf; unfold AppFits at h; rw [hlp] at h; exact h)
  obtain ⟨p, hp⟩ : ∃ p, p = gc L m := ⟨_, rfl⟩
  rw [← hp] at d1 d2 d3 hlp hgp hfit
  obtain ⟨f, s, x⟩ := p
  simp only at d1 d2 d3 hfit
  have hs60 := hgp.1
  simp only at hs60
  obtain ⟨xl, hxl⟩ : ∃ xl, xl = x.length := ⟨_, rfl⟩
  rw [← hxl] at d3
  have HLP := hide hlp
  have HGP := hide hgp
  have HD : Hid (w.cell? ⟨g, m * 3, none⟩ = some (.int .i64 f) ∧ w.cell? ⟨g, m * 3 + 1, none⟩ = some (.string s) ∧ w.cell? ⟨g, m * 3 + 2, none⟩ = some (.slice ai xl ci)) := ⟨d1, d2, d3⟩
  have hsum : IntKind.i64.wrap ((s.size : Int) + (R.size : Int)) = (s.size : Int) + (R.size : Int) := wrap6 (by omega) (by omega)
  clear ho hM hn hg hE hf0 hW gcM hs d0 hml hfl BW hP hR hPr f1 f2 f3 hv hsl d1 d2 d3 hlp hgp hp hxl hm'
  go_enter Tryd.func39, Tryd.ntmps39
  go_upto_region 1 with fail
  rw [HWW.out]
  go_region_held3 (fun wx => (wx.cell? ⟨w.heap.size, 0, none⟩ = some (.slice (some ⟨g, 0, none⟩) n c) ∧ wx.cell? ⟨w.heap.size, 1, none⟩ = some (.int .i64 B) ∧ wx.cell? ⟨g, 0, none⟩ = some (.int .i64 f0)) ∧ Below W.heap.size W wx) (first | exact ⟨⟨o0, o1, dg⟩, (Below.refl _ _).drew⟩ | exact keep3 (by assumption) (by assumption) (Nat.le_refl _)) ((go_at_call 41; refine (C1.out _ (HBW.out.trans (Below.mono (by first | exact And.right (by assumption) | exact (Below.refl _ _).drew | exact Below.refl _ _) HBW.out.size))).mono ?_; rintro e w5 ⟨rfl, hb⟩))
  rename_i hHeld
  have hb5 := hHeld.2
  clear hHeld
  obtain ⟨o0', o1', _, _⟩ := blkp ((hb5.block w.heap.size (by omega)).trans GB.out)
  have H5 := hide hb5
  have BW5 := hide (HBW.out.trans (hb5.mono HBW.out.size))
  have hz5 := hb5.size
  clear hb5 o0 o1 z0 z1 z2 z3 dg
  go_wp2_with fail
  refine (C3.out _).mono ?_
  rintro e w6 ⟨rfl, hb6⟩
  have H6 := hide (H5.out.trans (hb6.mono H5.out.size))
  have BW6 := hide (BW5.out.trans (hb6.mono BW5.out.size))
  have hz6 := H6.out.size
  clear hb6 o0' o1'
  obtain ⟨o0, o1, _, _⟩ := blkp ((H6.out.block w.heap.size (by omega)).trans GB.out)
  have e1 := (BW6.out.cell (p := ⟨g, m * 3, none⟩) hgb.2).trans HD.out.1
  have e2 := (BW6.out.cell (p := ⟨g, m * 3 + 1, none⟩) hgb.2).trans HD.out.2.1
  have e3 := (BW6.out.cell (p := ⟨g, m * 3 + 2, none⟩) hgb.2).trans HD.out.2.2
  go_upto_region 5 with fail
  generalize hV : w6.alloc (.cells #[.int .i64 f, .string s, .slice ai xl ci] 50 (0, 0)) = V
  have BV : Below w6.heap.size w6 V := by rw [← hV]; exact (Below.refl _ _).alloc (Nat.le_refl _) _
  have GP : Hid (V.heap[w6.heap.size]? = some (.cells #[.int .i64 f, .string s, .slice ai xl ci] 50 (0, 0))) := by show _ = _; rw [← hV]; exact blk_new _ _
  obtain ⟨p0, p1, p2, _, _, _⟩ := blk3 GP.out
  have HWV := hide (H6.out.trans (BV.mono H6.out.size))
  have BV6 := hide (BW6.out.trans (BV.mono BW6.out.size))
  have hzV := BV.size
  have hwV : w6.heap.size < V.heap.size := (Array.getElem?_eq_some_iff.1 GP.out).1
  have GBV := hide ((HWV.out.block w.heap.size (by omega)).trans GB.out)
  have GZV := hide ((HWV.out.block (w.heap.size + 1) (by omega)).trans GZ.out)
  have HOV := hide (HO.out.below HWV.out)
  clear o0 o1 e1 e2 e3
  obtain ⟨o0, o1, _, _⟩ := blkp GBV.out
  obtain ⟨z0, z1, z2, z3⟩ := blkp GZV.out
  have HV := hide hV
  clear hV BV
  have hemp := empty6 s
  have hle60 : ¬ (60 : Int) < (s.size : Int) + (R.size : Int) := by omega
  obtain ⟨Y, hY⟩ : ∃ Y, Y = s ++ R := ⟨_, rfl⟩
  have hYs : Y.size = s.size + R.size := by rw [hY, ByteArray.size_append]
  have q2 : ∀ w : World, (Op.stringOp .add s R).run Tryd.prog w = .ok (.string Y) w := fun w => by rw [hY]; exact run_string_add_sum w _ _ (by omega)
  have HYY := hide hY
  obtain ⟨N, hN⟩ : ∃ N, N = (ix Y).length := ⟨_, rfl⟩
  have C6 := hide (fun wx (hb : Below V.heap.size V wx) => (l6Piece_any f Y wx (by omega)).mono (R' := fun e w2 => ∃ a2 q2, e = .returned (.agg #[.int .i64 f, .string Y, .slice a2 N q2]) ∧ (w2.ownsRow V.heap.size 3 1 (.slice a2 N q2) N ((ix Y).map (Value.int .i64)) ∧ Below V.heap.size V w2) ∧ (∃ u0 u1 u2, w2.cell? ⟨g, m * 3, none⟩ = some u0 ∧ w2.cell? ⟨g, m * 3 + 1, none⟩ = some u1 ∧ w2.cell? ⟨g, m * 3 + 2, none⟩ = some u2) ∧ (w2.frozen? ⟨g, m * 3, none⟩ = false ∧ w2.frozen? ⟨g, m * 3 + 1, none⟩ = false ∧ w2.frozen? ⟨g, m * 3 + 2, none⟩ = false) ∧ (w2.cell? ⟨w.heap.size, 0, none⟩ = some (.slice (some ⟨g, 0, none⟩) n c) ∧ w2.cell? ⟨w.heap.size, 1, none⟩ = some (.int .i64 B)) ∧ (w2.cell? ⟨w6.heap.size, 0, none⟩ = some (.int .i64 f) ∧ w2.cell? ⟨w6.heap.size, 1, none⟩ = some (.string s))) (by
    rintro e w2 ⟨v2, rfl, ho2, hb2⟩
    have hb3 := hb.trans (hb2.mono hb.size)
    rw [← hN] at ho2
    obtain ⟨a2, q2, rfl, _, _⟩ := own_form ho2
    have R2 := (HOV.out.below hb3).row
    have hfl : (flatC M).length = n * 3 := by rw [flatC_len, HOV.out.len]
    obtain ⟨oo0, oo1, _, _⟩ := blkp ((hb3.block w.heap.size (by omega)).trans GBV.out)
    obtain ⟨pp0, pp1, _, _, _, _⟩ := blk3 ((hb3.block w6.heap.size hwV).trans GP.out)
    exact ⟨a2, q2, rfl, ⟨own_baseC ho2 hb.size, hb3⟩, ⟨_, _, _, (R2.cellAt (m * 3) (by omega)).trans (List.getElem?_eq_getElem (by omega)), (R2.cellAt (m * 3 + 1) (by omega)).trans (List.getElem?_eq_getElem (by omega)), (R2.cellAt (m * 3 + 2) (by omega)).trans (List.getElem?_eq_getElem (by omega))⟩, ⟨R2.frozenAt _, R2.frozenAt _, R2.frozenAt _⟩, ⟨oo0, oo1⟩, pp0, pp1⟩))
  have HNN := hide hN
  have hbV : base ≤ V.heap.size := by omega
  have PP : Hid (∀ w2 a2 q2, (w2.ownsRow V.heap.size 3 1 (.slice a2 N q2) N ((ix Y).map (Value.int .i64)) ∧ Below V.heap.size V w2) → PutS w base g n c m B M ⟨f, Y, ix Y⟩ (((w2.setCell ⟨g, m * 3, none⟩ (.int .i64 f)).setCell ⟨g, m * 3 + 1, none⟩ (.string Y)).setCell ⟨g, m * 3 + 2, none⟩ (.slice a2 N q2)) ∧ w2.grownBy (((w2.setCell ⟨g, m * 3, none⟩ (.int .i64 f)).setCell ⟨g, m * 3 + 1, none⟩ (.string Y)).setCell ⟨g, m * 3 + 2, none⟩ (.slice a2 N q2)) (some g)) := by
    intro w2 a2 q2 h
    have P := (HOV.out.below h.2).put m hmN ⟨f, Y, ix Y⟩ (.slice a2 N q2) (by show w2.ownsRow _ _ _ _ (ix Y).length _; rw [← HNN.out]; exact own_baseC h.1 hbV) (fun i hi _ bb hbb e => by
      have h1 := (own_ltC h.1 bb hbb).1
      have h2 := (own_ltC (HOV.out.idx i hi) bb e).2
      omega)
    have hs9 := h.2.size
    refine ⟨?_, P.2⟩
    exact ⟨⟨_, P.1⟩, ((BV6.out.mono hbase).trans (h.2.mono hbV)).grown P.2 (by omega) (fun q hq => by cases hq; exact hgb.1), (P.2.block (w.heap.size + 1) (by omega) (by simp; omega)).trans ((h.2.block _ (by omega)).trans GZV.out), (P.2.block w.heap.size (by omega) (by simp; omega)).trans ((h.2.block _ (by omega)).trans GBV.out)⟩
  clear hN C1 C3 hY
  by_cases hs0 : s.size = 0
  · have he : s.toList.isEmpty = true := by rw [hemp]; simpa using hs0
    clear hemp
    go_upto_region 10 with (first | (rw [HV.out]) | fail)
    first | rw [HV.out] | skip
    go_cut [6] (fun t wx => t = .string R ∧ PutS w base g n c m B M ⟨f, Y, ix Y⟩ wx)
    case first =>
      refine wp_region_held_drew (S := (fun wx => wx.cell? ⟨w.heap.size, 0, none⟩ = some (.slice (some ⟨g, 0, none⟩) n c) ∧ wx.cell? ⟨w6.heap.size, 0, none⟩ = some (.int .i64 f) ∧ wx.cell? ⟨w6.heap.size, 1, none⟩ = some (.string s))) (by kernel_rfl) ⟨o0, p0, p1⟩ (fun hHeld => ?_)
      refine wpAnyH_take (i := 0) (v := ?v1) rfl (by kernel_rfl) (by kernel_rfl) (by kernel_rfl) (fun _ _ _ h => h) (Or.inl ⟨by rfl, ?y1⟩) (by assumption) ?r1
      case y1 => (intro w hSw; (try dsimp only at hSw); go_simp; try (with_reducible rfl))
      simp only [List.getElem_toArray, List.getElem_cons_zero, Act.put, List.setIfInBounds_toArray, List.set_cons_zero, List.set_cons_succ]
      refine wpAnyH_take (i := 1) (v := ?v2) rfl (by kernel_rfl) (by kernel_rfl) (by kernel_rfl) (fun _ _ _ h => h) (Or.inl ⟨by rfl, ?y2⟩) (by assumption) ?r2
      case y2 => (intro w hSw; (try dsimp only at hSw); go_simp; try (with_reducible rfl))
      simp only [List.getElem_toArray, List.getElem_cons_succ, List.getElem_cons_zero, Act.put, List.setIfInBounds_toArray, List.set_cons_zero, List.set_cons_succ]
      refine wpAnyH_take (i := 2) (v := ?v3) rfl (by kernel_rfl) (by kernel_rfl) (by kernel_rfl) (fun _ _ _ h => h) (Or.inl ⟨by rfl, ?y3⟩) (by assumption) ?r3
      case y3 => (intro w hSw; (try dsimp only at hSw); go_simp; try (with_reducible rfl))
      simp only [List.getElem_toArray, List.getElem_cons_succ, List.getElem_cons_zero, Act.put, List.setIfInBounds_toArray, List.set_cons_zero, List.set_cons_succ]
      refine wpAnyH_take (i := 3) (v := ?v4) rfl (by kernel_rfl) (by kernel_rfl) (by kernel_rfl) (fun _ _ _ h => h) (Or.inl ⟨by rfl, ?y4⟩) (by assumption) ?r4
      case y4 => (intro w hSw; (try dsimp only at hSw); go_simp; try (with_reducible rfl))
      simp only [List.getElem_toArray, List.getElem_cons_succ, List.getElem_cons_zero, Act.put, List.setIfInBounds_toArray, List.set_cons_zero, List.set_cons_succ]
      refine wpAnyH_take (i := 4) (v := ?v5) rfl (by kernel_rfl) (by kernel_rfl) (by kernel_rfl) (fun _ _ _ h => h) (Or.inl ⟨by rfl, ?y5⟩) (by assumption) ?r5
      case y5 => (intro w hSw; (try dsimp only at hSw); go_simp; try (with_reducible rfl))
      simp only [List.getElem_toArray, List.getElem_cons_succ, List.getElem_cons_zero, Act.put, List.setIfInBounds_toArray, List.set_cons_zero, List.set_cons_succ]
      refine wpAnyH_take (i := 5) (v := ?v6) rfl (by kernel_rfl) (by kernel_rfl) (by kernel_rfl) (fun _ _ _ h => h) (Or.inl ⟨by rfl, ?y6⟩) (by assumption) ?r6
      case y6 => (intro w hSw; (try dsimp only at hSw); go_simp; try (with_reducible rfl))
      simp only [List.getElem_toArray, List.getElem_cons_succ, List.getElem_cons_zero, Act.put, List.setIfInBounds_toArray, List.set_cons_zero, List.set_cons_succ]
      refine wpAnyH_take (i := 6) (v := ?v7) rfl (by kernel_rfl) (by kernel_rfl) (by kernel_rfl) (fun _ _ _ h => h) (Or.inl ⟨by rfl, ?y7⟩) (by assumption) ?r7
      case y7 => (intro w hSw; (try dsimp only at hSw); go_simp; try (with_reducible rfl))
      simp only [List.getElem_toArray, List.getElem_cons_succ, List.getElem_cons_zero, Act.put, List.setIfInBounds_toArray, List.set_cons_zero, List.set_cons_succ]
      refine wpAnyH_take (i := 7) (v := ?v8) rfl (by kernel_rfl) (by kernel_rfl) (by kernel_rfl) (fun _ _ _ h => h) (Or.inl ⟨by rfl, ?y8⟩) (by assumption) ?r8
      case y8 => (intro w hSw; (try dsimp only at hSw); go_simp; try (with_reducible rfl))
      simp only [List.getElem_toArray, List.getElem_cons_succ, List.getElem_cons_zero, Act.put, List.setIfInBounds_toArray, List.set_cons_zero, List.set_cons_succ]
      refine wpAnyH_take (i := 8) (v := ?v9) rfl (by kernel_rfl) (by kernel_rfl) (by kernel_rfl) (fun _ _ _ h => h) (Or.inl ⟨by rfl, ?y9⟩) (by assumption) ?r9
      case y9 => (intro w hSw; (try dsimp only at hSw); go_simp; try (with_reducible rfl))
      simp only [List.getElem_toArray, List.getElem_cons_succ, List.getElem_cons_zero, Act.put, List.setIfInBounds_toArray, List.set_cons_zero, List.set_cons_succ]
      refine wpAnyH_take (i := 9) (v := ?v10) rfl (by kernel_rfl) (by kernel_rfl) (by kernel_rfl) (fun _ _ _ h => h) (Or.inl ⟨by rfl, ?y10⟩) (by assumption) ?r10
      case y10 => (intro w hSw; (try dsimp only at hSw); go_simp; try (with_reducible rfl))
      simp only [List.getElem_toArray, List.getElem_cons_succ, List.getElem_cons_zero, Act.put, List.setIfInBounds_toArray, List.set_cons_zero, List.set_cons_succ]
      refine wpAnyH_take (i := 10) (v := ?v11) rfl (by kernel_rfl) (by kernel_rfl) (by kernel_rfl) (fun _ _ _ h => h) (Or.inl ⟨by rfl, ?y11⟩) (by assumption) ?r11
      case y11 => (intro w hSw; (try dsimp only at hSw); go_simp; try (with_reducible rfl))
      simp only [List.getElem_toArray, List.getElem_cons_succ, List.getElem_cons_zero, Act.put, List.setIfInBounds_toArray, List.set_cons_zero, List.set_cons_succ]
      refine wpAnyH_take (i := 11) (v := ?v12) rfl (by kernel_rfl) (by kernel_rfl) (by kernel_rfl) (fun _ _ _ h => h) (Or.inl ⟨by rfl, ?y12⟩) (by assumption) ?r12
      case y12 => (intro w hSw; (try dsimp only at hSw); go_simp; try (with_reducible rfl))
      simp only [List.getElem_toArray, List.getElem_cons_succ, List.getElem_cons_zero, Act.put, List.setIfInBounds_toArray, List.set_cons_zero, List.set_cons_succ]
      refine wpAnyH_ready (rs := [12]) (by kernel_rfl) (by simp) ?_
      refine AllReadyH.cons rfl (fun K hK => ?_) AllReadyH.nil
      simp only [List.getElem_toArray, List.getElem_cons_succ, List.getElem_cons_zero]
      go_simp
      go_at_call 56
      refine (C6.out _ (by first | exact (Below.refl _ _).drew | exact Below.refl _ _)).mono ?_
      rintro e w2 ⟨a2, q2, rfl, ho2, ⟨u0, u1, u2, c0, c1, c2⟩, ⟨c3, c4, c5⟩, ⟨c6, c7⟩, c8, c9⟩
      dsimp only
      refine hK.out _ _ ?_ (fun hHeld => ?_)
      · exact ⟨c6, c8, c9⟩
      clear hK K
      try simp only [Act.put, List.setIfInBounds_toArray, List.set_cons_zero, List.set_cons_succ]
      refine wpAnyH_take (i := 13) (v := ?v13) rfl (by kernel_rfl) (by kernel_rfl) (by kernel_rfl) (fun _ _ _ h => h) (Or.inl ⟨by rfl, ?y13⟩) (by assumption) ?r13
      case y13 => (intro w hSw; (try dsimp only at hSw); go_simp; try (with_reducible rfl))
      simp only [List.getElem_toArray, List.getElem_cons_succ, List.getElem_cons_zero, Act.put, List.setIfInBounds_toArray, List.set_cons_zero, List.set_cons_succ]
      refine wpAnyH_ready (rs := [14]) (by kernel_rfl) (by simp) ?_
      refine AllReadyH.cons rfl (fun K hK => ?_) AllReadyH.nil
      simp only [List.getElem_toArray, List.getElem_cons_succ, List.getElem_cons_zero]
      obtain ⟨hps, hpg⟩ := PP.out _ _ _ ho2
      have HPS := hide hps
      have HPG := hide hpg
      clear hps hpg
      go_simp
      refine hK.out _ _ ?_ (fun hHeld => ?_)
      · exact ⟨grown_cell HPG.out ⟨w.heap.size, 0, none⟩ c6 (by simp; omega), grown_cell HPG.out ⟨w6.heap.size, 0, none⟩ c8 (by simp; omega), grown_cell HPG.out ⟨w6.heap.size, 1, none⟩ c9 (by simp; omega)⟩
      clear hK K
      try simp only [Act.put, List.setIfInBounds_toArray, List.set_cons_zero, List.set_cons_succ]
      refine wpAnyH_done (by kernel_rfl) ?_ _
      go_wp2_with fail
      go_meet
      case rel => exact ⟨rfl, HPS.out⟩
    case rest =>
      obtain ⟨rfl, hta⟩ := hcut
      obtain ⟨u, hown⟩ := hta.own
      have hpc : pcs (M.set m (⟨f, Y, ix Y⟩, u)) = L.set m ⟨f, Y, ix Y⟩ := by rw [← HM.out]; show List.map _ _ = _; rw [List.map_set]
      have hnm1 : n - 1 = m := by omega
      have hL2 : L' = L.set m ⟨f, Y, ix Y⟩ := by
        rw [HL'.out, hnm1]
        unfold appP
        rw [HLP.out, HYY.out, HRR.out]
      have HL2 := hide hL2
      have HPC := hide hpc
      have HOW := hide hown
      have HTA := hide hta
      clear z0 z1 z2 z3 o0 o1 p0 p1 p2
      obtain ⟨z0, z1, z2, z3⟩ := blkp hta.res
      obtain ⟨o0, o1, _, _⟩ := blkp hta.out
      clear hta hown hpc hL2 C6 PP
      go_wp2
      refine bodyPost_ret (v := .tuple #[.agg #[.slice (some ⟨g, 0, none⟩) n c, .int .i64 B], .bool true]) (by simp [results, Tryd.f39, go_sem, z0, z1]) rfl ⟨rfl, ?_, ?_⟩
      · rw [HL2.out, ← HPC.out]
        exact (HOW.out.setB2 HTA.out.res piece_log int_log).sl
      · exact (HTA.out.bel.setCell (p := ⟨_, _, none⟩) (by show base ≤ w.heap.size + 1; omega) _).setCell (p := ⟨_, _, none⟩) (by show base ≤ w.heap.size + 1; omega) _
  · have he : s.toList.isEmpty = false := by rw [hemp]; simpa using hs0
    clear hemp
    go_upto_region 10 with (first | (rw [HV.out]) | fail)
    first | rw [HV.out] | skip
    go_cut [6] (fun t wx => t = .string R ∧ PutS w base g n c m B M ⟨f, Y, ix Y⟩ wx)
    case first =>
      refine wp_region_held_drew (S := (fun wx => wx.cell? ⟨w.heap.size, 0, none⟩ = some (.slice (some ⟨g, 0, none⟩) n c) ∧ wx.cell? ⟨w6.heap.size, 0, none⟩ = some (.int .i64 f) ∧ wx.cell? ⟨w6.heap.size, 1, none⟩ = some (.string s))) (by kernel_rfl) ⟨o0, p0, p1⟩ (fun hHeld => ?_)
      refine wpAnyH_take (i := 0) (v := ?v14) rfl (by kernel_rfl) (by kernel_rfl) (by kernel_rfl) (fun _ _ _ h => h) (Or.inl ⟨by rfl, ?y14⟩) (by assumption) ?r14
      case y14 => (intro w hSw; (try dsimp only at hSw); go_simp; try (with_reducible rfl))
      simp only [List.getElem_toArray, List.getElem_cons_zero, Act.put, List.setIfInBounds_toArray, List.set_cons_zero, List.set_cons_succ]
      refine wpAnyH_take (i := 1) (v := ?v15) rfl (by kernel_rfl) (by kernel_rfl) (by kernel_rfl) (fun _ _ _ h => h) (Or.inl ⟨by rfl, ?y15⟩) (by assumption) ?r15
      case y15 => (intro w hSw; (try dsimp only at hSw); go_simp; try (with_reducible rfl))
      simp only [List.getElem_toArray, List.getElem_cons_succ, List.getElem_cons_zero, Act.put, List.setIfInBounds_toArray, List.set_cons_zero, List.set_cons_succ]
      refine wpAnyH_take (i := 2) (v := ?v16) rfl (by kernel_rfl) (by kernel_rfl) (by kernel_rfl) (fun _ _ _ h => h) (Or.inl ⟨by rfl, ?y16⟩) (by assumption) ?r16
      case y16 => (intro w hSw; (try dsimp only at hSw); go_simp; try (with_reducible rfl))
      simp only [List.getElem_toArray, List.getElem_cons_succ, List.getElem_cons_zero, Act.put, List.setIfInBounds_toArray, List.set_cons_zero, List.set_cons_succ]
      refine wpAnyH_take (i := 3) (v := ?v17) rfl (by kernel_rfl) (by kernel_rfl) (by kernel_rfl) (fun _ _ _ h => h) (Or.inl ⟨by rfl, ?y17⟩) (by assumption) ?r17
      case y17 => (intro w hSw; (try dsimp only at hSw); go_simp; try (with_reducible rfl))
      simp only [List.getElem_toArray, List.getElem_cons_succ, List.getElem_cons_zero, Act.put, List.setIfInBounds_toArray, List.set_cons_zero, List.set_cons_succ]
      refine wpAnyH_take (i := 4) (v := ?v18) rfl (by kernel_rfl) (by kernel_rfl) (by kernel_rfl) (fun _ _ _ h => h) (Or.inl ⟨by rfl, ?y18⟩) (by assumption) ?r18
      case y18 => (intro w hSw; (try dsimp only at hSw); go_simp; try (with_reducible rfl))
      simp only [List.getElem_toArray, List.getElem_cons_succ, List.getElem_cons_zero, Act.put, List.setIfInBounds_toArray, List.set_cons_zero, List.set_cons_succ]
      refine wpAnyH_take (i := 5) (v := ?v19) rfl (by kernel_rfl) (by kernel_rfl) (by kernel_rfl) (fun _ _ _ h => h) (Or.inl ⟨by rfl, ?y19⟩) (by assumption) ?r19
      case y19 => (intro w hSw; (try dsimp only at hSw); go_simp; try (with_reducible rfl))
      simp only [List.getElem_toArray, List.getElem_cons_succ, List.getElem_cons_zero, Act.put, List.setIfInBounds_toArray, List.set_cons_zero, List.set_cons_succ]
      refine wpAnyH_take (i := 6) (v := ?v20) rfl (by kernel_rfl) (by kernel_rfl) (by kernel_rfl) (fun _ _ _ h => h) (Or.inl ⟨by rfl, ?y20⟩) (by assumption) ?r20
      case y20 => (intro w hSw; (try dsimp only at hSw); go_simp; try (with_reducible rfl))
      simp only [List.getElem_toArray, List.getElem_cons_succ, List.getElem_cons_zero, Act.put, List.setIfInBounds_toArray, List.set_cons_zero, List.set_cons_succ]
      refine wpAnyH_take (i := 7) (v := ?v21) rfl (by kernel_rfl) (by kernel_rfl) (by kernel_rfl) (fun _ _ _ h => h) (Or.inl ⟨by rfl, ?y21⟩) (by assumption) ?r21
      case y21 => (intro w hSw; (try dsimp only at hSw); go_simp; try (with_reducible rfl))
      simp only [List.getElem_toArray, List.getElem_cons_succ, List.getElem_cons_zero, Act.put, List.setIfInBounds_toArray, List.set_cons_zero, List.set_cons_succ]
      refine wpAnyH_take (i := 8) (v := ?v22) rfl (by kernel_rfl) (by kernel_rfl) (by kernel_rfl) (fun _ _ _ h => h) (Or.inl ⟨by rfl, ?y22⟩) (by assumption) ?r22
      case y22 => (intro w hSw; (try dsimp only at hSw); go_simp; try (with_reducible rfl))
      simp only [List.getElem_toArray, List.getElem_cons_succ, List.getElem_cons_zero, Act.put, List.setIfInBounds_toArray, List.set_cons_zero, List.set_cons_succ]
      refine wpAnyH_take (i := 9) (v := ?v23) rfl (by kernel_rfl) (by kernel_rfl) (by kernel_rfl) (fun _ _ _ h => h) (Or.inl ⟨by rfl, ?y23⟩) (by assumption) ?r23
      case y23 => (intro w hSw; (try dsimp only at hSw); go_simp; try (with_reducible rfl))
      simp only [List.getElem_toArray, List.getElem_cons_succ, List.getElem_cons_zero, Act.put, List.setIfInBounds_toArray, List.set_cons_zero, List.set_cons_succ]
      refine wpAnyH_take (i := 10) (v := ?v24) rfl (by kernel_rfl) (by kernel_rfl) (by kernel_rfl) (fun _ _ _ h => h) (Or.inl ⟨by rfl, ?y24⟩) (by assumption) ?r24
      case y24 => (intro w hSw; (try dsimp only at hSw); go_simp; try (with_reducible rfl))
      simp only [List.getElem_toArray, List.getElem_cons_succ, List.getElem_cons_zero, Act.put, List.setIfInBounds_toArray, List.set_cons_zero, List.set_cons_succ]
      refine wpAnyH_take (i := 11) (v := ?v25) rfl (by kernel_rfl) (by kernel_rfl) (by kernel_rfl) (fun _ _ _ h => h) (Or.inl ⟨by rfl, ?y25⟩) (by assumption) ?r25
      case y25 => (intro w hSw; (try dsimp only at hSw); go_simp; try (with_reducible rfl))
      simp only [List.getElem_toArray, List.getElem_cons_succ, List.getElem_cons_zero, Act.put, List.setIfInBounds_toArray, List.set_cons_zero, List.set_cons_succ]
      refine wpAnyH_ready (rs := [12]) (by kernel_rfl) (by simp) ?_
      refine AllReadyH.cons rfl (fun K hK => ?_) AllReadyH.nil
      simp only [List.getElem_toArray, List.getElem_cons_succ, List.getElem_cons_zero]
      go_simp
      go_at_call 56
      refine (C6.out _ (by first | exact (Below.refl _ _).drew | exact Below.refl _ _)).mono ?_
      rintro e w2 ⟨a2, q2, rfl, ho2, ⟨u0, u1, u2, c0, c1, c2⟩, ⟨c3, c4, c5⟩, ⟨c6, c7⟩, c8, c9⟩
      dsimp only
      refine hK.out _ _ ?_ (fun hHeld => ?_)
      · exact ⟨c6, c8, c9⟩
      clear hK K
      try simp only [Act.put, List.setIfInBounds_toArray, List.set_cons_zero, List.set_cons_succ]
      refine wpAnyH_take (i := 13) (v := ?v26) rfl (by kernel_rfl) (by kernel_rfl) (by kernel_rfl) (fun _ _ _ h => h) (Or.inl ⟨by rfl, ?y26⟩) (by assumption) ?r26
      case y26 => (intro w hSw; (try dsimp only at hSw); go_simp; try (with_reducible rfl))
      simp only [List.getElem_toArray, List.getElem_cons_succ, List.getElem_cons_zero, Act.put, List.setIfInBounds_toArray, List.set_cons_zero, List.set_cons_succ]
      refine wpAnyH_ready (rs := [14]) (by kernel_rfl) (by simp) ?_
      refine AllReadyH.cons rfl (fun K hK => ?_) AllReadyH.nil
      simp only [List.getElem_toArray, List.getElem_cons_succ, List.getElem_cons_zero]
      obtain ⟨hps, hpg⟩ := PP.out _ _ _ ho2
      have HPS := hide hps
      have HPG := hide hpg
      clear hps hpg
      go_simp
      refine hK.out _ _ ?_ (fun hHeld => ?_)
      · exact ⟨grown_cell HPG.out ⟨w.heap.size, 0, none⟩ c6 (by simp; omega), grown_cell HPG.out ⟨w6.heap.size, 0, none⟩ c8 (by simp; omega), grown_cell HPG.out ⟨w6.heap.size, 1, none⟩ c9 (by simp; omega)⟩
      clear hK K
      try simp only [Act.put, List.setIfInBounds_toArray, List.set_cons_zero, List.set_cons_succ]
      refine wpAnyH_done (by kernel_rfl) ?_ _
      go_wp2_with fail
      go_meet
      case rel => exact ⟨rfl, HPS.out⟩
    case rest =>
      obtain ⟨rfl, hta⟩ := hcut
      obtain ⟨u, hown⟩ := hta.own
      have hpc : pcs (M.set m (⟨f, Y, ix Y⟩, u)) = L.set m ⟨f, Y, ix Y⟩ := by rw [← HM.out]; show List.map _ _ = _; rw [List.map_set]
      have hnm1 : n - 1 = m := by omega
      have hL2 : L' = L.set m ⟨f, Y, ix Y⟩ := by
        rw [HL'.out, hnm1]
        unfold appP
        rw [HLP.out, HYY.out, HRR.out]
      have HL2 := hide hL2
      have HPC := hide hpc
      have HOW := hide hown
      have HTA := hide hta
      clear z0 z1 z2 z3 o0 o1 p0 p1 p2
      obtain ⟨z0, z1, z2, z3⟩ := blkp hta.res
      obtain ⟨o0, o1, _, _⟩ := blkp hta.out
      clear hta hown hpc hL2 C6 PP
      go_wp2
      refine bodyPost_ret (v := .tuple #[.agg #[.slice (some ⟨g, 0, none⟩) n c, .int .i64 B], .bool true]) (by simp [results, Tryd.f39, go_sem, z0, z1]) rfl ⟨rfl, ?_, ?_⟩
      · rw [HL2.out, ← HPC.out]
        exact (HOW.out.setB2 HTA.out.res piece_log int_log).sl
      · exact (HTA.out.bel.setCell (p := ⟨_, _, none⟩) (by show base ≤ w.heap.size + 1; omega) _).setCell (p := ⟨_, _, none⟩) (by show base ≤ w.heap.size + 1; omega) _
end Go.Proofs.YtbcljhafdpnjbabDoor.L6

namespace Go.Proofs.YtbcljhafdpnjbabDoor.L6
open Go.RowKit L1
set_option linter.unusedVariables false

set_option maxRecDepth 100000 in
set_option maxHeartbeats 4000000 in
theorem l6Append_full (g : Nat) (L : List Pc) (M : List PV) (n c base : Nat) (B : Int) (r : ByteArray) (w : World) (ho : OwC w base (.slice (some ⟨g, 0, none⟩) n c) n M) (hM : pcs M = L) (hg : GoodG L B) (hbase : base ≤ w.heap.size) (hr : r.size ≤ 20) (h60 : lastEnd L n - (gc L 0).f ≠ 60) (hf : ¬ AppFits L r) (h20 : n = 20) : Calls Tryd.prog 39 #[.agg #[.slice (some ⟨g, 0, none⟩) n c, .int .i64 B], .string r] w fun e w' => e = .returned (.tuple #[.agg #[.slice (some ⟨g, 0, none⟩) n c, .int .i64 B], .bool false]) ∧ Below base w w' := by
  have H20 := hide h20
  clear h20
  have hn : L.length = n := by rw [← hM]; simp [ho.len]
  have hs : SlC w (some ⟨g, 0, none⟩) L := by rw [← hM]; exact ho.sl
  have hn1 : 1 ≤ n := by have := hg.one; omega
  have hn20 : n ≤ 20 := by have := hg.many; omega
  have hn0I : 0 < n := by omega
  have hml := ho.len
  have hgb := own_ltC ho.row g rfl
  have hfl : (flatC M).length = n * 3 := by rw [flatC_len, hml]
  have gcM : ∀ i, i < n → (M.getD i eV).1 = gc L i := fun i hi => by
    have := pcs_get M i (by omega)
    rw [hM] at this
    exact this.symm
  have d0 : w.cell? ⟨g, 0, none⟩ = some (.int .i64 (gc L 0).f) := by
    have := (ho.row.cellAt (0 * 3) (by omega)).trans (flatC_get M 0 (by omega)).1
    rw [gcM 0 (by omega)] at this
    simpa using this
  have C1 := hide (fun wx (hb : Below w.heap.size w wx) => l6End_good (some ⟨g, 0, none⟩) L n c B wx hn (hs.below hb) hg B)
  have hfb := hg.f0
  have hfb1 := hg.f1
  have hEb : 0 ≤ lastEnd L n ∧ lastEnd L n ≤ 1000060 := by
    have hk := hg.ps (n - 1) (by omega)
    have hb := atg_bd L (n - 1) (fun j hj => (hg.ps j (by omega)).1)
    have h3 := cnt_le (gc L (n - 1)).s
    have h4 := hk.1.1
    unfold lastEnd
    rw [hk.2.1]
    omega
  obtain ⟨E, hE⟩ : ∃ E, E = lastEnd L n := ⟨_, rfl⟩
  obtain ⟨f0, hf0⟩ : ∃ f0, f0 = (gc L 0).f := ⟨_, rfl⟩
  rw [← hE] at C1 hEb
  rw [← hf0] at d0 hfb hfb1
  obtain ⟨W, hW⟩ : ∃ W, (w.alloc (.cells #[.slice (some ⟨g, 0, none⟩) n c, .int .i64 B] 25 (0, 0))).alloc (.cells #[.slice none 0 0, .int .i64 0] 25 (0, 0)) = W := ⟨_, rfl⟩
  have BW : Below w.heap.size w W := by rw [← hW]; exact ((Below.refl _ _).alloc (Nat.le_refl _) _).alloc (by simp) _
  have GB : Hid (W.heap[w.heap.size]? = some (.cells #[.slice (some ⟨g, 0, none⟩) n c, .int .i64 B] 25 (0, 0))) := by show _ = _; rw [← hW]; exact blk_first _ _ _
  have GZ : Hid (W.heap[w.heap.size + 1]? = some (.cells #[.slice none 0 0, .int .i64 0] 25 (0, 0))) := by show _ = _; rw [← hW]; exact blk_second _ _ _
  have hwW : w.heap.size + 1 < W.heap.size := (Array.getElem?_eq_some_iff.1 GZ.out).1
  obtain ⟨o0, o1, _, _⟩ := blkp GB.out
  obtain ⟨z0, z1, z2, z3⟩ := blkp GZ.out
  have dg := (BW.cell (p := ⟨g, 0, none⟩) (blk_lt d0)).trans d0
  have HBW := hide BW
  have HO := hide (ho.below BW)
  have HM := hide hM
  have HN := hide hn
  have HG := hide hg
  have HE := hide hE
  have HF0 := hide hf0
  have HWW := hide hW
  have HGM := hide gcM
  have hr20 : ¬ (20 : Int) < (r.size : Int) := by omega
  rw [← hE, ← hf0] at h60
  have hsb : (E - f0 == 60) = false := by simp only [beq_eq_false_iff_ne]; exact h60
  have hwr : IntKind.i64.wrap (E - f0) = E - f0 := wrap6 (by omega) (by omega)
  have C3 := hide (fun wx => l1Varint_any (r.size : Int) wx (by omega) (by omega))
  obtain ⟨P, hP⟩ : ∃ P, P = strOfNums (vd (zig (r.size : Int))) := ⟨_, rfl⟩
  rw [← hP] at C3
  obtain ⟨R, hR⟩ : ∃ R, R = rec r := ⟨_, rfl⟩
  have hPr : P ++ r = R := by rw [hR, hP]; rfl
  have hRs : R.size = 1 + r.size := by rw [hR]; exact rec_size r hr
  have hPs : P.size + r.size = R.size := by rw [← hPr, ByteArray.size_append]
  have qa : ∀ w : World, (Op.stringOp .add P r).run Tryd.prog w = .ok (.string R) w := fun w => by rw [← hPr]; exact run_string_add_sum w _ _ (by omega)
  have HRR := hide hR
  obtain ⟨m, hm'⟩ : ∃ m, m = n - 1 := ⟨_, rfl⟩
  have hnm : (n : Int) - 1 = (m : Int) := by omega
  have hmn : (m : Int) < (n : Int) := by omega
  have hm0 : (0 : Int) ≤ (m : Int) := by omega
  have hmN : m < n := by omega
  have hwm : IntKind.i64.wrap (m : Int) = (m : Int) := wrap6 (by omega) (by omega)
  obtain ⟨f1, f2, f3⟩ := flatC_get M m (by omega)
  obtain ⟨ai, ci, hv, hsl, _⟩ := own_form (ho.idx m hmN)
  rw [hv] at f3
  rw [gcM m hmN] at f1 f2 f3
  have d1 := (ho.row.cellAt (m * 3) (by omega)).trans f1
  have d2 := (ho.row.cellAt (m * 3 + 1) (by omega)).trans f2
  have d3 := (ho.row.cellAt (m * 3 + 2) (by omega)).trans f3
  have hlp : endP L = gc L m := by show gc L (L.length - 1) = _; rw [hn, hm']
  have hgp := (hg.ps m (by rw [hn]; exact hmN)).1
  have hfit := (show ¬ (gc L m).s.size + (1 + r.size) ≤ 60 by have h := hf; unfold AppFits at h; rw [hlp] at h; exact h)
  obtain ⟨p, hp⟩ : ∃ p, p = gc L m := ⟨_, rfl⟩
  rw [← hp] at d1 d2 d3 hlp hgp hfit
  obtain ⟨f, s, x⟩ := p
  simp only at d1 d2 d3 hfit
  have hs60 := hgp.1
  simp only at hs60
  obtain ⟨xl, hxl⟩ : ∃ xl, xl = x.length := ⟨_, rfl⟩
  rw [← hxl] at d3
  have HLP := hide hlp
  have HGP := hide hgp
  have HD : Hid (w.cell? ⟨g, m * 3, none⟩ = some (.int .i64 f) ∧ w.cell? ⟨g, m * 3 + 1, none⟩ = some (.string s) ∧ w.cell? ⟨g, m * 3 + 2, none⟩ = some (.slice ai xl ci)) := ⟨d1, d2, d3⟩
  have hsum : IntKind.i64.wrap ((s.size : Int) + (R.size : Int)) = (s.size : Int) + (R.size : Int) := wrap6 (by omega) (by omega)
  clear ho hM hn hg hE hf0 hW gcM hs d0 hml hfl BW hP hR hPr f1 f2 f3 hv hsl d1 d2 d3 hlp hgp hp hxl hm'
  go_enter Tryd.func39, Tryd.ntmps39
  go_upto_region 1 with fail
  rw [HWW.out]
  go_region_held3 (fun wx => (wx.cell? ⟨w.heap.size, 0, none⟩ = some (.slice (some ⟨g, 0, none⟩) n c) ∧ wx.cell? ⟨w.heap.size, 1, none⟩ = some (.int .i64 B) ∧ wx.cell? ⟨g, 0, none⟩ = some (.int .i64 f0)) ∧ Below W.heap.size W wx) (first | exact ⟨⟨o0, o1, dg⟩, (Below.refl _ _).drew⟩ | exact keep3 (by assumption) (by assumption) (Nat.le_refl _)) ((go_at_call 41; refine (C1.out _ (HBW.out.trans (Below.mono (by first | exact And.right (by assumption) | exact (Below.refl _ _).drew | exact Below.refl _ _) HBW.out.size))).mono ?_; rintro e w5 ⟨rfl, hb⟩))
  rename_i hHeld
  have hb5 := hHeld.2
  clear hHeld
  obtain ⟨o0', o1', _, _⟩ := blkp ((hb5.block w.heap.size (by omega)).trans GB.out)
  have H5 := hide hb5
  have BW5 := hide (HBW.out.trans (hb5.mono HBW.out.size))
  have hz5 := hb5.size
  clear hb5 o0 o1 z0 z1 z2 z3 dg
  go_wp2_with fail
  refine (C3.out _).mono ?_
  rintro e w6 ⟨rfl, hb6⟩
  have H6 := hide (H5.out.trans (hb6.mono H5.out.size))
  have BW6 := hide (BW5.out.trans (hb6.mono BW5.out.size))
  have hz6 := H6.out.size
  clear hb6 o0' o1'
  obtain ⟨o0, o1, _, _⟩ := blkp ((H6.out.block w.heap.size (by omega)).trans GB.out)
  have e1 := (BW6.out.cell (p := ⟨g, m * 3, none⟩) hgb.2).trans HD.out.1
  have e2 := (BW6.out.cell (p := ⟨g, m * 3 + 1, none⟩) hgb.2).trans HD.out.2.1
  have e3 := (BW6.out.cell (p := ⟨g, m * 3 + 2, none⟩) hgb.2).trans HD.out.2.2
  go_upto_region 5 with fail
  generalize hV : w6.alloc (.cells #[.int .i64 f, .string s, .slice ai xl ci] 50 (0, 0)) = V
  have BV : Below w6.heap.size w6 V := by rw [← hV]; exact (Below.refl _ _).alloc (Nat.le_refl _) _
  have GP : Hid (V.heap[w6.heap.size]? = some (.cells #[.int .i64 f, .string s, .slice ai xl ci] 50 (0, 0))) := by show _ = _; rw [← hV]; exact blk_new _ _
  obtain ⟨p0, p1, p2, _, _, _⟩ := blk3 GP.out
  have HWV := hide (H6.out.trans (BV.mono H6.out.size))
  have BV6 := hide (BW6.out.trans (BV.mono BW6.out.size))
  have hzV := BV.size
  have hwV : w6.heap.size < V.heap.size := (Array.getElem?_eq_some_iff.1 GP.out).1
  have GBV := hide ((HWV.out.block w.heap.size (by omega)).trans GB.out)
  have GZV := hide ((HWV.out.block (w.heap.size + 1) (by omega)).trans GZ.out)
  have HOV := hide (HO.out.below HWV.out)
  clear o0 o1 e1 e2 e3
  obtain ⟨o0, o1, _, _⟩ := blkp GBV.out
  obtain ⟨z0, z1, z2, z3⟩ := blkp GZV.out
  have HV := hide hV
  clear hV BV
  have hs1 : ¬ s.size = 0 := by omega
  have he : s.toList.isEmpty = false := by rw [empty6]; simpa using hs1
  have hgt : (60 : Int) < (s.size : Int) + (R.size : Int) := by omega
  have hnn : ((n : Int) == 20) = true := by have := H20.out; simp; omega
  go_upto_region 7 with (first | (rw [HV.out]) | fail)
  first | rw [HV.out] | skip
  go_wp2
  refine bodyPost_ret (v := .tuple #[.agg #[.slice (some ⟨g, 0, none⟩) n c, .int .i64 B], .bool false]) (by simp [results, Tryd.f39, go_sem, z0, z1]) rfl ⟨rfl, ?_⟩
  exact ((BV6.out.mono hbase).setCell (p := ⟨_, _, none⟩) (by show base ≤ w.heap.size + 1; omega) _).setCell (p := ⟨_, _, none⟩) (by show base ≤ w.heap.size + 1; omega) _
end Go.Proofs.YtbcljhafdpnjbabDoor.L6

namespace Go.Proofs.YtbcljhafdpnjbabDoor.L6
open Go.RowKit L1
set_option linter.unusedVariables false

set_option maxRecDepth 100000 in
set_option maxHeartbeats 4000000 in
theorem l6Append_more (g : Nat) (L : List Pc) (M : List PV) (n c base : Nat) (B : Int) (r : ByteArray) (w : World) (ho : OwC w base (.slice (some ⟨g, 0, none⟩) n c) n M) (hM : pcs M = L) (hg : GoodG L B) (hbase : base ≤ w.heap.size) (hr : r.size ≤ 20) (h60 : lastEnd L n - (gc L 0).f ≠ 60) (hf : ¬ AppFits L r) (h20 : n ≠ 20) : Calls Tryd.prog 39 #[.agg #[.slice (some ⟨g, 0, none⟩) n c, .int .i64 B], .string r] w fun e w' => ∃ a' c', e = .returned (.tuple #[.agg #[.slice a' (n + 1) c', .int .i64 B], .bool true]) ∧ SlC w' a' (L ++ [⟨lastEnd L n, rec r, ix (rec r)⟩]) ∧ Below base w w' := by
  obtain ⟨L', hL'⟩ : ∃ L', L' = L ++ [(⟨lastEnd L n, rec r, ix (rec r)⟩ : Pc)] := ⟨_, rfl⟩
  rw [← hL']
  have HL' := hide hL'
  clear hL'
  obtain ⟨i0, hi, hz0, hz1, hz2⟩ := info_parts info_piece
  have hn : L.length = n := by rw [← hM]; simp [ho.len]
  have hs : SlC w (some ⟨g, 0, none⟩) L := by rw [← hM]; exact ho.sl
  have hn1 : 1 ≤ n := by have := hg.one; omega
  have hn20 : n ≤ 20 := by have := hg.many; omega
  have hn0I : 0 < n := by omega
  have hml := ho.len
  have hgb := own_ltC ho.row g rfl
  have hfl : (flatC M).length = n * 3 := by rw [flatC_len, hml]
  have gcM : ∀ i, i < n → (M.getD i eV).1 = gc L i := fun i hi => by
    have := pcs_get M i (by omega)
    rw [hM] at this
    exact this.symm
  have d0 : w.cell? ⟨g, 0, none⟩ = some (.int .i64 (gc L 0).f) := by
    have := (ho.row.cellAt (0 * 3) (by omega)).trans (flatC_get M 0 (by omega)).1
    rw [gcM 0 (by omega)] at this
    simpa using this
  have C1 := hide (fun wx (hb : Below w.heap.size w wx) => l6End_good (some ⟨g, 0, none⟩) L n c B wx hn (hs.below hb) hg B)
  have hfb := hg.f0
  have hfb1 := hg.f1
  have hEb : 0 ≤ lastEnd L n ∧ lastEnd L n ≤ 1000060 := by
    have hk := hg.ps (n - 1) (by omega)
    have hb := atg_bd L (n - 1) (fun j hj => (hg.ps j (by omega)).1)
    have h3 := cnt_le (gc L (n - 1)).s
    have h4 := hk.1.1
    unfold lastEnd
    rw [hk.2.1]
    omega
  obtain ⟨E, hE⟩ : ∃ E, E = lastEnd L n := ⟨_, rfl⟩
  obtain ⟨f0, hf0⟩ : ∃ f0, f0 = (gc L 0).f := ⟨_, rfl⟩
  rw [← hE] at C1 hEb
  rw [← hf0] at d0 hfb hfb1
  obtain ⟨W, hW⟩ : ∃ W, (w.alloc (.cells #[.slice (some ⟨g, 0, none⟩) n c, .int .i64 B] 25 (0, 0))).alloc (.cells #[.slice none 0 0, .int .i64 0] 25 (0, 0)) = W := ⟨_, rfl⟩
  have BW : Below w.heap.size w W := by rw [← hW]; exact ((Below.refl _ _).alloc (Nat.le_refl _) _).alloc (by simp) _
  have GB : Hid (W.heap[w.heap.size]? = some (.cells #[.slice (some ⟨g, 0, none⟩) n c, .int .i64 B] 25 (0, 0))) := by show _ = _; rw [← hW]; exact blk_first _ _ _
  have GZ : Hid (W.heap[w.heap.size + 1]? = some (.cells #[.slice none 0 0, .int .i64 0] 25 (0, 0))) := by show _ = _; rw [← hW]; exact blk_second _ _ _
  have hwW : w.heap.size + 1 < W.heap.size := (Array.getElem?_eq_some_iff.1 GZ.out).1
  obtain ⟨o0, o1, _, _⟩ := blkp GB.out
  obtain ⟨z0, z1, z2, z3⟩ := blkp GZ.out
  have dg := (BW.cell (p := ⟨g, 0, none⟩) (blk_lt d0)).trans d0
  have HBW := hide BW
  have HO := hide (ho.below BW)
  have HM := hide hM
  have HN := hide hn
  have HG := hide hg
  have HE := hide hE
  have HF0 := hide hf0
  have HWW := hide hW
  have HGM := hide gcM
  have hr20 : ¬ (20 : Int) < (r.size : Int) := by omega
  rw [← hE, ← hf0] at h60
  have hsb : (E - f0 == 60) = false := by simp only [beq_eq_false_iff_ne]; exact h60
  have hwr : IntKind.i64.wrap (E - f0) = E - f0 := wrap6 (by omega) (by omega)
  have C3 := hide (fun wx => l1Varint_any (r.size : Int) wx (by omega) (by omega))
  obtain ⟨P, hP⟩ : ∃ P, P = strOfNums (vd (zig (r.size : Int))) := ⟨_, rfl⟩
  rw [← hP] at C3
  obtain ⟨R, hR⟩ : ∃ R, R = rec r := ⟨_, rfl⟩
  have hPr : P ++ r = R := by rw [hR, hP]; rfl
  have hRs : R.size = 1 + r.size := by rw [hR]; exact rec_size r hr
  have hPs : P.size + r.size = R.size := by rw [← hPr, ByteArray.size_append]
  have qa : ∀ w : World, (Op.stringOp .add P r).run Tryd.prog w = .ok (.string R) w := fun w => by rw [← hPr]; exact run_string_add_sum w _ _ (by omega)
  have HRR := hide hR
  obtain ⟨m, hm'⟩ : ∃ m, m = n - 1 := ⟨_, rfl⟩
  have hnm : (n : Int) - 1 = (m : Int) := by omega
  have hmn : (m : Int) < (n : Int) := by omega
  have hm0 : (0 : Int) ≤ (m : Int) := by omega
  have hmN : m < n := by omega
  have hwm : IntKind.i64.wrap (m : Int) = (m : Int) := wrap6 (by omega) (by omega)
  obtain ⟨f1, f2, f3⟩ := flatC_get M m (by omega)
  obtain ⟨ai, ci, hv, hsl, _⟩ := own_form (ho.idx m hmN)
  rw [hv] at f3
  rw [gcM m hmN] at f1 f2 f3
  have d1 := (ho.row.cellAt (m * 3) (by omega)).trans f1
  have d2 := (ho.row.cellAt (m * 3 + 1) (by omega)).trans f2
  have d3 := (ho.row.cellAt (m * 3 + 2) (by omega)).trans f3
  have hlp : endP L = gc L m := by show gc L (L.length - 1) = _; rw [hn, hm']
  have hgp := (hg.ps m (by rw [hn]; exact hmN)).1
  have hfit := (show ¬ (gc L m).s.size + (1 + r.size) ≤ 60 by have h := hf; unfold AppFits at h; rw [hlp] at h; exact h)
  obtain ⟨p, hp⟩ : ∃ p, p = gc L m := ⟨_, rfl⟩
  rw [← hp] at d1 d2 d3 hlp hgp hfit
  obtain ⟨f, s, x⟩ := p
  simp only at d1 d2 d3 hfit
  have hs60 := hgp.1
  simp only at hs60
  obtain ⟨xl, hxl⟩ : ∃ xl, xl = x.length := ⟨_, rfl⟩
  rw [← hxl] at d3
  have HLP := hide hlp
  have HGP := hide hgp
  have HD : Hid (w.cell? ⟨g, m * 3, none⟩ = some (.int .i64 f) ∧ w.cell? ⟨g, m * 3 + 1, none⟩ = some (.string s) ∧ w.cell? ⟨g, m * 3 + 2, none⟩ = some (.slice ai xl ci)) := ⟨d1, d2, d3⟩
  have hsum : IntKind.i64.wrap ((s.size : Int) + (R.size : Int)) = (s.size : Int) + (R.size : Int) := wrap6 (by omega) (by omega)
  clear ho hM hn hg hE hf0 hW gcM hs d0 hml hfl BW hP hR hPr f1 f2 f3 hv hsl d1 d2 d3 hlp hgp hp hxl hm'
  go_enter Tryd.func39, Tryd.ntmps39
  go_upto_region 1 with fail
  rw [HWW.out]
  go_region_held3 (fun wx => (wx.cell? ⟨w.heap.size, 0, none⟩ = some (.slice (some ⟨g, 0, none⟩) n c) ∧ wx.cell? ⟨w.heap.size, 1, none⟩ = some (.int .i64 B) ∧ wx.cell? ⟨g, 0, none⟩ = some (.int .i64 f0)) ∧ Below W.heap.size W wx) (first | exact ⟨⟨o0, o1, dg⟩, (Below.refl _ _).drew⟩ | exact keep3 (by assumption) (by assumption) (Nat.le_refl _)) ((go_at_call 41; refine (C1.out _ (HBW.out.trans (Below.mono (by first | exact And.right (by assumption) | exact (Below.refl _ _).drew | exact Below.refl _ _) HBW.out.size))).mono ?_; rintro e w5 ⟨rfl, hb⟩))
  rename_i hHeld
  have hb5 := hHeld.2
  clear hHeld
  obtain ⟨o0', o1', _, _⟩ := blkp ((hb5.block w.heap.size (by omega)).trans GB.out)
  have H5 := hide hb5
  have BW5 := hide (HBW.out.trans (hb5.mono HBW.out.size))
  have hz5 := hb5.size
  clear hb5 o0 o1 z0 z1 z2 z3 dg
  go_wp2_with fail
  refine (C3.out _).mono ?_
  rintro e w6 ⟨rfl, hb6⟩
  have H6 := hide (H5.out.trans (hb6.mono H5.out.size))
  have BW6 := hide (BW5.out.trans (hb6.mono BW5.out.size))
  have hz6 := H6.out.size
  clear hb6 o0' o1'
  obtain ⟨o0, o1, _, _⟩ := blkp ((H6.out.block w.heap.size (by omega)).trans GB.out)
  have e1 := (BW6.out.cell (p := ⟨g, m * 3, none⟩) hgb.2).trans HD.out.1
  have e2 := (BW6.out.cell (p := ⟨g, m * 3 + 1, none⟩) hgb.2).trans HD.out.2.1
  have e3 := (BW6.out.cell (p := ⟨g, m * 3 + 2, none⟩) hgb.2).trans HD.out.2.2
  go_upto_region 5 with fail
  generalize hV : w6.alloc (.cells #[.int .i64 f, .string s, .slice ai xl ci] 50 (0, 0)) = V
  have BV : Below w6.heap.size w6 V := by rw [← hV]; exact (Below.refl _ _).alloc (Nat.le_refl _) _
  have GP : Hid (V.heap[w6.heap.size]? = some (.cells #[.int .i64 f, .string s, .slice ai xl ci] 50 (0, 0))) := by show _ = _; rw [← hV]; exact blk_new _ _
  obtain ⟨p0, p1, p2, _, _, _⟩ := blk3 GP.out
  have HWV := hide (H6.out.trans (BV.mono H6.out.size))
  have BV6 := hide (BW6.out.trans (BV.mono BW6.out.size))
  have hzV := BV.size
  have hwV : w6.heap.size < V.heap.size := (Array.getElem?_eq_some_iff.1 GP.out).1
  have GBV := hide ((HWV.out.block w.heap.size (by omega)).trans GB.out)
  have GZV := hide ((HWV.out.block (w.heap.size + 1) (by omega)).trans GZ.out)
  have HOV := hide (HO.out.below HWV.out)
  clear o0 o1 e1 e2 e3
  obtain ⟨o0, o1, _, _⟩ := blkp GBV.out
  obtain ⟨z0, z1, z2, z3⟩ := blkp GZV.out
  have HV := hide hV
  clear hV BV
  have hs1 : ¬ s.size = 0 := by omega
  have he : s.toList.isEmpty = false := by rw [empty6]; simpa using hs1
  have hgt : (60 : Int) < (s.size : Int) + (R.size : Int) := by omega
  have hnn : ((n : Int) == 20) = false := by simp; omega
  obtain ⟨N, hN⟩ : ∃ N, N = (ix R).length := ⟨_, rfl⟩
  have CE := hide (fun wx (hb : Below V.heap.size V wx) => (C1.out wx (BV6.out.trans (hb.mono BV6.out.size))).mono (R' := fun e w2 => e = .returned (.int .i64 E) ∧ Below V.heap.size V w2 ∧ w2.cell? ⟨w.heap.size, 0, none⟩ = some (.slice (some ⟨g, 0, none⟩) n c)) (by
    rintro e w2 ⟨rfl, hb2⟩
    have hb3 := hb.trans (hb2.mono hb.size)
    exact ⟨rfl, hb3, (hb3.cell (p := ⟨w.heap.size, 0, none⟩) (by show w.heap.size < _; omega)).trans o0⟩))
  have C6 := hide (fun wx (hb : Below V.heap.size V wx) => (l6Piece_any E R wx (by omega)).mono (R' := fun e w2 => ∃ a2 q2, e = .returned (.agg #[.int .i64 E, .string R, .slice a2 N q2]) ∧ (w2.ownsRow V.heap.size 3 1 (.slice a2 N q2) N ((ix R).map (Value.int .i64)) ∧ Below V.heap.size V w2) ∧ w2.cell? ⟨w.heap.size, 0, none⟩ = some (.slice (some ⟨g, 0, none⟩) n c) ∧ ∀ ob, (w2.alloc ob).cell? ⟨w.heap.size, 0, none⟩ = some (.slice (some ⟨g, 0, none⟩) n c)) (by
    rintro e w2 ⟨v2, rfl, ho2, hb2⟩
    have hb3 := hb.trans (hb2.mono hb.size)
    rw [← hN] at ho2
    obtain ⟨a2, q2, rfl, _, _⟩ := own_form ho2
    have hc := (hb3.cell (p := ⟨w.heap.size, 0, none⟩) (by show w.heap.size < _; omega)).trans o0
    exact ⟨a2, q2, rfl, ⟨own_baseC ho2 hb.size, hb3⟩, hc, fun ob => Go.Lib.cell?_alloc_some ob hc⟩))
  have HNN := hide hN
  have hbV : base ≤ V.heap.size := by omega
  have PP : Hid (∀ w3 a2 q2 g4 c4 w4, (w3.ownsRow V.heap.size 3 1 (.slice a2 N q2) N ((ix R).map (Value.int .i64)) ∧ Below V.heap.size V w3) → w4.ownsRow base 50 3 (.slice (some ⟨g4, 0, none⟩) (n + 1) c4) (n + 1) (flatC M ++ [.int .i64 E, .string R, .slice a2 N q2]) → (w3.alloc (.cells #[.int .i64 E, .string R, .slice a2 N q2] 50 (0, 0))).grownBy w4 (some g) → MoreS w base n B M ⟨E, R, ix R⟩ (w4.setCell ⟨w.heap.size, 0, none⟩ (.slice (some ⟨g4, 0, none⟩) (n + 1) c4)) ∧ w4.cell? ⟨w.heap.size, 0, none⟩ = some (.slice (some ⟨g, 0, none⟩) n c) ∧ w4.frozen? ⟨w.heap.size, 0, none⟩ = false) := by
    intro w3 a2 q2 g4 c4 w4 h h4 hg4
    have hs9 := h.2.size
    have hal : Below w3.heap.size w3 (w3.alloc (.cells #[.int .i64 E, .string R, .slice a2 N q2] 50 (0, 0))) := (Below.refl _ _).alloc (Nat.le_refl _) _
    have hba := h.2.trans (hal.mono hs9)
    have hblk : ∀ q, q < V.heap.size → q ≠ g → w4.heap[q]? = V.heap[q]? := fun q hq hne => (hg4.block q (by simp; omega) (by simp; omega)).trans (hba.block q hq)
    have hGo := (hblk w.heap.size (by omega) (by omega)).trans GBV.out
    have O4 := ((HOV.out.below h.2).below hal).more (w' := w4) (p := ⟨E, R, ix R⟩) (u := .slice a2 N q2) (by show World.ownsRow _ _ _ _ _ (ix R).length _; rw [← HNN.out]; exact own_baseC (own_belowC h.1 hal) hbV) (fun i hi bb hbb e => by
      have h1 := (own_ltC h.1 bb hbb).1
      have h2 := (own_ltC (HOV.out.idx i hi) bb e).2
      omega) hg4 h4
    have B9 : Below base w w4 := ⟨hg4.os.trans (hba.os.trans BV6.out.os), hg4.tape.trans (hba.tape.trans BV6.out.tape), hg4.output.trans (hba.output.trans BV6.out.output), by have := hg4.size; simp at this; omega, fun q hq => (hblk q (by omega) (by omega)).trans (BV6.out.block q (by omega))⟩
    obtain ⟨r0, _, r2, _⟩ := blkp hGo
    refine ⟨⟨⟨g4, c4, .slice a2 N q2, O4.setB hGo piece_log int_log, ?_⟩, B9.setCell (p := ⟨w.heap.size, 0, none⟩) (by show base ≤ w.heap.size; omega) _, (Below.heap_setCell _ _ _ _ (show w.heap.size + 1 ≠ w.heap.size by omega)).trans ((hblk (w.heap.size + 1) (by omega) (by omega)).trans GZV.out)⟩, r0, r2⟩
    rw [setCell_eq_setRow w4 w.heap.size 0 _ 25 (0, 0) _ hGo, setRow_heap w4 w.heap.size _ _ 25 _ hGo]
    rfl
  have HROW := hide HOV.out.row
  clear hN C1 C3
  go_upto_region 8 with (first | (rw [HV.out]) | fail)
  first | rw [HV.out] | skip
  go_cut [6] (fun t wx => t = .string R ∧ MoreS w base n B M ⟨E, R, ix R⟩ wx)
  case first =>
    go_region_law (first
      | (rw [if_pos (by rfl)]; go_simp; go_at_call 41; refine (CE.out _ ?_).mono ?_; (first | exact Below.refl _ _ | exact (Below.refl _ _).drew | exact ((Below.refl _ _).drew).drew); rintro e w2 ⟨rfl, hb2, c2⟩; dsimp only)
      | (rw [if_pos (by rfl)]; go_simp; go_at_call 56; refine (C6.out _ ?_).mono ?_; (first | exact hb2 | exact hb2.drew | exact (hb2.drew).drew); rintro e w3 ⟨a2, q2, rfl, ho3, c3, c3a⟩; dsimp only)
      | (refine step_append_lies _ rfl (.tmp 54) (.tmp 59) 23 rfl base 50 i0 (.agg #[.int .i64 0, .string ByteArray.empty, .slice none 0 0]) 3 48 Tryd.underlying23 hi hz0 hz1 hz2 rfl (by decide) (.slice (some ⟨g, 0, none⟩) n c) n (flatC M) rfl (own_belowC HROW.out (ho3.2.trans (((Below.refl _ _).alloc (Nat.le_refl _) _).mono ho3.2.size))) ⟨w3.heap.size, 0, none⟩ 1 1 [.int .i64 E, .string R, .slice a2 N q2] rfl rfl (cell_three_new w3 _ rfl _ _ _ _) (by intro u hu; simp at hu; rcases hu with rfl | rfl | rfl <;> rfl) (by decide) (by unfold maxLen; omega) (by omega) (Nat.le_trans hbV (Nat.le_trans ho3.2.size (by show w3.heap.size ≤ (w3.alloc _).heap.size; simp))) _ rfl ?_; intro g4 c4 w4 h4 hg4 _ _; obtain ⟨pp, r0, r2⟩ := PP.out w3 a2 q2 g4 c4 w4 ho3 h4 hg4))
    all_goals (
      go_wp2_with fail
      go_meet
      case rel => exact ⟨rfl, pp⟩)
  case rest =>
    obtain ⟨rfl, hta⟩ := hcut
    obtain ⟨g4, c4, u, hown, hout⟩ := hta.own
    have hpc : pcs (M ++ [((⟨E, R, ix R⟩ : Pc), u)]) = L ++ [⟨E, R, ix R⟩] := by rw [← HM.out]; show List.map _ _ = _; rw [List.map_append]; rfl
    have hL2 : L' = L ++ [⟨E, R, ix R⟩] := by rw [HL'.out, HE.out, HRR.out]
    have HL2 := hide hL2
    have HPC := hide hpc
    have HOW := hide hown
    have HTA := hide hta
    clear z0 z1 z2 z3 o0 o1 p0 p1 p2
    obtain ⟨z0, z1, z2, z3⟩ := blkp hta.res
    obtain ⟨o0, o1, _, _⟩ := blkp hout
    clear hta hown hpc hL2 C6 PP CE hout
    go_wp2
    refine bodyPost_ret (v := .tuple #[.agg #[.slice (some ⟨g4, 0, none⟩) (n + 1) c4, .int .i64 B], .bool true]) (by simp [results, Tryd.f39, go_sem, z0, z1]) rfl ⟨some ⟨g4, 0, none⟩, c4, rfl, ?_, ?_⟩
    · rw [HL2.out, ← HPC.out]
      exact (HOW.out.setB2 HTA.out.res piece_log int_log).sl
    · exact (HTA.out.bel.setCell (p := ⟨_, _, none⟩) (by show base ≤ w.heap.size + 1; omega) _).setCell (p := ⟨_, _, none⟩) (by show base ≤ w.heap.size + 1; omega) _
end Go.Proofs.YtbcljhafdpnjbabDoor.L6

namespace Go.Proofs.YtbcljhafdpnjbabDoor.L6
open Go.RowKit L1
set_option linter.unusedVariables false

open Classical in
theorem l6Append_all (g : Nat) (L : List Pc) (M : List PV) (n c base : Nat) (B : Int) (r : ByteArray) (w : World) (ho : OwC w base (.slice (some ⟨g, 0, none⟩) n c) n M) (hM : pcs M = L) (hg : GoodG L B) (hbase : base ≤ w.heap.size) (hr2 : r.size ≤ 9223372036854775807) (L' : List Pc) (B' : Int) (ok : Bool) (hap : AppIs L B r L' B' ok) : Calls Tryd.prog 39 #[.agg #[.slice (some ⟨g, 0, none⟩) n c, .int .i64 B], .string r] w fun e w' => ∃ a' k c', e = .returned (.tuple #[.agg #[.slice a' k c', .int .i64 B], .bool ok]) ∧ Hid (ok = true → k = L'.length ∧ SlC w' a' L' ∧ B' = B) ∧ Below base w w' := by
  have hn : L.length = n := by rw [← hM]; simp [ho.len]
  by_cases h20 : r.size ≤ 20
  · by_cases h60 : lastEnd L n - (gc L 0).f = 60
    · obtain ⟨rfl, _, _⟩ := hap.no (fun h => h.2.2 (by rw [hn]; exact h60))
      refine (l6Append_60 g L M n c base B r w ho hM hg hbase h20 h60).mono ?_
      rintro e w' ⟨rfl, hb⟩
      exact ⟨_, _, _, rfl, fun h => (by cases h), hb⟩
    · have hpre : AppPre L B r := ⟨hg, h20, by rw [hn]; exact h60⟩
      by_cases hf : AppFits L r
      · obtain ⟨rfl, rfl, rfl⟩ := hap.put hpre hf
        refine (l6Append_put g L M n c base B' r w ho hM hg hbase h20 h60 hf).mono ?_
        rintro e w' ⟨rfl, hs, hb⟩
        exact ⟨_, _, _, rfl, fun _ => ⟨by simp [hn], by rw [hn]; exact hs, rfl⟩, hb⟩
      · by_cases hn20 : n = 20
        · obtain ⟨rfl, _, _⟩ := hap.full hpre hf (by rw [hn]; exact hn20)
          refine (l6Append_full g L M n c base B r w ho hM hg hbase h20 h60 hf hn20).mono ?_
          rintro e w' ⟨rfl, hb⟩
          exact ⟨_, _, _, rfl, fun h => (by cases h), hb⟩
        · obtain ⟨rfl, rfl, rfl⟩ := hap.more hpre hf (by rw [hn]; exact hn20)
          refine (l6Append_more g L M n c base B' r w ho hM hg hbase h20 h60 hf hn20).mono ?_
          rintro e w' ⟨a', c', rfl, hs, hb⟩
          exact ⟨_, _, _, rfl, fun _ => ⟨by simp [hn], by rw [hn]; exact hs, rfl⟩, hb⟩
  · obtain ⟨rfl, _, _⟩ := hap.no (fun h => h20 h.2.1)
    refine (l6Append_long g L M n c base B r w ho hM hg hbase (by omega) hr2).mono ?_
    rintro e w' ⟨rfl, hb⟩
    exact ⟨_, _, _, rfl, fun h => (by cases h), hb⟩

open Classical in
set_option maxRecDepth 100000 in
set_option maxHeartbeats 4000000 in
theorem specAppend_any (a : Option Addr) (L : List Pc) (n cap : Nat) (B : Int) (r : ByteArray) (w : World) (hn : L.length = n) (hm : n ≤ 9223372036854775807) (hs : SlC w a L) (hst : SzC L) (hr2 : r.size ≤ 9223372036854775807) (L' : List Pc) (B' : Int) (ok : Bool) (hap : AppIs L B r L' B' ok) :
    Calls Tryd.prog 7 #[.agg #[.slice a n cap, .int .i64 B], .string r] w (RetL w L' B' ok) := by
  obtain ⟨bk, hbk⟩ : ∃ bk : Bool, bk = true ↔ GoodG L B := ⟨decide (GoodG L B), by simp⟩
  have C1 := hide (fun wx (hb : Below w.heap.size w wx) => specGoodLog_any a L n cap B wx hn hm (hs.below hb) hst bk hbk)
  cases bk with
  | false =>
    obtain ⟨rfl, rfl, rfl⟩ := hap.no (fun h => absurd (hbk.2 h.1) (by simp))
    clear hap hs hn hst hbk
    go_enter Tryd.func7, Tryd.ntmps7
    go_wp2_with fail
    refine (C1.out _ (((Below.refl _ _).alloc (Nat.le_refl _) _).alloc (by simp) _)).mono ?_
    rintro e w1 ⟨rfl, hb1⟩
    obtain ⟨z0, z1, z2, z3⟩ := blkp ((hb1.block (w.heap.size + 1) (by simp)).trans (blk_second w _ _))
    have B1 := hide ((((Below.refl w.heap.size w).alloc (Nat.le_refl _) (.cells #[.slice a n cap, .int .i64 B] 25 (0, 0))).alloc (by simp) (.cells #[.slice none 0 0, .int .i64 0] 25 (0, 0))).trans (hb1.mono (by simp; omega)))
    clear hb1
    go_wp2
    refine bodyPost_ret (v := .tuple #[.agg #[.slice none 0 0, .int .i64 0], .bool false]) (by simp [results, Tryd.f7, go_sem, z0, z1]) rfl (retL_none ((B1.out.setCell (p := ⟨_, _, none⟩) (Nat.le_succ _) _).setCell (p := ⟨_, _, none⟩) (Nat.le_succ _) _))
  | true =>
    have hg := hbk.1 rfl
    have hn1 : 1 ≤ n := by have := hg.one; omega
    have hn20 : n ≤ 20 := by have := hg.many; omega
    have C2 := hide (fun wx (hb : Below w.heap.size w wx) => l6Own_any a L n cap B wx hn hn20 (hs.below hb) (fun i hi => by have hgd := (hg.ps i (by omega)).1; rw [hgd.2.2]; exact ix_len60 hgd.1))
    have hfew := app_few hap
    have HS := hide hs
    have HN := hide hn
    have HG := hide hg
    have HA := hide hap
    clear hs hn hg hst hbk hap
    go_enter Tryd.func7, Tryd.ntmps7
    go_wp2_with fail
    refine (C1.out _ (((Below.refl _ _).alloc (Nat.le_refl _) _).alloc (by simp) _)).mono ?_
    rintro e w0 ⟨rfl, hb1⟩
    have G1 : Hid (w0.heap[w.heap.size + 1]? = some (.cells #[.slice none 0 0, .int .i64 0] 25 (0, 0))) := (hb1.block (w.heap.size + 1) (by simp)).trans (blk_second w _ _)
    have B1 := hide ((((Below.refl w.heap.size w).alloc (Nat.le_refl _) (.cells #[.slice a n cap, .int .i64 B] 25 (0, 0))).alloc (by simp) (.cells #[.slice none 0 0, .int .i64 0] 25 (0, 0))).trans (hb1.mono (by simp; omega)))
    obtain ⟨k0, k1, _, _⟩ := blkp ((hb1.block w.heap.size (by simp only [World.size_alloc]; omega)).trans (blk_first w _ _))
    have hz1 : w.heap.size + 1 < w0.heap.size := (Array.getElem?_eq_some_iff.1 G1.out).1
    clear hb1
    go_wp2_with fail
    refine (C2.out _ B1.out).mono ?_
    rintro e w1 ⟨a1, cc, rfl, M, hM, ho, hb2⟩
    obtain ⟨g, rfl⟩ : ∃ g, a1 = some ⟨g, 0, none⟩ := by
      rcases ho.row.2 with ⟨hv, h0⟩ | ⟨g, cap, cur, hv, _⟩
      · omega
      · cases hv
        exact ⟨g, rfl⟩
    have B2 := hide (B1.out.trans (hb2.mono B1.out.size))
    have hz2 := hb2.size
    have G2 : Hid (w1.heap[w.heap.size + 1]? = some (.cells #[.slice none 0 0, .int .i64 0] 25 (0, 0))) := (hb2.block (w.heap.size + 1) hz1).trans G1.out
    have C3 := hide (l6Append_all g L M n cc w0.heap.size B r w1 ho hM HG.out hz2 hr2 L' B' ok HA.out)
    clear hb2 ho hM k0 k1
    go_wp2_with fail
    refine C3.out.mono ?_
    rintro e w2 ⟨a2, k2, c2, rfl, hok, hb3⟩
    have B3 := hide (B2.out.trans (hb3.mono (by omega)))
    have hz3 := hb3.size
    have G3 : Hid (w2.heap[w.heap.size + 1]? = some (.cells #[.slice none 0 0, .int .i64 0] 25 (0, 0))) := (hb3.block (w.heap.size + 1) hz1).trans G2.out
    have HOK := hide hok.out
    clear hb3 hok C3
    cases ok with
    | false =>
      have hno : L' = [] ∧ B' = 0 := by
        by_cases hp : AppPre L B r
        · by_cases hf : AppFits L r
          · have := (HA.out.put hp hf).1; cases this
          · by_cases h20 : L.length = 20
            · exact (HA.out.full hp hf h20).2
            · have := (HA.out.more hp hf h20).1; cases this
        · exact (HA.out.no hp).2
      obtain ⟨rfl, rfl⟩ := hno
      obtain ⟨z0, z1, z2, z3⟩ := blkp ((((Below.refl w2.heap.size w2).alloc (Nat.le_refl _) (.cells #[.slice a2 k2 c2, .int .i64 B] 25 (0, 0))).block (w.heap.size + 1) (by omega)).trans G3.out)
      have B4 := hide (B3.out.alloc B3.out.size (.cells #[.slice a2 k2 c2, .int .i64 B] 25 (0, 0)))
      go_wp2
      refine bodyPost_ret (v := .tuple #[.agg #[.slice none 0 0, .int .i64 0], .bool false]) (by simp [results, Tryd.f7, go_sem, z0, z1]) rfl (retL_none ((B4.out.setCell (p := ⟨_, _, none⟩) (Nat.le_succ _) _).setCell (p := ⟨_, _, none⟩) (Nat.le_succ _) _))
    | true =>
      obtain ⟨hk, hsl, hB⟩ := HOK.out rfl
      have C5 := hide (fun wx (hb : Below w2.heap.size w2 wx) => l6Own_any a2 L' k2 c2 B wx hk.symm (by omega) (hsl.below hb) (fun i hi => hfew.2 i (by omega)))
      have HK := hide hk
      have HB := hide hB
      clear hk hsl hB
      go_wp2_with fail
      refine (C5.out _ ((Below.refl _ _).alloc (Nat.le_refl _) _)).mono ?_
      rintro e w6 ⟨a6, c6, rfl, M6, hM6, ho6, hb6⟩
      have hal : Below w2.heap.size w2 (w2.alloc (.cells #[.slice a2 k2 c2, .int .i64 B] 25 (0, 0))) := (Below.refl _ _).alloc (Nat.le_refl _) _
      have hb26 := hal.trans (hb6.mono hal.size)
      have BF := hide (B3.out.trans (hb26.mono B3.out.size))
      have HO6 := hide ho6
      have HM6 := hide hM6
      have hals := hal.size
      obtain ⟨z0, z1, z2, z3⟩ := blkp ((hb26.block (w.heap.size + 1) (by omega)).trans G3.out)
      clear hb6 ho6 hM6 hal hb26
      go_wp2
      refine bodyPost_ret (v := .tuple #[.agg #[.slice a6 k2 c6, .int .i64 B], .bool true]) (by simp [results, Tryd.f7, go_sem, z0, z1]) rfl ⟨a6, c6, by rw [HB.out, ← HK.out], M6, HM6.out, ?_, ?_⟩
      · rw [← HK.out]
        exact ((HO6.out.setC ⟨_, _, none⟩ _ (by show w.heap.size + 1 < _; omega)).setC ⟨_, _, none⟩ _ (by show w.heap.size + 1 < _; omega)).base (by omega)
      · exact ((BF.out.setCell (p := ⟨_, _, none⟩) (Nat.le_succ _) _).setCell (p := ⟨_, _, none⟩) (Nat.le_succ _) _)
end Go.Proofs.YtbcljhafdpnjbabDoor.L6

namespace Go.Proofs.YtbcljhafdpnjbabDoor.L6
open Go.RowKit L1
set_option linter.unusedVariables false

open Classical in
set_option maxRecDepth 100000 in
set_option maxHeartbeats 1000000 in
theorem specEndOf_any (a : Option Addr) (L : List Pc) (n cap : Nat) (B : Int) (w : World) (hn : L.length = n) (hm : n ≤ 9223372036854775807) (hs : SlC w a L) (hst : SzC L) (r : Int) (ok : Bool) (hr : endRes L B = if ok then some r else none) (hr0 : ok = false → r = 0) :
    Calls Tryd.prog 9 #[.agg #[.slice a n cap, .int .i64 B]] w fun e w' => e = .returned (.tuple #[.int .i64 r, .bool ok]) ∧ Below w.heap.size w w' := by
  obtain ⟨bk, hbk⟩ : ∃ bk : Bool, bk = true ↔ GoodG L B := ⟨decide (GoodG L B), by simp⟩
  have C1 := hide (fun wx (hb : Below w.heap.size w wx) => specGoodLog_any a L n cap B wx hn hm (hs.below hb) hst bk hbk)
  cases bk with
  | false =>
    have hg : ¬ GoodG L B := fun h => absurd (hbk.2 h) (by simp)
    have hok : ok = false := by
      unfold endRes at hr
      rw [if_neg hg] at hr
      cases ok with
      | false => rfl
      | true => simp at hr
    obtain rfl := hr0 hok
    subst hok
    clear hr hs hn hst hbk hg hr0
    go_enter Tryd.func9, Tryd.ntmps9
    go_wp2_with fail
    refine (C1.out _ ((Below.refl _ _).alloc (Nat.le_refl _) _)).mono ?_
    rintro e w1 ⟨rfl, hb1⟩
    have B1 := hide (((Below.refl w.heap.size w).alloc (Nat.le_refl _) (.cells #[.slice a n cap, .int .i64 B] 25 (0, 0))).trans (hb1.mono (by simp)))
    clear hb1
    go_wp2
    go_ret2
    exact ⟨rfl, B1.out⟩
  | true =>
    have hg := hbk.1 rfl
    have hE : ok = true ∧ r = lastEnd L n := by
      unfold endRes at hr
      rw [if_pos hg, show endg L = lastEnd L n by rw [← hn]; exact end_last hg.one hg.ps] at hr
      cases ok with
      | false => simp at hr
      | true => simp at hr; exact ⟨rfl, hr.symm⟩
    obtain ⟨rfl, rfl⟩ := hE
    have C2 := hide (fun wx (hb : Below w.heap.size w wx) => l6End_good a L n cap B wx hn (hs.below hb) hg B)
    obtain ⟨E, hE⟩ : ∃ E, E = lastEnd L n := ⟨_, rfl⟩
    rw [← hE] at C2 ⊢
    clear hr hs hn hst hbk hg hr0 hE
    go_enter Tryd.func9, Tryd.ntmps9
    go_wp2_with fail
    refine (C1.out _ ((Below.refl _ _).alloc (Nat.le_refl _) _)).mono ?_
    rintro e w1 ⟨rfl, hb1⟩
    have B1 := hide (((Below.refl w.heap.size w).alloc (Nat.le_refl _) (.cells #[.slice a n cap, .int .i64 B] 25 (0, 0))).trans (hb1.mono (by simp)))
    obtain ⟨k0, k1⟩ := blk2s ((hb1.block w.heap.size (by simp)).trans (blk_new _ _))
    clear hb1
    go_wp2_with fail
    refine (C2.out _ B1.out).mono ?_
    rintro e w2 ⟨rfl, hb2⟩
    have B2 := hide (B1.out.trans (hb2.mono B1.out.size))
    clear hb2
    go_wp2
    go_ret2
    exact ⟨rfl, B2.out⟩
end Go.Proofs.YtbcljhafdpnjbabDoor.L6

namespace Go.Proofs.YtbcljhafdpnjbabDoor.L6
open Go.RowKit L1
set_option linter.unusedVariables false

structure LgF (w : World) (b G N : Nat) (a : Option Addr) (n c : Nat) (B : Int) (L : List Pc) (M : List PV) (wr : World) : Prop where
  hb : b < w.heap.size
  hG : w.heap.size < G
  cur : Cur wr b N
  gr : w.grownBy wr (some b)
  res : wr.heap[w.heap.size]? = some (.cells #[.slice none 0 0, .int .i64 0] 25 (0, 0))
  box : wr.heap[G]? = some (.cells #[.slice a n c, .int .i64 B] 25 (0, 0))
  pcs : pcs M = L
  len : L.length = n
  own : OwC wr (w.heap.size + 1) (.slice a n c) n M
theorem LgF.lt {w wr : World} {b G N n c : Nat} {a : Option Addr} {B : Int} {L : List Pc} {M : List PV} (h : LgF w b G N a n c B L M wr) : G < wr.heap.size := (Array.getElem?_eq_some_iff.1 h.box).1
theorem LgF.step {w wr wx : World} {b G N N' n c : Nat} {a : Option Addr} {B : Int} {L : List Pc} {M : List PV} (h : LgF w b G N a n c B L M wr) (hc : Cur wx b N') (hg : wr.grownBy wx (some b)) : LgF w b G N' a n c B L M wx := by
  have h1 := h.hb
  have h2 := h.hG
  have h3 := h.lt
  exact ⟨h1, h2, hc, grown_trans h.gr hg, (hg.block _ (by omega) (by simp; omega)).trans h.res, (hg.block _ h3 (by simp; omega)).trans h.box, h.pcs, h.len, h.own.grown hg (by omega)⟩
theorem LgF.below {w wr wx : World} {b G N n c : Nat} {a : Option Addr} {B : Int} {L : List Pc} {M : List PV} (h : LgF w b G N a n c B L M wr) (hb : Below wr.heap.size wr wx) : LgF w b G N a n c B L M wx :=
  h.step (h.cur.below hb) (below_grown hb)
theorem LgF.drew {w wr : World} {b G N n c : Nat} {a : Option Addr} {B : Int} {L : List Pc} {M : List PV} (h : LgF w b G N a n c B L M wr) : LgF w b G N a n c B L M wr.drew := h.below (Below.refl _ _).drew
theorem LgF.alloc {w wr : World} {b G N n c : Nat} {a : Option Addr} {B : Int} {L : List Pc} {M : List PV} (h : LgF w b G N a n c B L M wr) (o : Obj) : LgF w b G N a n c B L M (wr.alloc o) := h.below ((Below.refl _ _).alloc (Nat.le_refl _) _)
theorem LgF.mono {w wr : World} {b G N N' n c : Nat} {a : Option Addr} {B : Int} {L : List Pc} {M : List PV} (h : LgF w b G N a n c B L M wr) (hn : N ≤ N') : LgF w b G N' a n c B L M wr := ⟨h.hb, h.hG, h.cur.mono hn, h.gr, h.res, h.box, h.pcs, h.len, h.own⟩
theorem LgF.sl {w wr : World} {b G N n c : Nat} {a : Option Addr} {B : Int} {L : List Pc} {M : List PV} (h : LgF w b G N a n c B L M wr) : SlC wr a L := by
  have := h.own.sl
  rw [h.pcs] at this
  exact this
/-- Another log is put into the box. -/
theorem LgF.put {w wr : World} {b G N n c n' c' : Nat} {a a' : Option Addr} {B B' : Int} {L L' : List Pc} {M M' : List PV} (h : LgF w b G N a n c B L M wr) (hp : L6.pcs M' = L') (hl : L'.length = n') (ho : OwC wr (w.heap.size + 1) (.slice a' n' c') n' M') :
    LgF w b G N a' n' c' B' L' M' ((wr.setCell ⟨G, 0, none⟩ (.slice a' n' c')).setCell ⟨G, 1, none⟩ (.int .i64 B')) := by
  have h1 := h.hb
  have h2 := h.hG
  have b1 := heap_setCell_same wr G 0 _ _ (.slice a' n' c') h.box
  have b2 := heap_setCell_same _ G 1 _ _ (.int .i64 B') b1
  have blk : ∀ q, q ≠ G → ((wr.setCell ⟨G, 0, none⟩ (.slice a' n' c')).setCell ⟨G, 1, none⟩ (.int .i64 B')).heap[q]? = wr.heap[q]? := fun q hq => (Below.heap_setCell _ _ _ _ (show q ≠ G from hq)).trans (Below.heap_setCell _ _ _ _ (show q ≠ G from hq))
  refine ⟨h1, h2, h.cur.kept (fun k hk => blk k (by omega)), ⟨h.gr.os, h.gr.tape, h.gr.output, by simp; exact h.gr.size, fun q hq hn => (blk q (by omega)).trans (h.gr.block q hq hn)⟩, (blk _ (by omega)).trans h.res, b2.trans rfl, hp, hl, (ho.setBC h.box).setBC b1⟩
theorem LgF.cells {w wr : World} {b G N n c : Nat} {a : Option Addr} {B : Int} {L : List Pc} {M : List PV} (h : LgF w b G N a n c B L M wr) : wr.cell? ⟨G, 0, none⟩ = some (.slice a n c) ∧ wr.cell? ⟨G, 1, none⟩ = some (.int .i64 B) ∧ wr.frozen? ⟨G, 0, none⟩ = false ∧ wr.frozen? ⟨G, 1, none⟩ = false := blkp h.box

/-- A log handed back by a call, new. -/
def NewG (w : World) (P : List Pc → Int → Prop) (a : Option Addr) (n c : Nat) (B : Int) (ok : Bool) (w3 : World) : Prop :=
  ok = true → ∃ L M, L6.pcs M = L ∧ L.length = n ∧ OwC w3 (w.heap.size + 1) (.slice a n c) n M ∧ P L B
theorem record_lg {w wr : World} {b G N n c : Nat} {a : Option Addr} {B : Int} {L : List Pc} {M : List PV} (h : LgF w b G N a n c B L M wr) (hN : N ≤ 1000000000) :
    Calls Tryd.prog 32 #[.pointer (some ⟨b, 0, none⟩)] wr fun e w' => ∃ r : ByteArray, e = .returned (.string r) ∧ r.size ≤ 21 ∧ LgF w b G (N + 2) a n c B L M w' := by
  refine (record_any b N wr h.cur hN).mono ?_
  rintro e w' ⟨r, rfl, hr, hc, hg⟩
  exact ⟨r, rfl, hr, h.step hc hg⟩
theorem append_lg {w wr : World} {b G N n c : Nat} {a : Option Addr} {B : Int} {L : List Pc} {M : List PV} (h : LgF w b G N a n c B L M wr) (hd : DrB L B) (h0 : (gc L 0).f = 0) (r : ByteArray) (hr : r.size ≤ 21) :
    Calls Tryd.prog 7 #[.agg #[.slice a n c, .int .i64 B], .string r] wr fun e w' => ∃ a' n' c' B' ok, e = .returned (.tuple #[.agg #[.slice a' n' c', .int .i64 B'], .bool ok]) ∧ LgF w b G N a n c B L M w' ∧ NewG w (fun L B => DrB L B ∧ (gc L 0).f = 0) a' n' c' B' ok w' := by
  obtain ⟨L', B', ok, ha⟩ := app_is L B r
  refine (specAppend_any a L n c B r wr h.len (by have := hd.many; have := h.len; omega) h.sl hd.sz (by omega) L' B' ok ha).mono ?_
  rintro e w' ⟨a', c', rfl, M', hM, ho, hb⟩
  refine ⟨a', _, c', B', ok, rfl, h.below hb, fun e => ?_⟩
  subst e
  obtain ⟨k1, k2, k3⟩ := dr_app hd h0 ha
  exact ⟨L', M', hM, rfl, ho.base (by have := h.lt; have := h.hG; omega), k1, k2⟩
theorem drop_lg {w wr : World} {b G N n c : Nat} {a : Option Addr} {B : Int} {L : List Pc} {M : List PV} (h : LgF w b G N a n c B L M wr) (hd : DrB L B) (o : Int) :
    Calls Tryd.prog 20 #[.agg #[.slice a n c, .int .i64 B], .int .i64 o] wr fun e w' => ∃ a' n' c' B' ok, e = .returned (.tuple #[.agg #[.slice a' n' c', .int .i64 B'], .bool ok]) ∧ LgF w b G N a n c B L M w' ∧ NewG w DrB a' n' c' B' ok w' := by
  obtain ⟨L', B', ok, ha⟩ := drop_is L B o
  refine (specDrop_any a L n c B o wr h.len (by have := hd.many; have := h.len; omega) h.sl hd.sz L' B' ok ha).mono ?_
  rintro e w' ⟨a', c', rfl, M', hM, ho, hb⟩
  refine ⟨a', _, c', B', ok, rfl, h.below hb, fun e => ?_⟩
  subst e
  exact ⟨L', M', hM, rfl, ho.base (by have := h.lt; have := h.hG; omega), dr_drop hd ha⟩
open Classical in
theorem end_lg {w wr : World} {b G N n c : Nat} {a : Option Addr} {B : Int} {L : List Pc} {M : List PV} (h : LgF w b G N a n c B L M wr) (hd : DrB L B) :
    Calls Tryd.prog 9 #[.agg #[.slice a n c, .int .i64 B]] wr fun e w' => ∃ (x : Int) (ok : Bool), e = .returned (.tuple #[.int .i64 x, .bool ok]) ∧ 0 ≤ x ∧ x ≤ 1360 ∧ LgF w b G N a n c B L M w' := by
  obtain ⟨r, ok, hr, hr0, hx⟩ : ∃ (r : Int) (ok : Bool), endRes L B = (if ok then some r else none) ∧ (ok = false → r = 0) ∧ 0 ≤ r ∧ r ≤ 1360 := by
    unfold endRes
    by_cases hg : GoodG L B
    · have := dr_end hd hg
      exact ⟨endg L, true, by rw [if_pos hg]; rfl, (fun e => by cases e), this.1, this.2⟩
    · exact ⟨0, false, by rw [if_neg hg]; rfl, fun _ => rfl, by omega, by omega⟩
  refine (specEndOf_any a L n c B wr h.len (by have := hd.many; have := h.len; omega) h.sl hd.sz r ok hr hr0).mono ?_
  rintro e w' ⟨rfl, hb⟩
  exact ⟨r, ok, rfl, hx.1, hx.2, h.below hb⟩
end Go.Proofs.YtbcljhafdpnjbabDoor.L6
