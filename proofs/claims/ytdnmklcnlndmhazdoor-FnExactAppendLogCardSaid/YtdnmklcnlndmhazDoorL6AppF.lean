/-
  Contract: impl.AppendLog where no piece has room and none is left.
-/
import Derived.Test.YtdnmklcnlndmhazDoorL6AppI
namespace Go.Proofs.YtdnmklcnlndmhazDoor.L6
open Go.RowKit L1
set_option linter.unusedVariables false

open Classical in
set_option maxRecDepth 100000 in
set_option maxHeartbeats 4000000 in
theorem implAppend_full (a : Option Addr) (L : List Pc) (n cap : Nat) (B : Int) (r : ByteArray) (w : World) (hn : L.length = n) (hm : n ≤ 9223372036854775807) (hs : SlC w a L) (hst : TxC L) (ht : Tab w) (hp : AppPre L B r) (hf : ¬ AppFits L r) (hfull : L.length = 20) :
    Calls Tryd.prog 14 #[.agg #[.slice a n cap, .int .i64 B], .string r] w (RetL w [] 0 false) := by
  have hg := hp.1
  have hr20 := hp.2.1
  have h60 := hp.2.2
  rw [hn] at h60
  have C1 := hide (fun wx (hb : Below w.heap.size w wx) => goodLog_any a L n cap B wx hn hm (hs.below hb) hst (ht.below hb) true (by simp; exact hg))
  have hla := hg.logAt hn hs ht
  have C2 := hide (fun wx (hb : Below w.heap.size w wx) => recordsIn_any a L n cap B wx (hla.below hb))
  have hn1 : 1 ≤ n := hla.one
  have hn20 : n ≤ 20 := hla.few
  have hsm : ∀ i, i < n → (gc L i).x.length ≤ 60 := fun i hi => by
    have hgd := (hg.ps i (by omega)).1
    rw [hgd.2.2]
    exact ix_len60 hgd.1
  have C3 := hide (fun wx (hb : Below w.heap.size w wx) => putVarint_yes (r.size : Int) wx (by omega) (by omega) (ht.below hb))
  have C4 := hide (fun wx (hb : Below w.heap.size w wx) => copyLog_any a L n cap B wx hn hn1 hn20 (hs.below hb) hsm)
  obtain ⟨E0, hE0⟩ : ∃ E0, E0 = lastEnd L n - (gc L 0).f := ⟨_, rfl⟩
  rw [← hE0] at C2 h60
  have hE6 : (E0 == 60) = false := by simp only [beq_eq_false_iff_ne]; exact h60
  have hr20' : ¬ (20 : Int) < (r.size : Int) := by omega
  obtain ⟨P, hP⟩ : ∃ P, P = strOfNums (vd (zig (r.size : Int))) := ⟨_, rfl⟩
  rw [← hP] at C3
  obtain ⟨R, hR⟩ : ∃ R, R = rec r := ⟨_, rfl⟩
  have hPr : P ++ r = R := by rw [hR, hP]; rfl
  have hRs : R.size = 1 + r.size := by rw [hR]; exact rec_size r hr20
  have hPs : P.size + r.size = R.size := by rw [← hPr, ByteArray.size_append]
  have qa : ∀ w : World, (Op.stringOp .add P r).run Tryd.prog w = .ok (.string R) w := fun w => by rw [← hPr]; exact run_string_add_sum w _ _ (by omega)
  have HS := hide hs
  have HN := hide hn
  have HG := hide hg
  have HT := hide ht
  have HF := hide hf
  have HRR := hide hR
  clear hs hn hg hst ht hp hf hla hsm hE0 hP hR hPr
  go_enter Tryd.func14, Tryd.ntmps14
  go_wp2_with fail
  refine (C1.out _ (((Below.refl _ _).alloc (Nat.le_refl _) _).alloc (by simp) _)).mono ?_
  rintro e v1 ⟨rfl, hb1⟩
  have G1 : Hid (v1.heap[w.heap.size + 1]? = some (.cells #[.slice none 0 0, .int .i64 0] 29 (0, 0))) := (hb1.block (w.heap.size + 1) (by simp)).trans (blk_second w _ _)
  have H1 : Hid (v1.heap[w.heap.size]? = some (.cells #[.slice a n cap, .int .i64 B] 29 (0, 0))) := (hb1.block w.heap.size (by simp only [World.size_alloc]; omega)).trans (blk_first w _ _)
  obtain ⟨k0, k1, _, _⟩ := blkp H1.out
  have B1 := hide ((((Below.refl w.heap.size w).alloc (Nat.le_refl _) (.cells #[.slice a n cap, .int .i64 B] 29 (0, 0))).alloc (by simp) (.cells #[.slice none 0 0, .int .i64 0] 29 (0, 0))).trans (hb1.mono (by simp; omega)))
  clear hb1
  go_wp2_with fail
  refine (C2.out _ B1.out).mono ?_
  rintro e v2 ⟨rfl, hb2⟩
  have B2 := hide (B1.out.trans (hb2.mono B1.out.size))
  have hs1 : w.heap.size + 1 < v1.heap.size := (Array.getElem?_eq_some_iff.1 G1.out).1
  have hs2 := hb2.size
  have G2 : Hid (v2.heap[w.heap.size + 1]? = some (.cells #[.slice none 0 0, .int .i64 0] 29 (0, 0))) := (hb2.block _ hs1).trans G1.out
  have H2 : Hid (v2.heap[w.heap.size]? = some (.cells #[.slice a n cap, .int .i64 B] 29 (0, 0))) := (hb2.block _ (by omega)).trans H1.out
  clear k0 k1 hb2
  go_wp2_with fail
  refine (C3.out _ B2.out).mono ?_
  rintro e w0 ⟨rfl, hb3⟩
  have B3 := hide (B2.out.trans (hb3.mono B2.out.size))
  have hs3 := hb3.size
  have G3 : Hid (w0.heap[w.heap.size + 1]? = some (.cells #[.slice none 0 0, .int .i64 0] 29 (0, 0))) := (hb3.block _ (by omega)).trans G2.out
  have H3 : Hid (w0.heap[w.heap.size]? = some (.cells #[.slice a n cap, .int .i64 B] 29 (0, 0))) := (hb3.block _ (by omega)).trans H2.out
  obtain ⟨k0, k1, _, _⟩ := blkp H3.out
  clear hb3
  go_wp2_with fail
  refine (C4.out _ B3.out).mono ?_
  rintro e w1 ⟨g, M, rfl, hM, ho, hb4⟩
  have B4 := hide (B3.out.trans (hb4.mono B3.out.size))
  have hs4 := hb4.size
  have G4 : Hid (w1.heap[w.heap.size + 1]? = some (.cells #[.slice none 0 0, .int .i64 0] 29 (0, 0))) := (hb4.block _ (by omega)).trans G3.out
  have hgb := own_ltC ho.row g rfl
  have hml := ho.len
  obtain ⟨m, hm'⟩ : ∃ m, m = n - 1 := ⟨_, rfl⟩
  have hnm : (n : Int) - 1 = (m : Int) := by omega
  have hmn : (m : Int) < (n : Int) := by omega
  have hm0 : (0 : Int) ≤ (m : Int) := by omega
  have hmN : m < n := by omega
  obtain ⟨f1, f2, f3⟩ := flatC_get M m (by omega)
  have hp1 : (M.getD m eV).1 = gc L m := by
    have := pcs_get M m (by omega)
    rw [hM] at this
    exact this.symm
  rw [hp1] at f1 f2
  have hfl : (flatC M).length = n * 3 := by rw [flatC_len, hml]
  have d1 := (ho.row.cellAt (m * 3) (by omega)).trans f1
  have d2 := (ho.row.cellAt (m * 3 + 1) (by omega)).trans f2
  have hlp : endP L = gc L m := by show gc L (L.length - 1) = _; rw [HN.out, hm']
  have hgp := (HG.out.ps m (by rw [HN.out]; exact hmN)).1
  have hfit := HF.out
  unfold AppFits at hfit
  rw [hlp] at hfit
  obtain ⟨p, hp⟩ : ∃ p, p = gc L m := ⟨_, rfl⟩
  rw [← hp] at d1 d2 hlp hfit hgp
  obtain ⟨f, s, x⟩ := p
  simp only at d1 d2 hfit
  obtain ⟨Y, hY⟩ : ∃ Y, Y = s ++ R := ⟨_, rfl⟩
  have hYs : Y.size = s.size + R.size := by rw [hY, ByteArray.size_append]
  have q2 : ∀ w : World, (Op.stringOp .add s R).run Tryd.prog w = .ok (.string Y) w := fun w => by rw [hY]; exact run_string_add_sum w _ _ (by have := hgp.1; simp only at this; omega)
  have hY60 : ¬ (Y.size : Int) ≤ 60 := by omega
  have hnn : ((n : Int) == 20) = true := by have := HN.out; simp; omega
  generalize hW : w1.alloc (.cells #[.slice (some ⟨g, 0, none⟩) n n, .int .i64 B] 29 (0, 0)) = W
  have BW : Below w1.heap.size w1 W := by rw [← hW]; exact (Below.refl _ _).alloc (Nat.le_refl _) _
  have GO : Hid (W.heap[w1.heap.size]? = some (.cells #[.slice (some ⟨g, 0, none⟩) n n, .int .i64 B] 29 (0, 0))) := by show _ = _; rw [← hW]; exact blk_new _ _
  obtain ⟨o0, o1, o2, o3⟩ := blkp GO.out
  have G5 : Hid (W.heap[w.heap.size + 1]? = some (.cells #[.slice none 0 0, .int .i64 0] 29 (0, 0))) := (BW.block _ (by omega)).trans G4.out
  have e1 := (BW.cell (p := ⟨g, m * 3, none⟩) (blk_lt d1)).trans d1
  have e2 := (BW.cell (p := ⟨g, m * 3 + 1, none⟩) (blk_lt d2)).trans d2
  have B5 := hide (B4.out.trans (BW.mono B4.out.size))
  have HO5 := hide (ho.below BW)
  have HM := hide hM
  have HLP := hide hlp
  have HYY := hide hY
  have hwW : w1.heap.size < W.heap.size := (Array.getElem?_eq_some_iff.1 GO.out).1
  obtain ⟨z0, z1, z2, z3⟩ := blkp G5.out
  have HW := hide hW
  clear hW BW ho hM hlp hp1 f1 f2 f3 hfl hgp hY hfit hb4 hm' hml hp d1 d2 k0 k1
  go_upto_region 11 with (first | (rw [HW.out]) | fail)
  first | rw [HW.out] | skip
  go_wp2
  refine bodyPost_ret (v := .tuple #[.agg #[.slice none 0 0, .int .i64 0], .bool false]) (by simp [results, Tryd.f14, go_sem, z0, z1]) rfl (retL_none ((B5.out.setCell (p := ⟨_, _, none⟩) (Nat.le_succ _) _).setCell (p := ⟨_, _, none⟩) (Nat.le_succ _) _))
end Go.Proofs.YtdnmklcnlndmhazDoor.L6
