/-
  The walk of the law FnExactRecoverPiece: it returns true at every number and text; memory that was there stays as it was.
-/
import Derived.Test.YtkjogjjfpjkeobaDoorL6Recover
import Derived.Test.YtkjogjjfpjkeobaDoorL6Eq
import Derived.Test.YtkjogjjfpjkeobaDoorL6MarkP
namespace Go.Proofs.YtkjogjjfpjkeobaDoor.fnExactRecoverPiece
open Go.RowKit L1 L6
set_option linter.unusedVariables false

set_option maxRecDepth 100000 in
set_option maxHeartbeats 4000000 in
theorem walk (a0 : Int) (a1 : ByteArray) (w : World) (w0 : (Lit.int .i64 a0).wf = true) (w1 : a1.size ≤ maxLen) (ht : Tab w) :
    Calls Tryd.prog 5 #[.int .i64 a0, .string a1] w fun e w' => e = .returned (.bool true) ∧ Below w.heap.size w w' := by
  unfold maxLen at w1
  by_cases hfit : (1048576 : Int) < (a1.size : Int)
  · clear ht
    go_enter Tryd.func5, Tryd.ntmps5
    go_wp2
    go_ret
    exact ⟨rfl, Below.refl _ _⟩
  · obtain ⟨p, left, ok, hr, hp60⟩ := rec_is a0 a1
    have C1 := hide (fun w => specRecover_any a0 a1 w (by omega) p left ok hr)
    have C2 := hide (fun w ht => implRecover_any a0 a1 w (by omega) ht p left ok hr)
    unfold RetP at C1 C2
    obtain ⟨N, hN⟩ : ∃ N, N = p.x.length := ⟨_, rfl⟩
    rw [← hN] at C1 C2 hp60
    have HN := hide hN.symm
    have hN2 : N ≤ 1048576 := by omega
    have hq1 : ¬ (1 + (N : Int)) < 0 := by omega
    have HT := hide ht
    clear hr hN ht
    go_enter Tryd.func5, Tryd.ntmps5
    go_wp2_with fail
    refine (C1.out _).mono ?_
    rintro e w1 ⟨aU, qU, rfl, ho, hb⟩
    have hbb := hb
    have B_1 := hide hbb
    have Z_1 := hide hbb.size
    clear hb hbb 
    have SU_1 := hide (own_slI6 ho)
    have LU := hide (fun (x : Addr) (hx : aU = some x) => (own_ltC ho x.block (by rw [hx]; rfl)))
    clear ho
    go_wp2_with fail
    refine (C2.out _ (HT.out.below (B_1.out.alloc B_1.out.size _))).mono ?_
    rintro e w2 ⟨aG, qG, rfl, ho, hb⟩
    have kq := blk3 ((hb.block w1.heap.size (by simp)).trans (blk_new _ _))
    obtain ⟨kU0_2, kU1_2, kU2_2, _, _, _⟩ := kq
    have hbb := ((Below.refl w1.heap.size w1).alloc (Nat.le_refl _) (.cells #[.int .i64 p.f, .string p.s, .slice aU N qU] 37 (0, 0))).trans (hb.mono (by simp))
    have SU_2 := hide (SU_1.out.below hbb)
    have B_2 := hide (B_1.out.trans (hbb.mono B_1.out.size))
    have Z_2 := hide hbb.size
    clear hb hbb SU_1
    have OG_2 := hide ho
    have LG := hide (fun (b : Nat) (hb : (Value.slice aG N qG).ownBlock = some b) => own_ltC ho b hb)
    clear ho
    have alU0 : ∀ ob, (w2.alloc ob).cell? ⟨w1.heap.size, 0, none⟩ = some (.int .i64 p.f) := fun ob => Go.Lib.cell?_alloc_some ob kU0_2
    have alU1 : ∀ ob, (w2.alloc ob).cell? ⟨w1.heap.size, 1, none⟩ = some (.string p.s) := fun ob => Go.Lib.cell?_alloc_some ob kU1_2
    have alU2 : ∀ ob, (w2.alloc ob).cell? ⟨w1.heap.size, 2, none⟩ = some (.slice aU N qU) := fun ob => Go.Lib.cell?_alloc_some ob kU2_2
    go_wp2_with fail
    refine (eqPiece_same p.f p.s aG aU p.x N qG qU _ HN.out (own_slI6 (own_belowC OG_2.out ((Below.refl _ _).alloc (Nat.le_refl _) _))) (SU_2.out.below ((Below.refl _ _).alloc (Nat.le_refl _) _)) hN2).mono ?_
    rintro e w3 ⟨rfl, hb⟩
    have kq := blk3 ((hb.block w2.heap.size (by simp)).trans (blk_new _ _))
    obtain ⟨kG0_3, kG1_3, kG2_3, _, _, _⟩ := kq
    have hbb := ((Below.refl w2.heap.size w2).alloc (Nat.le_refl _) (.cells #[.int .i64 p.f, .string p.s, .slice aG N qG] 37 (0, 0))).trans (hb.mono (by simp))
    have kU0_3 := (hbb.cell (p := ⟨w1.heap.size, 0, none⟩) (blk_lt kU0_2)).trans kU0_2
    have kU1_3 := (hbb.cell (p := ⟨w1.heap.size, 1, none⟩) (blk_lt kU1_2)).trans kU1_2
    have kU2_3 := (hbb.cell (p := ⟨w1.heap.size, 2, none⟩) (blk_lt kU2_2)).trans kU2_2
    have SU_3 := hide (SU_2.out.below hbb)
    have B_3 := hide (B_2.out.trans (hbb.mono B_2.out.size))
    have Z_3 := hide hbb.size
    have OG_3 := hide (own_belowC OG_2.out hbb)
    clear hb hbb alU0 alU1 alU2 kU0_2 kU1_2 kU2_2 SU_2
    have HBZ : Hid ((w1.alloc (.cells #[.int .i64 p.f, .string p.s, .slice aU N qU] 37 (0, 0))).heap.size ≤ w3.heap.size) := by have h1 := blk_lt kU0_3; show _ ≤ _; simp; omega
    have HBW : Hid (w.heap.size ≤ (w1.alloc (.cells #[.int .i64 p.f, .string p.s, .slice aU N qU] 37 (0, 0))).heap.size) := by have h1 := B_1.out.size; show _ ≤ _; simp; omega
    go_wp2_with fail
    refine (markPiece_any (w1.alloc (.cells #[.int .i64 p.f, .string p.s, .slice aU N qU] 37 (0, 0))).heap.size p.f p.s aG N qG p.x _ hN2 (HBZ.out) OG_3.out).mono ?_
    rintro e w4 ⟨rfl, ho, hb, hg⟩
    have neU : some w1.heap.size ≠ (Value.slice aG N qG).ownBlock := fun e => by have h1 := (LG.out w1.heap.size e.symm).1; simp at h1; omega
    have neG : some w2.heap.size ≠ (Value.slice aG N qG).ownBlock := fun e => by have h1 := (LG.out w2.heap.size e.symm).2; omega
    have kU0_4 := grown_cell hg ⟨w1.heap.size, 0, none⟩ kU0_3 neU
    have kU1_4 := grown_cell hg ⟨w1.heap.size, 1, none⟩ kU1_3 neU
    have kU2_4 := grown_cell hg ⟨w1.heap.size, 2, none⟩ kU2_3 neU
    have kG0_4 := grown_cell hg ⟨w2.heap.size, 0, none⟩ kG0_3 neG
    have kG1_4 := grown_cell hg ⟨w2.heap.size, 1, none⟩ kG1_3 neG
    have kG2_4 := grown_cell hg ⟨w2.heap.size, 2, none⟩ kG2_3 neG
    have SU_4 := hide (sl_grown SU_3.out hg (fun x hx e => by have h1 := (LG.out x.block e.symm).1; have h2 := (LU.out x hx).2; simp at h1; omega))
    have SH_4 := hide (own_slI6 ho)
    have B_4 := hide (B_3.out.trans (hb.mono HBW.out))
    clear hb hg ho neU neG OG_3 SU_3 kU0_3 kU1_3 kU2_3 kG0_3 kG1_3 kG2_3
    go_wp2_with fail
    refine (heldPiece_any p.f p.s aG N qG _ hN2 SH_4.out).mono ?_
    rintro e w5 ⟨rfl, hb⟩
    have hbb := hb
    have kU0_5 := (hbb.cell (p := ⟨w1.heap.size, 0, none⟩) (blk_lt kU0_4)).trans kU0_4
    have kU1_5 := (hbb.cell (p := ⟨w1.heap.size, 1, none⟩) (blk_lt kU1_4)).trans kU1_4
    have kU2_5 := (hbb.cell (p := ⟨w1.heap.size, 2, none⟩) (blk_lt kU2_4)).trans kU2_4
    have kG0_5 := (hbb.cell (p := ⟨w2.heap.size, 0, none⟩) (blk_lt kG0_4)).trans kG0_4
    have kG1_5 := (hbb.cell (p := ⟨w2.heap.size, 1, none⟩) (blk_lt kG1_4)).trans kG1_4
    have kG2_5 := (hbb.cell (p := ⟨w2.heap.size, 2, none⟩) (blk_lt kG2_4)).trans kG2_4
    have SU_5 := hide (SU_4.out.below hbb)
    have SH_5 := hide (SH_4.out.below hbb)
    have B_5 := hide (B_4.out.trans (hbb.mono B_4.out.size))
    have Z_5 := hide hbb.size
    clear hb hbb kU0_4 kU1_4 kU2_4 kG0_4 kG1_4 kG2_4 SU_4 SH_4
    go_wp2_with fail
    refine (C2.out _ (HT.out.below B_5.out)).mono ?_
    rintro e w6 ⟨aV, qV, rfl, ho, hb⟩
    have hbb := hb
    have kU0_6 := (hbb.cell (p := ⟨w1.heap.size, 0, none⟩) (blk_lt kU0_5)).trans kU0_5
    have kU1_6 := (hbb.cell (p := ⟨w1.heap.size, 1, none⟩) (blk_lt kU1_5)).trans kU1_5
    have kU2_6 := (hbb.cell (p := ⟨w1.heap.size, 2, none⟩) (blk_lt kU2_5)).trans kU2_5
    have kG0_6 := (hbb.cell (p := ⟨w2.heap.size, 0, none⟩) (blk_lt kG0_5)).trans kG0_5
    have kG1_6 := (hbb.cell (p := ⟨w2.heap.size, 1, none⟩) (blk_lt kG1_5)).trans kG1_5
    have kG2_6 := (hbb.cell (p := ⟨w2.heap.size, 2, none⟩) (blk_lt kG2_5)).trans kG2_5
    have SU_6 := hide (SU_5.out.below hbb)
    have SH_6 := hide (SH_5.out.below hbb)
    have B_6 := hide (B_5.out.trans (hbb.mono B_5.out.size))
    have Z_6 := hide hbb.size
    clear hb hbb kU0_5 kU1_5 kU2_5 kG0_5 kG1_5 kG2_5 SU_5 SH_5
    have SV_6 := hide (own_slI6 ho)
    have LV := hide (fun (x : Addr) (hx : aV = some x) => (own_ltC ho x.block (by rw [hx]; rfl)))
    clear ho
    have alU0 : ∀ ob, (w6.alloc ob).cell? ⟨w1.heap.size, 0, none⟩ = some (.int .i64 p.f) := fun ob => Go.Lib.cell?_alloc_some ob kU0_6
    have alU1 : ∀ ob, (w6.alloc ob).cell? ⟨w1.heap.size, 1, none⟩ = some (.string p.s) := fun ob => Go.Lib.cell?_alloc_some ob kU1_6
    have alU2 : ∀ ob, (w6.alloc ob).cell? ⟨w1.heap.size, 2, none⟩ = some (.slice aU N qU) := fun ob => Go.Lib.cell?_alloc_some ob kU2_6
    have alG0 : ∀ ob, (w6.alloc ob).cell? ⟨w2.heap.size, 0, none⟩ = some (.int .i64 p.f) := fun ob => Go.Lib.cell?_alloc_some ob kG0_6
    have alG1 : ∀ ob, (w6.alloc ob).cell? ⟨w2.heap.size, 1, none⟩ = some (.string p.s) := fun ob => Go.Lib.cell?_alloc_some ob kG1_6
    have alG2 : ∀ ob, (w6.alloc ob).cell? ⟨w2.heap.size, 2, none⟩ = some (.slice aG N qG) := fun ob => Go.Lib.cell?_alloc_some ob kG2_6
    go_wp2_with fail
    refine (eqPiece_same p.f p.s aV aU p.x N qV qU _ HN.out (SV_6.out.below ((Below.refl _ _).alloc (Nat.le_refl _) _)) (SU_6.out.below ((Below.refl _ _).alloc (Nat.le_refl _) _)) hN2).mono ?_
    rintro e w7 ⟨rfl, hb⟩
    have kq := blk3 ((hb.block w6.heap.size (by simp)).trans (blk_new _ _))
    obtain ⟨kV0_7, kV1_7, kV2_7, _, _, _⟩ := kq
    have hbb := ((Below.refl w6.heap.size w6).alloc (Nat.le_refl _) (.cells #[.int .i64 p.f, .string p.s, .slice aV N qV] 37 (0, 0))).trans (hb.mono (by simp))
    have kU0_7 := (hbb.cell (p := ⟨w1.heap.size, 0, none⟩) (blk_lt kU0_6)).trans kU0_6
    have kU1_7 := (hbb.cell (p := ⟨w1.heap.size, 1, none⟩) (blk_lt kU1_6)).trans kU1_6
    have kU2_7 := (hbb.cell (p := ⟨w1.heap.size, 2, none⟩) (blk_lt kU2_6)).trans kU2_6
    have kG0_7 := (hbb.cell (p := ⟨w2.heap.size, 0, none⟩) (blk_lt kG0_6)).trans kG0_6
    have kG1_7 := (hbb.cell (p := ⟨w2.heap.size, 1, none⟩) (blk_lt kG1_6)).trans kG1_6
    have kG2_7 := (hbb.cell (p := ⟨w2.heap.size, 2, none⟩) (blk_lt kG2_6)).trans kG2_6
    have SU_7 := hide (SU_6.out.below hbb)
    have SH_7 := hide (SH_6.out.below hbb)
    have SV_7 := hide (SV_6.out.below hbb)
    have B_7 := hide (B_6.out.trans (hbb.mono B_6.out.size))
    have Z_7 := hide hbb.size
    clear hb hbb alU0 alU1 alU2 alG0 alG1 alG2 kU0_6 kU1_6 kU2_6 kG0_6 kG1_6 kG2_6 SU_6 SH_6 SV_6
    go_wp2_with fail
    refine (heldPiece_any p.f p.s aG N qG _ hN2 SH_7.out).mono ?_
    rintro e w8 ⟨rfl, hb⟩
    have hbb := hb
    have kU0_8 := (hbb.cell (p := ⟨w1.heap.size, 0, none⟩) (blk_lt kU0_7)).trans kU0_7
    have kU1_8 := (hbb.cell (p := ⟨w1.heap.size, 1, none⟩) (blk_lt kU1_7)).trans kU1_7
    have kU2_8 := (hbb.cell (p := ⟨w1.heap.size, 2, none⟩) (blk_lt kU2_7)).trans kU2_7
    have kG0_8 := (hbb.cell (p := ⟨w2.heap.size, 0, none⟩) (blk_lt kG0_7)).trans kG0_7
    have kG1_8 := (hbb.cell (p := ⟨w2.heap.size, 1, none⟩) (blk_lt kG1_7)).trans kG1_7
    have kG2_8 := (hbb.cell (p := ⟨w2.heap.size, 2, none⟩) (blk_lt kG2_7)).trans kG2_7
    have kV0_8 := (hbb.cell (p := ⟨w6.heap.size, 0, none⟩) (blk_lt kV0_7)).trans kV0_7
    have kV1_8 := (hbb.cell (p := ⟨w6.heap.size, 1, none⟩) (blk_lt kV1_7)).trans kV1_7
    have kV2_8 := (hbb.cell (p := ⟨w6.heap.size, 2, none⟩) (blk_lt kV2_7)).trans kV2_7
    have SU_8 := hide (SU_7.out.below hbb)
    have SH_8 := hide (SH_7.out.below hbb)
    have SV_8 := hide (SV_7.out.below hbb)
    have B_8 := hide (B_7.out.trans (hbb.mono B_7.out.size))
    have Z_8 := hide hbb.size
    clear hb hbb kU0_7 kU1_7 kU2_7 kG0_7 kG1_7 kG2_7 kV0_7 kV1_7 kV2_7 SU_7 SH_7 SV_7
    go_wp2
    go_ret
    exact ⟨rfl, B_8.out⟩
end Go.Proofs.YtkjogjjfpjkeobaDoor.fnExactRecoverPiece
