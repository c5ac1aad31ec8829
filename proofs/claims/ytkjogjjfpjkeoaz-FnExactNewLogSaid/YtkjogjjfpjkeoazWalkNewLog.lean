/-
  The walk of the law FnExactNewLog: it returns true; memory that was there stays as it was.
-/
import Derived.Test.YtkjogjjfpjkeoazL6New
import Derived.Test.YtkjogjjfpjkeoazL6Marks2
import Derived.Test.YtkjogjjfpjkeoazL6Held
namespace Go.Proofs.Ytkjogjjfpjkeoaz.fnExactNewLog
open Go.RowKit L1 L6
set_option linter.unusedVariables false

set_option maxRecDepth 100000 in
set_option maxHeartbeats 4000000 in
theorem walk (w : World) :
    Calls Try.prog 3 #[] w fun e w' => e = .returned (.bool true) ∧ Below w.heap.size w w' := by
  have C1 := hide specNewLog_any
  have C2 := hide implNewLog_any
  have hn2 : 1 ≤ 1048576 := by omega
  have HKATL : Hid (∀ i, i ≤ 1 → kat [eC] i ≤ 2147483648) := fun i hi => by
    match i, hi with
    | 0, _ => exact (by decide : (1 : Int) ≤ 2147483648)
    | 1, _ => exact (by decide : (1 : Int) + 2 + ((0 : Nat) : Int) ≤ 2147483648)
  have HXXL : Hid (∀ i, i < 1 → (gc [eC] i).x.length ≤ 1048576) := fun i hi => by
    match i, hi with
    | 0, _ => exact Nat.zero_le _
  have hkat : kat [eC] 1 = 3 := rfl
  rw [hkat] at *
  go_enter Try.func3, Try.ntmps3
  go_wp2_with fail
  refine (C1.out _).mono ?_
  rintro e w1 ⟨aU, cU, MU, rfl, hM, ho, hb⟩
  have hbb := hb
  have Z_1 := hide hbb.size
  have B_1 := hide hbb
  clear hb hbb 
  have SU := ho.sl
  rw [hM] at SU
  have SOU := hide SU
  have BoU_1 := hide (Below.refl w1.heap.size w1)
  clear ho hM SU
  go_wp2_with fail
  refine (C2.out _).mono ?_
  rintro e w2 ⟨aG, cG, MG, rfl, hM, ho, hb⟩
  have kq := blkp ((hb.block w1.heap.size (by simp)).trans (blk_new _ _))
  obtain ⟨kU0_2, kU1_2, _, _⟩ := kq
  have Z_2 : Hid (w1.heap.size + 1 ≤ w2.heap.size) := by have h1 := hb.size; show _ ≤ _; simp at h1; omega
  have hbb := ((Below.refl w1.heap.size w1).alloc (Nat.le_refl _) (.cells #[.slice aU 1 cU, .int .i64 0] 24 (0, 0))).trans (hb.mono (by simp))
  have B_2 := hide (B_1.out.trans (hbb.mono B_1.out.size))
  have BoU_2 := hide (BoU_1.out.trans (hbb.mono BoU_1.out.size))
  clear hb hbb BoU_1
  simp only [World.size_alloc] at ho
  have OG_2 := hide ho
  have ING := hide ho.inC
  have HMG := hide hM
  clear ho hM
  have alU0 : ∀ ob, (w2.alloc ob).cell? ⟨w1.heap.size, 0, none⟩ = some (.slice aU 1 cU) := fun ob => Go.Lib.cell?_alloc_some ob kU0_2
  have alU1 : ∀ ob, (w2.alloc ob).cell? ⟨w1.heap.size, 1, none⟩ = some (.int .i64 0) := fun ob => Go.Lib.cell?_alloc_some ob kU1_2
  go_wp2_with fail
  refine (eqLog_same _ _ [eC] 1 _ _ 0 _ rfl (by rw [← HMG.out]; exact (OG_2.out.below ((Below.refl _ _).alloc (Nat.le_refl _) _)).sl) ((SOU.out.below BoU_2.out).below ((Below.refl _ _).alloc (Nat.le_refl _) _)) hn2 HXXL.out).mono ?_
  rintro e w3 ⟨rfl, hb⟩
  have kq := blkp ((hb.block w2.heap.size (by simp)).trans (blk_new _ _))
  obtain ⟨kG0_3, kG1_3, _, _⟩ := kq
  have Z_3 : Hid (w2.heap.size + 1 ≤ w3.heap.size) := by have h1 := hb.size; show _ ≤ _; simp at h1; omega
  have hbb := ((Below.refl w2.heap.size w2).alloc (Nat.le_refl _) (.cells #[.slice aG 1 cG, .int .i64 0] 24 (0, 0))).trans (hb.mono (by simp))
  have kU0_3 := (hbb.cell (p := ⟨w1.heap.size, 0, none⟩) (blk_lt kU0_2)).trans kU0_2
  have kU1_3 := (hbb.cell (p := ⟨w1.heap.size, 1, none⟩) (blk_lt kU1_2)).trans kU1_2
  have OG_3 := hide (OG_2.out.below hbb)
  have B_3 := hide (B_2.out.trans (hbb.mono B_2.out.size))
  have BoU_3 := hide (BoU_2.out.trans (hbb.mono BoU_2.out.size))
  clear hb hbb alU0 alU1 kU0_2 kU1_2 OG_2 BoU_2
  go_wp2_with fail
  refine (markLog_any (w1.heap.size + 1) (w2.heap.size) (.slice aG 1 cG) 1 MG [eC] 0 _ HMG.out hn2 HKATL.out HXXL.out ING.out OG_3.out).mono ?_
  rintro e w4 ⟨rfl, ⟨Mm, hMm, hom⟩, hon⟩
  have Z_4 := hide hon.size
  have hle : w1.heap.size + 1 ≤ w3.heap.size := by have := Z_1.out; have := Z_2.out; have := Z_3.out; omega
  have hbl := hon.below hle
  have kU0_4 := hon.cell (p := ⟨w1.heap.size, 0, none⟩) kU0_3 (by have := Z_1.out; have := Z_2.out; have := Z_3.out; show w1.heap.size < _ ∨ _ ≤ w1.heap.size; omega)
  have kU1_4 := hon.cell (p := ⟨w1.heap.size, 1, none⟩) kU1_3 (by have := Z_1.out; have := Z_2.out; have := Z_3.out; show w1.heap.size < _ ∨ _ ≤ w1.heap.size; omega)
  have kG0_4 := hon.cell (p := ⟨w2.heap.size, 0, none⟩) kG0_3 (by have := Z_1.out; have := Z_2.out; have := Z_3.out; show w2.heap.size < _ ∨ _ ≤ w2.heap.size; omega)
  have kG1_4 := hon.cell (p := ⟨w2.heap.size, 1, none⟩) kG1_3 (by have := Z_1.out; have := Z_2.out; have := Z_3.out; show w2.heap.size < _ ∨ _ ≤ w2.heap.size; omega)
  have BoU_4 := hide (BoU_3.out.trans (hbl.mono (by have := Z_1.out; have := Z_2.out; have := Z_3.out; omega)))
  have B_4 := hide (B_3.out.trans (hbl.mono (by have := B_1.out.size; have := Z_1.out; have := Z_2.out; have := Z_3.out; omega)))
  have SH0 := hom.sl
  rw [hMm] at SH0
  have SH_4 := hide SH0
  clear SH0
  clear hon hbl hle hom hMm OG_3 kU0_3 kU1_3 kG0_3 kG1_3 BoU_3
  go_wp2_with fail
  refine (heldLog_any _ 1 _ [eC] 0 _ rfl hn2 HKATL.out HXXL.out SH_4.out).mono ?_
  rintro e w5 ⟨rfl, hb⟩
  have hbb := hb
  have Z_5 := hide hbb.size
  have kU0_5 := (hbb.cell (p := ⟨w1.heap.size, 0, none⟩) (blk_lt kU0_4)).trans kU0_4
  have kU1_5 := (hbb.cell (p := ⟨w1.heap.size, 1, none⟩) (blk_lt kU1_4)).trans kU1_4
  have kG0_5 := (hbb.cell (p := ⟨w2.heap.size, 0, none⟩) (blk_lt kG0_4)).trans kG0_4
  have kG1_5 := (hbb.cell (p := ⟨w2.heap.size, 1, none⟩) (blk_lt kG1_4)).trans kG1_4
  have SH_5 := hide (SH_4.out.below hbb)
  have B_5 := hide (B_4.out.trans (hbb.mono B_4.out.size))
  have BoU_5 := hide (BoU_4.out.trans (hbb.mono BoU_4.out.size))
  clear hb hbb kU0_4 kU1_4 kG0_4 kG1_4 SH_4 BoU_4
  go_wp2_with fail
  refine (C2.out _).mono ?_
  rintro e w6 ⟨aV, cV, MV, rfl, hM, ho, hb⟩
  have hbb := hb
  have Z_6 := hide hbb.size
  have kU0_6 := (hbb.cell (p := ⟨w1.heap.size, 0, none⟩) (blk_lt kU0_5)).trans kU0_5
  have kU1_6 := (hbb.cell (p := ⟨w1.heap.size, 1, none⟩) (blk_lt kU1_5)).trans kU1_5
  have kG0_6 := (hbb.cell (p := ⟨w2.heap.size, 0, none⟩) (blk_lt kG0_5)).trans kG0_5
  have kG1_6 := (hbb.cell (p := ⟨w2.heap.size, 1, none⟩) (blk_lt kG1_5)).trans kG1_5
  have SH_6 := hide (SH_5.out.below hbb)
  have B_6 := hide (B_5.out.trans (hbb.mono B_5.out.size))
  have BoU_6 := hide (BoU_5.out.trans (hbb.mono BoU_5.out.size))
  clear hb hbb kU0_5 kU1_5 kG0_5 kG1_5 SH_5 BoU_5
  have SV := ho.sl
  rw [hM] at SV
  have SOV := hide SV
  have BoV_6 := hide (Below.refl w6.heap.size w6)
  clear ho hM SV
  have alU0 : ∀ ob, (w6.alloc ob).cell? ⟨w1.heap.size, 0, none⟩ = some (.slice aU 1 cU) := fun ob => Go.Lib.cell?_alloc_some ob kU0_6
  have alU1 : ∀ ob, (w6.alloc ob).cell? ⟨w1.heap.size, 1, none⟩ = some (.int .i64 0) := fun ob => Go.Lib.cell?_alloc_some ob kU1_6
  have alG0 : ∀ ob, (w6.alloc ob).cell? ⟨w2.heap.size, 0, none⟩ = some (.slice aG 1 cG) := fun ob => Go.Lib.cell?_alloc_some ob kG0_6
  have alG1 : ∀ ob, (w6.alloc ob).cell? ⟨w2.heap.size, 1, none⟩ = some (.int .i64 0) := fun ob => Go.Lib.cell?_alloc_some ob kG1_6
  go_wp2_with fail
  refine (eqLog_same _ _ [eC] 1 _ _ 0 _ rfl ((SOV.out.below BoV_6.out).below ((Below.refl _ _).alloc (Nat.le_refl _) _)) ((SOU.out.below BoU_6.out).below ((Below.refl _ _).alloc (Nat.le_refl _) _)) hn2 HXXL.out).mono ?_
  rintro e w7 ⟨rfl, hb⟩
  have kq := blkp ((hb.block w6.heap.size (by simp)).trans (blk_new _ _))
  obtain ⟨kV0_7, kV1_7, _, _⟩ := kq
  have Z_7 : Hid (w6.heap.size + 1 ≤ w7.heap.size) := by have h1 := hb.size; show _ ≤ _; simp at h1; omega
  have hbb := ((Below.refl w6.heap.size w6).alloc (Nat.le_refl _) (.cells #[.slice aV 1 cV, .int .i64 0] 24 (0, 0))).trans (hb.mono (by simp))
  have kU0_7 := (hbb.cell (p := ⟨w1.heap.size, 0, none⟩) (blk_lt kU0_6)).trans kU0_6
  have kU1_7 := (hbb.cell (p := ⟨w1.heap.size, 1, none⟩) (blk_lt kU1_6)).trans kU1_6
  have kG0_7 := (hbb.cell (p := ⟨w2.heap.size, 0, none⟩) (blk_lt kG0_6)).trans kG0_6
  have kG1_7 := (hbb.cell (p := ⟨w2.heap.size, 1, none⟩) (blk_lt kG1_6)).trans kG1_6
  have SH_7 := hide (SH_6.out.below hbb)
  have B_7 := hide (B_6.out.trans (hbb.mono B_6.out.size))
  have BoU_7 := hide (BoU_6.out.trans (hbb.mono BoU_6.out.size))
  have BoV_7 := hide (BoV_6.out.trans (hbb.mono BoV_6.out.size))
  clear hb hbb alU0 alU1 alG0 alG1 kU0_6 kU1_6 kG0_6 kG1_6 SH_6 BoU_6 BoV_6
  go_wp2_with fail
  refine (heldLog_any _ 1 _ [eC] 0 _ rfl hn2 HKATL.out HXXL.out SH_7.out).mono ?_
  rintro e w8 ⟨rfl, hb⟩
  have hbb := hb
  have Z_8 := hide hbb.size
  have kU0_8 := (hbb.cell (p := ⟨w1.heap.size, 0, none⟩) (blk_lt kU0_7)).trans kU0_7
  have kU1_8 := (hbb.cell (p := ⟨w1.heap.size, 1, none⟩) (blk_lt kU1_7)).trans kU1_7
  have kG0_8 := (hbb.cell (p := ⟨w2.heap.size, 0, none⟩) (blk_lt kG0_7)).trans kG0_7
  have kG1_8 := (hbb.cell (p := ⟨w2.heap.size, 1, none⟩) (blk_lt kG1_7)).trans kG1_7
  have kV0_8 := (hbb.cell (p := ⟨w6.heap.size, 0, none⟩) (blk_lt kV0_7)).trans kV0_7
  have kV1_8 := (hbb.cell (p := ⟨w6.heap.size, 1, none⟩) (blk_lt kV1_7)).trans kV1_7
  have SH_8 := hide (SH_7.out.below hbb)
  have B_8 := hide (B_7.out.trans (hbb.mono B_7.out.size))
  have BoU_8 := hide (BoU_7.out.trans (hbb.mono BoU_7.out.size))
  have BoV_8 := hide (BoV_7.out.trans (hbb.mono BoV_7.out.size))
  clear hb hbb kU0_7 kU1_7 kG0_7 kG1_7 kV0_7 kV1_7 SH_7 BoU_7 BoV_7
  go_wp2
  go_ret
  exact ⟨rfl, B_8.out⟩
end Go.Proofs.Ytkjogjjfpjkeoaz.fnExactNewLog
