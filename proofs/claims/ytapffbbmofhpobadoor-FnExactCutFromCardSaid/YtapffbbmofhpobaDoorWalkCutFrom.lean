/-
  The walk of the law FnExactCutFrom: it returns true at every log and every offset; memory that was there stays as it was.
-/
import Derived.Test.YtapffbbmofhpobaDoorBundle2
import Derived.Test.YtapffbbmofhpobaDoorBundle3
import Derived.Test.YtapffbbmofhpobaDoorBundle6
import Derived.Test.YtapffbbmofhpobaDoorBundle7
import Derived.Test.YtapffbbmofhpobaDoorBundle8
namespace Go.Proofs.YtapffbbmofhpobaDoor.fnExactCutFrom
open Go.RowKit L1 L6
set_option linter.unusedVariables false

open Classical in
set_option maxRecDepth 100000 in
set_option maxHeartbeats 4000000 in
theorem walk (a0 : Option Addr) (len0 cap0 : Nat) (z0 : List Pc) (B0 : Int) (a1 : Int) (w : World) (w0 : IsRowC w a0 len0 z0) (w1 : (Lit.int .i64 a1).wf = true) (ht : Tab w) :
    Calls Tryd.prog 3 #[.agg #[.slice a0 len0 cap0, .int .i64 B0], .int .i64 a1] w fun e w' => e = .returned (.bool true) ∧ Below w.heap.size w w' := by
  obtain ⟨⟨hn, hm, hs⟩, hst⟩ := w0
  have HS := hide hs
  have HN := hide hn
  have HT := hide ht
  unfold maxLen at hm
  have C0 := hide (fun wx (hb : Below w.heap.size w wx) r hr => szLog_any a0 z0 len0 cap0 B0 1048576 wx hn (by omega) (hs.below hb) hst (by omega) (by omega) r hr)
  clear hs hn hst ht
  by_cases hfit : (wtC z0 : Int) ≤ 1048576
  · have hwt : len0 + szc z0 ≤ 1048576 := by have := HN.out; unfold wtC at hfit; omega
    have hsz : len0 ≤ 1048576 := by omega
    have HZ : Hid (SzC z0) := fun j hj => by have := szc_get z0 j hj; unfold gc; omega
    have HX : Hid (∀ i, i < len0 → (gc z0 i).x.length ≤ 1048576) := fun i hi => (HZ.out i (by rw [HN.out]; exact hi)).2
    have hk0 : ¬ (1048576 - (wtC z0 : Int)) < 0 := by omega
    have hab : -9223372036854775808 ≤ a1 ∧ a1 ≤ 9223372036854775807 := by simpa [Lit.wf, IntKind.min, IntKind.max, IntKind.bits, IntKind.signed] using w1
    obtain ⟨L1, B1, ok, hr⟩ := cut_is z0 B0 a1
    have c1 := fun a cap w hs => specCut_any a z0 len0 cap B0 a1 w HN.out (by omega) hs HZ.out L1 B1 ok hr
    have c2 := fun a cap w hs ht => implCut_any a z0 len0 cap B0 a1 w hab.1 hab.2 HN.out (by omega) hs HZ.out.tx ht L1 B1 ok hr
    have hfew := hr.few
    obtain ⟨N, hNN⟩ : ∃ N, N = L1.length := ⟨_, rfl⟩
    unfold RetK at c1 c2
    simp only [← hNN] at c1 c2
    rw [← hNN] at hfew
    have hN2 : N ≤ 1048576 := by omega
    have HL1 := hide hNN.symm
    have HXXL : Hid (∀ i, i < N → (gc L1 i).x.length ≤ 1048576) := fun i hi => by have := hfew.2 i hi; omega
    have HKATL : Hid (∀ i, i ≤ N → kat L1 i ≤ 2147483648) := fun i hi => by
      have := kat_small L1 N hfew.2 i hi
      omega
    have hkp1 := kat_pos L1 N
    have hq1 : ¬ kat L1 N < 0 := by omega
    have hkp := kat_pos z0 len0
    have hq0 : ¬ kat z0 len0 < 0 := by omega
    have HKATX : Hid (∀ i, i ≤ len0 → kat z0 i ≤ 2147483648) := fun i hi => kat_few z0 (by rw [HN.out]; exact hwt) i (by rw [HN.out]; exact hi)
    have HXXX := HX
    have C1 := hide c1
    have C2 := hide c2
    clear c1 c2 hr hNN hkp hkp1 hfew hab
    go_enter Tryd.func3, Tryd.ntmps3
    go_wp2_with fail
    refine (C0.out _ ((Below.refl _ _).alloc (Nat.le_refl _) _) (1048576 - (wtC z0 : Int)) (by rw [if_pos (by omega)])).mono ?_
    rintro e w1 ⟨rfl, hb⟩
    have kq := blkp ((hb.block w.heap.size (by simp)).trans (blk_new _ _))
    obtain ⟨kA0_1, kA1_1, _, _⟩ := kq
    have Z_1 : Hid (w.heap.size + 1 ≤ w1.heap.size) := by have h1 := hb.size; show _ ≤ _; simp at h1; omega
    have hbb := ((Below.refl w.heap.size w).alloc (Nat.le_refl _) (.cells #[.slice a0 len0 cap0, .int .i64 B0] 24 (0, 0))).trans (hb.mono (by simp))
    have B_1 := hide hbb
    clear hb hbb 
    go_wp2_with fail
    refine (toLog_any a0 z0 len0 cap0 B0 _ HN.out (HS.out.below B_1.out) hsz HX.out).mono ?_
    rintro e w2 ⟨g2, rfl, ⟨M2, hM, ho⟩, hb⟩
    have hbb := hb
    have Z_2 := hide hbb.size
    have kA0_2 := (hbb.cell (p := ⟨w.heap.size, 0, none⟩) (blk_lt kA0_1)).trans kA0_1
    have kA1_2 := (hbb.cell (p := ⟨w.heap.size, 1, none⟩) (blk_lt kA1_1)).trans kA1_1
    have B_2 := hide (B_1.out.trans (hbb.mono B_1.out.size))
    clear hb hbb kA0_1 kA1_1
    have SP_2 := ho.sl
    rw [hM] at SP_2
    have SP__2 := hide SP_2
    clear ho hM SP_2
    go_wp2_with fail
    refine (C1.out _ _ _ SP__2.out).mono ?_
    rintro e w3 ⟨aU, cU, rfl, MU, hM, ho, hb⟩
    have hbb := hb
    have Z_3 := hide hbb.size
    have kA0_3 := (hbb.cell (p := ⟨w.heap.size, 0, none⟩) (blk_lt kA0_2)).trans kA0_2
    have kA1_3 := (hbb.cell (p := ⟨w.heap.size, 1, none⟩) (blk_lt kA1_2)).trans kA1_2
    have SP_3 := hide (SP__2.out.below hbb)
    have B_3 := hide (B_2.out.trans (hbb.mono B_2.out.size))
    clear hb hbb kA0_2 kA1_2 SP__2
    have SU := ho.sl
    rw [hM] at SU
    have SOU := hide SU
    have BoU_3 := hide (Below.refl w3.heap.size w3)
    clear ho hM SU
    have alA0 : ∀ ob, (w3.alloc ob).cell? ⟨w.heap.size, 0, none⟩ = some (.slice a0 len0 cap0) := fun ob => Go.Lib.cell?_alloc_some ob kA0_3
    have alA1 : ∀ ob, (w3.alloc ob).cell? ⟨w.heap.size, 1, none⟩ = some (.int .i64 B0) := fun ob => Go.Lib.cell?_alloc_some ob kA1_3
    clear SP_3
    go_wp2_with fail
    refine (toLog_any a0 z0 len0 cap0 B0 _ HN.out (HS.out.below (B_3.out.alloc B_3.out.size _)) hsz HX.out).mono ?_
    rintro e w4 ⟨g4, rfl, ⟨M4, hM, ho⟩, hb⟩
    have kq := blkp ((hb.block w3.heap.size (by simp)).trans (blk_new _ _))
    obtain ⟨kU0_4, kU1_4, _, _⟩ := kq
    have Z_4 : Hid (w3.heap.size + 1 ≤ w4.heap.size) := by have h1 := hb.size; show _ ≤ _; simp at h1; omega
    have hbb := ((Below.refl w3.heap.size w3).alloc (Nat.le_refl _) (.cells #[.slice aU N cU, .int .i64 B1] 28 (0, 0))).trans (hb.mono (by simp))
    have kA0_4 := (hbb.cell (p := ⟨w.heap.size, 0, none⟩) (blk_lt kA0_3)).trans kA0_3
    have kA1_4 := (hbb.cell (p := ⟨w.heap.size, 1, none⟩) (blk_lt kA1_3)).trans kA1_3
    have B_4 := hide (B_3.out.trans (hbb.mono B_3.out.size))
    have BoU_4 := hide (BoU_3.out.trans (hbb.mono BoU_3.out.size))
    clear hb hbb alA0 alA1 kA0_3 kA1_3 BoU_3
    have OX_4 := hide ho
    have HMX := hide hM
    clear ho hM
    rw [World.size_alloc] at OX_4
    have INX := hide OX_4.out.inC
    have alA0 : ∀ ob, (w4.alloc ob).cell? ⟨w.heap.size, 0, none⟩ = some (.slice a0 len0 cap0) := fun ob => Go.Lib.cell?_alloc_some ob kA0_4
    have alA1 : ∀ ob, (w4.alloc ob).cell? ⟨w.heap.size, 1, none⟩ = some (.int .i64 B0) := fun ob => Go.Lib.cell?_alloc_some ob kA1_4
    have alU0 : ∀ ob, (w4.alloc ob).cell? ⟨w3.heap.size, 0, none⟩ = some (.slice aU N cU) := fun ob => Go.Lib.cell?_alloc_some ob kU0_4
    have alU1 : ∀ ob, (w4.alloc ob).cell? ⟨w3.heap.size, 1, none⟩ = some (.int .i64 B1) := fun ob => Go.Lib.cell?_alloc_some ob kU1_4
    go_wp2_with fail
    refine (C2.out _ _ _ (by rw [← HMX.out]; exact (OX_4.out.below ((Below.refl _ _).alloc (Nat.le_refl _) _)).sl) (HT.out.below (B_4.out.alloc B_4.out.size _))).mono ?_
    rintro e w5 ⟨aG, cG, rfl, MG, hM, ho, hb⟩
    have kq := blkp ((hb.block w4.heap.size (by simp)).trans (blk_new _ _))
    obtain ⟨kX0_5, kX1_5, _, _⟩ := kq
    have Z_5 : Hid (w4.heap.size + 1 ≤ w5.heap.size) := by have h1 := hb.size; show _ ≤ _; simp at h1; omega
    have hbb := ((Below.refl w4.heap.size w4).alloc (Nat.le_refl _) (.cells #[.slice (some ⟨g4, 0, none⟩) len0 len0, .int .i64 B0] 28 (0, 0))).trans (hb.mono (by simp))
    have kA0_5 := (hbb.cell (p := ⟨w.heap.size, 0, none⟩) (blk_lt kA0_4)).trans kA0_4
    have kA1_5 := (hbb.cell (p := ⟨w.heap.size, 1, none⟩) (blk_lt kA1_4)).trans kA1_4
    have kU0_5 := (hbb.cell (p := ⟨w3.heap.size, 0, none⟩) (blk_lt kU0_4)).trans kU0_4
    have kU1_5 := (hbb.cell (p := ⟨w3.heap.size, 1, none⟩) (blk_lt kU1_4)).trans kU1_4
    have OX_5 := hide (OX_4.out.below hbb)
    have B_5 := hide (B_4.out.trans (hbb.mono B_4.out.size))
    have BoU_5 := hide (BoU_4.out.trans (hbb.mono BoU_4.out.size))
    clear hb hbb alA0 alA1 alU0 alU1 kA0_4 kA1_4 kU0_4 kU1_4 OX_4 BoU_4
    simp only [World.size_alloc] at ho
    have OG_5 := hide ho
    have ING := hide ho.inC
    have HMG := hide hM
    clear ho hM
    have alA0 : ∀ ob, (w5.alloc ob).cell? ⟨w.heap.size, 0, none⟩ = some (.slice a0 len0 cap0) := fun ob => Go.Lib.cell?_alloc_some ob kA0_5
    have alA1 : ∀ ob, (w5.alloc ob).cell? ⟨w.heap.size, 1, none⟩ = some (.int .i64 B0) := fun ob => Go.Lib.cell?_alloc_some ob kA1_5
    have alU0 : ∀ ob, (w5.alloc ob).cell? ⟨w3.heap.size, 0, none⟩ = some (.slice aU N cU) := fun ob => Go.Lib.cell?_alloc_some ob kU0_5
    have alU1 : ∀ ob, (w5.alloc ob).cell? ⟨w3.heap.size, 1, none⟩ = some (.int .i64 B1) := fun ob => Go.Lib.cell?_alloc_some ob kU1_5
    have alX0 : ∀ ob, (w5.alloc ob).cell? ⟨w4.heap.size, 0, none⟩ = some (.slice (some ⟨g4, 0, none⟩) len0 len0) := fun ob => Go.Lib.cell?_alloc_some ob kX0_5
    have alX1 : ∀ ob, (w5.alloc ob).cell? ⟨w4.heap.size, 1, none⟩ = some (.int .i64 B0) := fun ob => Go.Lib.cell?_alloc_some ob kX1_5
    go_wp2_with fail
    refine (eqLog_same _ _ L1 N _ _ B1 _ HL1.out (by rw [← HMG.out]; exact (OG_5.out.below ((Below.refl _ _).alloc (Nat.le_refl _) _)).sl) ((SOU.out.below BoU_5.out).below ((Below.refl _ _).alloc (Nat.le_refl _) _)) hN2 HXXL.out).mono ?_
    rintro e w6 ⟨rfl, hb⟩
    have kq := blkp ((hb.block w5.heap.size (by simp)).trans (blk_new _ _))
    obtain ⟨kG0_6, kG1_6, _, _⟩ := kq
    have Z_6 : Hid (w5.heap.size + 1 ≤ w6.heap.size) := by have h1 := hb.size; show _ ≤ _; simp at h1; omega
    have hbb := ((Below.refl w5.heap.size w5).alloc (Nat.le_refl _) (.cells #[.slice aG N cG, .int .i64 B1] 28 (0, 0))).trans (hb.mono (by simp))
    have kA0_6 := (hbb.cell (p := ⟨w.heap.size, 0, none⟩) (blk_lt kA0_5)).trans kA0_5
    have kA1_6 := (hbb.cell (p := ⟨w.heap.size, 1, none⟩) (blk_lt kA1_5)).trans kA1_5
    have kU0_6 := (hbb.cell (p := ⟨w3.heap.size, 0, none⟩) (blk_lt kU0_5)).trans kU0_5
    have kU1_6 := (hbb.cell (p := ⟨w3.heap.size, 1, none⟩) (blk_lt kU1_5)).trans kU1_5
    have kX0_6 := (hbb.cell (p := ⟨w4.heap.size, 0, none⟩) (blk_lt kX0_5)).trans kX0_5
    have kX1_6 := (hbb.cell (p := ⟨w4.heap.size, 1, none⟩) (blk_lt kX1_5)).trans kX1_5
    have OX_6 := hide (OX_5.out.below hbb)
    have OG_6 := hide (OG_5.out.below hbb)
    have B_6 := hide (B_5.out.trans (hbb.mono B_5.out.size))
    have BoU_6 := hide (BoU_5.out.trans (hbb.mono BoU_5.out.size))
    clear hb hbb alA0 alA1 alU0 alU1 alX0 alX1 kA0_5 kA1_5 kU0_5 kU1_5 kX0_5 kX1_5 OX_5 OG_5 BoU_5
    go_wp2
    refine wp_region_held_drew (S := fun wx => (wx.cell? ⟨w.heap.size, 0, none⟩ = some (.slice a0 len0 cap0) ∧ wx.cell? ⟨w.heap.size, 1, none⟩ = some (.int .i64 B0) ∧ wx.cell? ⟨w4.heap.size, 0, none⟩ = some (.slice (some ⟨g4, 0, none⟩) len0 len0) ∧ wx.cell? ⟨w4.heap.size, 1, none⟩ = some (.int .i64 B0)) ∧ Below w6.heap.size w6 wx) (by kernel_rfl) ⟨⟨kA0_6, kA1_6, kX0_6, kX1_6⟩, (Below.refl _ _).drew⟩ (fun hHeld => ?_)
    refine wpAnyH_take (i := 0) (v := ?v1) rfl (by kernel_rfl) (by kernel_rfl) (by kernel_rfl) (fun _ _ _ h => h) (Or.inl ⟨by rfl, ?y1⟩) (by assumption) ?r1
    case y1 => (intro w hSw; (try dsimp only at hSw); go_simp; try (with_reducible rfl))
    simp only [List.getElem_toArray, List.getElem_cons_zero, Act.put, List.setIfInBounds_toArray, List.set_cons_zero, List.set_cons_succ]
    refine wpAnyH_take (i := 1) (v := ?v2) rfl (by kernel_rfl) (by kernel_rfl) (by kernel_rfl) (fun _ _ _ h => h) (Or.inl ⟨by rfl, ?y2⟩) (by assumption) ?r2
    case y2 => (intro w hSw; (try dsimp only at hSw); go_simp; try (with_reducible rfl))
    simp only [List.getElem_toArray, List.getElem_cons_succ, List.getElem_cons_zero, Act.put, List.setIfInBounds_toArray, List.set_cons_zero, List.set_cons_succ]
    refine wpAnyH_ready (rs := [2]) (by kernel_rfl) (by simp) ?_
    refine AllReadyH.cons rfl (fun K hK => ?_) AllReadyH.nil
    simp only [List.getElem_toArray, List.getElem_cons_succ, List.getElem_cons_zero]
    go_simp
    go_at_call 9
    refine (toLog_any a0 z0 len0 cap0 B0 _ HN.out (HS.out.below (B_6.out.trans (hHeld.2.mono B_6.out.size))) hsz HX.out).mono ?_
    rintro e wt ⟨gt, rfl, ⟨Mt, hMt, hot⟩, hbt⟩
    have St := hot.sl
    rw [hMt] at St
    have HSt := hide St
    clear St hot hMt
    dsimp only
    refine hK.out _ _ ?_ (fun hHeld => ?_)
    · exact keep4 hHeld hbt (Nat.le_refl _)
    clear hK K
    try simp only [Act.put, List.setIfInBounds_toArray, List.set_cons_zero, List.set_cons_succ]
    refine wpAnyH_ready (rs := [3]) (by kernel_rfl) (by simp) ?_
    refine AllReadyH.cons rfl (fun K hK => ?_) AllReadyH.nil
    simp only [List.getElem_toArray, List.getElem_cons_succ, List.getElem_cons_zero]
    go_simp
    go_at_call 11
    refine (eqLog_same _ _ z0 len0 _ _ B0 _ HN.out (by rw [← HMX.out]; exact ((OX_6.out.below hHeld.2).sl)) HSt.out hsz HX.out).mono ?_
    rintro e w7 ⟨rfl, hbu⟩
    dsimp only
    refine hK.out _ _ ?_ (fun hHeld => ?_)
    · exact keep4 (by assumption) hbu (Nat.le_refl _)
    clear hK K
    try simp only [Act.put, List.setIfInBounds_toArray, List.set_cons_zero, List.set_cons_succ]
    refine wpAnyH_take (i := 4) (v := ?v3) rfl (by kernel_rfl) (by kernel_rfl) (by kernel_rfl) (fun _ _ _ h => h) (Or.inl ⟨by rfl, ?y3⟩) (by assumption) ?r3
    case y3 => (intro w hSw; (try dsimp only at hSw); go_simp; try (with_reducible rfl))
    simp only [List.getElem_toArray, List.getElem_cons_succ, List.getElem_cons_zero, Act.put, List.setIfInBounds_toArray, List.set_cons_zero, List.set_cons_succ]
    refine wpAnyH_done (by kernel_rfl) ?_ _
    have hb := hHeld.2
    clear hHeld HSt
    have hbb := hb
    have Z_7 := hide hbb.size
    have kA0_7 := (hbb.cell (p := ⟨w.heap.size, 0, none⟩) (blk_lt kA0_6)).trans kA0_6
    have kA1_7 := (hbb.cell (p := ⟨w.heap.size, 1, none⟩) (blk_lt kA1_6)).trans kA1_6
    have kU0_7 := (hbb.cell (p := ⟨w3.heap.size, 0, none⟩) (blk_lt kU0_6)).trans kU0_6
    have kU1_7 := (hbb.cell (p := ⟨w3.heap.size, 1, none⟩) (blk_lt kU1_6)).trans kU1_6
    have kX0_7 := (hbb.cell (p := ⟨w4.heap.size, 0, none⟩) (blk_lt kX0_6)).trans kX0_6
    have kX1_7 := (hbb.cell (p := ⟨w4.heap.size, 1, none⟩) (blk_lt kX1_6)).trans kX1_6
    have kG0_7 := (hbb.cell (p := ⟨w5.heap.size, 0, none⟩) (blk_lt kG0_6)).trans kG0_6
    have kG1_7 := (hbb.cell (p := ⟨w5.heap.size, 1, none⟩) (blk_lt kG1_6)).trans kG1_6
    have OX_7 := hide (OX_6.out.below hbb)
    have OG_7 := hide (OG_6.out.below hbb)
    have B_7 := hide (B_6.out.trans (hbb.mono B_6.out.size))
    have BoU_7 := hide (BoU_6.out.trans (hbb.mono BoU_6.out.size))
    clear hb hbb kA0_6 kA1_6 kU0_6 kU1_6 kX0_6 kX1_6 kG0_6 kG1_6 OX_6 OG_6 BoU_6
    go_wp2_with fail
    refine (markLog_any (w3.heap.size + 1) (w4.heap.size) (.slice (some ⟨g4, 0, none⟩) len0 len0) len0 M4 z0 B0 _ HMX.out hsz HKATX.out HXXX.out INX.out OX_7.out).mono ?_
    rintro e w8 ⟨rfl, ⟨Mm, hMm, hom⟩, hon⟩
    have Z_8 := hide hon.size
    have hle : w3.heap.size + 1 ≤ w7.heap.size := by have := Z_1.out; have := Z_2.out; have := Z_3.out; have := Z_4.out; have := Z_5.out; have := Z_6.out; have := Z_7.out; omega
    have hbl := hon.below hle
    have kA0_8 := hon.cell (p := ⟨w.heap.size, 0, none⟩) kA0_7 (by have := Z_1.out; have := Z_2.out; have := Z_3.out; have := Z_4.out; have := Z_5.out; have := Z_6.out; have := Z_7.out; show w.heap.size < _ ∨ _ ≤ w.heap.size; omega)
    have kA1_8 := hon.cell (p := ⟨w.heap.size, 1, none⟩) kA1_7 (by have := Z_1.out; have := Z_2.out; have := Z_3.out; have := Z_4.out; have := Z_5.out; have := Z_6.out; have := Z_7.out; show w.heap.size < _ ∨ _ ≤ w.heap.size; omega)
    have kU0_8 := hon.cell (p := ⟨w3.heap.size, 0, none⟩) kU0_7 (by have := Z_1.out; have := Z_2.out; have := Z_3.out; have := Z_4.out; have := Z_5.out; have := Z_6.out; have := Z_7.out; show w3.heap.size < _ ∨ _ ≤ w3.heap.size; omega)
    have kU1_8 := hon.cell (p := ⟨w3.heap.size, 1, none⟩) kU1_7 (by have := Z_1.out; have := Z_2.out; have := Z_3.out; have := Z_4.out; have := Z_5.out; have := Z_6.out; have := Z_7.out; show w3.heap.size < _ ∨ _ ≤ w3.heap.size; omega)
    have kX0_8 := hon.cell (p := ⟨w4.heap.size, 0, none⟩) kX0_7 (by have := Z_1.out; have := Z_2.out; have := Z_3.out; have := Z_4.out; have := Z_5.out; have := Z_6.out; have := Z_7.out; show w4.heap.size < _ ∨ _ ≤ w4.heap.size; omega)
    have kX1_8 := hon.cell (p := ⟨w4.heap.size, 1, none⟩) kX1_7 (by have := Z_1.out; have := Z_2.out; have := Z_3.out; have := Z_4.out; have := Z_5.out; have := Z_6.out; have := Z_7.out; show w4.heap.size < _ ∨ _ ≤ w4.heap.size; omega)
    have kG0_8 := hon.cell (p := ⟨w5.heap.size, 0, none⟩) kG0_7 (by have := Z_1.out; have := Z_2.out; have := Z_3.out; have := Z_4.out; have := Z_5.out; have := Z_6.out; have := Z_7.out; show w5.heap.size < _ ∨ _ ≤ w5.heap.size; omega)
    have kG1_8 := hon.cell (p := ⟨w5.heap.size, 1, none⟩) kG1_7 (by have := Z_1.out; have := Z_2.out; have := Z_3.out; have := Z_4.out; have := Z_5.out; have := Z_6.out; have := Z_7.out; show w5.heap.size < _ ∨ _ ≤ w5.heap.size; omega)
    have OG_8 := hide (hon.ow OG_7.out (by have := Z_1.out; have := Z_2.out; have := Z_3.out; have := Z_4.out; have := Z_5.out; have := Z_6.out; have := Z_7.out; omega))
    have BoU_8 := hide (BoU_7.out.trans (hbl.mono (by have := Z_1.out; have := Z_2.out; have := Z_3.out; have := Z_4.out; have := Z_5.out; have := Z_6.out; have := Z_7.out; omega)))
    have B_8 := hide (B_7.out.trans (hbl.mono (by have := B_1.out.size; have := Z_1.out; have := Z_2.out; have := Z_3.out; have := Z_4.out; have := Z_5.out; have := Z_6.out; have := Z_7.out; omega)))
    clear hon hbl hle hom hMm Mm OX_7 kA0_7 kA1_7 kU0_7 kU1_7 kX0_7 kX1_7 kG0_7 kG1_7 OG_7 BoU_7
    go_wp2_with fail
    refine (eqLog_same _ _ L1 N _ _ B1 _ HL1.out (by rw [← HMG.out]; exact OG_8.out.sl) (SOU.out.below BoU_8.out) hN2 HXXL.out).mono ?_
    rintro e w9 ⟨rfl, hb⟩
    have hbb := hb
    have Z_9 := hide hbb.size
    have kA0_9 := (hbb.cell (p := ⟨w.heap.size, 0, none⟩) (blk_lt kA0_8)).trans kA0_8
    have kA1_9 := (hbb.cell (p := ⟨w.heap.size, 1, none⟩) (blk_lt kA1_8)).trans kA1_8
    have kU0_9 := (hbb.cell (p := ⟨w3.heap.size, 0, none⟩) (blk_lt kU0_8)).trans kU0_8
    have kU1_9 := (hbb.cell (p := ⟨w3.heap.size, 1, none⟩) (blk_lt kU1_8)).trans kU1_8
    have kX0_9 := (hbb.cell (p := ⟨w4.heap.size, 0, none⟩) (blk_lt kX0_8)).trans kX0_8
    have kX1_9 := (hbb.cell (p := ⟨w4.heap.size, 1, none⟩) (blk_lt kX1_8)).trans kX1_8
    have kG0_9 := (hbb.cell (p := ⟨w5.heap.size, 0, none⟩) (blk_lt kG0_8)).trans kG0_8
    have kG1_9 := (hbb.cell (p := ⟨w5.heap.size, 1, none⟩) (blk_lt kG1_8)).trans kG1_8
    have OG_9 := hide (OG_8.out.below hbb)
    have B_9 := hide (B_8.out.trans (hbb.mono B_8.out.size))
    have BoU_9 := hide (BoU_8.out.trans (hbb.mono BoU_8.out.size))
    clear hb hbb kA0_8 kA1_8 kU0_8 kU1_8 kX0_8 kX1_8 kG0_8 kG1_8 OG_8 BoU_8
    go_wp2_with fail
    refine (markLog_any (w4.heap.size + 1) (w5.heap.size) (.slice aG N cG) N MG L1 B1 _ HMG.out hN2 HKATL.out HXXL.out ING.out OG_9.out).mono ?_
    rintro e w10 ⟨rfl, ⟨Mm, hMm, hom⟩, hon⟩
    have Z_10 := hide hon.size
    have hle : w4.heap.size + 1 ≤ w9.heap.size := by have := Z_1.out; have := Z_2.out; have := Z_3.out; have := Z_4.out; have := Z_5.out; have := Z_6.out; have := Z_7.out; have := Z_8.out; have := Z_9.out; omega
    have hbl := hon.below hle
    have kA0_10 := hon.cell (p := ⟨w.heap.size, 0, none⟩) kA0_9 (by have := Z_1.out; have := Z_2.out; have := Z_3.out; have := Z_4.out; have := Z_5.out; have := Z_6.out; have := Z_7.out; have := Z_8.out; have := Z_9.out; show w.heap.size < _ ∨ _ ≤ w.heap.size; omega)
    have kA1_10 := hon.cell (p := ⟨w.heap.size, 1, none⟩) kA1_9 (by have := Z_1.out; have := Z_2.out; have := Z_3.out; have := Z_4.out; have := Z_5.out; have := Z_6.out; have := Z_7.out; have := Z_8.out; have := Z_9.out; show w.heap.size < _ ∨ _ ≤ w.heap.size; omega)
    have kU0_10 := hon.cell (p := ⟨w3.heap.size, 0, none⟩) kU0_9 (by have := Z_1.out; have := Z_2.out; have := Z_3.out; have := Z_4.out; have := Z_5.out; have := Z_6.out; have := Z_7.out; have := Z_8.out; have := Z_9.out; show w3.heap.size < _ ∨ _ ≤ w3.heap.size; omega)
    have kU1_10 := hon.cell (p := ⟨w3.heap.size, 1, none⟩) kU1_9 (by have := Z_1.out; have := Z_2.out; have := Z_3.out; have := Z_4.out; have := Z_5.out; have := Z_6.out; have := Z_7.out; have := Z_8.out; have := Z_9.out; show w3.heap.size < _ ∨ _ ≤ w3.heap.size; omega)
    have kX0_10 := hon.cell (p := ⟨w4.heap.size, 0, none⟩) kX0_9 (by have := Z_1.out; have := Z_2.out; have := Z_3.out; have := Z_4.out; have := Z_5.out; have := Z_6.out; have := Z_7.out; have := Z_8.out; have := Z_9.out; show w4.heap.size < _ ∨ _ ≤ w4.heap.size; omega)
    have kX1_10 := hon.cell (p := ⟨w4.heap.size, 1, none⟩) kX1_9 (by have := Z_1.out; have := Z_2.out; have := Z_3.out; have := Z_4.out; have := Z_5.out; have := Z_6.out; have := Z_7.out; have := Z_8.out; have := Z_9.out; show w4.heap.size < _ ∨ _ ≤ w4.heap.size; omega)
    have kG0_10 := hon.cell (p := ⟨w5.heap.size, 0, none⟩) kG0_9 (by have := Z_1.out; have := Z_2.out; have := Z_3.out; have := Z_4.out; have := Z_5.out; have := Z_6.out; have := Z_7.out; have := Z_8.out; have := Z_9.out; show w5.heap.size < _ ∨ _ ≤ w5.heap.size; omega)
    have kG1_10 := hon.cell (p := ⟨w5.heap.size, 1, none⟩) kG1_9 (by have := Z_1.out; have := Z_2.out; have := Z_3.out; have := Z_4.out; have := Z_5.out; have := Z_6.out; have := Z_7.out; have := Z_8.out; have := Z_9.out; show w5.heap.size < _ ∨ _ ≤ w5.heap.size; omega)
    have BoU_10 := hide (BoU_9.out.trans (hbl.mono (by have := Z_1.out; have := Z_2.out; have := Z_3.out; have := Z_4.out; have := Z_5.out; have := Z_6.out; have := Z_7.out; have := Z_8.out; have := Z_9.out; omega)))
    have B_10 := hide (B_9.out.trans (hbl.mono (by have := B_1.out.size; have := Z_1.out; have := Z_2.out; have := Z_3.out; have := Z_4.out; have := Z_5.out; have := Z_6.out; have := Z_7.out; have := Z_8.out; have := Z_9.out; omega)))
    have SH0 := hom.sl
    rw [hMm] at SH0
    have SH_10 := hide SH0
    clear SH0
    clear hon hbl hle hom hMm OG_9 kA0_9 kA1_9 kU0_9 kU1_9 kX0_9 kX1_9 kG0_9 kG1_9 BoU_9
    go_wp2_with fail
    refine (heldLog_any _ N _ L1 B1 _ HL1.out hN2 HKATL.out HXXL.out SH_10.out).mono ?_
    rintro e w11 ⟨rfl, hb⟩
    have hbb := hb
    have Z_11 := hide hbb.size
    have kA0_11 := (hbb.cell (p := ⟨w.heap.size, 0, none⟩) (blk_lt kA0_10)).trans kA0_10
    have kA1_11 := (hbb.cell (p := ⟨w.heap.size, 1, none⟩) (blk_lt kA1_10)).trans kA1_10
    have kU0_11 := (hbb.cell (p := ⟨w3.heap.size, 0, none⟩) (blk_lt kU0_10)).trans kU0_10
    have kU1_11 := (hbb.cell (p := ⟨w3.heap.size, 1, none⟩) (blk_lt kU1_10)).trans kU1_10
    have kX0_11 := (hbb.cell (p := ⟨w4.heap.size, 0, none⟩) (blk_lt kX0_10)).trans kX0_10
    have kX1_11 := (hbb.cell (p := ⟨w4.heap.size, 1, none⟩) (blk_lt kX1_10)).trans kX1_10
    have kG0_11 := (hbb.cell (p := ⟨w5.heap.size, 0, none⟩) (blk_lt kG0_10)).trans kG0_10
    have kG1_11 := (hbb.cell (p := ⟨w5.heap.size, 1, none⟩) (blk_lt kG1_10)).trans kG1_10
    have SH_11 := hide (SH_10.out.below hbb)
    have B_11 := hide (B_10.out.trans (hbb.mono B_10.out.size))
    have BoU_11 := hide (BoU_10.out.trans (hbb.mono BoU_10.out.size))
    clear hb hbb kA0_10 kA1_10 kU0_10 kU1_10 kX0_10 kX1_10 kG0_10 kG1_10 SH_10 BoU_10
    go_wp2_with fail
    refine (toLog_any a0 z0 len0 cap0 B0 _ HN.out (HS.out.below B_11.out) hsz HX.out).mono ?_
    rintro e w12 ⟨g12, rfl, ⟨M12, hM, ho⟩, hb⟩
    have hbb := hb
    have Z_12 := hide hbb.size
    have kA0_12 := (hbb.cell (p := ⟨w.heap.size, 0, none⟩) (blk_lt kA0_11)).trans kA0_11
    have kA1_12 := (hbb.cell (p := ⟨w.heap.size, 1, none⟩) (blk_lt kA1_11)).trans kA1_11
    have kU0_12 := (hbb.cell (p := ⟨w3.heap.size, 0, none⟩) (blk_lt kU0_11)).trans kU0_11
    have kU1_12 := (hbb.cell (p := ⟨w3.heap.size, 1, none⟩) (blk_lt kU1_11)).trans kU1_11
    have kX0_12 := (hbb.cell (p := ⟨w4.heap.size, 0, none⟩) (blk_lt kX0_11)).trans kX0_11
    have kX1_12 := (hbb.cell (p := ⟨w4.heap.size, 1, none⟩) (blk_lt kX1_11)).trans kX1_11
    have kG0_12 := (hbb.cell (p := ⟨w5.heap.size, 0, none⟩) (blk_lt kG0_11)).trans kG0_11
    have kG1_12 := (hbb.cell (p := ⟨w5.heap.size, 1, none⟩) (blk_lt kG1_11)).trans kG1_11
    have SH_12 := hide (SH_11.out.below hbb)
    have B_12 := hide (B_11.out.trans (hbb.mono B_11.out.size))
    have BoU_12 := hide (BoU_11.out.trans (hbb.mono BoU_11.out.size))
    clear hb hbb kA0_11 kA1_11 kU0_11 kU1_11 kX0_11 kX1_11 kG0_11 kG1_11 SH_11 BoU_11
    have SP_12 := ho.sl
    rw [hM] at SP_12
    have SP__12 := hide SP_12
    clear ho hM SP_12
    go_wp2_with fail
    refine (C2.out _ _ _ SP__12.out (HT.out.below B_12.out)).mono ?_
    rintro e w13 ⟨aV, cV, rfl, MV, hM, ho, hb⟩
    have hbb := hb
    have Z_13 := hide hbb.size
    have kA0_13 := (hbb.cell (p := ⟨w.heap.size, 0, none⟩) (blk_lt kA0_12)).trans kA0_12
    have kA1_13 := (hbb.cell (p := ⟨w.heap.size, 1, none⟩) (blk_lt kA1_12)).trans kA1_12
    have kU0_13 := (hbb.cell (p := ⟨w3.heap.size, 0, none⟩) (blk_lt kU0_12)).trans kU0_12
    have kU1_13 := (hbb.cell (p := ⟨w3.heap.size, 1, none⟩) (blk_lt kU1_12)).trans kU1_12
    have kX0_13 := (hbb.cell (p := ⟨w4.heap.size, 0, none⟩) (blk_lt kX0_12)).trans kX0_12
    have kX1_13 := (hbb.cell (p := ⟨w4.heap.size, 1, none⟩) (blk_lt kX1_12)).trans kX1_12
    have kG0_13 := (hbb.cell (p := ⟨w5.heap.size, 0, none⟩) (blk_lt kG0_12)).trans kG0_12
    have kG1_13 := (hbb.cell (p := ⟨w5.heap.size, 1, none⟩) (blk_lt kG1_12)).trans kG1_12
    have SH_13 := hide (SH_12.out.below hbb)
    have SP_13 := hide (SP__12.out.below hbb)
    have B_13 := hide (B_12.out.trans (hbb.mono B_12.out.size))
    have BoU_13 := hide (BoU_12.out.trans (hbb.mono BoU_12.out.size))
    clear hb hbb kA0_12 kA1_12 kU0_12 kU1_12 kX0_12 kX1_12 kG0_12 kG1_12 SH_12 SP__12 BoU_12
    have SV := ho.sl
    rw [hM] at SV
    have SOV := hide SV
    have BoV_13 := hide (Below.refl w13.heap.size w13)
    clear ho hM SV
    have alA0 : ∀ ob, (w13.alloc ob).cell? ⟨w.heap.size, 0, none⟩ = some (.slice a0 len0 cap0) := fun ob => Go.Lib.cell?_alloc_some ob kA0_13
    have alA1 : ∀ ob, (w13.alloc ob).cell? ⟨w.heap.size, 1, none⟩ = some (.int .i64 B0) := fun ob => Go.Lib.cell?_alloc_some ob kA1_13
    have alU0 : ∀ ob, (w13.alloc ob).cell? ⟨w3.heap.size, 0, none⟩ = some (.slice aU N cU) := fun ob => Go.Lib.cell?_alloc_some ob kU0_13
    have alU1 : ∀ ob, (w13.alloc ob).cell? ⟨w3.heap.size, 1, none⟩ = some (.int .i64 B1) := fun ob => Go.Lib.cell?_alloc_some ob kU1_13
    have alX0 : ∀ ob, (w13.alloc ob).cell? ⟨w4.heap.size, 0, none⟩ = some (.slice (some ⟨g4, 0, none⟩) len0 len0) := fun ob => Go.Lib.cell?_alloc_some ob kX0_13
    have alX1 : ∀ ob, (w13.alloc ob).cell? ⟨w4.heap.size, 1, none⟩ = some (.int .i64 B0) := fun ob => Go.Lib.cell?_alloc_some ob kX1_13
    have alG0 : ∀ ob, (w13.alloc ob).cell? ⟨w5.heap.size, 0, none⟩ = some (.slice aG N cG) := fun ob => Go.Lib.cell?_alloc_some ob kG0_13
    have alG1 : ∀ ob, (w13.alloc ob).cell? ⟨w5.heap.size, 1, none⟩ = some (.int .i64 B1) := fun ob => Go.Lib.cell?_alloc_some ob kG1_13
    clear SP_13
    go_wp2_with fail
    refine (eqLog_same _ _ L1 N _ _ B1 _ HL1.out ((SOV.out.below BoV_13.out).below ((Below.refl _ _).alloc (Nat.le_refl _) _)) ((SOU.out.below BoU_13.out).below ((Below.refl _ _).alloc (Nat.le_refl _) _)) hN2 HXXL.out).mono ?_
    rintro e w14 ⟨rfl, hb⟩
    have kq := blkp ((hb.block w13.heap.size (by simp)).trans (blk_new _ _))
    obtain ⟨kV0_14, kV1_14, _, _⟩ := kq
    have Z_14 : Hid (w13.heap.size + 1 ≤ w14.heap.size) := by have h1 := hb.size; show _ ≤ _; simp at h1; omega
    have hbb := ((Below.refl w13.heap.size w13).alloc (Nat.le_refl _) (.cells #[.slice aV N cV, .int .i64 B1] 28 (0, 0))).trans (hb.mono (by simp))
    have kA0_14 := (hbb.cell (p := ⟨w.heap.size, 0, none⟩) (blk_lt kA0_13)).trans kA0_13
    have kA1_14 := (hbb.cell (p := ⟨w.heap.size, 1, none⟩) (blk_lt kA1_13)).trans kA1_13
    have kU0_14 := (hbb.cell (p := ⟨w3.heap.size, 0, none⟩) (blk_lt kU0_13)).trans kU0_13
    have kU1_14 := (hbb.cell (p := ⟨w3.heap.size, 1, none⟩) (blk_lt kU1_13)).trans kU1_13
    have kX0_14 := (hbb.cell (p := ⟨w4.heap.size, 0, none⟩) (blk_lt kX0_13)).trans kX0_13
    have kX1_14 := (hbb.cell (p := ⟨w4.heap.size, 1, none⟩) (blk_lt kX1_13)).trans kX1_13
    have kG0_14 := (hbb.cell (p := ⟨w5.heap.size, 0, none⟩) (blk_lt kG0_13)).trans kG0_13
    have kG1_14 := (hbb.cell (p := ⟨w5.heap.size, 1, none⟩) (blk_lt kG1_13)).trans kG1_13
    have SH_14 := hide (SH_13.out.below hbb)
    have B_14 := hide (B_13.out.trans (hbb.mono B_13.out.size))
    have BoU_14 := hide (BoU_13.out.trans (hbb.mono BoU_13.out.size))
    have BoV_14 := hide (BoV_13.out.trans (hbb.mono BoV_13.out.size))
    clear hb hbb alA0 alA1 alU0 alU1 alX0 alX1 alG0 alG1 kA0_13 kA1_13 kU0_13 kU1_13 kX0_13 kX1_13 kG0_13 kG1_13 SH_13 BoU_13 BoV_13
    go_wp2_with fail
    refine (heldLog_any _ N _ L1 B1 _ HL1.out hN2 HKATL.out HXXL.out SH_14.out).mono ?_
    rintro e w15 ⟨rfl, hb⟩
    have hbb := hb
    have Z_15 := hide hbb.size
    have kA0_15 := (hbb.cell (p := ⟨w.heap.size, 0, none⟩) (blk_lt kA0_14)).trans kA0_14
    have kA1_15 := (hbb.cell (p := ⟨w.heap.size, 1, none⟩) (blk_lt kA1_14)).trans kA1_14
    have kU0_15 := (hbb.cell (p := ⟨w3.heap.size, 0, none⟩) (blk_lt kU0_14)).trans kU0_14
    have kU1_15 := (hbb.cell (p := ⟨w3.heap.size, 1, none⟩) (blk_lt kU1_14)).trans kU1_14
    have kX0_15 := (hbb.cell (p := ⟨w4.heap.size, 0, none⟩) (blk_lt kX0_14)).trans kX0_14
    have kX1_15 := (hbb.cell (p := ⟨w4.heap.size, 1, none⟩) (blk_lt kX1_14)).trans kX1_14
    have kG0_15 := (hbb.cell (p := ⟨w5.heap.size, 0, none⟩) (blk_lt kG0_14)).trans kG0_14
    have kG1_15 := (hbb.cell (p := ⟨w5.heap.size, 1, none⟩) (blk_lt kG1_14)).trans kG1_14
    have kV0_15 := (hbb.cell (p := ⟨w13.heap.size, 0, none⟩) (blk_lt kV0_14)).trans kV0_14
    have kV1_15 := (hbb.cell (p := ⟨w13.heap.size, 1, none⟩) (blk_lt kV1_14)).trans kV1_14
    have SH_15 := hide (SH_14.out.below hbb)
    have B_15 := hide (B_14.out.trans (hbb.mono B_14.out.size))
    have BoU_15 := hide (BoU_14.out.trans (hbb.mono BoU_14.out.size))
    have BoV_15 := hide (BoV_14.out.trans (hbb.mono BoV_14.out.size))
    clear hb hbb kA0_14 kA1_14 kU0_14 kU1_14 kX0_14 kX1_14 kG0_14 kG1_14 kV0_14 kV1_14 SH_14 BoU_14 BoV_14
    go_wp2
    go_ret
    exact ⟨rfl, B_15.out⟩
  · go_enter Tryd.func3, Tryd.ntmps3
    go_wp2_with fail
    refine (C0.out _ ((Below.refl _ _).alloc (Nat.le_refl _) _) (-1) (by rw [if_neg (by omega)])).mono ?_
    rintro e w1 ⟨rfl, hb0⟩
    have B1 := hide (((Below.refl w.heap.size w).alloc (Nat.le_refl _) (.cells #[.slice a0 len0 cap0, .int .i64 B0] 24 (0, 0))).trans (hb0.mono (by simp)))
    clear hb0
    go_wp2
    go_ret
    exact ⟨rfl, B1.out⟩
end Go.Proofs.YtapffbbmofhpobaDoor.fnExactCutFrom

