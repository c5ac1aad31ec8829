/-
  The walk of the law FnExactNewPoll: it returns true at every list of ints; memory that was there stays as it was.
-/
import Derived.Test.YtapffbbmofhpobcL8SNew
import Derived.Test.YtapffbbmofhpobcL8Poll
import Derived.Test.YtapffbbmofhpobcL1Lists
namespace Go.Proofs.Ytapffbbmofhpobc.fnExactNewPoll
open Go.RowKit L1 L4 L8
set_option linter.unusedVariables false

open Classical in
set_option maxRecDepth 100000 in
set_option maxHeartbeats 4000000 in
theorem walk (a0 : Option Addr) (len0 cap0 : Nat) (z0 : List Int) (w : World) (w0 : IsRow .i64 w a0 len0 cap0 z0) :
    Calls Try.prog 3 #[.slice a0 len0 cap0] w fun e w' => e = .returned (.bool true) ∧ Below w.heap.size w w' := by
  obtain ⟨hs0, hn0, hm0⟩ := sl_of_row w0
  obtain ⟨xs, hxs⟩ : ∃ xs, xs = z0.take len0 := ⟨_, rfl⟩
  rw [← hxs] at hs0 hn0
  have HS := hide hs0
  have HN := hide hn0
  clear w0 hs0 hn0 hxs
  unfold maxLen at hm0
  by_cases hsx' : 1048576 < (len0 : Int)
  · go_enter Try.func3, Try.ntmps3
    go_wp2
    go_ret
    exact ⟨rfl, Below.refl _ _⟩
  have hsz : len0 ≤ 1048576 := by omega
  obtain ⟨M, ok, h1, h2, hN5, hne⟩ : ∃ (M : List NV) (ok : Bool), (Ages xs → M = newM xs ∧ ok = true) ∧ (¬ Ages xs → M = [] ∧ ok = false) ∧ M.length ≤ 5 ∧ ∀ i, i < M.length → (M.getD i eNV).1.h = [] := by
    by_cases h : Ages xs
    · exact ⟨newM xs, true, fun _ => ⟨rfl, rfl⟩, fun h' => absurd h h', by rw [newM_len]; exact h.2.1, fun i hi => by rw [newM_get xs i (by rwa [newM_len] at hi)]⟩
    · exact ⟨[], false, fun h' => absurd h' h, fun _ => ⟨rfl, rfl⟩, by simp, fun i hi => by simp at hi⟩
  have C1 := hide (fun a cap w hs => specNewPoll_any a xs len0 cap w HN.out hs hsz M ok h1 h2)
  have C2 := hide (fun a cap w hs => newPoll_any a xs len0 cap w HN.out hs hsz M ok h1 h2)
  obtain ⟨N, hNN⟩ : ∃ N, N = M.length := ⟨_, rfl⟩
  have HL : Hid ((nds M).length = N) := hide (by rw [hNN]; simp)
  have hgn : ∀ i, i < N → (gn (nds M) i).h.length = 0 := fun i hi => by rw [nds_get M i (by omega), hne i (by omega)]; rfl
  have HXX : Hid (∀ i, i < N → (gn (nds M) i).h.length ≤ 1048576) := hide (fun i hi => by have := hgn i hi; omega)
  have HKN : Hid (∀ i, i ≤ N → kn 1 (nds M) i ≤ 2147483648) := hide (fun i hi => by
    have : ∀ i, i ≤ N → kn 1 (nds M) i ≤ 1 + 4 * (i : Int) := by
      intro i
      induction i with
      | zero => intro _; simp [kn]
      | succ i ih => intro hi; have h1 := ih (by omega); have h2 := hgn i (by omega); unfold kn; omega
    have := this i hi
    omega)
  have hpos := kn_pos 1 (by omega) (nds M) N
  have hN2 : N ≤ 1048576 := by omega
  unfold RetP at C1 C2
  rw [← hNN] at C1 C2
  obtain ⟨kk, hkk⟩ : ∃ kk, kk = kn 1 (nds M) N := ⟨_, rfl⟩
  rw [← hkk] at hpos
  have mark1 := @markPoll_new
  have held1 := @heldPoll_new
  clear mark1 held1 h1 h2 hgn hne hNN
  have hq0 : ¬ kk < 0 := by omega
  have hq1 : ¬ (1 + (len0 : Int)) < 0 := by omega
  rw [hkk] at hq0 hpos
  clear hkk
  go_enter Try.func3, Try.ntmps3
  go_wp2_with fail
  refine (toIntS_any a0 xs len0 cap0 _ HN.out (HS.out.below (Below.refl _ _)) hsz).mono ?_
  rintro e w1 ⟨rfl, ho, hb⟩
  have hbb := hb
  have Z_1 := hide hbb.size
  have B_1 := hide hbb
  clear hb hbb 
  have SOP := hide (own_slI ho)
  have BoP_1 := hide (Below.refl w1.heap.size w1)
  clear ho
  go_wp2_with fail
  refine (C1.out _ _ _ (SOP.out.below BoP_1.out)).mono ?_
  rintro e w2 ⟨vU, rfl, ho, hb⟩
  have hbb := hb
  have Z_2 := hide hbb.size
  have B_2 := hide (B_1.out.trans (hbb.mono B_1.out.size))
  have BoP_2 := hide (BoP_1.out.trans (hbb.mono BoP_1.out.size))
  clear hb hbb BoP_1
  obtain ⟨aU, cU, rfl, hsl⟩ := ho.form
  have SOU := hide (hsl)
  have BoU_2 := hide (Below.refl w2.heap.size w2)
  clear ho hsl
  clear SOP BoP_2
  go_wp2_with fail
  refine (toIntS_any a0 xs len0 cap0 _ HN.out (HS.out.below (B_2.out.alloc B_2.out.size _)) hsz).mono ?_
  rintro e w3 ⟨rfl, ho, hb⟩
  have kq := blkP ((hb.block w2.heap.size (by simp)).trans (blk_new _ _))
  obtain ⟨kU0_3, kU1_3, kU2_3, _, _, _⟩ := kq
  have Z_3 : Hid (w2.heap.size + 1 ≤ w3.heap.size) := by have h1 := hb.size; show _ ≤ _; simp at h1; omega
  have hbb := ((Below.refl w2.heap.size w2).alloc (Nat.le_refl _) (.cells #[.slice aU N cU, .slice none 0 0, .slice none 0 0] 27 (0, 0))).trans (hb.mono (by simp))
  have B_3 := hide (B_2.out.trans (hbb.mono B_2.out.size))
  have BoU_3 := hide (BoU_2.out.trans (hbb.mono BoU_2.out.size))
  clear hb hbb BoU_2
  simp only [World.size_alloc] at ho
  have OX_3 := hide (OwI.mk ho)
  have INX := hide (fun (g : Nat) hg => (own_lt ho g hg).2)
  clear ho
  go_wp2_with fail
  refine (C2.out _ _ _ (OX_3.out.sl)).mono ?_
  rintro e w4 ⟨vG, rfl, ho, hb⟩
  have hbb := hb
  have Z_4 := hide hbb.size
  have kU0_4 := (hbb.cell (p := ⟨w2.heap.size, 0, none⟩) (blk_lt kU0_3)).trans kU0_3
  have kU1_4 := (hbb.cell (p := ⟨w2.heap.size, 1, none⟩) (blk_lt kU1_3)).trans kU1_3
  have kU2_4 := (hbb.cell (p := ⟨w2.heap.size, 2, none⟩) (blk_lt kU2_3)).trans kU2_3
  have OX_4 := hide (OX_3.out.below hbb)
  have B_4 := hide (B_3.out.trans (hbb.mono B_3.out.size))
  have BoU_4 := hide (BoU_3.out.trans (hbb.mono BoU_3.out.size))
  clear hb hbb kU0_3 kU1_3 kU2_3 OX_3 BoU_3
  obtain ⟨aG, cG, rfl, hsl⟩ := ho.form
  have OG_4 := hide (ho)
  have ING := hide ho.inN
  clear ho hsl
  have alU0 : ∀ ob, (w4.alloc ob).cell? ⟨w2.heap.size, 0, none⟩ = some (.slice aU N cU) := fun ob => Go.Lib.cell?_alloc_some ob kU0_4
  have alU1 : ∀ ob, (w4.alloc ob).cell? ⟨w2.heap.size, 1, none⟩ = some (.slice none 0 0) := fun ob => Go.Lib.cell?_alloc_some ob kU1_4
  have alU2 : ∀ ob, (w4.alloc ob).cell? ⟨w2.heap.size, 2, none⟩ = some (.slice none 0 0) := fun ob => Go.Lib.cell?_alloc_some ob kU2_4
  go_wp2_with fail
  refine (eqPoll_new _ _ (nds M) N _ _ _ HL.out ((OG_4.out.below ((Below.refl _ _).alloc (Nat.le_refl _) _)).sl) ((SOU.out.below BoU_4.out).below ((Below.refl _ _).alloc (Nat.le_refl _) _)) hN2 HXX.out).mono ?_
  rintro e w5 ⟨rfl, hb⟩
  have kq := blkP ((hb.block w4.heap.size (by simp)).trans (blk_new _ _))
  obtain ⟨kG0_5, kG1_5, kG2_5, _, _, _⟩ := kq
  have Z_5 : Hid (w4.heap.size + 1 ≤ w5.heap.size) := by have h1 := hb.size; show _ ≤ _; simp at h1; omega
  have hbb := ((Below.refl w4.heap.size w4).alloc (Nat.le_refl _) (.cells #[.slice aG N cG, .slice none 0 0, .slice none 0 0] 27 (0, 0))).trans (hb.mono (by simp))
  have kU0_5 := (hbb.cell (p := ⟨w2.heap.size, 0, none⟩) (blk_lt kU0_4)).trans kU0_4
  have kU1_5 := (hbb.cell (p := ⟨w2.heap.size, 1, none⟩) (blk_lt kU1_4)).trans kU1_4
  have kU2_5 := (hbb.cell (p := ⟨w2.heap.size, 2, none⟩) (blk_lt kU2_4)).trans kU2_4
  have OX_5 := hide (OX_4.out.below hbb)
  have OG_5 := hide (OG_4.out.below hbb)
  have B_5 := hide (B_4.out.trans (hbb.mono B_4.out.size))
  have BoU_5 := hide (BoU_4.out.trans (hbb.mono BoU_4.out.size))
  clear hb hbb alU0 alU1 alU2 kU0_4 kU1_4 kU2_4 OX_4 OG_4 BoU_4
  go_wp2_with fail
  refine (toIntS_any a0 xs len0 cap0 _ HN.out (HS.out.below B_5.out) hsz).mono ?_
  rintro e w6 ⟨rfl, ho, hb⟩
  have hbb := hb
  have Z_6 := hide hbb.size
  have kU0_6 := (hbb.cell (p := ⟨w2.heap.size, 0, none⟩) (blk_lt kU0_5)).trans kU0_5
  have kU1_6 := (hbb.cell (p := ⟨w2.heap.size, 1, none⟩) (blk_lt kU1_5)).trans kU1_5
  have kU2_6 := (hbb.cell (p := ⟨w2.heap.size, 2, none⟩) (blk_lt kU2_5)).trans kU2_5
  have kG0_6 := (hbb.cell (p := ⟨w4.heap.size, 0, none⟩) (blk_lt kG0_5)).trans kG0_5
  have kG1_6 := (hbb.cell (p := ⟨w4.heap.size, 1, none⟩) (blk_lt kG1_5)).trans kG1_5
  have kG2_6 := (hbb.cell (p := ⟨w4.heap.size, 2, none⟩) (blk_lt kG2_5)).trans kG2_5
  have OX_6 := hide (OX_5.out.below hbb)
  have OG_6 := hide (OG_5.out.below hbb)
  have B_6 := hide (B_5.out.trans (hbb.mono B_5.out.size))
  have BoU_6 := hide (BoU_5.out.trans (hbb.mono BoU_5.out.size))
  clear hb hbb kU0_5 kU1_5 kU2_5 kG0_5 kG1_5 kG2_5 OX_5 OG_5 BoU_5
  have SOY := hide (own_slI ho)
  have BoY_6 := hide (Below.refl w6.heap.size w6)
  clear ho
  go_wp2_with fail
  refine (eqIntS_same _ _ xs len0 _ _ _ HN.out (OX_6.out.sl) (SOY.out.below BoY_6.out) hsz).mono ?_
  rintro e w7 ⟨rfl, hb⟩
  have hbb := hb
  have Z_7 := hide hbb.size
  have kU0_7 := (hbb.cell (p := ⟨w2.heap.size, 0, none⟩) (blk_lt kU0_6)).trans kU0_6
  have kU1_7 := (hbb.cell (p := ⟨w2.heap.size, 1, none⟩) (blk_lt kU1_6)).trans kU1_6
  have kU2_7 := (hbb.cell (p := ⟨w2.heap.size, 2, none⟩) (blk_lt kU2_6)).trans kU2_6
  have kG0_7 := (hbb.cell (p := ⟨w4.heap.size, 0, none⟩) (blk_lt kG0_6)).trans kG0_6
  have kG1_7 := (hbb.cell (p := ⟨w4.heap.size, 1, none⟩) (blk_lt kG1_6)).trans kG1_6
  have kG2_7 := (hbb.cell (p := ⟨w4.heap.size, 2, none⟩) (blk_lt kG2_6)).trans kG2_6
  have OX_7 := hide (OX_6.out.below hbb)
  have OG_7 := hide (OG_6.out.below hbb)
  have B_7 := hide (B_6.out.trans (hbb.mono B_6.out.size))
  have BoU_7 := hide (BoU_6.out.trans (hbb.mono BoU_6.out.size))
  have BoY_7 := hide (BoY_6.out.trans (hbb.mono BoY_6.out.size))
  clear hb hbb kU0_6 kU1_6 kU2_6 kG0_6 kG1_6 kG2_6 OX_6 OG_6 BoU_6 BoY_6
  clear SOY BoY_7
  go_wp2_with fail
  refine (markIntS_own (w2.heap.size + 1) (w3.heap.size) _ xs len0 _ 1 (by omega) (by omega) hsz INX.out OX_7.out).mono ?_
  rintro e w8 ⟨rfl, hox, hon⟩
  clear hox OX_7
  have Z_8 := hide hon.size
  have hle : w2.heap.size + 1 ≤ w7.heap.size := by have := Z_1.out; have := Z_2.out; have := Z_3.out; have := Z_4.out; have := Z_5.out; have := Z_6.out; have := Z_7.out; omega
  have hbl := hon.below hle
  have kU0_8 := hon.cell (p := ⟨w2.heap.size, 0, none⟩) kU0_7 (by have := Z_1.out; have := Z_2.out; have := Z_3.out; have := Z_4.out; have := Z_5.out; have := Z_6.out; have := Z_7.out; show w2.heap.size < _ ∨ _ ≤ w2.heap.size; omega)
  have kU1_8 := hon.cell (p := ⟨w2.heap.size, 1, none⟩) kU1_7 (by have := Z_1.out; have := Z_2.out; have := Z_3.out; have := Z_4.out; have := Z_5.out; have := Z_6.out; have := Z_7.out; show w2.heap.size < _ ∨ _ ≤ w2.heap.size; omega)
  have kU2_8 := hon.cell (p := ⟨w2.heap.size, 2, none⟩) kU2_7 (by have := Z_1.out; have := Z_2.out; have := Z_3.out; have := Z_4.out; have := Z_5.out; have := Z_6.out; have := Z_7.out; show w2.heap.size < _ ∨ _ ≤ w2.heap.size; omega)
  have kG0_8 := hon.cell (p := ⟨w4.heap.size, 0, none⟩) kG0_7 (by have := Z_1.out; have := Z_2.out; have := Z_3.out; have := Z_4.out; have := Z_5.out; have := Z_6.out; have := Z_7.out; show w4.heap.size < _ ∨ _ ≤ w4.heap.size; omega)
  have kG1_8 := hon.cell (p := ⟨w4.heap.size, 1, none⟩) kG1_7 (by have := Z_1.out; have := Z_2.out; have := Z_3.out; have := Z_4.out; have := Z_5.out; have := Z_6.out; have := Z_7.out; show w4.heap.size < _ ∨ _ ≤ w4.heap.size; omega)
  have kG2_8 := hon.cell (p := ⟨w4.heap.size, 2, none⟩) kG2_7 (by have := Z_1.out; have := Z_2.out; have := Z_3.out; have := Z_4.out; have := Z_5.out; have := Z_6.out; have := Z_7.out; show w4.heap.size < _ ∨ _ ≤ w4.heap.size; omega)
  have OG_8 := hide (hon.own OG_7.out (by have := Z_1.out; have := Z_2.out; have := Z_3.out; have := Z_4.out; have := Z_5.out; have := Z_6.out; have := Z_7.out; omega))
  have BoU_8 := hide (BoU_7.out.trans (hbl.mono (by have := Z_1.out; have := Z_2.out; have := Z_3.out; have := Z_4.out; have := Z_5.out; have := Z_6.out; have := Z_7.out; omega)))
  have B_8 := hide (B_7.out.trans (hbl.mono (by have := B_1.out.size; have := Z_1.out; have := Z_2.out; have := Z_3.out; have := Z_4.out; have := Z_5.out; have := Z_6.out; have := Z_7.out; omega)))
  clear hon hbl hle kU0_7 kU1_7 kU2_7 kG0_7 kG1_7 kG2_7 OG_7 BoU_7
  go_wp2_with fail
  refine (eqPoll_new _ _ (nds M) N _ _ _ HL.out (OG_8.out.sl) (SOU.out.below BoU_8.out) hN2 HXX.out).mono ?_
  rintro e w9 ⟨rfl, hb⟩
  have hbb := hb
  have Z_9 := hide hbb.size
  have kU0_9 := (hbb.cell (p := ⟨w2.heap.size, 0, none⟩) (blk_lt kU0_8)).trans kU0_8
  have kU1_9 := (hbb.cell (p := ⟨w2.heap.size, 1, none⟩) (blk_lt kU1_8)).trans kU1_8
  have kU2_9 := (hbb.cell (p := ⟨w2.heap.size, 2, none⟩) (blk_lt kU2_8)).trans kU2_8
  have kG0_9 := (hbb.cell (p := ⟨w4.heap.size, 0, none⟩) (blk_lt kG0_8)).trans kG0_8
  have kG1_9 := (hbb.cell (p := ⟨w4.heap.size, 1, none⟩) (blk_lt kG1_8)).trans kG1_8
  have kG2_9 := (hbb.cell (p := ⟨w4.heap.size, 2, none⟩) (blk_lt kG2_8)).trans kG2_8
  have OG_9 := hide (OG_8.out.below hbb)
  have B_9 := hide (B_8.out.trans (hbb.mono B_8.out.size))
  have BoU_9 := hide (BoU_8.out.trans (hbb.mono BoU_8.out.size))
  clear hb hbb kU0_8 kU1_8 kU2_8 kG0_8 kG1_8 kG2_8 OG_8 BoU_8
  go_wp2_with fail
  refine (markPoll_new (w3.heap.size) (w4.heap.size) (.slice aG N cG) N M (nds M) _ rfl hN2 HKN.out HXX.out ING.out OG_9.out).mono ?_
  rintro e w10 ⟨rfl, ⟨Mm, hMm, hom⟩, hon⟩
  clear OG_9
  have Z_10 := hide hon.size
  have hle : w3.heap.size ≤ w9.heap.size := by have := Z_1.out; have := Z_2.out; have := Z_3.out; have := Z_4.out; have := Z_5.out; have := Z_6.out; have := Z_7.out; have := Z_8.out; have := Z_9.out; omega
  have hbl := hon.below hle
  have kU0_10 := hon.cell (p := ⟨w2.heap.size, 0, none⟩) kU0_9 (by have := Z_1.out; have := Z_2.out; have := Z_3.out; have := Z_4.out; have := Z_5.out; have := Z_6.out; have := Z_7.out; have := Z_8.out; have := Z_9.out; show w2.heap.size < _ ∨ _ ≤ w2.heap.size; omega)
  have kU1_10 := hon.cell (p := ⟨w2.heap.size, 1, none⟩) kU1_9 (by have := Z_1.out; have := Z_2.out; have := Z_3.out; have := Z_4.out; have := Z_5.out; have := Z_6.out; have := Z_7.out; have := Z_8.out; have := Z_9.out; show w2.heap.size < _ ∨ _ ≤ w2.heap.size; omega)
  have kU2_10 := hon.cell (p := ⟨w2.heap.size, 2, none⟩) kU2_9 (by have := Z_1.out; have := Z_2.out; have := Z_3.out; have := Z_4.out; have := Z_5.out; have := Z_6.out; have := Z_7.out; have := Z_8.out; have := Z_9.out; show w2.heap.size < _ ∨ _ ≤ w2.heap.size; omega)
  have kG0_10 := hon.cell (p := ⟨w4.heap.size, 0, none⟩) kG0_9 (by have := Z_1.out; have := Z_2.out; have := Z_3.out; have := Z_4.out; have := Z_5.out; have := Z_6.out; have := Z_7.out; have := Z_8.out; have := Z_9.out; show w4.heap.size < _ ∨ _ ≤ w4.heap.size; omega)
  have kG1_10 := hon.cell (p := ⟨w4.heap.size, 1, none⟩) kG1_9 (by have := Z_1.out; have := Z_2.out; have := Z_3.out; have := Z_4.out; have := Z_5.out; have := Z_6.out; have := Z_7.out; have := Z_8.out; have := Z_9.out; show w4.heap.size < _ ∨ _ ≤ w4.heap.size; omega)
  have kG2_10 := hon.cell (p := ⟨w4.heap.size, 2, none⟩) kG2_9 (by have := Z_1.out; have := Z_2.out; have := Z_3.out; have := Z_4.out; have := Z_5.out; have := Z_6.out; have := Z_7.out; have := Z_8.out; have := Z_9.out; show w4.heap.size < _ ∨ _ ≤ w4.heap.size; omega)
  have BoU_10 := hide (BoU_9.out.trans (hbl.mono (by have := Z_1.out; have := Z_2.out; have := Z_3.out; have := Z_4.out; have := Z_5.out; have := Z_6.out; have := Z_7.out; have := Z_8.out; have := Z_9.out; omega)))
  have B_10 := hide (B_9.out.trans (hbl.mono (by have := B_1.out.size; have := Z_1.out; have := Z_2.out; have := Z_3.out; have := Z_4.out; have := Z_5.out; have := Z_6.out; have := Z_7.out; have := Z_8.out; have := Z_9.out; omega)))
  clear hon hbl hle kU0_9 kU1_9 kU2_9 kG0_9 kG1_9 kG2_9 BoU_9
  have SH0 := hom.sl
  rw [hMm] at SH0
  have OH_10 := hide (SH0)
  clear SH0 hom hMm
  go_wp2_with fail
  refine (heldPoll_new _ N _ (nds M) _ HL.out hN2 HKN.out HXX.out (OH_10.out)).mono ?_
  rintro e w11 ⟨rfl, hb⟩
  have hbb := hb
  have Z_11 := hide hbb.size
  have kU0_11 := (hbb.cell (p := ⟨w2.heap.size, 0, none⟩) (blk_lt kU0_10)).trans kU0_10
  have kU1_11 := (hbb.cell (p := ⟨w2.heap.size, 1, none⟩) (blk_lt kU1_10)).trans kU1_10
  have kU2_11 := (hbb.cell (p := ⟨w2.heap.size, 2, none⟩) (blk_lt kU2_10)).trans kU2_10
  have kG0_11 := (hbb.cell (p := ⟨w4.heap.size, 0, none⟩) (blk_lt kG0_10)).trans kG0_10
  have kG1_11 := (hbb.cell (p := ⟨w4.heap.size, 1, none⟩) (blk_lt kG1_10)).trans kG1_10
  have kG2_11 := (hbb.cell (p := ⟨w4.heap.size, 2, none⟩) (blk_lt kG2_10)).trans kG2_10
  have OH_11 := hide (OH_10.out.below hbb)
  have B_11 := hide (B_10.out.trans (hbb.mono B_10.out.size))
  have BoU_11 := hide (BoU_10.out.trans (hbb.mono BoU_10.out.size))
  clear hb hbb kU0_10 kU1_10 kU2_10 kG0_10 kG1_10 kG2_10 OH_10 BoU_10
  go_wp2_with fail
  refine (toIntS_any a0 xs len0 cap0 _ HN.out (HS.out.below B_11.out) hsz).mono ?_
  rintro e w12 ⟨rfl, ho, hb⟩
  have hbb := hb
  have Z_12 := hide hbb.size
  have kU0_12 := (hbb.cell (p := ⟨w2.heap.size, 0, none⟩) (blk_lt kU0_11)).trans kU0_11
  have kU1_12 := (hbb.cell (p := ⟨w2.heap.size, 1, none⟩) (blk_lt kU1_11)).trans kU1_11
  have kU2_12 := (hbb.cell (p := ⟨w2.heap.size, 2, none⟩) (blk_lt kU2_11)).trans kU2_11
  have kG0_12 := (hbb.cell (p := ⟨w4.heap.size, 0, none⟩) (blk_lt kG0_11)).trans kG0_11
  have kG1_12 := (hbb.cell (p := ⟨w4.heap.size, 1, none⟩) (blk_lt kG1_11)).trans kG1_11
  have kG2_12 := (hbb.cell (p := ⟨w4.heap.size, 2, none⟩) (blk_lt kG2_11)).trans kG2_11
  have OH_12 := hide (OH_11.out.below hbb)
  have B_12 := hide (B_11.out.trans (hbb.mono B_11.out.size))
  have BoU_12 := hide (BoU_11.out.trans (hbb.mono BoU_11.out.size))
  clear hb hbb kU0_11 kU1_11 kU2_11 kG0_11 kG1_11 kG2_11 OH_11 BoU_11
  have SOQ := hide (own_slI ho)
  have BoQ_12 := hide (Below.refl w12.heap.size w12)
  clear ho
  go_wp2_with fail
  refine (C2.out _ _ _ (SOQ.out.below BoQ_12.out)).mono ?_
  rintro e w13 ⟨vV, rfl, ho, hb⟩
  have hbb := hb
  have Z_13 := hide hbb.size
  have kU0_13 := (hbb.cell (p := ⟨w2.heap.size, 0, none⟩) (blk_lt kU0_12)).trans kU0_12
  have kU1_13 := (hbb.cell (p := ⟨w2.heap.size, 1, none⟩) (blk_lt kU1_12)).trans kU1_12
  have kU2_13 := (hbb.cell (p := ⟨w2.heap.size, 2, none⟩) (blk_lt kU2_12)).trans kU2_12
  have kG0_13 := (hbb.cell (p := ⟨w4.heap.size, 0, none⟩) (blk_lt kG0_12)).trans kG0_12
  have kG1_13 := (hbb.cell (p := ⟨w4.heap.size, 1, none⟩) (blk_lt kG1_12)).trans kG1_12
  have kG2_13 := (hbb.cell (p := ⟨w4.heap.size, 2, none⟩) (blk_lt kG2_12)).trans kG2_12
  have OH_13 := hide (OH_12.out.below hbb)
  have B_13 := hide (B_12.out.trans (hbb.mono B_12.out.size))
  have BoU_13 := hide (BoU_12.out.trans (hbb.mono BoU_12.out.size))
  have BoQ_13 := hide (BoQ_12.out.trans (hbb.mono BoQ_12.out.size))
  clear hb hbb kU0_12 kU1_12 kU2_12 kG0_12 kG1_12 kG2_12 OH_12 BoU_12 BoQ_12
  obtain ⟨aV, cV, rfl, hsl⟩ := ho.form
  have SOV := hide (hsl)
  have BoV_13 := hide (Below.refl w13.heap.size w13)
  clear ho hsl
  have alU0 : ∀ ob, (w13.alloc ob).cell? ⟨w2.heap.size, 0, none⟩ = some (.slice aU N cU) := fun ob => Go.Lib.cell?_alloc_some ob kU0_13
  have alU1 : ∀ ob, (w13.alloc ob).cell? ⟨w2.heap.size, 1, none⟩ = some (.slice none 0 0) := fun ob => Go.Lib.cell?_alloc_some ob kU1_13
  have alU2 : ∀ ob, (w13.alloc ob).cell? ⟨w2.heap.size, 2, none⟩ = some (.slice none 0 0) := fun ob => Go.Lib.cell?_alloc_some ob kU2_13
  have alG0 : ∀ ob, (w13.alloc ob).cell? ⟨w4.heap.size, 0, none⟩ = some (.slice aG N cG) := fun ob => Go.Lib.cell?_alloc_some ob kG0_13
  have alG1 : ∀ ob, (w13.alloc ob).cell? ⟨w4.heap.size, 1, none⟩ = some (.slice none 0 0) := fun ob => Go.Lib.cell?_alloc_some ob kG1_13
  have alG2 : ∀ ob, (w13.alloc ob).cell? ⟨w4.heap.size, 2, none⟩ = some (.slice none 0 0) := fun ob => Go.Lib.cell?_alloc_some ob kG2_13
  clear SOQ BoQ_13
  go_wp2_with fail
  refine (eqPoll_new _ _ (nds M) N _ _ _ HL.out ((SOV.out.below BoV_13.out).below ((Below.refl _ _).alloc (Nat.le_refl _) _)) ((SOU.out.below BoU_13.out).below ((Below.refl _ _).alloc (Nat.le_refl _) _)) hN2 HXX.out).mono ?_
  rintro e w14 ⟨rfl, hb⟩
  have kq := blkP ((hb.block w13.heap.size (by simp)).trans (blk_new _ _))
  obtain ⟨kV0_14, kV1_14, kV2_14, _, _, _⟩ := kq
  have Z_14 : Hid (w13.heap.size + 1 ≤ w14.heap.size) := by have h1 := hb.size; show _ ≤ _; simp at h1; omega
  have hbb := ((Below.refl w13.heap.size w13).alloc (Nat.le_refl _) (.cells #[.slice aV N cV, .slice none 0 0, .slice none 0 0] 27 (0, 0))).trans (hb.mono (by simp))
  have kU0_14 := (hbb.cell (p := ⟨w2.heap.size, 0, none⟩) (blk_lt kU0_13)).trans kU0_13
  have kU1_14 := (hbb.cell (p := ⟨w2.heap.size, 1, none⟩) (blk_lt kU1_13)).trans kU1_13
  have kU2_14 := (hbb.cell (p := ⟨w2.heap.size, 2, none⟩) (blk_lt kU2_13)).trans kU2_13
  have kG0_14 := (hbb.cell (p := ⟨w4.heap.size, 0, none⟩) (blk_lt kG0_13)).trans kG0_13
  have kG1_14 := (hbb.cell (p := ⟨w4.heap.size, 1, none⟩) (blk_lt kG1_13)).trans kG1_13
  have kG2_14 := (hbb.cell (p := ⟨w4.heap.size, 2, none⟩) (blk_lt kG2_13)).trans kG2_13
  have OH_14 := hide (OH_13.out.below hbb)
  have B_14 := hide (B_13.out.trans (hbb.mono B_13.out.size))
  have BoU_14 := hide (BoU_13.out.trans (hbb.mono BoU_13.out.size))
  have BoV_14 := hide (BoV_13.out.trans (hbb.mono BoV_13.out.size))
  clear hb hbb alU0 alU1 alU2 alG0 alG1 alG2 kU0_13 kU1_13 kU2_13 kG0_13 kG1_13 kG2_13 OH_13 BoU_13 BoV_13
  go_wp2_with fail
  refine (heldPoll_new _ N _ (nds M) _ HL.out hN2 HKN.out HXX.out (OH_14.out)).mono ?_
  rintro e w15 ⟨rfl, hb⟩
  have hbb := hb
  have Z_15 := hide hbb.size
  have kU0_15 := (hbb.cell (p := ⟨w2.heap.size, 0, none⟩) (blk_lt kU0_14)).trans kU0_14
  have kU1_15 := (hbb.cell (p := ⟨w2.heap.size, 1, none⟩) (blk_lt kU1_14)).trans kU1_14
  have kU2_15 := (hbb.cell (p := ⟨w2.heap.size, 2, none⟩) (blk_lt kU2_14)).trans kU2_14
  have kG0_15 := (hbb.cell (p := ⟨w4.heap.size, 0, none⟩) (blk_lt kG0_14)).trans kG0_14
  have kG1_15 := (hbb.cell (p := ⟨w4.heap.size, 1, none⟩) (blk_lt kG1_14)).trans kG1_14
  have kG2_15 := (hbb.cell (p := ⟨w4.heap.size, 2, none⟩) (blk_lt kG2_14)).trans kG2_14
  have kV0_15 := (hbb.cell (p := ⟨w13.heap.size, 0, none⟩) (blk_lt kV0_14)).trans kV0_14
  have kV1_15 := (hbb.cell (p := ⟨w13.heap.size, 1, none⟩) (blk_lt kV1_14)).trans kV1_14
  have kV2_15 := (hbb.cell (p := ⟨w13.heap.size, 2, none⟩) (blk_lt kV2_14)).trans kV2_14
  have OH_15 := hide (OH_14.out.below hbb)
  have B_15 := hide (B_14.out.trans (hbb.mono B_14.out.size))
  have BoU_15 := hide (BoU_14.out.trans (hbb.mono BoU_14.out.size))
  have BoV_15 := hide (BoV_14.out.trans (hbb.mono BoV_14.out.size))
  clear hb hbb kU0_14 kU1_14 kU2_14 kG0_14 kG1_14 kG2_14 kV0_14 kV1_14 kV2_14 OH_14 BoU_14 BoV_14
  go_wp2
  go_ret
  exact ⟨rfl, B_15.out⟩
end Go.Proofs.Ytapffbbmofhpobc.fnExactNewPoll
