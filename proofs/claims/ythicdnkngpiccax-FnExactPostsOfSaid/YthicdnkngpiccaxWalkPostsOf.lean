/-
  The walk of the law FnExactPostsOf: it returns true at all series and every label; memory that was there stays as it was.
-/
import Derived.Test.YthicdnkngpiccaxL4Posts2
import Derived.Test.YthicdnkngpiccaxL4SerLists
import Derived.Test.YthicdnkngpiccaxL1Eq
import Derived.Test.YthicdnkngpiccaxL1Marks
namespace Go.Proofs.Ythicdnkngpiccax.fnExactPostsOf
open Go.RowKit L1 L3 L4
set_option linter.unusedVariables false

/-- What holds of every world on the way: the label lies in its box, and what was there is as it was. -/
structure St (w : World) (x y : ByteArray) (wk : World) : Prop where
  c0 : wk.cell? ⟨w.heap.size, 0, none⟩ = some (.string x)
  c1 : wk.cell? ⟨w.heap.size, 1, none⟩ = some (.string y)
  b : Below w.heap.size w wk
theorem St.below {w wk wk' : World} {x y : ByteArray} (h : St w x y wk) (hb : Below wk.heap.size wk wk') : St w x y wk' :=
  ⟨(hb.cell (p := ⟨w.heap.size, 0, none⟩) (blk_lt h.c0)).trans h.c0, (hb.cell (p := ⟨w.heap.size, 1, none⟩) (blk_lt h.c1)).trans h.c1, h.b.trans (hb.mono h.b.size)⟩
theorem St.drew {w wk : World} {x y : ByteArray} (h : St w x y wk) : St w x y wk.drew := ⟨h.c0, h.c1, h.b.drew⟩
theorem St.base {w wk wk' : World} {x y : ByteArray} {B : Nat} (h : St w x y wk) (hb : Below B wk wk') (hB : w.heap.size < B) : St w x y wk' :=
  ⟨(hb.cell (p := ⟨w.heap.size, 0, none⟩) hB).trans h.c0, (hb.cell (p := ⟨w.heap.size, 1, none⟩) hB).trans h.c1, h.b.trans (hb.mono (Nat.le_of_lt hB))⟩
theorem St.only {w wk wk' : World} {x y : ByteArray} {lo hi : Nat} (h : St w x y wk) (hb : Only lo hi wk wk') (hB : w.heap.size < lo) : St w x y wk' :=
  ⟨(hb.cell (p := ⟨w.heap.size, 0, none⟩) (blk_lt h.c0) (.inl hB)).trans h.c0, (hb.cell (p := ⟨w.heap.size, 1, none⟩) (blk_lt h.c1) (.inl hB)).trans h.c1,
    h.b.trans ⟨hb.os, hb.tape, hb.output, hb.size, fun k hk => hb.block k (Nat.lt_of_lt_of_le hk h.b.size) (.inl (Nat.lt_trans hk hB))⟩⟩
theorem below_undrew {w w' : World} (h : Below w.drew.heap.size w.drew w') : Below w.heap.size w w' := (Below.refl _ _).drew.trans h
theorem sl_only {w w' : World} {a : Option Addr} {xs : List Int} {lo hi : Nat} (h : Sl w a xs) (hb : Only lo hi w w') (hlt : ∀ z, a = some z → z.block < lo ∨ hi ≤ z.block) : Sl w' a xs := fun i hi' => by
  obtain ⟨b, off, ha, hc⟩ := h i hi'
  exact ⟨b, off, ha, (hb.cell (p := ⟨b, off + i, none⟩) (blk_lt hc) (hlt ⟨b, off, none⟩ ha)).trans hc⟩
theorem sl_len {w : World} {B n : Nat} {ls : List (List Lb)} {g : Nat → Nat} (hn : ls.length = n) (h : OwnS w B ls g n) : OwnS w B ls g ls.length := by rw [hn]; exact h

set_option maxRecDepth 100000 in
set_option maxHeartbeats 16000000 in
theorem walk (a0 : Option Addr) (len0 cap0 : Nat) (ls : List (List Lb)) (x1 y1 : ByteArray) (w : World) (w0 : IsRowS w a0 len0 ls) (hx : x1.size ≤ maxLen) (hy : y1.size ≤ maxLen) :
    Calls Try.prog 3 #[.slice a0 len0 cap0, .agg #[.string x1, .string y1]] w fun e w' => e = .returned (.bool true) ∧ Below w.heap.size w w' := by
  obtain ⟨⟨hn, hm, hs⟩, hst⟩ := w0
  unfold maxLen at hm hx hy
  have HS := hide hs
  have HN := hide hn
  have C00 := hide (fun w hs r hr => szLabelSS_any a0 ls len0 cap0 1048576 w hn (by omega) hs hst (by omega) (by omega) r hr)
  have st0 : St w x1 y1 (w.alloc (.cells #[.string x1, .string y1] 24)) := ⟨by simp, by simp, (Below.refl _ _).alloc (Nat.le_refl _) _⟩
  have S_0 := hide st0
  have HST := hide hst
  clear hs hn hst st0
  by_cases hfit : (wtS ls : Int) ≤ 1048576
  · have C01 := hide (fun w r hr => szLabel_any x1 y1 (1048576 - (wtS ls : Int)) w (by omega) (by omega) (by omega) (by omega) r hr)
    have hk0 : ¬ (1048576 - (wtS ls : Int)) < 0 := by omega
    by_cases hfit2 : ((x1.size + y1.size : Nat) : Int) ≤ 1048576 - (wtS ls : Int)
    · have hk1 : ¬ (1048576 - (wtS ls : Int) - ((x1.size + y1.size : Nat) : Int)) < 0 := by omega
      have hsz : len0 ≤ 1048576 := by have := HN.out; unfold wtS at hfit; omega
      have hwts : wts ls ≤ 1048576 := by unfold wtS at hfit; omega
      have hls : ∀ i, i < ls.length → (ls.getD i []).length ≤ 1048576 := fun i hi => by
        have := wts_get ls i hi
        unfold wt at this
        omega
      have HLS := hide hls
      obtain ⟨r, hr⟩ : ∃ r, r = postsRes ls (x1, y1) := ⟨_, rfl⟩
      have c1 := fun a cap w hs => specPostsOf_any a ls len0 cap x1 y1 w HN.out hs hsz HST.out hls (by omega) (by omega) r hr
      have c2 := fun a cap w hs => implPostsOf_any a ls len0 cap x1 y1 w HN.out hs hsz HST.out hls (by omega) (by omega) r hr
      have hle := postsRes_len ls (x1, y1)
      rw [← hr] at hle
      obtain ⟨zs, hz⟩ : ∃ zs, zs = r.getD [] := ⟨_, rfl⟩
      obtain ⟨m, hmm⟩ : ∃ m, m = zs.length := ⟨_, rfl⟩
      obtain ⟨ok, hok⟩ : ∃ ok, ok = r.isSome := ⟨_, rfl⟩
      simp only [RetL, ← hz, ← hmm, ← hok] at c1 c2
      rw [← hz, ← hmm] at hle
      have hm2 : m ≤ 1048576 := by omega
      have hq1 : ¬ (1 + (m : Int)) < 0 := by omega
      have C1 := hide c1
      have C2 := hide c2
      have HM := hide hmm.symm
      clear c1 c2 hr hz hmm hok hls
      go_enter Try.func3, Try.ntmps3
      go_wp2_with fail
      refine (C00.out _ (HS.out.below S_0.out.b) (1048576 - (wtS ls : Int)) (by rw [if_pos (by omega)])).mono ?_
      rintro e w1 ⟨rfl, hb⟩
      have Z_1 := hide hb.size
      have S_1 := hide (S_0.out.below hb)
      clear S_0
      clear hb
      have hd0 := S_1.out.c0
      have hd1 := S_1.out.c1
      go_wp2_with fail
      refine (C01.out _ (1048576 - (wtS ls : Int) - ((x1.size + y1.size : Nat) : Int)) (by rw [if_pos (by omega)])).mono ?_
      rintro e w2 ⟨rfl, hb⟩
      clear hd0 hd1
      have Z_2 := hide hb.size
      have S_2 := hide (S_1.out.below hb)
      clear S_1
      clear hb
      go_wp2
      refine wp_region_held_drew (S := (fun wx => St w x1 y1 wx)) (by kernel_rfl) S_2.out.drew (fun hHeld => ?_)
      refine wpAnyH_take (i := 0) (v := ?v1) rfl (by kernel_rfl) (by kernel_rfl) (by kernel_rfl) (fun _ _ _ h => h) (Or.inl ⟨by rfl, ?y1⟩) (by assumption) ?r1
      case y1 => (intro w hSw; (try dsimp only at hSw); go_simp; try (with_reducible rfl))
      simp only [List.getElem_toArray, List.getElem_cons_zero, Act.put, List.setIfInBounds_toArray, List.set_cons_zero, List.set_cons_succ]
      refine wpAnyH_take (i := 2) (v := .agg #[.string x1, .string y1]) rfl (by kernel_rfl) (by kernel_rfl) (by kernel_rfl) (fun _ _ _ h => h) (Or.inl ⟨by rfl, ?y2⟩) (by assumption) ?r2
      case y2 => (intro w hSw; have hq0 := hSw.c0; have hq1 := hSw.c1; go_simp; try (with_reducible rfl))
      simp only [List.getElem_toArray, List.getElem_cons_succ, List.getElem_cons_zero, Act.put, List.setIfInBounds_toArray, List.set_cons_zero, List.set_cons_succ]
      refine wpAnyH_ready (rs := [1]) (by kernel_rfl) (by simp) ?_
      refine AllReadyH.cons rfl (fun K hK => ?_) AllReadyH.nil
      simp only [List.getElem_toArray, List.getElem_cons_succ, List.getElem_cons_zero]
      go_simp
      go_at_call 11
      refine (toLabelSS_any a0 ls len0 cap0 _ HN.out (HS.out.below S_2.out.b.drew) hsz HLS.out).mono ?_
      rintro e w3 ⟨rfl, ⟨gq, ho⟩, _, hb⟩
      replace hb := below_undrew hb
      have Z_3 := hide hb.size
      have S_3 := hide (S_2.out.below hb)
      clear S_2
      have Q_3 := hide (sl_len HN.out ho).sl
      clear hb ho
      dsimp only
      refine hK.out _ _ ?_ (fun hHeld => ?_)
      · exact S_3.out
      clear hK K
      try simp only [Act.put, List.setIfInBounds_toArray, List.set_cons_zero, List.set_cons_succ]
      refine wpAnyH_ready (rs := [3]) (by kernel_rfl) (by simp) ?_
      refine AllReadyH.cons rfl (fun K hK => ?_) AllReadyH.nil
      simp only [List.getElem_toArray, List.getElem_cons_succ, List.getElem_cons_zero]
      go_simp
      go_at_call 12
      refine (toLabel_any x1 y1 _).mono ?_
      rintro e w4 ⟨rfl, hb⟩
      have Z_4 := hide hb.size
      have S_4 := hide (S_3.out.below hb)
      clear S_3
      have Q_4 := hide (Q_3.out.below hb)
      clear Q_3
      clear hb
      dsimp only
      refine hK.out _ _ ?_ (fun hHeld => ?_)
      · exact S_4.out
      clear hK K
      try simp only [Act.put, List.setIfInBounds_toArray, List.set_cons_zero, List.set_cons_succ]
      refine wpAnyH_ready (rs := [4]) (by kernel_rfl) (by simp) ?_
      refine AllReadyH.cons rfl (fun K hK => ?_) AllReadyH.nil
      simp only [List.getElem_toArray, List.getElem_cons_succ, List.getElem_cons_zero]
      go_simp
      go_at_call 10
      refine (C1.out _ _ _ Q_4.out).mono ?_
      rintro e w5 ⟨v0, rfl, ho, hb⟩
      have Z_5 := hide hb.size
      have S_5 := hide (S_4.out.below hb)
      clear S_4
      have Q_5 := hide (Q_4.out.below hb)
      clear Q_4
      obtain ⟨b0, q0, rfl, s0, _⟩ := own_form ho
      have U_5 := hide s0
      have HSZ5 := hide S_5.out.b.size
      have KU := hide (fun (z : Addr) (hz : b0 = some z) => (ho.lt z.block (by rw [hz]; rfl)).2)
      clear ho s0
      clear hb Q_5
      dsimp only
      refine hK.out _ _ ?_ (fun hHeld => ?_)
      · exact S_5.out
      clear hK K
      try simp only [Act.put, List.setIfInBounds_toArray, List.set_cons_zero, List.set_cons_succ]
      refine wpAnyH_take (i := 5) (v := ?v3) rfl (by kernel_rfl) (by kernel_rfl) (by kernel_rfl) (fun _ _ _ h => h) (Or.inl ⟨by rfl, ?y3⟩) (by assumption) ?r3
      case y3 => (intro w hSw; (try dsimp only at hSw); go_simp; try (with_reducible rfl))
      simp only [List.getElem_toArray, List.getElem_cons_succ, List.getElem_cons_zero, Act.put, List.setIfInBounds_toArray, List.set_cons_zero, List.set_cons_succ]
      refine wpAnyH_take (i := 6) (v := ?v4) rfl (by kernel_rfl) (by kernel_rfl) (by kernel_rfl) (fun _ _ _ h => h) (Or.inl ⟨by rfl, ?y4⟩) (by assumption) ?r4
      case y4 => (intro w hSw; (try dsimp only at hSw); go_simp; try (with_reducible rfl))
      simp only [List.getElem_toArray, List.getElem_cons_succ, List.getElem_cons_zero, Act.put, List.setIfInBounds_toArray, List.set_cons_zero, List.set_cons_succ]
      refine wpAnyH_take (i := 7) (v := ?v5) rfl (by kernel_rfl) (by kernel_rfl) (by kernel_rfl) (fun _ _ _ h => h) (Or.inl ⟨by rfl, ?y5⟩) (by assumption) ?r5
      case y5 => (intro w hSw; (try dsimp only at hSw); go_simp; try (with_reducible rfl))
      simp only [List.getElem_toArray, List.getElem_cons_succ, List.getElem_cons_zero, Act.put, List.setIfInBounds_toArray, List.set_cons_zero, List.set_cons_succ]
      refine wpAnyH_take (i := 8) (v := ?v6) rfl (by kernel_rfl) (by kernel_rfl) (by kernel_rfl) (fun _ _ _ h => h) (Or.inl ⟨by rfl, ?y6⟩) (by assumption) ?r6
      case y6 => (intro w hSw; (try dsimp only at hSw); go_simp; try (with_reducible rfl))
      simp only [List.getElem_toArray, List.getElem_cons_succ, List.getElem_cons_zero, Act.put, List.setIfInBounds_toArray, List.set_cons_zero, List.set_cons_succ]
      refine wpAnyH_take (i := 9) (v := ?v7) rfl (by kernel_rfl) (by kernel_rfl) (by kernel_rfl) (fun _ _ _ h => h) (Or.inl ⟨by rfl, ?y7⟩) (by assumption) ?r7
      case y7 => (intro w hSw; (try dsimp only at hSw); go_simp; try (with_reducible rfl))
      simp only [List.getElem_toArray, List.getElem_cons_succ, List.getElem_cons_zero, Act.put, List.setIfInBounds_toArray, List.set_cons_zero, List.set_cons_succ]
      refine wpAnyH_done (by kernel_rfl) ?_ _
      go_wp2_with fail
      refine (toLabelSS_any a0 ls len0 cap0 _ HN.out (HS.out.below S_5.out.b) hsz HLS.out).mono ?_
      rintro e w6 ⟨rfl, ⟨gx, ho⟩, hnew, hb⟩
      have Z_6 := hide hb.size
      have S_6 := hide (S_5.out.below hb)
      clear S_5
      have U_6 := hide (U_5.out.below hb)
      clear U_5
      have X_6 := hide ho
      have LX := hide (fun i hi => ho.lt i hi)
      have BX := hide hnew
      clear ho hnew
      clear hb
      have hd0 := S_6.out.c0
      have hd1 := S_6.out.c1
      go_wp2_with fail
      refine (toLabel_any x1 y1 _).mono ?_
      rintro e w7 ⟨rfl, hb⟩
      clear hd0 hd1
      have Z_7 := hide hb.size
      have S_7 := hide (S_6.out.below hb)
      clear S_6
      have U_7 := hide (U_6.out.below hb)
      clear U_6
      have X_7 := hide (X_6.out.below hb)
      clear X_6
      have HSZ7 := hide (Nat.lt_of_lt_of_le (blk_lt S_7.out.c0) (Nat.le_refl _))
      clear hb
      go_wp2_with fail
      refine (C2.out _ _ _ (sl_len HN.out X_7.out).sl).mono ?_
      rintro e w8 ⟨v1, rfl, ho, hb⟩
      have Z_8 := hide hb.size
      have S_8 := hide (S_7.out.below hb)
      clear S_7
      have U_8 := hide (U_7.out.below hb)
      clear U_7
      have X_8 := hide (X_7.out.below hb)
      clear X_7
      obtain ⟨b1, q1, rfl, _, _⟩ := own_form ho
      have G_8 := hide ho
      clear ho
      clear hb
      go_wp2_with fail
      refine (eqIntS_same _ _ zs m _ _ _ HM.out (own_slI G_8.out) U_8.out hm2).mono ?_
      rintro e w9 ⟨rfl, hb⟩
      have Z_9 := hide hb.size
      have S_9 := hide (S_8.out.below hb)
      clear S_8
      have U_9 := hide (U_8.out.below hb)
      clear U_8
      have X_9 := hide (X_8.out.below hb)
      clear X_8
      have G_9 := hide (L4.own_belowT G_8.out hb)
      clear G_8
      clear hb
      go_wp2_with fail
      refine (toLabelSS_any a0 ls len0 cap0 _ HN.out (HS.out.below S_9.out.b) hsz HLS.out).mono ?_
      rintro e w10 ⟨rfl, ⟨gy, ho⟩, _, hb⟩
      have Z_10 := hide hb.size
      have S_10 := hide (S_9.out.below hb)
      clear S_9
      have U_10 := hide (U_9.out.below hb)
      clear U_9
      have X_10 := hide (X_9.out.below hb)
      clear X_9
      have G_10 := hide (L4.own_belowT G_9.out hb)
      clear G_9
      have Y_10 := hide (sl_len HN.out ho).sl
      clear ho
      clear hb
      go_wp2_with fail
      refine (eqLabelSS_same _ _ ls len0 _ _ _ HN.out (sl_len HN.out X_10.out).sl Y_10.out hsz HLS.out).mono ?_
      rintro e w11 ⟨rfl, hb⟩
      have Z_11 := hide hb.size
      have S_11 := hide (S_10.out.below hb)
      clear S_10
      have U_11 := hide (U_10.out.below hb)
      clear U_10
      have X_11 := hide (X_10.out.below hb)
      clear X_10
      have G_11 := hide (L4.own_belowT G_10.out hb)
      clear G_10
      have Y_11 := hide (Y_10.out.below hb)
      clear Y_10
      clear hb
      clear Y_11
      go_wp2_with fail
      refine (markLabelSS_any w5.heap.size ls gx len0 w6.heap.size _ HN.out hsz hwts X_11.out LX.out (Nat.lt_of_lt_of_le BX.out (Nat.le_trans (Nat.le_trans (Nat.le_trans (Nat.le_trans Z_7.out Z_8.out) Z_9.out) Z_10.out) Z_11.out))).mono ?_
      rintro e w12 ⟨⟨kk, hkk, rfl⟩, hb⟩
      have Z_12 := hide hb.size
      have hkk' : ¬ kk < 0 := by omega
      have S_12 := hide (S_11.out.only hb (Nat.lt_succ_of_le HSZ5.out))
      clear S_11
      have U_12 := hide (sl_only U_11.out hb (fun z hz => .inl (Nat.lt_succ_of_lt (KU.out z hz))))
      clear U_11
      have G_12 := hide (hb.row G_11.out Z_7.out)
      clear G_11
      clear hb X_11 hkk
      go_wp2_with fail
      refine (eqIntS_same _ _ zs m _ _ _ HM.out (own_slI G_12.out) U_12.out hm2).mono ?_
      rintro e w13 ⟨rfl, hb⟩
      have Z_13 := hide hb.size
      have S_13 := hide (S_12.out.below hb)
      clear S_12
      have U_13 := hide (U_12.out.below hb)
      clear U_12
      have G_13 := hide (L4.own_belowT G_12.out hb)
      clear G_12
      clear hb
      go_wp2_with fail
      refine (markIntS_all w7.heap.size _ zs m _ hm2 G_13.out).mono ?_
      rintro e w14 ⟨rfl, ho, hb, hg⟩
      have Z_14 := hide hb.size
      have S_14 := hide (S_13.out.base hb HSZ7.out)
      clear S_13
      have U_14 := hide (sl_baseI U_13.out hb (fun z hz => Nat.lt_of_lt_of_le (KU.out z hz) (Nat.le_trans Z_6.out Z_7.out)))
      clear U_13
      have H_14 := hide (own_slI ho)
      clear ho hb hg G_13
      go_wp2_with fail
      refine (heldIntS_any _ m _ _ hm2 H_14.out).mono ?_
      rintro e w15 ⟨rfl, hb⟩
      have Z_15 := hide hb.size
      have S_15 := hide (S_14.out.below hb)
      clear S_14
      have U_15 := hide (U_14.out.below hb)
      clear U_14
      have H_15 := hide (H_14.out.below hb)
      clear H_14
      clear hb
      go_wp2
      refine wp_region_held_drew (S := (fun wx => St w x1 y1 wx)) (by kernel_rfl) S_15.out.drew (fun hHeld => ?_)
      refine wpAnyH_take (i := 0) (v := ?v8) rfl (by kernel_rfl) (by kernel_rfl) (by kernel_rfl) (fun _ _ _ h => h) (Or.inl ⟨by rfl, ?y8⟩) (by assumption) ?r8
      case y8 => (intro w hSw; (try dsimp only at hSw); go_simp; try (with_reducible rfl))
      simp only [List.getElem_toArray, List.getElem_cons_zero, Act.put, List.setIfInBounds_toArray, List.set_cons_zero, List.set_cons_succ]
      refine wpAnyH_take (i := 2) (v := .agg #[.string x1, .string y1]) rfl (by kernel_rfl) (by kernel_rfl) (by kernel_rfl) (fun _ _ _ h => h) (Or.inl ⟨by rfl, ?y9⟩) (by assumption) ?r9
      case y9 => (intro w hSw; have hq0 := hSw.c0; have hq1 := hSw.c1; go_simp; try (with_reducible rfl))
      simp only [List.getElem_toArray, List.getElem_cons_succ, List.getElem_cons_zero, Act.put, List.setIfInBounds_toArray, List.set_cons_zero, List.set_cons_succ]
      refine wpAnyH_ready (rs := [1]) (by kernel_rfl) (by simp) ?_
      refine AllReadyH.cons rfl (fun K hK => ?_) AllReadyH.nil
      simp only [List.getElem_toArray, List.getElem_cons_succ, List.getElem_cons_zero]
      go_simp
      go_at_call 11
      refine (toLabelSS_any a0 ls len0 cap0 _ HN.out (HS.out.below S_15.out.b.drew) hsz HLS.out).mono ?_
      rintro e w16 ⟨rfl, ⟨gq, ho⟩, _, hb⟩
      replace hb := below_undrew hb
      have Z_16 := hide hb.size
      have S_16 := hide (S_15.out.below hb)
      clear S_15
      have U_16 := hide (U_15.out.below hb)
      clear U_15
      have H_16 := hide (H_15.out.below hb)
      clear H_15
      have Q_16 := hide (sl_len HN.out ho).sl
      clear hb ho
      dsimp only
      refine hK.out _ _ ?_ (fun hHeld => ?_)
      · exact S_16.out
      clear hK K
      try simp only [Act.put, List.setIfInBounds_toArray, List.set_cons_zero, List.set_cons_succ]
      refine wpAnyH_ready (rs := [3]) (by kernel_rfl) (by simp) ?_
      refine AllReadyH.cons rfl (fun K hK => ?_) AllReadyH.nil
      simp only [List.getElem_toArray, List.getElem_cons_succ, List.getElem_cons_zero]
      go_simp
      go_at_call 12
      refine (toLabel_any x1 y1 _).mono ?_
      rintro e w17 ⟨rfl, hb⟩
      have Z_17 := hide hb.size
      have S_17 := hide (S_16.out.below hb)
      clear S_16
      have U_17 := hide (U_16.out.below hb)
      clear U_16
      have H_17 := hide (H_16.out.below hb)
      clear H_16
      have Q_17 := hide (Q_16.out.below hb)
      clear Q_16
      clear hb
      dsimp only
      refine hK.out _ _ ?_ (fun hHeld => ?_)
      · exact S_17.out
      clear hK K
      try simp only [Act.put, List.setIfInBounds_toArray, List.set_cons_zero, List.set_cons_succ]
      refine wpAnyH_ready (rs := [4]) (by kernel_rfl) (by simp) ?_
      refine AllReadyH.cons rfl (fun K hK => ?_) AllReadyH.nil
      simp only [List.getElem_toArray, List.getElem_cons_succ, List.getElem_cons_zero]
      go_simp
      go_at_call 13
      refine (C2.out _ _ _ Q_17.out).mono ?_
      rintro e w18 ⟨v2, rfl, ho, hb⟩
      have Z_18 := hide hb.size
      have S_18 := hide (S_17.out.below hb)
      clear S_17
      have U_18 := hide (U_17.out.below hb)
      clear U_17
      have H_18 := hide (H_17.out.below hb)
      clear H_17
      have Q_18 := hide (Q_17.out.below hb)
      clear Q_17
      obtain ⟨b2, q2, rfl, s2, _⟩ := own_form ho
      have V_18 := hide s2
      clear ho s2
      clear hb Q_18
      dsimp only
      refine hK.out _ _ ?_ (fun hHeld => ?_)
      · exact S_18.out
      clear hK K
      try simp only [Act.put, List.setIfInBounds_toArray, List.set_cons_zero, List.set_cons_succ]
      refine wpAnyH_take (i := 5) (v := ?v10) rfl (by kernel_rfl) (by kernel_rfl) (by kernel_rfl) (fun _ _ _ h => h) (Or.inl ⟨by rfl, ?y10⟩) (by assumption) ?r10
      case y10 => (intro w hSw; (try dsimp only at hSw); go_simp; try (with_reducible rfl))
      simp only [List.getElem_toArray, List.getElem_cons_succ, List.getElem_cons_zero, Act.put, List.setIfInBounds_toArray, List.set_cons_zero, List.set_cons_succ]
      refine wpAnyH_take (i := 6) (v := ?v11) rfl (by kernel_rfl) (by kernel_rfl) (by kernel_rfl) (fun _ _ _ h => h) (Or.inl ⟨by rfl, ?y11⟩) (by assumption) ?r11
      case y11 => (intro w hSw; (try dsimp only at hSw); go_simp; try (with_reducible rfl))
      simp only [List.getElem_toArray, List.getElem_cons_succ, List.getElem_cons_zero, Act.put, List.setIfInBounds_toArray, List.set_cons_zero, List.set_cons_succ]
      refine wpAnyH_take (i := 7) (v := ?v12) rfl (by kernel_rfl) (by kernel_rfl) (by kernel_rfl) (fun _ _ _ h => h) (Or.inl ⟨by rfl, ?y12⟩) (by assumption) ?r12
      case y12 => (intro w hSw; (try dsimp only at hSw); go_simp; try (with_reducible rfl))
      simp only [List.getElem_toArray, List.getElem_cons_succ, List.getElem_cons_zero, Act.put, List.setIfInBounds_toArray, List.set_cons_zero, List.set_cons_succ]
      refine wpAnyH_take (i := 8) (v := ?v13) rfl (by kernel_rfl) (by kernel_rfl) (by kernel_rfl) (fun _ _ _ h => h) (Or.inl ⟨by rfl, ?y13⟩) (by assumption) ?r13
      case y13 => (intro w hSw; (try dsimp only at hSw); go_simp; try (with_reducible rfl))
      simp only [List.getElem_toArray, List.getElem_cons_succ, List.getElem_cons_zero, Act.put, List.setIfInBounds_toArray, List.set_cons_zero, List.set_cons_succ]
      refine wpAnyH_take (i := 9) (v := ?v14) rfl (by kernel_rfl) (by kernel_rfl) (by kernel_rfl) (fun _ _ _ h => h) (Or.inl ⟨by rfl, ?y14⟩) (by assumption) ?r14
      case y14 => (intro w hSw; (try dsimp only at hSw); go_simp; try (with_reducible rfl))
      simp only [List.getElem_toArray, List.getElem_cons_succ, List.getElem_cons_zero, Act.put, List.setIfInBounds_toArray, List.set_cons_zero, List.set_cons_succ]
      refine wpAnyH_done (by kernel_rfl) ?_ _
      go_wp2_with fail
      refine (eqIntS_same _ _ zs m _ _ _ HM.out V_18.out U_18.out hm2).mono ?_
      rintro e w19 ⟨rfl, hb⟩
      have Z_19 := hide hb.size
      have S_19 := hide (S_18.out.below hb)
      clear S_18
      have U_19 := hide (U_18.out.below hb)
      clear U_18
      have H_19 := hide (H_18.out.below hb)
      clear H_18
      have V_19 := hide (V_18.out.below hb)
      clear V_18
      clear hb
      go_wp2_with fail
      refine (heldIntS_any _ m _ _ hm2 H_19.out).mono ?_
      rintro e w20 ⟨rfl, hb⟩
      have Z_20 := hide hb.size
      have S_20 := hide (S_19.out.below hb)
      clear S_19
      have U_20 := hide (U_19.out.below hb)
      clear U_19
      have H_20 := hide (H_19.out.below hb)
      clear H_19
      have V_20 := hide (V_19.out.below hb)
      clear V_19
      clear hb
      go_wp2
      go_ret
      exact ⟨rfl, S_20.out.b⟩
    · go_enter Try.func3, Try.ntmps3
      go_wp2_with fail
      refine (C00.out _ (HS.out.below S_0.out.b) (1048576 - (wtS ls : Int)) (by rw [if_pos (by omega)])).mono ?_
      rintro e w1 ⟨rfl, hb⟩
      have S_1 := hide (S_0.out.below hb)
      have hd0 := S_1.out.c0
      have hd1 := S_1.out.c1
      clear hb
      go_wp2_with fail
      refine (C01.out _ (-1) (by rw [if_neg (by omega)])).mono ?_
      rintro e w2 ⟨rfl, hb⟩
      have S_2 := hide (S_1.out.below hb)
      clear hb hd0 hd1
      go_wp2
      go_ret
      exact ⟨rfl, S_2.out.b⟩
  · go_enter Try.func3, Try.ntmps3
    go_wp2_with fail
    refine (C00.out _ (HS.out.below S_0.out.b) (-1) (by rw [if_neg (by omega)])).mono ?_
    rintro e w1 ⟨rfl, hb⟩
    have S_1 := hide (S_0.out.below hb)
    clear hb
    go_wp2
    go_ret
    exact ⟨rfl, S_1.out.b⟩
end Go.Proofs.Ythicdnkngpiccax.fnExactPostsOf
