/-
  Contracts: spec.Unwrap.
-/
import Derived.Test.YticgejaaoamhmafL16Row
import Derived.Test.YticgejaaoamhmafL16Unw
import Derived.Test.YticgejaaoamhmafL16SRi
namespace Go.Proofs.Yticgejaaoamhmaf.L16
open Go.RowKit L1
set_option linter.unusedVariables false

theorem unw_get (l : List (Int × Int)) (k : Nat) (h : k < l.length) : (unw l).getD k (0, 0) = (at_ l k, uv l k) := by simp [unw, List.getD, h]
set_option maxRecDepth 100000 in
set_option maxHeartbeats 4000000 in
theorem sUnwrap_any (b off : Nat) (l : List (Int × Int)) (n cap : Nat) (w : World) (hn : l.length = n) (hs : Sl2 w (some ⟨b, off, none⟩) l) (hn2 : n ≤ 1048576) (hcap : n ≤ cap) (r : Option (List (Int × Int))) (hr : r = unR l) :
    Calls Try.prog 12 #[.slice (some ⟨b, off, none⟩) n cap] w fun e w' => RetS16 w r e w' := by
  obtain ⟨c, hc⟩ : ∃ c : Bool, c = true ↔ Ctr l := by classical exact ⟨decide (Ctr l), by simp⟩
  have CO := hide (sCounterOk_any (some ⟨b, off, none⟩) l n cap w hn hs hn2 c hc)
  have HS := hide hs
  have HN := hide hn
  cases hq : c with
  | false =>
    have HR := hide (show r = none by rw [hr]; unfold unR; rw [if_neg (fun h => by have := hc.2 h.1; rw [hq] at this; cases this)])
    subst hq
    clear hc hr hs hn
    go_enter Try.func12, Try.ntmps12
    go_wp2_with fail
    refine CO.out.mono ?_
    rintro e w1 ⟨rfl, hb1⟩
    have B1 := hide hb1
    clear hb1
    go_wp2
    go_ret2
    exact retS_none HR.out B1.out
  | true =>
  have hct := hc.1 hq
  obtain ⟨h40, hv, hrr⟩ := ctr_val hct hn
  obtain ⟨g, hgg⟩ : ∃ q : Bool, q = true ↔ GoodS (unw l) := by classical exact ⟨decide (GoodS (unw l)), by simp⟩
  have hul : (unw l).length = n := by rw [unw_len, hn]
  have CG := hide (fun a cap wx hs => specGood_any a (unw l) n cap wx hul hs hn2 g hgg)
  have CRR := hide (fun k cap wx (hk : k ≤ n) hs => l16Rise_any (some ⟨b, off, none⟩) l k cap wx (by omega) hs (by omega) (fun j hj => hv j (by omega)) (fun j hj => hrr j (by omega)) (ris l k) rfl)
  have HUL := hide hul
  have HC := hide hct
  obtain ⟨i1, hi1, hy0, hy1, hy2⟩ := info_parts info_smp
  subst hq
  have HR1 : Hid (g = false → r = none) := fun h => by rw [hr]; unfold unR; rw [if_neg (fun h2 => by have := hgg.2 h2.2; rw [h] at this; cases this)]
  have HR2 : Hid (g = true → r = some (unw l)) := fun h => by rw [hr]; unfold unR; rw [if_pos ⟨hct, hgg.1 h⟩]
  clear hc hr hs hn hgg hct hul hv hrr
  go_enter Try.func12, Try.ntmps12
  go_wp2_with fail
  refine CO.out.mono ?_
  rintro e w1 ⟨rfl, hb1⟩
  have B1 := hide hb1
  have HS1 := hide (HS.out.below hb1)
  clear hb1
  go_upto_region 5 with fail
  go_loopw [4, 12] (fun ov i wr => ∃ k : Nat, k ≤ n ∧ i = .int .i64 (k : Int) ∧ Hid (wr.ownsRow w1.heap.size 33 2 ov k (flat ((unw l).take k))) ∧ Hid (Below w1.heap.size w1 wr)) (fun _ i _ => n - (intOf i).toNat)
  case atStart => exact ⟨0, Nat.zero_le _, rfl, World.ownsRow_nil _ _ _ _, Below.refl _ _⟩
  case round =>
    obtain ⟨k, hk, rfl, HO, BW⟩ := hrel
    obtain ⟨oa, oc, rfl, _, _⟩ := own_form2 HO.out
    by_cases hlt : k < n
    · have hltI : (k : Int) < (n : Int) := by omega
      have hkl : k < l.length := by rw [HN.out]; exact hlt
      have h0n : 0 < n := by omega
      obtain ⟨b', off', e, hx0, hv0⟩ := sl2_at HS1.out hkl
      cases e
      obtain ⟨b', off', e, _, hz0⟩ := sl2_at HS1.out (k := 0) (by omega)
      cases e
      have hub := uv_bd HC.out hkl
      have hv00 := HC.out.val (k := 0) (by omega)
      have hrb := ris_bd HC.out (k + 1) (by omega)
      have htk : (unw l).take (k + 1) = (unw l).take k ++ [(at_ l k, uv l k)] := by rw [take_more16 (by rw [unw_len]; exact hkl), unw_get l k hkl]
      have hcx := (BW.out.cell (p := ⟨b, off + k * 2, none⟩) (blk_lt hx0)).trans hx0
      have hcv := (BW.out.cell (p := ⟨b, off + k * 2 + 1, none⟩) (blk_lt hv0)).trans hv0
      have hc0 := (BW.out.cell (p := ⟨b, off + 0 * 2 + 1, none⟩) (blk_lt hz0)).trans hz0
      have C0L := hide (blk_lt hz0)
      simp only [Nat.zero_mul, Nat.add_zero] at hc0 C0L
      have CR := hide (fun wx hs => CRR.out (k + 1) cap wx (by omega) hs)
      have huv : uv l k = vl l 0 + ris l (k + 1) := rfl
      obtain ⟨s, hss⟩ : ∃ s, s = ris l (k + 1) := ⟨_, rfl⟩
      obtain ⟨x, hxx⟩ : ∃ x, x = at_ l k := ⟨_, rfl⟩
      obtain ⟨y, hyy⟩ : ∃ y, y = vl l k := ⟨_, rfl⟩
      obtain ⟨y0, hyy0⟩ : ∃ y, y = vl l 0 := ⟨_, rfl⟩
      obtain ⟨z, hzz⟩ : ∃ z, z = uv l k := ⟨_, rfl⟩
      rw [← hss] at CR huv hrb
      rw [← hxx] at htk hcx
      rw [← hyy] at hcv
      rw [← hyy0] at hc0 huv hv00
      rw [← hzz] at huv hub htk
      have hwk : IntKind.i64.wrap ((k : Int) + 1) = (k : Int) + 1 := wrap16 (by omega) (by omega)
      have hkc : (k : Int) + 1 ≤ (cap : Int) := by omega
      have hk1 : (0 : Int) ≤ (k : Int) + 1 := by omega
      have hw2 : IntKind.i64.wrap (y0 + s) = z := by rw [← huv]; exact wrap16 (by omega) (by omega)
      have HTK := hide htk
      have C0 := hide hc0
      have BZ := hide BW.out.size
      have UZ := hide huv
      clear hss hxx hyy hyy0 hzz huv htk hx0 hv0 hz0 hrb hkl
      go_upto_region 7 with fail
      obtain ⟨WA, hWA⟩ : ∃ WA, wr.alloc (.cells #[.int .i64 x, .int .i64 y] 33 (0, 0)) = WA := ⟨_, rfl⟩
      have EA := hide (show Below wr.heap.size wr WA by rw [← hWA]; exact (Below.refl _ _).alloc (Nat.le_refl _) _)
      have xa : WA.cell? ⟨wr.heap.size, 0, none⟩ = some (.int .i64 x) := by rw [← hWA]; simp
      have XB := hide (fun (wx : World) (hb : Below WA.heap.size WA wx) => (hb.cell (p := ⟨wr.heap.size, 0, none⟩) (blk_lt xa)).trans xa)
      have c0a := (EA.out.cell (p := ⟨b, off + 1, none⟩) (blk_lt C0.out)).trans C0.out
      rw [hWA]
      clear hWA hcx hcv hc0
      refine wp_region_held_drew (S := (fun wx => wx.cell? ⟨b, off + 1, none⟩ = some (.int .i64 y0) ∧ wx.cell? ⟨wr.heap.size, 0, none⟩ = some (.int .i64 x))) (by kernel_rfl) ⟨c0a, xa⟩ (fun hHeld => ?_)
      refine wpAnyH_take (i := 0) (v := ?v1) rfl (by kernel_rfl) (by kernel_rfl) (by kernel_rfl) (fun _ _ _ h => h) (Or.inl ⟨by rfl, ?y1⟩) (by assumption) ?r1
      case y1 => (intro w hSw; (try dsimp only at hSw); go_simp; try (with_reducible rfl))
      simp only [List.getElem_toArray, List.getElem_cons_zero, Act.put, List.setIfInBounds_toArray, List.set_cons_zero, List.set_cons_succ]
      refine wpAnyH_take (i := 1) (v := ?v2) rfl (by kernel_rfl) (by kernel_rfl) (by kernel_rfl) (fun _ _ _ h => h) (Or.inl ⟨by rfl, ?y2⟩) (by assumption) ?r2
      case y2 => (intro w hSw; (try dsimp only at hSw); go_simp; try (with_reducible rfl))
      simp only [List.getElem_toArray, List.getElem_cons_succ, List.getElem_cons_zero, Act.put, List.setIfInBounds_toArray, List.set_cons_zero, List.set_cons_succ]
      refine wpAnyH_take (i := 2) (v := ?v3) rfl (by kernel_rfl) (by kernel_rfl) (by kernel_rfl) (fun _ _ _ h => h) (Or.inl ⟨by rfl, ?y3⟩) (by assumption) ?r3
      case y3 => (intro w hSw; (try dsimp only at hSw); go_simp; try (with_reducible rfl))
      simp only [List.getElem_toArray, List.getElem_cons_succ, List.getElem_cons_zero, Act.put, List.setIfInBounds_toArray, List.set_cons_zero, List.set_cons_succ]
      refine wpAnyH_take (i := 3) (v := ?v4) rfl (by kernel_rfl) (by kernel_rfl) (by kernel_rfl) (fun _ _ _ h => h) (Or.inl ⟨by rfl, ?y4⟩) (by assumption) ?r4
      case y4 => (intro w hSw; (try dsimp only at hSw); go_simp; try (with_reducible rfl))
      simp only [List.getElem_toArray, List.getElem_cons_succ, List.getElem_cons_zero, Act.put, List.setIfInBounds_toArray, List.set_cons_zero, List.set_cons_succ]
      refine wpAnyH_take (i := 4) (v := ?v5) rfl (by kernel_rfl) (by kernel_rfl) (by kernel_rfl) (fun _ _ _ h => h) (Or.inl ⟨by rfl, ?y5⟩) (by assumption) ?r5
      case y5 => (intro w hSw; (try dsimp only at hSw); go_simp; try (with_reducible rfl))
      simp only [List.getElem_toArray, List.getElem_cons_succ, List.getElem_cons_zero, Act.put, List.setIfInBounds_toArray, List.set_cons_zero, List.set_cons_succ]
      refine wpAnyH_take (i := 5) (v := ?v6) rfl (by kernel_rfl) (by kernel_rfl) (by kernel_rfl) (fun _ _ _ h => h) (Or.inl ⟨by rfl, ?y6⟩) (by assumption) ?r6
      case y6 => (intro w hSw; (try dsimp only at hSw); go_simp; try (with_reducible rfl))
      simp only [List.getElem_toArray, List.getElem_cons_succ, List.getElem_cons_zero, Act.put, List.setIfInBounds_toArray, List.set_cons_zero, List.set_cons_succ]
      refine wpAnyH_take (i := 6) (v := ?v7) rfl (by kernel_rfl) (by kernel_rfl) (by kernel_rfl) (fun _ _ _ h => h) (Or.inl ⟨by rfl, ?y7⟩) (by assumption) ?r7
      case y7 => (intro w hSw; (try dsimp only at hSw); go_simp; try (with_reducible rfl))
      simp only [List.getElem_toArray, List.getElem_cons_succ, List.getElem_cons_zero, Act.put, List.setIfInBounds_toArray, List.set_cons_zero, List.set_cons_succ]
      refine wpAnyH_take (i := 7) (v := ?v8) rfl (by kernel_rfl) (by kernel_rfl) (by kernel_rfl) (fun _ _ _ h => h) (Or.inl ⟨by rfl, ?y8⟩) (by assumption) ?r8
      case y8 => (intro w hSw; (try dsimp only at hSw); go_simp; try (with_reducible rfl))
      simp only [List.getElem_toArray, List.getElem_cons_succ, List.getElem_cons_zero, Act.put, List.setIfInBounds_toArray, List.set_cons_zero, List.set_cons_succ]
      refine wpAnyH_take (i := 8) (v := ?v9) rfl (by kernel_rfl) (by kernel_rfl) (by kernel_rfl) (fun _ _ _ h => h) (Or.inl ⟨by rfl, ?y9⟩) (by assumption) ?r9
      case y9 => (intro w hSw; (try dsimp only at hSw); go_simp; try (with_reducible rfl))
      simp only [List.getElem_toArray, List.getElem_cons_succ, List.getElem_cons_zero, Act.put, List.setIfInBounds_toArray, List.set_cons_zero, List.set_cons_succ]
      refine wpAnyH_take (i := 9) (v := ?v10) rfl (by kernel_rfl) (by kernel_rfl) (by kernel_rfl) (fun _ _ _ h => h) (Or.inl ⟨by rfl, ?y10⟩) (by assumption) ?r10
      case y10 => (intro w hSw; (try dsimp only at hSw); go_simp; try (with_reducible rfl))
      simp only [List.getElem_toArray, List.getElem_cons_succ, List.getElem_cons_zero, Act.put, List.setIfInBounds_toArray, List.set_cons_zero, List.set_cons_succ]
      refine wpAnyH_take (i := 10) (v := ?v11) rfl (by kernel_rfl) (by kernel_rfl) (by kernel_rfl) (fun _ _ _ h => h) (Or.inl ⟨by rfl, ?y11⟩) (by assumption) ?r11
      case y11 => (intro w hSw; (try dsimp only at hSw); go_simp; try (with_reducible rfl))
      simp only [List.getElem_toArray, List.getElem_cons_succ, List.getElem_cons_zero, Act.put, List.setIfInBounds_toArray, List.set_cons_zero, List.set_cons_succ]
      refine wpAnyH_ready (rs := [11]) (by kernel_rfl) (by simp) ?_
      refine AllReadyH.cons rfl (fun K hK => ?_) AllReadyH.nil
      simp only [List.getElem_toArray, List.getElem_cons_succ, List.getElem_cons_zero]
      go_simp
      go_at_call 35
      refine (CR.out _ (HS1.out.below ((BW.out.trans (EA.out.mono BW.out.size)).trans ((Below.refl _ _).drew.mono (Nat.le_trans BW.out.size EA.out.size))))).mono ?_
      rintro e w2 ⟨rfl, q, hq⟩
      have E2 := hide (show Below wr.heap.size wr w2 from by rw [hq]; exact EA.out.trans ((below_drew16 (Below.refl _ _).drew q).mono EA.out.size))
      have E2A := hide (show Below WA.heap.size WA w2 from by rw [hq]; exact below_drew16 (Below.refl _ _).drew q)
      clear hq
      dsimp only
      refine hK.out _ _ ?_ (fun hHeld => ?_)
      · exact ⟨(E2.out.cell (p := ⟨b, off + 1, none⟩) (blk_lt C0.out)).trans C0.out, XB.out _ E2A.out⟩
      clear hK K
      try simp only [Act.put, List.setIfInBounds_toArray, List.set_cons_zero, List.set_cons_succ]
      refine wpAnyH_take (i := 12) (v := ?v12) rfl (by kernel_rfl) (by kernel_rfl) (by kernel_rfl) (fun _ _ _ h => h) (Or.inl ⟨by rfl, ?y12⟩) (by assumption) ?r12
      case y12 => (intro w hSw; (try dsimp only at hSw); go_simp; try (with_reducible rfl))
      simp only [List.getElem_toArray, List.getElem_cons_succ, List.getElem_cons_zero, Act.put, List.setIfInBounds_toArray, List.set_cons_zero, List.set_cons_succ]
      refine wpAnyH_take (i := 13) (v := ?v13) rfl (by kernel_rfl) (by kernel_rfl) (by kernel_rfl) (fun _ _ _ h => h) (Or.inl ⟨by rfl, ?y13⟩) (by assumption) ?r13
      case y13 => (intro w hSw; (try dsimp only at hSw); go_simp; try (with_reducible rfl))
      simp only [List.getElem_toArray, List.getElem_cons_succ, List.getElem_cons_zero, Act.put, List.setIfInBounds_toArray, List.set_cons_zero, List.set_cons_succ]
      refine wpAnyH_ready (rs := [14]) (by kernel_rfl) (by simp) ?_
      refine AllReadyH.cons rfl (fun K hK => ?_) AllReadyH.nil
      simp only [List.getElem_toArray, List.getElem_cons_succ, List.getElem_cons_zero]
      obtain ⟨W6, hW6⟩ : ∃ W, w2.alloc (.cells #[.int .i64 x, .int .i64 z] 33) = W := ⟨_, rfl⟩
      have e6 : Below w2.heap.size w2 W6 := by rw [← hW6]; exact (Below.refl _ _).alloc (Nat.le_refl _) _
      have C6 := hide (show ∀ j u, [Value.int .i64 x, .int .i64 z][j]? = some u → W6.cell? ((⟨w2.heap.size, 0, none⟩ : Addr).add j) = some u by rw [← hW6]; exact cell_two16 _ _ _ _)
      have E6 := hide (E2.out.trans (e6.mono E2.out.size))
      have Z6 := hide e6.size
      have X6 := hide (XB.out _ (E2A.out.trans (e6.mono E2A.out.size)))
      clear e6
      go_simp
      refine hK.out _ _ ?_ (fun hHeld => ?_)
      · exact ⟨(E6.out.cell (p := ⟨b, off + 1, none⟩) (blk_lt C0.out)).trans C0.out, X6.out⟩
      clear hK K
      try simp only [Act.put, List.setIfInBounds_toArray, List.set_cons_zero, List.set_cons_succ]
      refine wpAnyH_ready (rs := [15]) (by kernel_rfl) (by simp) ?_
      refine AllReadyH.cons rfl (fun K hK => ?_) AllReadyH.nil
      simp only [List.getElem_toArray, List.getElem_cons_succ, List.getElem_cons_zero]
      rw [if_pos (show Region.wanted _ _ = true from rfl)]
      refine oper_append_at _ _ 23 rfl (w1.heap.size) 33 i1 (.agg #[.int .i64 0, .int .i64 0]) 2 16 Try.underlying23 hi1 hy0 hy1 hy2 rfl (by decide) (.slice oa k oc) (k) (flat ((unw l).take k)) rfl (own_below2 HO.out E6.out) ⟨w2.heap.size, 0, none⟩ 1 1 [.int .i64 x, .int .i64 z] rfl rfl C6.out (by intro u hu; simp at hu; rcases hu with rfl | rfl <;> rfl) (by unfold maxLen; omega) (by omega) (by have h1 := BZ.out; have h2 := E6.out.size; omega) ?_
      intro v7 w7 hrow7 hg7 _
      rw [show flat ((unw l).take k) ++ [Value.int .i64 x, .int .i64 z] = flat ((unw l).take (k + 1)) by rw [HTK.out, flat_append]; rfl] at hrow7
      obtain ⟨va7, vc7, rfl, _, _⟩ := own_form2 hrow7
      have O7 := hide hrow7
      have B7 := hide ((BW.out.trans (E6.out.mono BW.out.size)).grown hg7 (Nat.le_trans BW.out.size E6.out.size) (fun g hg => (HO.out.lt g hg).1))
      have X7 := hide (show w7.cell? ⟨wr.heap.size, 0, none⟩ = some (.int .i64 x) from grown_cell16 hg7 X6.out (fun e => by have := (HO.out.lt _ e).2; omega))
      clear hrow7 hg7
      refine hK.out _ _ ?_ (fun hHeld => ?_)
      · exact ⟨(B7.out.cell (p := ⟨b, off + 1, none⟩) C0L.out).trans ((BW.out.cell (p := ⟨b, off + 1, none⟩) C0L.out).symm.trans C0.out), X7.out⟩
      clear hK K
      try simp only [Act.put, List.setIfInBounds_toArray, List.set_cons_zero, List.set_cons_succ]
      refine wpAnyH_take (i := 16) (v := ?v14) rfl (by kernel_rfl) (by kernel_rfl) (by kernel_rfl) (fun _ _ _ h => h) (Or.inl ⟨by rfl, ?y14⟩) (by assumption) ?r14
      case y14 => (intro w hSw; (try dsimp only at hSw); go_simp; try (with_reducible rfl))
      simp only [List.getElem_toArray, List.getElem_cons_succ, List.getElem_cons_zero, Act.put, List.setIfInBounds_toArray, List.set_cons_zero, List.set_cons_succ]
      refine wpAnyH_done (by kernel_rfl) ?_ _
      clear hHeld
      go_wp2
      go_roundw
      case rel => exact ⟨k + 1, by omega, by go_num, O7, B7⟩
      case measure => simp [intOf]; omega
    · have hltI : ¬ (k : Int) < (n : Int) := by omega
      obtain rfl : k = n := by omega
      have e1 : (unw l).take k = unw l := List.take_of_length_le (by rw [HUL.out]; exact Nat.le_refl _)
      have O0 := HO.out
      rw [e1] at O0
      obtain ⟨va, vc, e, hsl, _⟩ := own_form2 O0
      cases e
      have S2 := hide hsl
      have O2 := hide (own_baseS16 O0 B1.out.size)
      have B2 := hide (B1.out.trans (BW.out.mono B1.out.size))
      clear O0 e1 hsl
      cases hq2 : g with
      | false =>
        have HR := hide (HR1.out hq2)
        subst hq2
        go_wp2_with fail
        refine (CG.out _ _ _ S2.out).mono ?_
        rintro e w3 ⟨rfl, hb3⟩
        have B3 := hide (B2.out.trans (hb3.mono B2.out.size))
        clear hb3
        go_wp2
        go_ret2
        exact retS_none HR.out B3.out
      | true =>
        have HR := hide (HR2.out hq2)
        subst hq2
        go_wp2_with fail
        refine (CG.out _ _ _ S2.out).mono ?_
        rintro e w3 ⟨rfl, hb3⟩
        have B3 := hide (B2.out.trans (hb3.mono B2.out.size))
        have O3 := hide (own_below2 O2.out hb3)
        clear hb3
        go_wp2
        go_ret2
        exact ⟨_, by rw [HR.out]; rfl, by rw [HR.out]; simp only [Option.getD_some]; rw [HUL.out]; exact O3.out, B3.out⟩
end Go.Proofs.Yticgejaaoamhmaf.L16
