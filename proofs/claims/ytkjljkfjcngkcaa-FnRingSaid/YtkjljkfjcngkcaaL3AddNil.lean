/-
  Contracts: spec.AddOwner and impl.AddOwner at a ring that is nil.
-/
import Derived.Test.YtkjljkfjcngkcaaL3Add
namespace Go.Proofs.Ytkjljkfjcngkcaa.L3
open Go.RowKit L1
set_option linter.unusedVariables false

open Classical in
set_option maxRecDepth 100000 in
set_option maxHeartbeats 8000000 in
theorem specAdd_none (l : List (Int × Int)) (hl : l = []) (o : Int) (ap : Option Addr) (ps : List Int) (m pcap : Nat) (w : World) (hm : ps.length = m) (hp : Sl w ap ps) (hm2 : m ≤ 1048576) (r : Option (List (Int × Int))) (hr : r = addRes l o ps) :
    Calls Try.prog 6 #[.slice (none) 0 0, .int .i64 o, .slice ap m pcap] w fun e w' => RetT w r e w' := by
  have hn : l.length = 0 := by rw [hl]; rfl
  have hs : Sl2 w none l := by rw [hl]; exact fun i hi => by simp at hi
  have hn2 : 0 ≤ 1048576 := by omega
  have HLL := hide hl
  clear hl
  have NO : ∀ e w', r = none → e = .returned (.tuple #[.slice none 0 0, .bool false]) → Below w.heap.size w w' → RetT w r e w' := fun e w' h1 h2 h3 => ⟨.slice none 0 0, by rw [h2, h1]; rfl, by rw [h1]; exact World.ownsRow_nil _ _ _ _, h3⟩
  have HNO := hide NO
  clear NO
  by_cases hg : GoodT l
  · have C1 := hide (specGoodRing_any (none) l 0 0 w hn hs hn2 true (by simp [hg]))
    by_cases ho : 0 ≤ o ∧ o ≤ 7
    · have C2 := hide (fun w => l1In_yes o 0 7 w ho.1 ho.2)
      by_cases hh : HasO l o
      · have C3 := hide (fun w hs => l3Owns_any (none) l 0 0 o w hn hs hn2 true (by simp [hh]))
        have hr' : r = none := by rw [hr]; exact addRes_ask (fun h => h.2.1 hh)
        have HR := hide hr'
        have HS := hide hs
        clear hr hr' hg hh hs hn hp hm ho
        go_enter Try.func6, Try.ntmps6
        go_wp2_with fail
        refine C1.out.mono ?_
        rintro e w1 ⟨rfl, hb1⟩
        have B1 := hide hb1
        have S1 := hide (HS.out.below hb1)
        clear hb1
        go_wp2_with fail
        refine (C2.out _).mono ?_
        rintro e w1 ⟨rfl, rfl⟩
        go_wp2_with fail
        refine (C3.out _ S1.out).mono ?_
        rintro e w2 ⟨rfl, hb2⟩
        have B2 := hide (B1.out.trans (hb2.mono B1.out.size))
        clear hb2
        go_wp2
        go_ret2
        exact HNO.out _ _ HR.out rfl B2.out
      · have C3 := hide (fun w hs => l3Owns_any (none) l 0 0 o w hn hs hn2 false (by simp [hh]))
        by_cases h8 : 1 ≤ (m : Int) ∧ (m : Int) ≤ 8
        · have C4 := hide (fun w => l1In_yes (m : Int) 1 8 w h8.1 h8.2)
          obtain ⟨hm1, hm8⟩ := h8
          have h40 : 0 ≤ 40 := by have := hg.1; omega
          have HASK := hide (fun h : Rises ps => (⟨hg, hh, by omega, h⟩ : AddAsk l o ps))
          have HUP := hide (fun j => insN_up o ps (good_up hg) j)
          have HPERM := hide (fun j hj => insN_perm l o ps j hj)
          have HLEN := hide (fun j => (insN_len l o ps j).trans (by rw [hn]))
          have HR := hide hr
          have HS := hide hs
          have HN := hide hn
          have HP := hide hp
          have HM := hide hm
          obtain ⟨i1, hi1, hy0, hy1, hy2⟩ := info_parts info_tok
          clear hr hg hh hs hn hp hm ho
          go_enter Try.func6, Try.ntmps6
          go_wp2_with fail
          refine C1.out.mono ?_
          rintro e w1 ⟨rfl, hb1⟩
          have B1 := hide hb1
          have S1 := hide (HS.out.below hb1)
          clear hb1
          go_wp2_with fail
          refine (C2.out _).mono ?_
          rintro e w1 ⟨rfl, rfl⟩
          go_wp2_with fail
          refine (C3.out _ S1.out).mono ?_
          rintro e w2 ⟨rfl, hb2⟩
          have B2 := hide (B1.out.trans (hb2.mono B1.out.size))
          have S2 := hide (S1.out.below hb2)
          clear hb2 S1 B1
          go_wp2_with fail
          refine (C4.out _).mono ?_
          rintro e w2 ⟨rfl, rfl⟩
          have hz2 := B2.out.size
          have O3 : Hid ((w2.alloc (.cells #[] 55)).ownsRow w.heap.size 55 2 (.slice (some ⟨w2.heap.size, 0, none⟩) 0 0) 0 (flat l)) := by show World.ownsRow _ _ _ _ _ _ _; rw [HLL.out]; exact own_empty w2 _ hz2
          have B3 : Hid (Below w.heap.size w (w2.alloc (.cells #[] 55))) := B2.out.alloc hz2 _
          go_wp2
          try go_simp
          try go_wp2
          go_loopw [8, 37] (fun ot i wr => ∃ (j g ocap : Nat), j ≤ m ∧ i = .int .i64 j ∧ ot = .slice (some ⟨g, 0, none⟩) (0 + j) ocap ∧ wr.ownsRow w.heap.size 55 2 ot (0 + j) (flat (insN l o ps j)) ∧ Hid (∀ i, i < j → 0 < i → ps.getD (i - 1) 0 < ps.getD i 0) ∧ Below w.heap.size w wr) (fun _ i _ => m - (intOf i).toNat)
          case atStart => exact ⟨0, w2.heap.size, 0, Nat.zero_le _, rfl, by simp, by simpa [insN] using O3.out, fun i hi => absurd hi (Nat.not_lt_zero _), B3.out⟩
          case round =>
            obtain ⟨j, g, ocap, hj, rfl, rfl, hown, HRI, hbel⟩ := hrel
            by_cases hlt : j < m
            · obtain ⟨pb, po, rfl, hp0⟩ := HP.out j (by rw [HM.out]; exact hlt)
              have hpc := (hbel.cell (p := ⟨pb, po + j, none⟩) (blk_lt hp0)).trans hp0
              have hltI : (j : Int) < (m : Int) := by omega
              have hprev : 0 < j → wr.cell? ⟨pb, po + (j - 1), none⟩ = some (.int .i64 (ps.getD (j - 1) 0)) := fun h0 => by
                obtain ⟨b', o', ha, hc'⟩ := HP.out (j - 1) (by rw [HM.out]; omega)
                cases ha
                exact (hbel.cell (p := ⟨pb, po + (j - 1), none⟩) (blk_lt hc')).trans hc'
              obtain ⟨x, hx⟩ : ∃ x, x = ps.getD j 0 := ⟨_, rfl⟩
              rw [← hx] at hpc
              have HX := hide hx.symm
              have HOW := hide hown
              have B0 := hide hbel
              have HPREV := hide hprev
              have hz := hbel.size
              clear hp0 hx hown hbel hprev
              by_cases hup : 0 < j → ps.getD (j - 1) 0 < x
              · have HUPX := hide hup
                have LOOP : Hid (∀ i, i < j + 1 → 0 < i → ps.getD (i - 1) 0 < ps.getD i 0) := fun i hi h0 => by
                  by_cases e : i = j
                  · subst e; rw [HX.out]; exact HUPX.out h0
                  · exact HRI.out i (by omega) h0
                have hlen := HLEN.out j
                have hins : insN l o ps (j + 1) = ins (x, o) (insN l o ps j) := by rw [insN, HX.out]
                obtain ⟨cur, hcur⟩ : ∃ cur, cur = insN l o ps j := ⟨_, rfl⟩
                rw [← hcur] at hlen hins HOW
                obtain ⟨N, hN⟩ : ∃ N, N = 0 + j := ⟨_, rfl⟩
                rw [← hN] at hlen HOW ⊢
                have HL := hide hlen
                have HINS := hide hins
                have HNN := hide hN
                have hN48 : N ≤ 48 := by omega
                have hcap : N ≤ ocap ∧ ocap ≤ maxLen := by
                  obtain ⟨g', c', e, h1, h2⟩ := own_some HOW.out (fun e => by cases e)
                  cases e
                  exact ⟨h1, h2⟩
                obtain ⟨hcap1, hcap2⟩ := hcap
                have hgz := ((HOW.out).lt g rfl).2
                clear hcur hN hlen hins hup
                by_cases hj0 : ¬ 0 < j
                · have hj0I : ¬ (0 : Int) < (j : Int) := by omega
                  clear HPREV HUPX
                  go_wp2
                  go_loop [11] (fun kv => ∃ k : Nat, k ≤ N ∧ kv = .int .i64 k ∧ Hid (∀ i, i < k → (cur.getD i (0, 0)).1 < x)) (fun kv => N - (intOf kv).toNat)
                  case atStart => exact ⟨0, Nat.zero_le _, rfl, fun i hi => absurd hi (Nat.not_lt_zero _)⟩
                  case round =>
                    obtain ⟨k, hk, rfl, HK⟩ := hrel
                    have DONE : (k < N → ¬ (cur.getD k (0, 0)).1 < x) → kk x cur = k := fun h => kk_at cur k (by rw [HL.out]; exact hk) HK.out (fun h2 => h (by rw [HL.out] at h2; exact h2))
                    by_cases hkl : k < N
                    · obtain ⟨b', o', ha, hc1, _⟩ := own_sl2 HOW.out k (by rw [HL.out]; exact hkl)
                      cases ha
                      rw [Nat.zero_add] at hc1
                      have hklI : (k : Int) < (N : Int) := by omega
                      obtain ⟨y, hy⟩ : ∃ y, y = (cur.getD k (0, 0)).1 := ⟨_, rfl⟩
                      rw [← hy] at hc1 DONE
                      have HY := hide hy.symm
                      by_cases hyx : y < x
                      · clear hy DONE
                        go_wp2
                        go_round
                        case rel =>
                          refine ⟨k + 1, by omega, by go_num, ?_⟩
                          intro i hi
                          by_cases e : i = k
                          · subst e; rw [HY.out]; exact hyx
                          · exact HK.out i (by omega)
                        case measure => simp [intOf]; omega
                      · have HKK := hide (DONE (fun _ => hyx))
                        clear hy DONE
                        have hTL : (flat (cur.take k)).length = k * 2 := by rw [flat_len]; simp; rw [HL.out]; omega
                        have hDL : (flat (cur.drop k)).length = (N - k) * 2 := by rw [flat_len]; simp; rw [HL.out]
                        have hTC := hide (own_take HOW.out k)
                        have hDC := hide (own_drop HOW.out k)
                        have HTL := hide hTL
                        have HDL := hide hDL
                        have hkc : k ≤ ocap := by omega
                        have hkcI : (k : Int) ≤ (ocap : Int) := by omega
                        have hkN : (k : Int) ≤ (N : Int) := by omega
                        have hoc : (ocap : Int) ≤ 9223372036854775807 := by unfold maxLen at hcap2; omega
                        clear hTL hDL
                        have hez : wr.heap.size ≤ wr.heap.size := Nat.le_refl _
                        go_wp2_with (first
                          | (at_builtin; refine wpList_append_own _ rfl _ _ 23 rfl wr.heap.size 55 i1 (.agg #[.int .i64 0, .int .i64 0]) 2 16 Try.underlying23 hi1 hy0 hy1 hy2 rfl (by decide) (.slice (some ⟨wr.heap.size, 0, none⟩) 0 0) 0 [] rfl (own_empty wr _ hez) ⟨g, 0, none⟩ k ocap (flat (cur.take k)) rfl HTL.out (fun j u h => (((Below.refl _ _).alloc (Nat.le_refl _) _ : Below wr.heap.size wr (wr.alloc (.cells #[] 55))).cell (p := (⟨g, 0, none⟩ : Addr).add j) (by rw [addr_add]; exact hgz)).trans (hTC.out j u h)) (flat_one _) (by unfold maxLen; omega) (by omega) (by simp) ?_)
                          | go_in)
                        intro v4 w4 hown4 hgrow4 hnil4
                        have hb4 : Below wr.heap.size wr w4 := ((Below.refl _ _).alloc (Nat.le_refl _) _).grown hgrow4 (by simp) (fun g hg => by cases hg; exact Nat.le_refl _)
                        obtain ⟨g4, c4, rfl, _, _⟩ := own_some hown4 (by first | exact hnil4 | (intro e; have := (hnil4.1 e).1; cases this))
                        try simp only [List.nil_append, Nat.zero_add] at hown4
                        have O4 := hide hown4
                        have B4 := hide hb4
                        have hz4 := hb4.size
                        clear hown4 hgrow4 hnil4 hb4
                        go_wp2_with (first
                          | (at_builtin; refine wpList_append_own _ rfl _ _ 23 rfl wr.heap.size 55 i1 (.agg #[.int .i64 0, .int .i64 0]) 2 16 Try.underlying23 hi1 hy0 hy1 hy2 rfl (by decide) _ _ _ rfl (O4.out.alloc _) ⟨w4.heap.size, 0, none⟩ 1 1 [.int .i64 x, .int .i64 o] rfl rfl (cell_two_newT _ _ _ _) (by intro u hu; simp at hu; rcases hu with rfl | rfl <;> rfl) (by unfold maxLen; omega) (by omega) (by simp; omega) ?_)
                          | go_in)
                        intro v5 w5 hown5 hgrow5 hnil5
                        have hb5 : Below wr.heap.size w4 w5 := ((Below.refl _ _).alloc hz4 _).grown hgrow5 (by simp; omega) (fun g hg => (O4.out.lt g hg).1)
                        obtain ⟨g5, c5, rfl, _, _⟩ := own_some hown5 (by first | exact hnil5 | (intro e; have := (hnil5.1 e).1; cases this))
                        have O5 := hide hown5
                        have B5 := hide (B4.out.trans hb5)
                        have hz5 := Nat.le_trans hz4 hb5.size
                        clear hown5 hgrow5 hnil5 hb5
                        by_cases hko : k < ocap
                        · have hkoI : (k : Int) < (ocap : Int) := by omega
                          go_wp2_with (first
                            | (at_builtin; refine wpList_append_own _ rfl _ _ 23 rfl wr.heap.size 55 i1 (.agg #[.int .i64 0, .int .i64 0]) 2 16 Try.underlying23 hi1 hy0 hy1 hy2 rfl (by decide) _ _ _ rfl O5.out ⟨g, k * 2, none⟩ (N - k) (ocap - k) (flat (cur.drop k)) rfl HDL.out (fun j u h => (B5.out.cell (p := (⟨g, k * 2, none⟩ : Addr).add j) (by have := hgz; unfold Addr.add; split <;> exact this)).trans (hDC.out j u h)) (flat_one _) (by unfold maxLen; omega) (by omega) hz5 ?_)
                            | go_in)
                          intro v6 w6 hown6 hgrow6 hnil6
                          have hb6 := B0.out.trans ((B5.out.trans ((Below.refl _ _).grown hgrow6 hz5 (fun g hg => (O5.out.lt g hg).1))).mono hz)
                          obtain ⟨g6, c6, rfl, _, _⟩ := own_some hown6 (by first | exact hnil6 | (intro e; have := (hnil6.1 e).1; cases this))
                          have hfl := ins_flat (x, o) cur
                          simp only [HKK.out] at hfl
                          rw [hfl, ← HINS.out, show k + 1 + (N - k) = 0 + (j + 1) by have := HNN.out; omega] at hown6
                          have O6 := hide (own_baseT hown6 hz)
                          clear hown6 hgrow6 hnil6 hfl
                          rw [show k + 1 + (N - k) = 0 + (j + 1) by have := HNN.out; omega]
                          go_wp2
                          go_roundw
                          case rel => exact ⟨j + 1, g6, c6, by omega, by go_num, rfl, O6.out, LOOP.out, hb6⟩
                          case measure => simp [intOf]; omega
                        · exact absurd hko (by omega)
                    · have hklI : ¬ (k : Int) < (N : Int) := by omega
                      have HKK := hide (DONE (fun h => absurd h hkl))
                      clear DONE
                      have hTL : (flat (cur.take k)).length = k * 2 := by rw [flat_len]; simp; rw [HL.out]; omega
                      have hDL : (flat (cur.drop k)).length = (N - k) * 2 := by rw [flat_len]; simp; rw [HL.out]
                      have hTC := hide (own_take HOW.out k)
                      have hDC := hide (own_drop HOW.out k)
                      have HTL := hide hTL
                      have HDL := hide hDL
                      have hkc : k ≤ ocap := by omega
                      have hkcI : (k : Int) ≤ (ocap : Int) := by omega
                      have hkN : (k : Int) ≤ (N : Int) := by omega
                      have hoc : (ocap : Int) ≤ 9223372036854775807 := by unfold maxLen at hcap2; omega
                      clear hTL hDL
                      have hez : wr.heap.size ≤ wr.heap.size := Nat.le_refl _
                      go_wp2_with (first
                        | (at_builtin; refine wpList_append_own _ rfl _ _ 23 rfl wr.heap.size 55 i1 (.agg #[.int .i64 0, .int .i64 0]) 2 16 Try.underlying23 hi1 hy0 hy1 hy2 rfl (by decide) (.slice (some ⟨wr.heap.size, 0, none⟩) 0 0) 0 [] rfl (own_empty wr _ hez) ⟨g, 0, none⟩ k ocap (flat (cur.take k)) rfl HTL.out (fun j u h => (((Below.refl _ _).alloc (Nat.le_refl _) _ : Below wr.heap.size wr (wr.alloc (.cells #[] 55))).cell (p := (⟨g, 0, none⟩ : Addr).add j) (by rw [addr_add]; exact hgz)).trans (hTC.out j u h)) (flat_one _) (by unfold maxLen; omega) (by omega) (by simp) ?_)
                        | go_in)
                      intro v4 w4 hown4 hgrow4 hnil4
                      have hb4 : Below wr.heap.size wr w4 := ((Below.refl _ _).alloc (Nat.le_refl _) _).grown hgrow4 (by simp) (fun g hg => by cases hg; exact Nat.le_refl _)
                      obtain ⟨g4, c4, rfl, _, _⟩ := own_some hown4 (by first | exact hnil4 | (intro e; have := (hnil4.1 e).1; cases this))
                      try simp only [List.nil_append, Nat.zero_add] at hown4
                      have O4 := hide hown4
                      have B4 := hide hb4
                      have hz4 := hb4.size
                      clear hown4 hgrow4 hnil4 hb4
                      go_wp2_with (first
                        | (at_builtin; refine wpList_append_own _ rfl _ _ 23 rfl wr.heap.size 55 i1 (.agg #[.int .i64 0, .int .i64 0]) 2 16 Try.underlying23 hi1 hy0 hy1 hy2 rfl (by decide) _ _ _ rfl (O4.out.alloc _) ⟨w4.heap.size, 0, none⟩ 1 1 [.int .i64 x, .int .i64 o] rfl rfl (cell_two_newT _ _ _ _) (by intro u hu; simp at hu; rcases hu with rfl | rfl <;> rfl) (by unfold maxLen; omega) (by omega) (by simp; omega) ?_)
                        | go_in)
                      intro v5 w5 hown5 hgrow5 hnil5
                      have hb5 : Below wr.heap.size w4 w5 := ((Below.refl _ _).alloc hz4 _).grown hgrow5 (by simp; omega) (fun g hg => (O4.out.lt g hg).1)
                      obtain ⟨g5, c5, rfl, _, _⟩ := own_some hown5 (by first | exact hnil5 | (intro e; have := (hnil5.1 e).1; cases this))
                      have O5 := hide hown5
                      have B5 := hide (B4.out.trans hb5)
                      have hz5 := Nat.le_trans hz4 hb5.size
                      clear hown5 hgrow5 hnil5 hb5
                      by_cases hko : k < ocap
                      · have hkoI : (k : Int) < (ocap : Int) := by omega
                        go_wp2_with (first
                          | (at_builtin; refine wpList_append_own _ rfl _ _ 23 rfl wr.heap.size 55 i1 (.agg #[.int .i64 0, .int .i64 0]) 2 16 Try.underlying23 hi1 hy0 hy1 hy2 rfl (by decide) _ _ _ rfl O5.out ⟨g, k * 2, none⟩ (N - k) (ocap - k) (flat (cur.drop k)) rfl HDL.out (fun j u h => (B5.out.cell (p := (⟨g, k * 2, none⟩ : Addr).add j) (by have := hgz; unfold Addr.add; split <;> exact this)).trans (hDC.out j u h)) (flat_one _) (by unfold maxLen; omega) (by omega) hz5 ?_)
                          | go_in)
                        intro v6 w6 hown6 hgrow6 hnil6
                        have hb6 := B0.out.trans ((B5.out.trans ((Below.refl _ _).grown hgrow6 hz5 (fun g hg => (O5.out.lt g hg).1))).mono hz)
                        obtain ⟨g6, c6, rfl, _, _⟩ := own_some hown6 (by first | exact hnil6 | (intro e; have := (hnil6.1 e).1; cases this))
                        have hfl := ins_flat (x, o) cur
                        simp only [HKK.out] at hfl
                        rw [hfl, ← HINS.out, show k + 1 + (N - k) = 0 + (j + 1) by have := HNN.out; omega] at hown6
                        have O6 := hide (own_baseT hown6 hz)
                        clear hown6 hgrow6 hnil6 hfl
                        rw [show k + 1 + (N - k) = 0 + (j + 1) by have := HNN.out; omega]
                        go_wp2
                        go_roundw
                        case rel => exact ⟨j + 1, g6, c6, by omega, by go_num, rfl, O6.out, LOOP.out, hb6⟩
                        case measure => simp [intOf]; omega
                      · obtain rfl : k = ocap := by omega
                        have hNk : N = k := by omega
                        have hdr : cur.drop k = [] := List.drop_eq_nil_of_le (by rw [HL.out]; omega)
                        have hfl := ins_flat (x, o) cur
                        simp only [HKK.out, hdr, flat] at hfl
                        have hcnt : k + 1 = 0 + (j + 1) := by have := HNN.out; omega
                        have hown6 := O5.out
                        rw [hfl, ← HINS.out, hcnt] at hown6
                        have O6 := hide (own_baseT hown6 hz)
                        have hb6 := B0.out.trans (B5.out.mono hz)
                        clear hown6 hfl hdr
                        go_wp2
                        exact ⟨⟨j + 1, g5, c5, by omega, by go_num, by simp, by simpa using O6.out, LOOP.out, hb6⟩, by simp [intOf]; omega⟩
                · obtain ⟨jj, rfl⟩ : ∃ jj, j = jj + 1 := ⟨j - 1, by omega⟩
                  have hpv := HPREV.out (by omega)
                  rw [show jj + 1 - 1 = jj by omega] at hpv
                  have hup2 := HUPX.out (by omega)
                  rw [show jj + 1 - 1 = jj by omega] at hup2
                  obtain ⟨pv, hpve⟩ : ∃ pv, pv = ps.getD jj 0 := ⟨_, rfl⟩
                  rw [← hpve] at hpv hup2
                  have hjjI : (jj : Int) < (m : Int) := by omega
                  have hj0I : (0 : Int) < (jj : Int) + 1 := by omega
                  have hnle : ¬ x ≤ pv := by omega
                  clear HPREV HUPX hpve
                  go_wp2
                  go_loop [11] (fun kv => ∃ k : Nat, k ≤ N ∧ kv = .int .i64 k ∧ Hid (∀ i, i < k → (cur.getD i (0, 0)).1 < x)) (fun kv => N - (intOf kv).toNat)
                  case atStart => exact ⟨0, Nat.zero_le _, rfl, fun i hi => absurd hi (Nat.not_lt_zero _)⟩
                  case round =>
                    obtain ⟨k, hk, rfl, HK⟩ := hrel
                    have DONE : (k < N → ¬ (cur.getD k (0, 0)).1 < x) → kk x cur = k := fun h => kk_at cur k (by rw [HL.out]; exact hk) HK.out (fun h2 => h (by rw [HL.out] at h2; exact h2))
                    by_cases hkl : k < N
                    · obtain ⟨b', o', ha, hc1, _⟩ := own_sl2 HOW.out k (by rw [HL.out]; exact hkl)
                      cases ha
                      rw [Nat.zero_add] at hc1
                      have hklI : (k : Int) < (N : Int) := by omega
                      obtain ⟨y, hy⟩ : ∃ y, y = (cur.getD k (0, 0)).1 := ⟨_, rfl⟩
                      rw [← hy] at hc1 DONE
                      have HY := hide hy.symm
                      by_cases hyx : y < x
                      · clear hy DONE
                        go_wp2
                        go_round
                        case rel =>
                          refine ⟨k + 1, by omega, by go_num, ?_⟩
                          intro i hi
                          by_cases e : i = k
                          · subst e; rw [HY.out]; exact hyx
                          · exact HK.out i (by omega)
                        case measure => simp [intOf]; omega
                      · have HKK := hide (DONE (fun _ => hyx))
                        clear hy DONE
                        have hTL : (flat (cur.take k)).length = k * 2 := by rw [flat_len]; simp; rw [HL.out]; omega
                        have hDL : (flat (cur.drop k)).length = (N - k) * 2 := by rw [flat_len]; simp; rw [HL.out]
                        have hTC := hide (own_take HOW.out k)
                        have hDC := hide (own_drop HOW.out k)
                        have HTL := hide hTL
                        have HDL := hide hDL
                        have hkc : k ≤ ocap := by omega
                        have hkcI : (k : Int) ≤ (ocap : Int) := by omega
                        have hkN : (k : Int) ≤ (N : Int) := by omega
                        have hoc : (ocap : Int) ≤ 9223372036854775807 := by unfold maxLen at hcap2; omega
                        clear hTL hDL
                        have hez : wr.heap.size ≤ wr.heap.size := Nat.le_refl _
                        go_wp2_with (first
                          | (at_builtin; refine wpList_append_own _ rfl _ _ 23 rfl wr.heap.size 55 i1 (.agg #[.int .i64 0, .int .i64 0]) 2 16 Try.underlying23 hi1 hy0 hy1 hy2 rfl (by decide) (.slice (some ⟨wr.heap.size, 0, none⟩) 0 0) 0 [] rfl (own_empty wr _ hez) ⟨g, 0, none⟩ k ocap (flat (cur.take k)) rfl HTL.out (fun j u h => (((Below.refl _ _).alloc (Nat.le_refl _) _ : Below wr.heap.size wr (wr.alloc (.cells #[] 55))).cell (p := (⟨g, 0, none⟩ : Addr).add j) (by rw [addr_add]; exact hgz)).trans (hTC.out j u h)) (flat_one _) (by unfold maxLen; omega) (by omega) (by simp) ?_)
                          | go_in)
                        intro v4 w4 hown4 hgrow4 hnil4
                        have hb4 : Below wr.heap.size wr w4 := ((Below.refl _ _).alloc (Nat.le_refl _) _).grown hgrow4 (by simp) (fun g hg => by cases hg; exact Nat.le_refl _)
                        obtain ⟨g4, c4, rfl, _, _⟩ := own_some hown4 (by first | exact hnil4 | (intro e; have := (hnil4.1 e).1; cases this))
                        try simp only [List.nil_append, Nat.zero_add] at hown4
                        have O4 := hide hown4
                        have B4 := hide hb4
                        have hz4 := hb4.size
                        clear hown4 hgrow4 hnil4 hb4
                        go_wp2_with (first
                          | (at_builtin; refine wpList_append_own _ rfl _ _ 23 rfl wr.heap.size 55 i1 (.agg #[.int .i64 0, .int .i64 0]) 2 16 Try.underlying23 hi1 hy0 hy1 hy2 rfl (by decide) _ _ _ rfl (O4.out.alloc _) ⟨w4.heap.size, 0, none⟩ 1 1 [.int .i64 x, .int .i64 o] rfl rfl (cell_two_newT _ _ _ _) (by intro u hu; simp at hu; rcases hu with rfl | rfl <;> rfl) (by unfold maxLen; omega) (by omega) (by simp; omega) ?_)
                          | go_in)
                        intro v5 w5 hown5 hgrow5 hnil5
                        have hb5 : Below wr.heap.size w4 w5 := ((Below.refl _ _).alloc hz4 _).grown hgrow5 (by simp; omega) (fun g hg => (O4.out.lt g hg).1)
                        obtain ⟨g5, c5, rfl, _, _⟩ := own_some hown5 (by first | exact hnil5 | (intro e; have := (hnil5.1 e).1; cases this))
                        have O5 := hide hown5
                        have B5 := hide (B4.out.trans hb5)
                        have hz5 := Nat.le_trans hz4 hb5.size
                        clear hown5 hgrow5 hnil5 hb5
                        by_cases hko : k < ocap
                        · have hkoI : (k : Int) < (ocap : Int) := by omega
                          go_wp2_with (first
                            | (at_builtin; refine wpList_append_own _ rfl _ _ 23 rfl wr.heap.size 55 i1 (.agg #[.int .i64 0, .int .i64 0]) 2 16 Try.underlying23 hi1 hy0 hy1 hy2 rfl (by decide) _ _ _ rfl O5.out ⟨g, k * 2, none⟩ (N - k) (ocap - k) (flat (cur.drop k)) rfl HDL.out (fun j u h => (B5.out.cell (p := (⟨g, k * 2, none⟩ : Addr).add j) (by have := hgz; unfold Addr.add; split <;> exact this)).trans (hDC.out j u h)) (flat_one _) (by unfold maxLen; omega) (by omega) hz5 ?_)
                            | go_in)
                          intro v6 w6 hown6 hgrow6 hnil6
                          have hb6 := B0.out.trans ((B5.out.trans ((Below.refl _ _).grown hgrow6 hz5 (fun g hg => (O5.out.lt g hg).1))).mono hz)
                          obtain ⟨g6, c6, rfl, _, _⟩ := own_some hown6 (by first | exact hnil6 | (intro e; have := (hnil6.1 e).1; cases this))
                          have hfl := ins_flat (x, o) cur
                          simp only [HKK.out] at hfl
                          rw [hfl, ← HINS.out, show k + 1 + (N - k) = 0 + (jj + 1 + 1) by have := HNN.out; omega] at hown6
                          have O6 := hide (own_baseT hown6 hz)
                          clear hown6 hgrow6 hnil6 hfl
                          rw [show k + 1 + (N - k) = 0 + (jj + 1 + 1) by have := HNN.out; omega]
                          go_wp2
                          go_roundw
                          case rel => exact ⟨jj + 1 + 1, g6, c6, by omega, by go_num, rfl, O6.out, LOOP.out, hb6⟩
                          case measure => simp [intOf]; omega
                        · exact absurd hko (by omega)
                    · have hklI : ¬ (k : Int) < (N : Int) := by omega
                      have HKK := hide (DONE (fun h => absurd h hkl))
                      clear DONE
                      have hTL : (flat (cur.take k)).length = k * 2 := by rw [flat_len]; simp; rw [HL.out]; omega
                      have hDL : (flat (cur.drop k)).length = (N - k) * 2 := by rw [flat_len]; simp; rw [HL.out]
                      have hTC := hide (own_take HOW.out k)
                      have hDC := hide (own_drop HOW.out k)
                      have HTL := hide hTL
                      have HDL := hide hDL
                      have hkc : k ≤ ocap := by omega
                      have hkcI : (k : Int) ≤ (ocap : Int) := by omega
                      have hkN : (k : Int) ≤ (N : Int) := by omega
                      have hoc : (ocap : Int) ≤ 9223372036854775807 := by unfold maxLen at hcap2; omega
                      clear hTL hDL
                      have hez : wr.heap.size ≤ wr.heap.size := Nat.le_refl _
                      go_wp2_with (first
                        | (at_builtin; refine wpList_append_own _ rfl _ _ 23 rfl wr.heap.size 55 i1 (.agg #[.int .i64 0, .int .i64 0]) 2 16 Try.underlying23 hi1 hy0 hy1 hy2 rfl (by decide) (.slice (some ⟨wr.heap.size, 0, none⟩) 0 0) 0 [] rfl (own_empty wr _ hez) ⟨g, 0, none⟩ k ocap (flat (cur.take k)) rfl HTL.out (fun j u h => (((Below.refl _ _).alloc (Nat.le_refl _) _ : Below wr.heap.size wr (wr.alloc (.cells #[] 55))).cell (p := (⟨g, 0, none⟩ : Addr).add j) (by rw [addr_add]; exact hgz)).trans (hTC.out j u h)) (flat_one _) (by unfold maxLen; omega) (by omega) (by simp) ?_)
                        | go_in)
                      intro v4 w4 hown4 hgrow4 hnil4
                      have hb4 : Below wr.heap.size wr w4 := ((Below.refl _ _).alloc (Nat.le_refl _) _).grown hgrow4 (by simp) (fun g hg => by cases hg; exact Nat.le_refl _)
                      obtain ⟨g4, c4, rfl, _, _⟩ := own_some hown4 (by first | exact hnil4 | (intro e; have := (hnil4.1 e).1; cases this))
                      try simp only [List.nil_append, Nat.zero_add] at hown4
                      have O4 := hide hown4
                      have B4 := hide hb4
                      have hz4 := hb4.size
                      clear hown4 hgrow4 hnil4 hb4
                      go_wp2_with (first
                        | (at_builtin; refine wpList_append_own _ rfl _ _ 23 rfl wr.heap.size 55 i1 (.agg #[.int .i64 0, .int .i64 0]) 2 16 Try.underlying23 hi1 hy0 hy1 hy2 rfl (by decide) _ _ _ rfl (O4.out.alloc _) ⟨w4.heap.size, 0, none⟩ 1 1 [.int .i64 x, .int .i64 o] rfl rfl (cell_two_newT _ _ _ _) (by intro u hu; simp at hu; rcases hu with rfl | rfl <;> rfl) (by unfold maxLen; omega) (by omega) (by simp; omega) ?_)
                        | go_in)
                      intro v5 w5 hown5 hgrow5 hnil5
                      have hb5 : Below wr.heap.size w4 w5 := ((Below.refl _ _).alloc hz4 _).grown hgrow5 (by simp; omega) (fun g hg => (O4.out.lt g hg).1)
                      obtain ⟨g5, c5, rfl, _, _⟩ := own_some hown5 (by first | exact hnil5 | (intro e; have := (hnil5.1 e).1; cases this))
                      have O5 := hide hown5
                      have B5 := hide (B4.out.trans hb5)
                      have hz5 := Nat.le_trans hz4 hb5.size
                      clear hown5 hgrow5 hnil5 hb5
                      by_cases hko : k < ocap
                      · have hkoI : (k : Int) < (ocap : Int) := by omega
                        go_wp2_with (first
                          | (at_builtin; refine wpList_append_own _ rfl _ _ 23 rfl wr.heap.size 55 i1 (.agg #[.int .i64 0, .int .i64 0]) 2 16 Try.underlying23 hi1 hy0 hy1 hy2 rfl (by decide) _ _ _ rfl O5.out ⟨g, k * 2, none⟩ (N - k) (ocap - k) (flat (cur.drop k)) rfl HDL.out (fun j u h => (B5.out.cell (p := (⟨g, k * 2, none⟩ : Addr).add j) (by have := hgz; unfold Addr.add; split <;> exact this)).trans (hDC.out j u h)) (flat_one _) (by unfold maxLen; omega) (by omega) hz5 ?_)
                          | go_in)
                        intro v6 w6 hown6 hgrow6 hnil6
                        have hb6 := B0.out.trans ((B5.out.trans ((Below.refl _ _).grown hgrow6 hz5 (fun g hg => (O5.out.lt g hg).1))).mono hz)
                        obtain ⟨g6, c6, rfl, _, _⟩ := own_some hown6 (by first | exact hnil6 | (intro e; have := (hnil6.1 e).1; cases this))
                        have hfl := ins_flat (x, o) cur
                        simp only [HKK.out] at hfl
                        rw [hfl, ← HINS.out, show k + 1 + (N - k) = 0 + (jj + 1 + 1) by have := HNN.out; omega] at hown6
                        have O6 := hide (own_baseT hown6 hz)
                        clear hown6 hgrow6 hnil6 hfl
                        rw [show k + 1 + (N - k) = 0 + (jj + 1 + 1) by have := HNN.out; omega]
                        go_wp2
                        go_roundw
                        case rel => exact ⟨jj + 1 + 1, g6, c6, by omega, by go_num, rfl, O6.out, LOOP.out, hb6⟩
                        case measure => simp [intOf]; omega
                      · obtain rfl : k = ocap := by omega
                        have hNk : N = k := by omega
                        have hdr : cur.drop k = [] := List.drop_eq_nil_of_le (by rw [HL.out]; omega)
                        have hfl := ins_flat (x, o) cur
                        simp only [HKK.out, hdr, flat] at hfl
                        have hcnt : k + 1 = 0 + (jj + 1 + 1) := by have := HNN.out; omega
                        have hown6 := O5.out
                        rw [hfl, ← HINS.out, hcnt] at hown6
                        have O6 := hide (own_baseT hown6 hz)
                        have hb6 := B0.out.trans (B5.out.mono hz)
                        clear hown6 hfl hdr
                        go_wp2
                        exact ⟨⟨jj + 1 + 1, g5, c5, by omega, by go_num, by simp, by simpa using O6.out, LOOP.out, hb6⟩, by simp [intOf]; omega⟩
              · have hup' : 0 < j ∧ ¬ ps.getD (j - 1) 0 < x := by
                  by_cases h0 : 0 < j
                  · exact ⟨h0, fun h => hup (fun _ => h)⟩
                  · exact absurd (fun h => absurd h h0) hup
                obtain ⟨hj0, hge⟩ := hup'
                have hr0 : r = none := by
                  rw [HR.out]
                  refine addRes_ask (fun h => ?_)
                  have := h.2.2.2 j (by rw [HM.out]; exact hlt) hj0
                  rw [HX.out] at this
                  exact hge this
                have HR0 := hide hr0
                have hpv := HPREV.out hj0
                obtain ⟨jj, rfl⟩ : ∃ jj, j = jj + 1 := ⟨j - 1, by omega⟩
                rw [show jj + 1 - 1 = jj by omega] at hpv hge
                obtain ⟨pv, hpve⟩ : ∃ pv, pv = ps.getD jj 0 := ⟨_, rfl⟩
                rw [← hpve] at hpv hge
                have hle : x ≤ pv := by omega
                have hjjI : (jj : Int) < (m : Int) := by omega
                have hj0I : (0 : Int) < (jj : Int) + 1 := by omega
                clear hup hr0 hpve hge HPREV
                go_wp2
                go_ret2
                exact HNO.out _ _ HR0.out rfl B0.out
            · obtain rfl : j = m := by omega
              have hltI : ¬ (j : Int) < (j : Int) := by omega
              have hperm := HPERM.out j (by rw [HM.out]; exact Nat.le_refl _)
              rw [show ps.take j = ps from List.take_of_length_le (by rw [HM.out]; exact Nat.le_refl _)] at hperm
              have hup := HUP.out j
              have hlen := HLEN.out j
              obtain ⟨cur, hcur⟩ : ∃ cur, cur = insN l o ps j := ⟨_, rfl⟩
              rw [← hcur] at hlen hperm hup hown
              obtain ⟨N, hN⟩ : ∃ N, N = 0 + j := ⟨_, rfl⟩
              rw [← hN] at hlen hown ⊢
              have hask := HASK.out (fun i hi h0 => HRI.out i (by rw [HM.out] at hi; exact hi) h0)
              have hN48 : N ≤ 48 := by omega
              have HOW := hide hown
              have B0 := hide hbel
              by_cases hgc : GoodT cur
              · have C5 := hide (specGoodRing_any (some ⟨g, 0, none⟩) cur N ocap wr hlen (own_sl2 hown) (by omega) true (by simp [hgc]))
                have HR0 : Hid (r = some cur) := by show r = some cur; rw [HR.out]; exact addRes_some hask hperm hgc
                have HL := hide hlen
                clear hgc hask hup hperm hlen hown hbel hcur hN
                go_wp2_with fail
                refine C5.out.mono ?_
                rintro e w5 ⟨rfl, hb5⟩
                have O5 := hide (own_belowT HOW.out hb5)
                have B5 := hide (B0.out.trans (hb5.mono B0.out.size))
                clear hb5
                go_wp2
                go_ret2
                exact ⟨_, by rw [HR0.out]; rfl, by rw [HR0.out]; simp only [Option.getD_some]; rw [HL.out]; exact O5.out, B5.out⟩
              · have C5 := hide (specGoodRing_any (some ⟨g, 0, none⟩) cur N ocap wr hlen (own_sl2 hown) (by omega) false (by simp [hgc]))
                have HR0 : Hid (r = none) := by show r = none; rw [HR.out]; exact addRes_bad hperm hup hgc
                clear hgc hask hup hperm hlen hown hbel hcur hN
                go_wp2_with fail
                refine C5.out.mono ?_
                rintro e w5 ⟨rfl, hb5⟩
                have B5 := hide (B0.out.trans (hb5.mono B0.out.size))
                clear hb5
                go_wp2
                go_ret2
                exact HNO.out _ _ HR0.out rfl B5.out
        · have C4 := hide (fun w => l1In_no (m : Int) 1 8 w h8)
          have hr' : r = none := by rw [hr]; exact addRes_ask (fun h => h8 (by have := h.2.2.1; rw [hm] at this; omega))
          have HR0 := hide hr'
          have HS := hide hs
          clear hr hr' hg hh hs hn hp hm ho h8
          go_enter Try.func6, Try.ntmps6
          go_wp2_with fail
          refine C1.out.mono ?_
          rintro e w1 ⟨rfl, hb1⟩
          have B1 := hide hb1
          have S1 := hide (HS.out.below hb1)
          clear hb1
          go_wp2_with fail
          refine (C2.out _).mono ?_
          rintro e w1 ⟨rfl, rfl⟩
          go_wp2_with fail
          refine (C3.out _ S1.out).mono ?_
          rintro e w2 ⟨rfl, hb2⟩
          have B2 := hide (B1.out.trans (hb2.mono B1.out.size))
          clear hb2
          go_wp2_with fail
          refine (C4.out _).mono ?_
          rintro e w2 ⟨rfl, rfl⟩
          go_wp2
          go_ret2
          exact HNO.out _ _ HR0.out rfl B2.out
    · have C2 := hide (fun w => l1In_no o 0 7 w ho)
      have hr' : r = none := by
        rw [hr]
        by_cases hm0 : ps = []
        · exact addRes_ask (fun h => by have := h.2.2.1.1; rw [hm0] at this; simp at this)
        · obtain ⟨q, ps', rfl⟩ : ∃ q ps', ps = q :: ps' := by cases ps with
            | nil => exact absurd rfl hm0
            | cons q ps' => exact ⟨q, ps', rfl⟩
          exact addRes_out (p := (q, o)) (by simp [news]) (fun h => ho ⟨h.2.2.1, h.2.2.2⟩)
      have HR0 := hide hr'
      clear hr hr' hg hs hn hp hm ho
      go_enter Try.func6, Try.ntmps6
      go_wp2_with fail
      refine C1.out.mono ?_
      rintro e w1 ⟨rfl, hb1⟩
      have B1 := hide hb1
      clear hb1
      go_wp2_with fail
      refine (C2.out _).mono ?_
      rintro e w1 ⟨rfl, rfl⟩
      go_wp2
      go_ret2
      exact HNO.out _ _ HR0.out rfl B1.out
  · have C1 := hide (specGoodRing_any (none) l 0 0 w hn hs hn2 false (by simp [hg]))
    have hr' : r = none := by rw [hr]; exact addRes_ask (fun h => hg h.1)
    have HR0 := hide hr'
    clear hr hr' hg hs hn hp hm
    go_enter Try.func6, Try.ntmps6
    go_wp2_with fail
    refine C1.out.mono ?_
    rintro e w1 ⟨rfl, hb1⟩
    have B1 := hide hb1
    clear hb1
    go_wp2
    go_ret2
    exact HNO.out _ _ HR0.out rfl B1.out
set_option maxRecDepth 100000 in
set_option maxHeartbeats 1000000 in
theorem clone_none (w : World) : Calls Try.prog 27 #[.slice none 0 0] w fun e w' => e = .returned (.slice none 0 0) ∧ w = w' := by
  have hnil : ∀ w, (binOp .eql 23 (.slice none 0 0) (.slice none 0 0)).run Try.prog w = .ok (.bool true) w := fun w => Lib.run_eql_slice_nil w _ _ _ _ _ _ _ Try.underlying23
  go_enter Try.func27, Try.ntmps27
  go_wp2
  go_ret
  exact ⟨rfl, rfl⟩

open Classical in
set_option maxRecDepth 100000 in
set_option maxHeartbeats 4000000 in
theorem addOwner_none (l : List (Int × Int)) (hl : l = []) (o : Int) (ap : Option Addr) (ps : List Int) (m pcap : Nat) (w : World) (hm : ps.length = m) (hp : Sl w ap ps) (hm2 : m ≤ 1048576) (r : Option (List (Int × Int))) (hr : r = addRes l o ps) :
    Calls Try.prog 5 #[.slice (none) 0 0, .int .i64 o, .slice ap m pcap] w fun e w' => RetT w r e w' := by
  have hn : l.length = 0 := by rw [hl]; rfl
  have hs : Sl2 w none l := by rw [hl]; exact fun i hi => by simp at hi
  have hn2 : 0 ≤ 1048576 := by omega
  have HLL := hide hl
  clear hl
  have NO : ∀ e w', r = none → e = .returned (.tuple #[.slice none 0 0, .bool false]) → Below w.heap.size w w' → RetT w r e w' := fun e w' h1 h2 h3 => ⟨.slice none 0 0, by rw [h2, h1]; rfl, by rw [h1]; exact World.ownsRow_nil _ _ _ _, h3⟩
  have HNO := hide NO
  clear NO
  by_cases hg : GoodT l
  · have C1 := hide (goodRing_any (none) l 0 0 w hn hs hn2 true (by simp [hg]))
    by_cases hh : HasO l o
    · have C3 := hide (fun w hs => hasTokens_any (none) l 0 0 o w hn hs hn2 true (by simp [hh]))
      have hr' : r = none := by rw [hr]; exact addRes_ask (fun h => h.2.1 hh)
      have HR := hide hr'
      have HS := hide hs
      clear hr hr' hg hh hs hn hp hm
      go_enter Try.func5, Try.ntmps5
      go_wp2_with fail
      refine C1.out.mono ?_
      rintro e w1 ⟨rfl, hb1⟩
      have B1 := hide hb1
      have S1 := hide (HS.out.below hb1)
      clear hb1
      go_wp2_with fail
      refine (C3.out _ S1.out).mono ?_
      rintro e w2 ⟨rfl, hb2⟩
      have B2 := hide (B1.out.trans (hb2.mono B1.out.size))
      clear hb2
      go_wp2
      go_ret2
      exact HNO.out _ _ HR.out rfl B2.out
    · have C3 := hide (fun w hs => hasTokens_any (none) l 0 0 o w hn hs hn2 false (by simp [hh]))
      by_cases hpl : Places ps
      · have C4 := hide (fun w hs => risingPlaces_any ap ps m pcap w hm hs hm2 true (by simp [hpl]))
        have h40 : 0 ≤ 40 := by have := hg.1; omega
        have h8 : m ≤ 8 := by have := hpl.1.2; omega
        have hask : AddAsk l o ps := ⟨hg, hh, hpl.1, hpl.2.2⟩
        have hin : ∀ p ∈ l ++ news o ps, 0 ≤ p.1 ∧ p.1 ≤ 1008 := fun p hp => by
          rcases List.mem_append.1 hp with hp | hp
          · have := good_mem hg p hp; exact ⟨this.1, this.2.1⟩
          · unfold news at hp
            obtain ⟨q, hq, rfl⟩ := List.mem_map.1 hp
            obtain ⟨j, hj, e⟩ := List.getElem_of_mem hq
            have := hpl.2.1 j hj
            simp only [List.getD, List.getElem?_eq_getElem hj, Option.getD_some] at this
            rw [← e]
            exact this
        have HASK := hide hask
        have HIN := hide hin
        have HR := hide hr
        have HS := hide hs
        have HN := hide hn
        have HP := hide hp
        have HM := hide hm
        have C5 := hide (fun w => clone_none w)
        obtain ⟨i1, hi1, hy0, hy1, hy2⟩ := info_parts info_tok
        clear hr hg hh hs hn hp hm hpl hask hin
        go_enter Try.func5, Try.ntmps5
        go_wp2_with fail
        refine C1.out.mono ?_
        rintro e w1 ⟨rfl, hb1⟩
        have B1 := hide hb1
        have S1 := hide (HS.out.below hb1)
        clear hb1
        go_wp2_with fail
        refine (C3.out _ S1.out).mono ?_
        rintro e w2 ⟨rfl, hb2⟩
        have B2 := hide (B1.out.trans (hb2.mono B1.out.size))
        have S2 := hide (S1.out.below hb2)
        clear hb2 S1 B1
        go_wp2_with fail
        refine (C4.out _ (HP.out.below B2.out)).mono ?_
        rintro e w2 ⟨rfl, rfl⟩
        go_wp2_with fail
        refine (C5.out _).mono ?_
        rintro e w3 ⟨rfl, rfl⟩
        have B3 := B2
        go_wp2
        go_loopw [8, 28] (fun ot i wr => ∃ (j : Nat) (oa : Option Addr) (ocap : Nat), j ≤ m ∧ i = .int .i64 j ∧ ot = .slice oa (0 + j) ocap ∧ wr.ownsRow w.heap.size 55 2 ot (0 + j) (flat (l ++ news o (ps.take j))) ∧ Below w.heap.size w wr) (fun _ i _ => m - (intOf i).toNat)
        case atStart => exact ⟨0, none, 0, Nat.zero_le _, rfl, by simp, by rw [HLL.out]; exact World.ownsRow_nil _ _ _ _, B3.out⟩
        case round =>
          obtain ⟨j, oa, ocap, hj, rfl, rfl, hown, hbel⟩ := hrel
          by_cases hlt : j < m
          · obtain ⟨pb, po, rfl, hp0⟩ := HP.out j (by rw [HM.out]; exact hlt)
            have hpc := (hbel.cell (p := ⟨pb, po + j, none⟩) (blk_lt hp0)).trans hp0
            have hltI : (j : Int) < (m : Int) := by omega
            have htk : l ++ news o (ps.take (j + 1)) = (l ++ news o (ps.take j)) ++ [(ps.getD j 0, o)] := by rw [news_snoc o ps j (by rw [HM.out]; exact hlt), List.append_assoc]
            obtain ⟨x, hx⟩ : ∃ x, x = ps.getD j 0 := ⟨_, rfl⟩
            rw [← hx] at hpc htk
            obtain ⟨ns, hns⟩ : ∃ ns, ns = l ++ news o (ps.take j) := ⟨_, rfl⟩
            rw [← hns] at htk hown
            obtain ⟨N, hN⟩ : ∃ N, N = 0 + j := ⟨_, rfl⟩
            rw [← hN] at hown ⊢
            have hN48 : N ≤ 48 := by omega
            have HTK := hide htk
            have HNN := hide hN
            have HROW := hide hown
            have hz := hbel.size
            have B0 := hide hbel
            clear hp0 hx hns hN hown hbel htk
            go_wp2_with (first
              | (at_builtin; refine wpList_append_own _ rfl _ _ 23 rfl w.heap.size 55 i1 (.agg #[.int .i64 0, .int .i64 0]) 2 16 Try.underlying23 hi1 hy0 hy1 hy2 rfl (by decide) _ _ _ rfl (HROW.out.alloc _) ⟨wr.heap.size, 0, none⟩ 1 1 [.int .i64 x, .int .i64 o] rfl rfl (cell_two_newT _ _ _ _) (by intro u hu; simp at hu; rcases hu with rfl | rfl <;> rfl) (by unfold maxLen; omega) (by omega) (by simp; omega) ?_)
              | go_in)
            intro v6 w6 hown6 hgrow6 hnil6
            have hb6 := B0.out.trans (((Below.refl _ _).alloc hz _).grown hgrow6 (by simp; omega) (fun g hg => (HROW.out.lt g hg).1))
            obtain ⟨g6, c6, rfl, _, _⟩ := own_some hown6 (by first | exact hnil6 | (intro e; have := (hnil6.1 e).2; omega))
            have hown8 : w6.ownsRow w.heap.size 55 2 (.slice (some ⟨g6, 0, none⟩) (N + 1) c6) (N + 1) (flat (l ++ news o (ps.take (j + 1)))) := by
              rw [HTK.out, flat_append]; simpa [flat] using hown6
            rw [show N + 1 = 0 + (j + 1) by have := HNN.out; omega] at hown8 ⊢
            have hown7 := hide hown8
            clear hown6 hgrow6 hown8 hnil6
            go_wp2
            go_roundw
            case rel => exact ⟨j + 1, some ⟨g6, 0, none⟩, c6, by omega, by go_num, rfl, hown7.out, hb6⟩
            case measure => simp [intOf]; omega
          · obtain rfl : j = m := by omega
            have hltI : ¬ (j : Int) < (j : Int) := by omega
            rw [show ps.take j = ps from List.take_of_length_le (by rw [HM.out]; exact Nat.le_refl _)] at hown
            have hj1 : 1 ≤ j := by have := HASK.out.2.2.1.1; rw [HM.out] at this; exact this
            obtain ⟨N, hN⟩ : ∃ N, N = 0 + j := ⟨_, rfl⟩
            have hlN : (l ++ news o ps).length = N := by rw [List.length_append, HN.out, hN]; unfold news; rw [List.length_map, HM.out]
            rw [← hN] at hown ⊢
            have hN48 : N ≤ 48 := by omega
            obtain ⟨g, ocap', e, _, _⟩ := own_some hown (fun e => by cases e; omega)
            cases e
            obtain ⟨ys, hys⟩ : ∃ ys : List BT, ys.map Subtype.val = l ++ news o ps := by
              have HI := HIN.out
              generalize l ++ news o ps = q at HI
              clear hown hlN
              induction q with
              | nil => exact ⟨[], rfl⟩
              | cons p q ih =>
                obtain ⟨ys, hys⟩ := ih (fun p hp => HI p (by simp [hp]))
                exact ⟨⟨p, HI p (by simp)⟩ :: ys, by simp [hys]⟩
            rw [← hys] at hown
            have hyl : ys.length = N := by rw [← hlN, ← hys, List.length_map]
            have C6 := hide (sort_any w.heap.size g N ocap ys wr hyl (by omega) hown)
            have hgb := (hown.lt g rfl).1
            have hz := hbel.size
            have B0 := hide hbel
            have HYS := hide hys
            have HLN := hide hlN
            clear hown hyl hys hN hlN hbel
            go_wp2_with fail
            refine C6.out.mono ?_
            rintro e w4 ⟨rfl, zs, hperm, hup, hown4, hgr4⟩
            have hperm2 := hperm
            rw [HYS.out] at hperm2
            have hzl : zs.length = N := by rw [hperm2.length_eq, HLN.out]
            have B4 := hide (B0.out.trans ((Below.refl _ _).grown hgr4 hz (fun k hk => by cases hk; exact hgb)))
            have HOW := hide hown4
            by_cases hgz : GoodT zs
            · have C7 := hide (goodRing_any (some ⟨g, 0, none⟩) zs N ocap w4 hzl (own_sl2 hown4) (by omega) true (by simp [hgz]))
              have HR0 : Hid (r = some zs) := by show r = some zs; rw [HR.out]; exact addRes_some HASK.out hperm2 hgz
              have HZL := hide hzl
              clear hgz hperm hperm2 hup hown4 hgr4 hzl
              go_wp2_with fail
              refine C7.out.mono ?_
              rintro e w5 ⟨rfl, hb5⟩
              have O5 := hide (own_belowT HOW.out hb5)
              have B5 := hide (B4.out.trans (hb5.mono B4.out.size))
              clear hb5
              go_wp2
              go_ret2
              exact ⟨_, by rw [HR0.out]; rfl, by rw [HR0.out]; simp only [Option.getD_some]; rw [HZL.out]; exact O5.out, B5.out⟩
            · have C7 := hide (goodRing_any (some ⟨g, 0, none⟩) zs N ocap w4 hzl (own_sl2 hown4) (by omega) false (by simp [hgz]))
              have HR0 : Hid (r = none) := by show r = none; rw [HR.out]; exact addRes_bad hperm2 hup hgz
              clear hgz hperm hperm2 hup hown4 hgr4 hzl
              go_wp2_with fail
              refine C7.out.mono ?_
              rintro e w5 ⟨rfl, hb5⟩
              have B5 := hide (B4.out.trans (hb5.mono B4.out.size))
              clear hb5
              go_wp2
              go_ret2
              exact HNO.out _ _ HR0.out rfl B5.out
      · have C4 := hide (fun w hs => risingPlaces_any ap ps m pcap w hm hs hm2 false (by simp [hpl]))
        have hr' : r = none := by
          rw [hr]
          by_cases h8 : 1 ≤ ps.length ∧ ps.length ≤ 8
          · by_cases hri : Rises ps
            · have : ¬ ∀ j, j < ps.length → 0 ≤ ps.getD j 0 ∧ ps.getD j 0 ≤ 1008 := fun h => hpl ⟨h8, h, hri⟩
              obtain ⟨j, hj⟩ := Classical.not_forall.1 this
              obtain ⟨hj, hno⟩ := Classical.not_imp.1 hj
              refine addRes_out (p := (ps.getD j 0, o)) ?_ (fun h => hno ⟨h.1, h.2.1⟩)
              refine List.mem_append.2 (.inr ?_)
              unfold news
              refine List.mem_map.2 ⟨ps.getD j 0, ?_, rfl⟩
              simp only [List.getD, List.getElem?_eq_getElem hj, Option.getD_some]
              exact List.getElem_mem hj
            · exact addRes_ask (fun h => hri h.2.2.2)
          · exact addRes_ask (fun h => h8 h.2.2.1)
        have HR := hide hr'
        have HS := hide hs
        have HP := hide hp
        clear hr hr' hg hh hs hn hp hm hpl
        go_enter Try.func5, Try.ntmps5
        go_wp2_with fail
        refine C1.out.mono ?_
        rintro e w1 ⟨rfl, hb1⟩
        have B1 := hide hb1
        have S1 := hide (HS.out.below hb1)
        clear hb1
        go_wp2_with fail
        refine (C3.out _ S1.out).mono ?_
        rintro e w2 ⟨rfl, hb2⟩
        have B2 := hide (B1.out.trans (hb2.mono B1.out.size))
        clear hb2
        go_wp2_with fail
        refine (C4.out _ (HP.out.below B2.out)).mono ?_
        rintro e w2 ⟨rfl, rfl⟩
        go_wp2
        go_ret2
        exact HNO.out _ _ HR.out rfl B2.out
  · have C1 := hide (goodRing_any (none) l 0 0 w hn hs hn2 false (by simp [hg]))
    have hr' : r = none := by rw [hr]; exact addRes_ask (fun h => hg h.1)
    have HR0 := hide hr'
    clear hr hr' hg hs hn hp hm
    go_enter Try.func5, Try.ntmps5
    go_wp2_with fail
    refine C1.out.mono ?_
    rintro e w1 ⟨rfl, hb1⟩
    have B1 := hide hb1
    clear hb1
    go_wp2
    go_ret2
    exact HNO.out _ _ HR0.out rfl B1.out
end Go.Proofs.Ytkjljkfjcngkcaa.L3
