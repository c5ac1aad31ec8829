/-
  Contract: impl.MergeLabels: two good lists of labels merged, in new memory, and true, where they are at most six; else no list and false.
-/
import Derived.Test.YthagpceagifjnaaDoorL3InOrder
namespace Go.Proofs.YthagpceagifjnaaDoor.L3
open Go.RowKit L1 Go.Maps
set_option linter.unusedVariables false

theorem take_snocL (l : List Lb) (k : Nat) (hk : k < l.length) : l.take (k + 1) = l.take k ++ [l.getD k eL] := by
  rw [List.take_succ_eq_append_getElem hk]
  simp [List.getD, List.getElem?_eq_getElem hk]
theorem merged_is {a b zs : List Lb} (ha : GoodL a) (hb : GoodL b) (hu : UpL zs) (hm : ∀ x, x ∈ zs ↔ MM (a ++ b) x.1 = some x) : zs = mg a b := by
  have h1 := good_upL ha
  have h2 := good_upL hb
  refine upL_uniq hu (mg_up _ a b (Nat.le_refl _) h1 h2) (fun p => ?_)
  rw [hm, MM_in h1 h2, mg_mem _ a b (Nat.le_refl _) h1 h2]
theorem mg_ok {a b : List Lb} (ha : GoodL a) (hb : GoodL b) : ∀ p ∈ mg a b, okL p := fun p hp => by
  rcases (mg_mem _ a b (Nat.le_refl _) (good_upL ha) (good_upL hb) p).1 hp with h | ⟨h, _⟩
  · exact good_memL hb p h
  · exact good_memL ha p h
theorem ok_size {l : List Lb} (h : ∀ p ∈ l, okL p) : ∀ j, j < l.length → (l.getD j eL).1.size ≤ 9223372036854775807 ∧ (l.getD j eL).2.size ≤ 9223372036854775807 := fun j hj => by
  simp only [List.getD, List.getElem?_eq_getElem hj, Option.getD_some]
  have := h _ (List.getElem_mem hj)
  have h1 := this.1.1.2
  have h2 := this.2.1.2
  omega

open Classical in
set_option maxRecDepth 100000 in
set_option maxHeartbeats 8000000 in
theorem merge_opt (a1 a2 : Option Addr) (a b : List Lb) (n1 n2 c1 c2 : Nat) (w : World) (hn1 : a.length = n1) (hs1 : SlL w a1 a) (hn2 : b.length = n2) (hs2 : SlL w a2 b) (hm1 : n1 ≤ 1048576) (hm2 : n2 ≤ 1048576)
    (ht1 : ∀ j, j < a.length → (a.getD j eL).1.size ≤ 9223372036854775807 ∧ (a.getD j eL).2.size ≤ 9223372036854775807) (ht2 : ∀ j, j < b.length → (b.getD j eL).1.size ≤ 9223372036854775807 ∧ (b.getD j eL).2.size ≤ 9223372036854775807) (r : Option (List Lb)) (hr : r = mrgRes a b) :
    Calls Tryd.prog 68 #[.slice a1 n1 c1, .slice a2 n2 c2] w fun e w' => RetLb w r e w' := by
  have NO : ∀ e w', r = none → e = .returned (.tuple #[.slice none 0 0, .bool false]) → Below w.heap.size w w' → RetLb w r e w' := fun e w' h1 h2 h3 => ⟨.slice none 0 0, by rw [h2, h1]; rfl, by rw [h1]; exact World.ownsRow_nil _ _ _ _, h3⟩
  have HNO := hide NO
  clear NO
  by_cases hg1 : GoodL a
  · have C1 := hide (goodLabels_any a1 a n1 c1 w hn1 hs1 hm1 ht1 true (by simp [hg1]))
    by_cases hg2 : GoodL b
    · have C2 := hide (fun w hs => goodLabels_any a2 b n2 c2 w hn2 hs hm2 ht2 true (by simp [hg2]))
      have h61 : n1 ≤ 6 := by have := hg1.1; omega
      have h62 : n2 ≤ 6 := by have := hg2.1; omega
      have hrr : r = if (mg a b).length ≤ 6 then some (mg a b) else none := by
        rw [hr]; unfold mrgRes
        by_cases h : (mg a b).length ≤ 6
        · rw [if_pos ⟨hg1, hg2, h⟩, if_pos h]
        · rw [if_neg (fun hh => h hh.2.2), if_neg h]
      have HRR := hide hrr
      have HG1 := hide hg1
      have HG2 := hide hg2
      have HZ1 := hide (fun j hj => (hg1.2 j hj).1.1.1.2)
      have HZ2 := hide (fun j hj => (hg2.2 j hj).1.1.1.2)
      have HS1 := hide hs1
      have HS2 := hide hs2
      have HN1 := hide hn1
      have HN2 := hide hn2
      have hmm := @run_makeMap Tryd.prog
      clear hr hrr hg1 hg2 hs1 hs2 hn1 hn2 ht1 ht2
      go_enter Tryd.func68, Tryd.ntmps68
      go_wp2_with fail
      refine C1.out.mono ?_
      rintro e w1 ⟨rfl, hb1⟩
      have B1 := hide hb1
      clear hb1
      go_wp2_with fail
      refine (C2.out _ (HS2.out.below B1.out)).mono ?_
      rintro e w2 ⟨rfl, hb2⟩
      have B2 := hide (B1.out.trans (hb2.mono B1.out.size))
      clear hb2
      have hz2 := B2.out.size
      go_wp2
      obtain ⟨Bm, hBme⟩ : ∃ Bm, Bm = w2.heap.size := ⟨_, rfl⟩
      have hBm : w.heap.size ≤ Bm := by omega
      have HMADE := hide (World.ownsMap_made w2 Tryd.prog 9 RL)
      have B3 := hide (B2.out.alloc hz2 (.map #[] 0))
      rw [← hBme] at HMADE ⊢
      clear hBme
      go_loopw [23] (fun i wr => ∃ (k : Nat) (D : DataW Unit), k ≤ n1 ∧ i = .int .i64 k ∧ wr.ownsMap Tryd.prog 9 RL Bm (0 + k) D ∧ Hid (RepM D (MM ((a.take k)))) ∧ Below w.heap.size w wr) (fun i _ => n1 - (intOf i).toNat)
      case atStart => exact ⟨0, .map [], Nat.zero_le _, rfl, HMADE.out, rep_nil, B3.out⟩
      case round =>
        obtain ⟨k, D, hk, rfl, hown, HREP, hbel⟩ := hrel
        by_cases hlt : k < n1
        · obtain ⟨b1, o1, rfl, hc0, hd0⟩ := HS1.out k (by rw [HN1.out]; exact hlt)
          have hc := (hbel.cell (p := ⟨b1, o1 + k * 2, none⟩) (blk_lt hc0)).trans hc0
          have hd := (hbel.cell (p := ⟨b1, o1 + k * 2 + 1, none⟩) (blk_lt hd0)).trans hd0
          have hltI : (k : Int) < (n1 : Int) := by omega
          have hz := HZ1.out k (by rw [HN1.out]; exact hlt)
          have htk := take_snocL a k (by rw [HN1.out]; exact hlt)
          obtain ⟨x, hx⟩ : ∃ x, x = (a.getD k eL).1 := ⟨_, rfl⟩
          obtain ⟨y, hy⟩ : ∃ y, y = (a.getD k eL).2 := ⟨_, rfl⟩
          have hxy : a.getD k eL = (x, y) := by rw [hx, hy]
          rw [hxy] at htk
          rw [← hx] at hc hz
          rw [← hy] at hd
          have hkey : keyOf Tryd.prog 9 (.string x) = some (kl x) := WideMaps.keyOf_string_mk Tryd.underlying9 (by unfold maxLen; omega)
          have HREP2 : Hid (RepM (D.put (kl x) (elD (x, y))) (MM ((a.take (k + 1))))) := by
            show RepM _ _
            rw [htk]
            have := rep_put HREP.out (x, y)
            simpa only [List.append_assoc] using this
          have HOWN := hide hown
          have B0 := hide hbel
          have hsz := hbel.size
          have HKEY := hide hkey
          clear hc0 hd0 hx hy hxy htk hown hbel hz hkey HREP
          go_wp2_with (first
            | (at_mapUpdate; refine wpList_mapUpdate_own _ rfl _ _ _ 117 rfl 9 105 lawS Tryd.underlying117 RL Bm (0 + k) D rfl (HOWN.out.alloc _) (by unfold maxLen; omega) _ _ _ rfl rfl HKEY.out (elD (x, y)) [] (RL_mk (x, y)) ?_)
            | go_in)
          intro w6 hown6 hgrow6
          have hb6 := (B0.out.alloc hsz _).grown hgrow6 (by simp; omega) (fun g hg => by cases hg; exact hBm)
          have O6 := hide hown6
          have B6 := hide hb6
          clear hown6 hgrow6 hb6
          go_wp2
          go_roundw
          case rel => exact ⟨k + 1, _, by omega, by go_num, O6.out.mono (by omega), HREP2.out, B6.out⟩
          case measure => simp [intOf]; omega
        · obtain rfl : n1 = k := by omega
          have hltI : ¬ (n1 : Int) < (n1 : Int) := by omega
          rw [show a.take n1 = a from List.take_of_length_le (by rw [HN1.out]; exact Nat.le_refl _)] at HREP
          have HOWN := hide hown
          have B0 := hide hbel
          clear hown hbel
          rw [Nat.zero_add] at HOWN
          go_wp2
          go_loopw [34] (fun i wr => ∃ (k : Nat) (D : DataW Unit), k ≤ n2 ∧ i = .int .i64 k ∧ wr.ownsMap Tryd.prog 9 RL Bm (n1 + k) D ∧ Hid (RepM D (MM (a ++ (b.take k)))) ∧ Below w.heap.size w wr) (fun i _ => n2 - (intOf i).toNat)
          case atStart => exact ⟨0, D, Nat.zero_le _, rfl, HOWN.out, by show RepM D _; simpa using HREP.out, B0.out⟩
          case round =>
            clear HOWN HREP B0
            obtain ⟨k, D, hk, rfl, hown, HREP, hbel⟩ := hrel
            by_cases hlt : k < n2
            · obtain ⟨b2, o2, rfl, hc0, hd0⟩ := HS2.out k (by rw [HN2.out]; exact hlt)
              have hc := (hbel.cell (p := ⟨b2, o2 + k * 2, none⟩) (blk_lt hc0)).trans hc0
              have hd := (hbel.cell (p := ⟨b2, o2 + k * 2 + 1, none⟩) (blk_lt hd0)).trans hd0
              have hltI : (k : Int) < (n2 : Int) := by omega
              have hz := HZ2.out k (by rw [HN2.out]; exact hlt)
              have htk := take_snocL b k (by rw [HN2.out]; exact hlt)
              obtain ⟨x, hx⟩ : ∃ x, x = (b.getD k eL).1 := ⟨_, rfl⟩
              obtain ⟨y, hy⟩ : ∃ y, y = (b.getD k eL).2 := ⟨_, rfl⟩
              have hxy : b.getD k eL = (x, y) := by rw [hx, hy]
              rw [hxy] at htk
              rw [← hx] at hc hz
              rw [← hy] at hd
              have hkey : keyOf Tryd.prog 9 (.string x) = some (kl x) := WideMaps.keyOf_string_mk Tryd.underlying9 (by unfold maxLen; omega)
              have HREP2 : Hid (RepM (D.put (kl x) (elD (x, y))) (MM (a ++ (b.take (k + 1))))) := by
                show RepM _ _
                rw [htk]
                have := rep_put HREP.out (x, y)
                simpa only [List.append_assoc] using this
              have HOWN := hide hown
              have B0 := hide hbel
              have hsz := hbel.size
              have HKEY := hide hkey
              clear hc0 hd0 hx hy hxy htk hown hbel hz hkey HREP
              go_wp2_with (first
                | (at_mapUpdate; refine wpList_mapUpdate_own _ rfl _ _ _ 117 rfl 9 105 lawS Tryd.underlying117 RL Bm (n1 + k) D rfl (HOWN.out.alloc _) (by unfold maxLen; omega) _ _ _ rfl rfl HKEY.out (elD (x, y)) [] (RL_mk (x, y)) ?_)
                | go_in)
              intro w6 hown6 hgrow6
              have hb6 := (B0.out.alloc hsz _).grown hgrow6 (by simp; omega) (fun g hg => by cases hg; exact hBm)
              have O6 := hide hown6
              have B6 := hide hb6
              clear hown6 hgrow6 hb6
              go_wp2
              go_roundw
              case rel => exact ⟨k + 1, _, by omega, by go_num, O6.out.mono (by omega), HREP2.out, B6.out⟩
              case measure => simp [intOf]; omega
            · obtain rfl : k = n2 := by omega
              have hltI : ¬ (k : Int) < (k : Int) := by omega
              rw [show b.take k = b from List.take_of_length_le (by rw [HN2.out]; exact Nat.le_refl _)] at HREP
              have HOWN := hide hown
              have B0 := hide hbel
              clear hown hbel
              have C5 := hide (inOrder_any Bm (n1 + k) D (MM (a ++ b)) wr HOWN.out (by omega) HREP.out)
              go_wp2_with fail
              refine C5.out.mono ?_
              rintro e w5 ⟨v5, zs, rfl, hown5, hup5, hmem5, hb5⟩
              have ezs := merged_is HG1.out HG2.out hup5 hmem5
              subst ezs
              have hok := mg_ok HG1.out HG2.out
              have hml := mg_len _ a b (Nat.le_refl _)
              have hlen : (mg a b).length ≤ 1048576 := by rw [HN1.out, HN2.out] at hml; omega
              have B5 := hide (B0.out.trans (hb5.mono B0.out.size))
              have O5 := hide (own_baseT hown5 B0.out.size)
              obtain ⟨a5, c5, rfl⟩ := own_shapeL hown5
              have hrr := HRR.out
              by_cases h6 : (mg a b).length ≤ 6
              · have hgz : GoodL (mg a b) := goodL_of h6 hok hup5
                have C7 := hide (goodLabels_any a5 (mg a b) _ c5 w5 rfl (own_slL hown5) hlen (ok_size hok) true (by simp [hgz]))
                rw [if_pos h6] at hrr
                have HR0 := hide hrr
                obtain ⟨M, hM⟩ : ∃ M, M = mg a b := ⟨_, rfl⟩
                rw [← hM] at C7 HR0 O5 ⊢
                clear hgz hok hml hlen hup5 hmem5 hown5 hb5 hrr h6 hM
                go_wp2_with fail
                refine C7.out.mono ?_
                rintro e w6 ⟨rfl, hb6⟩
                have O6 := hide (own_belowT O5.out hb6)
                have B6 := hide (B5.out.trans (hb6.mono B5.out.size))
                clear hb6
                go_wp2
                go_ret2
                exact ⟨_, by rw [HR0.out]; rfl, by rw [HR0.out]; exact O6.out, B6.out⟩
              · have hgz : ¬ GoodL (mg a b) := fun h => h6 h.1
                have C7 := hide (goodLabels_any a5 (mg a b) _ c5 w5 rfl (own_slL hown5) hlen (ok_size hok) false (by simp [hgz]))
                rw [if_neg h6] at hrr
                have HR0 := hide hrr
                obtain ⟨M, hM⟩ : ∃ M, M = mg a b := ⟨_, rfl⟩
                rw [← hM] at C7 O5 ⊢
                clear hgz hok hml hlen hup5 hmem5 hown5 hb5 hrr h6 hM
                go_wp2_with fail
                refine C7.out.mono ?_
                rintro e w6 ⟨rfl, hb6⟩
                have B6 := hide (B5.out.trans (hb6.mono B5.out.size))
                clear hb6
                go_wp2
                go_ret2
                exact HNO.out _ _ HR0.out rfl B6.out
    · have C2 := hide (fun w hs => goodLabels_any a2 b n2 c2 w hn2 hs hm2 ht2 false (by simp [hg2]))
      have hr' : r = none := by rw [hr]; unfold mrgRes; rw [if_neg (fun hh => hg2 hh.2.1)]
      have HR0 := hide hr'
      have HS2 := hide hs2
      clear hr hr' hg1 hg2 hs1 hs2 hn1 hn2 ht1 ht2
      go_enter Tryd.func68, Tryd.ntmps68
      go_wp2_with fail
      refine C1.out.mono ?_
      rintro e w1 ⟨rfl, hb1⟩
      have B1 := hide hb1
      clear hb1
      go_wp2_with fail
      refine (C2.out _ (HS2.out.below B1.out)).mono ?_
      rintro e w2 ⟨rfl, hb2⟩
      have B2 := hide (B1.out.trans (hb2.mono B1.out.size))
      clear hb2
      go_wp2
      go_ret2
      exact HNO.out _ _ HR0.out rfl B2.out
  · have C1 := hide (goodLabels_any a1 a n1 c1 w hn1 hs1 hm1 ht1 false (by simp [hg1]))
    have hr' : r = none := by rw [hr]; unfold mrgRes; rw [if_neg (fun hh => hg1 hh.1)]
    have HR0 := hide hr'
    clear hr hr' hg1 hs1 hs2 hn1 hn2 ht1 ht2
    go_enter Tryd.func68, Tryd.ntmps68
    go_wp2_with fail
    refine C1.out.mono ?_
    rintro e w1 ⟨rfl, hb1⟩
    have B1 := hide hb1
    clear hb1
    go_wp2
    go_ret2
    exact HNO.out _ _ HR0.out rfl B1.out
theorem merge_some (b1 o1 b2 o2 : Nat) (a b : List Lb) (n1 n2 c1 c2 : Nat) (w : World) (hn1 : a.length = n1) (hs1 : SlL w (some ⟨b1, o1, none⟩) a) (hn2 : b.length = n2) (hs2 : SlL w (some ⟨b2, o2, none⟩) b) (hm1 : n1 ≤ 1048576) (hm2 : n2 ≤ 1048576)
    (ht1 : ∀ j, j < a.length → (a.getD j eL).1.size ≤ 9223372036854775807 ∧ (a.getD j eL).2.size ≤ 9223372036854775807) (ht2 : ∀ j, j < b.length → (b.getD j eL).1.size ≤ 9223372036854775807 ∧ (b.getD j eL).2.size ≤ 9223372036854775807) (r : Option (List Lb)) (hr : r = mrgRes a b) :
    Calls Tryd.prog 68 #[.slice (some ⟨b1, o1, none⟩) n1 c1, .slice (some ⟨b2, o2, none⟩) n2 c2] w fun e w' => RetLb w r e w' :=
  merge_opt (some ⟨b1, o1, none⟩) (some ⟨b2, o2, none⟩) a b n1 n2 c1 c2 w hn1 hs1 hn2 hs2 hm1 hm2 ht1 ht2 r hr
end Go.Proofs.YthagpceagifjnaaDoor.L3
