/-
  Contract: the draw of entries.
-/
import Derived.Test.YtdnmklcnlndmhacL7DrawB
import Derived.Deep.DeepCutAuto
import Derived.Maps.AppendAt
namespace Go.Proofs.Ytdnmklcnlndmhac.L7
open Go.RowKit L1
set_option linter.unusedVariables false

set_option maxRecDepth 100000 in
set_option maxHeartbeats 4000000 in
theorem entries_any (b N : Nat) (w : World) (h : Cur w b N) (hN : N ≤ 100000000) :
    Calls Try.prog 41 #[.pointer (some ⟨b, 0, none⟩)] w fun e w' => ∃ v, e = .returned v ∧ OwnEn w' w.heap.size v 41 1001 ∧ Cur w' b (N + 300) ∧ w.grownBy w' (some b) := by
  obtain ⟨i1, hi1, hy0, hy1, hy2⟩ := info_parts info_ent
  have hbw := h.lt
  have HC := hide h
  clear h
  go_enter Try.func41, Try.ntmps41
  go_wp2_with fail
  refine (pick_any b N 8 _ HC.out (by omega) (by omega) (by omega)).mono ?_
  rintro e w1 ⟨x1, rfl, hx0, _, hx1, hc1, hg1⟩
  have hx1' := hx1 (by omega)
  have C1 := hide hc1
  have G1 := hide hg1
  clear hc1 hg1 hx1 HC
  go_wp2_with fail
  refine (one_any b _ 20 _ C1.out (by omega) (by omega) (by omega)).mono ?_
  rintro e w2 ⟨t2, rfl, hc2, hg2⟩
  have C2 := hide hc2
  have G2 := hide (grown_trans G1.out hg2)
  clear hc2 hg2 C1 G1
  go_upto_if 9 with fail
  go_cut [4] (fun nv wx => ∃ n : Nat, nv = .int .i64 n ∧ n ≤ 41 ∧ Cur wx b (N + 6) ∧ w.grownBy wx (some b))
  case first =>
    cases t2 with
    | true =>
      go_wp2_with fail
      refine (pick_any b _ 3 _ C2.out (by omega) (by omega) (by omega)).mono ?_
      rintro e w3 ⟨x3, rfl, h30, _, h31, hc3, hg3⟩
      have h31' := h31 (by omega)
      obtain ⟨k3, rfl⟩ : ∃ k : Nat, x3 = (k : Int) := ⟨x3.toNat, by omega⟩
      have C3 := hide hc3
      have G3 := hide (grown_trans G2.out hg3)
      clear hc3 hg3 h31
      go_wp2_with fail
      go_meet
      exact ⟨39 + k3, by simp, by omega, C3.out, G3.out⟩
    | false =>
      obtain ⟨k1, rfl⟩ : ∃ k : Nat, x1 = (k : Int) := ⟨x1.toNat, by omega⟩
      go_wp2_with fail
      go_meet
      exact ⟨k1, rfl, by omega, C2.out.mono (by omega), G2.out⟩
  case rest =>
    obtain ⟨n0, rfl, hn0, hcc, hgg⟩ := hcut
    have C3 := hide hcc
    have G3 := hide hgg
    clear hcc hgg C2 G2
    go_wp2
    go_loopw [3, 4, 5] (fun lv nv ev wr => ∃ (j : Nat) (E : Int), nv = .int .i64 j ∧ ev = .int .i64 E ∧ j ≤ 41 ∧ 1 ≤ E ∧ E + 2 * (j : Int) ≤ 100 ∧ OwnEn wr w.heap.size lv (41 - j) 1001 ∧ Cur wr b (N + 6 + 6 * (41 - j)) ∧ w.grownBy wr (some b)) (fun _ nv _ _ => (intOf nv).toNat)
    case atStart => exact ⟨n0, 1, rfl, rfl, hn0, by omega, by omega, ⟨[], by simp, by simp, World.ownsRow_nil _ _ _ _⟩, C3.out.mono (by omega), G3.out⟩
    case round =>
      obtain ⟨j, E, rfl, rfl, hj, hE1, hE2, hO, hC, hG⟩ := hrel
      obtain ⟨l, hl, hlp, hlo⟩ := hO
      obtain ⟨n, hn⟩ : ∃ n, n = l.length := ⟨_, rfl⟩
      rw [← hn] at hl hlo
      obtain ⟨oa, ocap, rfl, hcap, _⟩ := own_shape7 hlo
      have hsz := hG.size
      have HN := hide hn.symm
      have HLP := hide hlp
      have HROW := hide hlo
      have HCC := hide hC
      have HG := hide hG
      clear hn hlp hlo hC hG C3 G3
      cases j with
      | succ j =>
        have hjp : (0 : Int) < (j : Int) + 1 := by omega
        go_wp2_with fail
        refine (pick_any b _ 3 _ HCC.out (by omega) (by omega) (by omega)).mono ?_
        rintro e w3 ⟨x3, rfl, h30, _, h31, hc3, hg3⟩
        have h31' := h31 (by omega)
        obtain ⟨q, hq⟩ : ∃ q, Int.tdiv x3 2 = q := ⟨_, rfl⟩
        have hq0 : 0 ≤ q ∧ q ≤ 1 := by rw [← hq, Int.tdiv_eq_ediv_of_nonneg h30]; omega
        have C3 := hide hc3
        have G3 := hide (grown_trans HG.out hg3)
        have O3 := hide (own_grown4 HROW.out hg3 (by omega))
        clear hc3 hg3 h31 HCC HG HROW
        go_wp2_with fail
        refine (pick_any b _ 2 _ C3.out (by omega) (by omega) (by omega)).mono ?_
        rintro e w4 ⟨x4, rfl, h40, _, h41, hc4, hg4⟩
        have h41' := h41 (by omega)
        obtain ⟨r, hr⟩ : ∃ r, q * (1 + x4) = r := ⟨_, rfl⟩
        have hr0 : 0 ≤ r ∧ r ≤ 2 := by
          rw [← hr]
          have h1 : q = 0 ∨ q = 1 := by omega
          rcases h1 with e | e
          · rw [e]; simp
          · rw [e]; omega
        have hr1 := hr0.1
        have hr2 := hr0.2
        have C4 := hide hc4
        have G4 := hide (grown_trans G3.out hg4)
        have O4 := hide (own_grown4 O3.out hg4 (by omega))
        have hz4 := G4.out.size
        clear hc4 hg4 h41 C3 G3 O3 hr0
        have AM := hide (of_any b (N + 6 + 6 * (41 - (j + 1)) + 2 + 2) w4.heap.size 3 3 (w4.alloc (.cells #[.string ⟨#[97]⟩, .string ⟨#[98]⟩, .string ⟨#[99]⟩] 9)) (C4.out.alloc _) (by omega) (by omega) (by omega) (by omega) (txts_new w4 [⟨#[97]⟩, ⟨#[98]⟩, ⟨#[99]⟩] 9 (by decide)))
        go_wp2_with fail
        refine AM.out.mono ?_
        rintro e w5 ⟨s, rfl, hs, hc5, hg5⟩
        have C5 := hide hc5
        have G5 := hide (grown_trans G4.out (grown_trans (grown_alloc _ _ _) hg5))
        have O5 := hide (own_grown4 (O4.out.alloc (.cells #[.string ⟨#[97]⟩, .string ⟨#[98]⟩, .string ⟨#[99]⟩] 9)) hg5 (by omega))
        have hz5 := G5.out.size
        clear hc5 hg5 AM C4 G4 O4 hq hr
        go_wp2_with (first
          | (at_builtin; refine wpList_append_own _ rfl _ _ 23 rfl w.heap.size 33 i1 (.agg #[.int .i64 0, .string ByteArray.empty]) 2 24 Try.underlying23 hi1 hy0 hy1 hy2 rfl (by decide) _ _ _ rfl (O5.out.alloc _) ⟨w5.heap.size, 0, none⟩ 1 1 [.int .i64 (E + r), .string s] rfl rfl (cell_two_at _ _ _ _) (by intro u hu; simp at hu; rcases hu with rfl | rfl <;> rfl) (by unfold maxLen; omega) (by omega) (by simp; omega) ?_)
          | go_in)
        intro v6 w6 hown6 hgrow6 _
        have hb6 : Below w.heap.size w5 w6 := ((Below.refl _ _).alloc (by omega) _).grown hgrow6 (by simp; omega) (fun g hg => (O5.out.lt g hg).1)
        have O6 : Hid (OwnEn w6 w.heap.size v6 (41 - j) 1001) := by
          refine ⟨l ++ [(E + r, s)], by simp; have := HN.out; omega, fun p hp => ?_, ?_⟩
          · rcases List.mem_append.1 hp with h | h
            · exact HLP.out p h
            · simp at h; subst h; exact ⟨⟨by show 0 ≤ E + r; omega, by show E + r ≤ 1001; omega⟩, hs⟩
          · rw [flatE_snoc, List.length_append, HN.out]
            exact hown6
        have C6 := hide (C5.out.kept (fun i hi => hb6.block i (by omega)))
        have G6 := hide (grown_low G5.out hb6)
        clear hown6 hgrow6 hb6 C5 G5 O5
        go_wp2
        go_roundw
        case rel => exact ⟨j, E + r, by go_num, rfl, by omega, by omega, by omega, O6.out, C6.out.mono (by omega), G6.out⟩
        case measure => simp [intOf]
      | zero =>
        by_cases hn0 : 0 < (n : Int)
        · obtain ⟨g, ocap', e'⟩ : ∃ g c, Value.slice oa n ocap = .slice (some ⟨g, 0, none⟩) n c := by
            rcases HROW.out.2 with ⟨_, h0⟩ | ⟨g, cap, cur, hv, _⟩
            · omega
            · exact ⟨g, cap, hv⟩
          cases e'
          have hgw := (HROW.out.lt g rfl).1
          go_wp2_with fail
          refine (one_any b _ 20 _ HCC.out (by omega) (by omega) (by omega)).mono ?_
          rintro e w5 ⟨t5, rfl, hc5, hg5⟩
          have O5 := hide (own_grown4 HROW.out hg5 (by omega))
          have C5 := hide hc5
          have G5 := hide (grown_trans HG.out hg5)
          have hz5 := G5.out.size
          clear hc5 hg5 HCC HG HROW
          cases t5 with
          | true =>
            go_wp2_with fail
            refine (pick_any b _ (n : Int) _ C5.out (by omega) (by omega) (by omega)).mono ?_
            rintro e w6 ⟨x6, rfl, hx6, _, hx6', hc6, hg6⟩
            have hx6'' := hx6' (by omega)
            obtain ⟨j, rfl⟩ : ∃ j : Nat, x6 = (j : Int) := ⟨x6.toNat, by omega⟩
            have O6 := hide (own_grown4 O5.out hg6 (by omega))
            have G6 := hide (grown_trans G5.out hg6)
            have hz6 := G6.out.size
            have A1 := hide (among_any b (N + 6 + 6 * (41 - 0) + 2 + 2) w6.heap.size 4 4 [0, 1, 1000, 1001] (w6.alloc (.cells #[.int .i64 0, .int .i64 1, .int .i64 1000, .int .i64 1001] 3)) (hc6.alloc _) (by omega) rfl (by omega) (by omega) (by omega) (lit_row w6 _ _ rfl))
            clear hc6 hg6 O5 G5 C5 hx6'
            go_wp2_with fail
            refine A1.out.mono ?_
            rintro e w7 ⟨j7, hj7, rfl, hc7, hg7⟩
            have hlv := lit4 j7 hj7
            obtain ⟨v7, hv7⟩ : ∃ v, v = ([0, 1, 1000, 1001] : List Int).getD j7 0 := ⟨_, rfl⟩
            rw [← hv7] at hlv ⊢
            have hown7 := own_grown4 (O6.out.alloc (.cells #[.int .i64 0, .int .i64 1, .int .i64 1000, .int .i64 1001] 3)) hg7 (by omega)
            have hfl : (flatE l).length = n * 2 := by rw [flatE_len, HN.out]
            have hcl := hown7.cellAt (j * 2) (by omega)
            have hfr := hown7.frozenAt (j * 2)
            obtain ⟨u, hu⟩ : ∃ u, w7.cell? ⟨g, j * 2, none⟩ = some u := ⟨_, hcl.trans (List.getElem?_eq_getElem (by omega))⟩
            have hs1 := hown7.stored (j * 2) (.int .i64 v7)
            have hbs := (Below.refl w.heap.size w7).setCell (p := ⟨g, j * 2, none⟩) hgw (.int .i64 v7)
            have O9 : Hid (OwnEn (w7.setCell ⟨g, j * 2, none⟩ (.int .i64 v7)) w.heap.size (.slice (some ⟨g, 0, none⟩) n ocap) 41 1001) := by
              refine ⟨l.set j (v7, (l.getD j eE).2), by rw [List.length_set, HN.out]; omega, fun p hp => ?_, ?_⟩
              · rcases List.mem_or_eq_of_mem_set hp with h | h
                · exact HLP.out p h
                · subst h
                  refine ⟨hlv, (HLP.out (l.getD j eE) ?_).2⟩
                  have hj' : j < l.length := by rw [HN.out]; omega
                  rw [show l.getD j eE = l[j] by simp [List.getD, List.getElem?_eq_getElem hj']]
                  exact List.getElem_mem hj'
              · rw [List.length_set, HN.out, flatE_set]
                have hf := (flatE_get l j (by rw [HN.out]; omega)).2
                have hsame : ((flatE l).set (j * 2) (.int .i64 v7)).set (j * 2 + 1) (.string (l.getD j eE).2) = (flatE l).set (j * 2) (.int .i64 v7) := by
                  apply List.ext_getElem?
                  intro i
                  by_cases e : j * 2 + 1 = i
                  · subst e
                    rw [List.getElem?_set_self (by simp; omega), List.getElem?_set_ne (by omega), hf]
                  · rw [List.getElem?_set_ne e]
                rw [hsame]
                exact hs1.1
            have C9 := hide (hc7.kept (fun i hi => hbs.block i (by omega)))
            have G9 := hide (grown_low (grown_trans G6.out (grown_trans (grown_alloc _ _ _) hg7)) hbs)
            have hjI : (j : Int) < (n : Int) := by omega
            clear hown7 hfl hcl hs1 hbs hc7 hg7 A1 O6 G6 hv7
            go_wp2
            go_ret
            exact ⟨_, rfl, O9.out, C9.out.mono (by omega), G9.out⟩
          | false =>
            go_wp2
            go_ret
            exact ⟨_, rfl, ⟨l, by rw [HN.out]; omega, HLP.out, by rw [HN.out]; exact O5.out⟩, C5.out.mono (by omega), G5.out⟩
        · go_wp2
          go_ret
          exact ⟨_, rfl, ⟨l, by rw [HN.out]; omega, HLP.out, by rw [HN.out]; exact HROW.out⟩, HCC.out.mono (by omega), HG.out⟩
end Go.Proofs.Ytdnmklcnlndmhac.L7
