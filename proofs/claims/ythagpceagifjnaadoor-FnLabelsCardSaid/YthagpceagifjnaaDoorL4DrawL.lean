/-
  Contracts: the draws of a text, of labels and of a label.
-/
import Derived.Test.YthagpceagifjnaaDoorL4DrawH
import Derived.Test.YthagpceagifjnaaDoorL4Ser
namespace Go.Proofs.YthagpceagifjnaaDoor.L4
open Go.RowKit L1 L3
set_option linter.unusedVariables false

/-- A row of short texts. -/
def Txts (w : World) (g m : Nat) : Prop := ∀ j, j < m → ∃ s : ByteArray, w.cell? ⟨g, j, none⟩ = some (.string s) ∧ s.size ≤ 20
theorem Txts.grown {w w' : World} {g m b : Nat} (h : Txts w g m) (hg : w.grownBy w' (some b)) (hb : g ≠ b) : Txts w' g m := fun j hj => by
  obtain ⟨s, h1, h2⟩ := h j hj
  exact ⟨s, by rw [World.cell?_of_block (w := w) (hg.block g (blk_lt h1) (by simpa using hb))]; exact h1, h2⟩
theorem txts_new (w : World) (l : List ByteArray) (t : TypeId) (h : ∀ s ∈ l, s.size ≤ 20) : Txts (w.alloc (.cells (l.map Value.string).toArray t)) w.heap.size l.length := fun j hj => by
  refine ⟨l[j], ?_, h _ (List.getElem_mem hj)⟩
  have hb : (w.alloc (.cells (l.map Value.string).toArray t)).heap[w.heap.size]? = some (.cells (l.map Value.string).toArray t (0, 0)) := by show (w.heap.push _)[w.heap.size]? = _; simp
  rw [Lib.cell_of_heap hb]
  simp [hj]
set_option maxRecDepth 100000 in
set_option maxHeartbeats 400000 in
theorem of_any (b N g m cap : Nat) (w : World) (h : Cur w b N) (hN : N ≤ 1000000000) (h1 : 1 ≤ m) (h2 : m ≤ 1000) (hg : g ≠ b) (hs : Txts w g m) :
    Calls Tryd.prog 145 #[.pointer (some ⟨b, 0, none⟩), .slice (some ⟨g, 0, none⟩) m cap] w fun e w' => ∃ s : ByteArray, e = .returned (.string s) ∧ s.size ≤ 20 ∧ Cur w' b (N + 2) ∧ w.grownBy w' (some b) := by
  have HC := hide h
  have HS := hide hs
  clear h hs
  go_enter Tryd.func145, Tryd.ntmps145
  go_wp2_with fail
  refine (pick_any b N _ _ HC.out hN (by omega) (by omega)).mono ?_
  rintro e w1 ⟨x, rfl, hx0, hx1, hxm, hc1, hg1⟩
  have hxm' : x < (m : Int) := hxm (by omega)
  clear hxm
  obtain ⟨j, rfl⟩ : ∃ j : Nat, x = (j : Int) := ⟨x.toNat, by omega⟩
  obtain ⟨s, hc, hsz⟩ := HS.out.grown hg1 hg j (by omega)
  have H1 := hide hc1
  have G1 := hide hg1
  clear hc1 hg1
  go_wp2
  go_ret
  exact ⟨s, rfl, hsz, H1.out, G1.out⟩

/-- Some labels that the caller owns. -/
def OwnLb (w : World) (B : Nat) (v : Value) (m : Nat) : Prop := ∃ l : List Lb, l.length ≤ m ∧ (∀ p ∈ l, p.1.size ≤ 20 ∧ p.2.size ≤ 20) ∧ w.ownsRow B 105 2 v l.length (flatL l)
theorem OwnLb.grown {w w' : World} {B b m : Nat} {v : Value} (h : OwnLb w B v m) (hg : w.grownBy w' (some b)) (hb : b < B) : OwnLb w' B v m := by
  obtain ⟨xs, hl, hp, ho⟩ := h
  exact ⟨xs, hl, hp, own_grown4 ho hg hb⟩
theorem cell_two_at (w : World) (o : Obj) (p q : Value) (t : TypeId) : ∀ j u, [p, q][j]? = some u → (w.alloc (.cells #[p, q] t)).cell? ((⟨w.heap.size, 0, none⟩ : Addr).add j) = some u := by
  intro j u h
  rw [addr_add]
  match j, h with
  | 0, h => simp at h; subst h; simp
  | 1, h => simp at h; subst h; simp
  | j + 2, h => simp at h
theorem flatL_snoc (l : List Lb) (p : Lb) : flatL (l ++ [p]) = flatL l ++ [.string p.1, .string p.2] := by rw [flatL_append]; rfl

set_option maxRecDepth 100000 in
set_option maxHeartbeats 8000000 in
theorem labels_any (b N : Nat) (w : World) (h : Cur w b N) (hN : N ≤ 100000000) :
    Calls Tryd.prog 121 #[.pointer (some ⟨b, 0, none⟩)] w fun e w' => ∃ v, e = .returned v ∧ OwnLb w' w.heap.size v 7 ∧ Cur w' b (N + 60) ∧ w.grownBy w' (some b) := by
  obtain ⟨i1, hi1, hy0, hy1, hy2⟩ := info_parts info_lab
  have hbw := h.lt
  obtain ⟨W0, hW0⟩ : ∃ W0, w.alloc (.cells #[.string ⟨#[97, 112, 112]⟩, .string ⟨#[104, 111, 115, 116]⟩, .string ⟨#[106, 111, 98]⟩, .string ⟨#[108, 101]⟩, .string ⟨#[109, 101, 116, 104, 111, 100]⟩, .string ⟨#[112, 97, 116, 104]⟩, .string ⟨#[122, 111, 110, 101]⟩] 9) = W0 := ⟨_, rfl⟩
  have hT0 : Txts W0 w.heap.size 7 := by rw [← hW0]; exact txts_new w [⟨#[97, 112, 112]⟩, ⟨#[104, 111, 115, 116]⟩, ⟨#[106, 111, 98]⟩, ⟨#[108, 101]⟩, ⟨#[109, 101, 116, 104, 111, 100]⟩, ⟨#[112, 97, 116, 104]⟩, ⟨#[122, 111, 110, 101]⟩] 9 (by decide)
  have hZ0 : W0.heap.size = w.heap.size + 1 := by rw [← hW0]; simp
  have hC0 : Cur W0 b N := by rw [← hW0]; exact h.alloc _
  have hG0 : w.grownBy W0 (some b) := by rw [← hW0]; exact grown_alloc _ _ _
  have HC := hide hC0
  have HG0 := hide hG0
  have HT := hide hT0
  have HW := hide hW0
  clear h hC0 hG0 hT0 hW0
  go_enter Tryd.func121, Tryd.ntmps121
  go_wp2
  rw [HW.out]
  go_loopw [3, 8] (fun lv i wr => ∃ k : Nat, k ≤ 7 ∧ i = .int .i64 k ∧ OwnLb wr (w.heap.size + 1) lv k ∧ Cur wr b (N + 4 * k) ∧ W0.grownBy wr (some b)) (fun _ i _ => 7 - (intOf i).toNat)
  case atStart => exact ⟨0, Nat.zero_le _, rfl, ⟨[], by simp, by simp, World.ownsRow_nil _ _ _ _⟩, HC.out, World.grownBy.refl _ _⟩
  case round =>
    obtain ⟨k, hk, rfl, hP, hC, hG⟩ := hrel
    obtain ⟨l, hl, hlp, hlo⟩ := hP
    obtain ⟨n, hn⟩ : ∃ n, n = l.length := ⟨_, rfl⟩
    rw [← hn] at hl hlo
    obtain ⟨oa, ocap, rfl⟩ := own_shapeT hlo
    have hsz := hG.size
    have HN := hide hn.symm
    have HLP := hide hlp
    have HROW := hide hlo
    have HCC := hide hC
    have HG := hide hG
    clear hn hlp hlo hC hG
    by_cases hlt : k < 7
    · have hltI : (k : Int) < 7 := by omega
      obtain ⟨s, hs, hss⟩ := HT.out.grown HG.out (by omega) k hlt
      go_wp2_with fail
      refine (one_any b _ 3 _ HCC.out (by omega) (by omega) (by omega)).mono ?_
      rintro e w2 ⟨t, rfl, hc2, hg2⟩
      have C2 := hide hc2
      have G2 := hide (grown_trans HG.out hg2)
      have O2 := hide (own_grown4 HROW.out hg2 (by omega))
      have hz2 := G2.out.size
      clear hc2 hg2 HCC HG HROW
      cases t with
      | true =>
        have AM := hide (of_any b (N + 4 * k + 2) w2.heap.size 5 5 (w2.alloc (.cells #[.string ⟨#[97]⟩, .string ⟨#[98]⟩, .string ⟨#[97, 112, 105]⟩, .string ⟨#[119, 101, 98, 49]⟩, .string ⟨#[120, 57]⟩] 9)) (C2.out.alloc _) (by omega) (by omega) (by omega) (by omega) (txts_new w2 [⟨#[97]⟩, ⟨#[98]⟩, ⟨#[97, 112, 105]⟩, ⟨#[119, 101, 98, 49]⟩, ⟨#[120, 57]⟩] 9 (by decide)))
        go_wp2_with fail
        refine AM.out.mono ?_
        rintro e w3 ⟨s2, rfl, hs2, hc3, hg3⟩
        have C3 := hide hc3
        have G3 := hide (grown_trans G2.out (grown_trans (grown_alloc _ _ _) hg3))
        have O3 := hide (own_grown4 (O2.out.alloc (.cells #[.string ⟨#[97]⟩, .string ⟨#[98]⟩, .string ⟨#[97, 112, 105]⟩, .string ⟨#[119, 101, 98, 49]⟩, .string ⟨#[120, 57]⟩] 9)) hg3 (by omega))
        have hz3 := G3.out.size
        clear hc3 hg3 AM C2 G2 O2
        go_wp2_with (first
          | (at_builtin; refine wpList_append_own _ rfl _ _ 61 rfl (w.heap.size + 1) 105 i1 (.agg #[.string ByteArray.empty, .string ByteArray.empty]) 2 32 Tryd.underlying61 hi1 hy0 hy1 hy2 rfl (by decide) _ _ _ rfl (O3.out.alloc _) ⟨w3.heap.size, 0, none⟩ 1 1 [.string s, .string s2] rfl rfl (cell_two_at _ (.cells #[] 0) _ _ _) (by intro u hu; simp at hu; rcases hu with rfl | rfl <;> rfl) (by unfold maxLen; omega) (by omega) (by simp; omega) ?_)
          | go_in)
        intro v6 w6 hown6 hgrow6 _
        have hb6 : Below (w.heap.size + 1) w3 w6 := ((Below.refl _ _).alloc (by omega) _).grown hgrow6 (by simp; omega) (fun g hg => (O3.out.lt g hg).1)
        have O6 : Hid (OwnLb w6 (w.heap.size + 1) v6 (k + 1)) := by
          refine ⟨l ++ [(s, s2)], by simp; have := HN.out; omega, fun p hp => ?_, ?_⟩
          · rcases List.mem_append.1 hp with h | h
            · exact HLP.out p h
            · simp at h; subst h; exact ⟨hss, hs2⟩
          · rw [flatL_snoc, List.length_append, HN.out]
            exact hown6
        have C6 := hide (C3.out.kept (fun i hi => hb6.block i (by omega)))
        have G6 := hide (grown_low G3.out (by rw [hZ0]; exact hb6))
        clear hown6 hgrow6 hb6
        go_wp2
        go_roundw
        case rel => exact ⟨k + 1, by omega, by go_num, O6.out, C6.out.mono (by omega), G6.out⟩
        case measure => simp [intOf]; omega
      | false =>
        go_wp2
        go_roundw
        case rel => exact ⟨k + 1, by omega, by go_num, ⟨l, by have := HN.out; omega, HLP.out, by rw [HN.out]; exact O2.out⟩, C2.out.mono (by omega), G2.out⟩
        case measure => simp [intOf]; omega
    · obtain rfl : k = 7 := by omega
      by_cases hn0 : 0 < (n : Int)
      · obtain ⟨g, ocap', e', hcc⟩ : ∃ g c, Value.slice oa n ocap = .slice (some ⟨g, 0, none⟩) n c ∧ n ≤ c := by
          rcases HROW.out.2 with ⟨_, h0⟩ | ⟨g, cap, cur, hv, _, _, hc, _⟩
          · omega
          · exact ⟨g, cap, hv, hc⟩
        cases e'
        have hgw := (HROW.out.lt g rfl).1
        go_wp2_with fail
        refine (one_any b _ 20 _ HCC.out (by omega) (by omega) (by omega)).mono ?_
        rintro e w5 ⟨t5, rfl, hc5, hg5⟩
        have O5 := hide (own_grown4 HROW.out hg5 (by omega))
        have C5 := hide hc5
        have G5 := hide (grown_trans HG.out hg5)
        have hz5 := G5.out.size
        clear hc5 hg5 HCC HG HROW
        cases t5 with
        | true =>
          go_wp2_with fail
          refine (pick_any b _ (n : Int) _ C5.out (by omega) (by omega) (by omega)).mono ?_
          rintro e w6 ⟨x6, rfl, hx6, _, hx6', hc6, hg6⟩
          have hx6'' := hx6' (by omega)
          obtain ⟨j, rfl⟩ : ∃ j : Nat, x6 = (j : Int) := ⟨x6.toNat, by omega⟩
          have O6 := hide (own_grown4 O5.out hg6 (by omega))
          have G6 := hide (grown_trans G5.out hg6)
          have hz6 := G6.out.size
          have A1 := hide (of_any b (N + 4 * 7 + 2 + 2) w6.heap.size 4 4 (w6.alloc (.cells #[.string ⟨#[]⟩, .string ⟨#[97, 49]⟩, .string ⟨#[122, 122, 122]⟩, .string ⟨#[116, 111, 111, 108, 111, 110, 103, 110, 97, 109, 101]⟩] 9)) (hc6.alloc _) (by omega) (by omega) (by omega) (by omega) (txts_new w6 [⟨#[]⟩, ⟨#[97, 49]⟩, ⟨#[122, 122, 122]⟩, ⟨#[116, 111, 111, 108, 111, 110, 103, 110, 97, 109, 101]⟩] 9 (by decide)))
          clear hc6 hg6 O5 G5 C5 hx6'
          go_wp2_with fail
          refine A1.out.mono ?_
          rintro e w7 ⟨s7, rfl, hs7, hc7, hg7⟩
          have O7 := hide (own_grown4 (O6.out.alloc (.cells #[.string ⟨#[]⟩, .string ⟨#[97, 49]⟩, .string ⟨#[122, 122, 122]⟩, .string ⟨#[116, 111, 111, 108, 111, 110, 103, 110, 97, 109, 101]⟩] 9)) hg7 (by omega))
          have G7 := hide (grown_trans G6.out (grown_trans (grown_alloc _ _ _) hg7))
          have hz7 := G7.out.size
          have A2 := hide (of_any b (N + 4 * 7 + 2 + 2 + 2) w7.heap.size 3 3 (w7.alloc (.cells #[.string ⟨#[]⟩, .string ⟨#[111, 107]⟩, .string ⟨#[97, 32, 98]⟩] 9)) (hc7.alloc _) (by omega) (by omega) (by omega) (by omega) (txts_new w7 [⟨#[]⟩, ⟨#[111, 107]⟩, ⟨#[97, 32, 98]⟩] 9 (by decide)))
          clear hc7 hg7 O6 G6 A1
          go_wp2_with fail
          refine A2.out.mono ?_
          rintro e w8 ⟨s8, rfl, hs8, hc8, hg8⟩
          have hown8 := own_grown4 (O7.out.alloc (.cells #[.string ⟨#[]⟩, .string ⟨#[111, 107]⟩, .string ⟨#[97, 32, 98]⟩] 9)) hg8 (by omega)
          have hfl : (flatL l).length = n * 2 := by rw [flatL_len, HN.out]
          have hcl := hown8.cellAt (j * 2) (by omega)
          have hcl1 := hown8.cellAt (j * 2 + 1) (by omega)
          have hfr := hown8.frozenAt (j * 2)
          have hfr1 := hown8.frozenAt (j * 2 + 1)
          obtain ⟨u, hu⟩ : ∃ u, w8.cell? ⟨g, j * 2, none⟩ = some u := ⟨_, hcl.trans (List.getElem?_eq_getElem (by omega))⟩
          obtain ⟨u1, hu1⟩ : ∃ u, w8.cell? ⟨g, j * 2 + 1, none⟩ = some u := ⟨_, hcl1.trans (List.getElem?_eq_getElem (by omega))⟩
          have hs1 := hown8.stored (j * 2) (.string s7)
          have hs2 := hs1.1.stored (j * 2 + 1) (.string s8)
          have hbs := ((Below.refl (w.heap.size + 1) w8).setCell (p := ⟨g, j * 2, none⟩) hgw (.string s7)).setCell (p := ⟨g, j * 2 + 1, none⟩) hgw (.string s8)
          have O9 : Hid (OwnLb ((w8.setCell ⟨g, j * 2, none⟩ (.string s7)).setCell ⟨g, j * 2 + 1, none⟩ (.string s8)) w.heap.size (.slice (some ⟨g, 0, none⟩) n ocap) 7) := by
            refine ⟨l.set j (s7, s8), by rw [List.length_set, HN.out]; omega, fun p hp => ?_, ?_⟩
            · rcases List.mem_or_eq_of_mem_set hp with h | h
              · exact HLP.out p h
              · subst h; exact ⟨hs7, hs8⟩
            · rw [List.length_set, HN.out, flatL_set]
              exact own_baseT hs2.1 (Nat.le_succ _)
          have C9 := hide (hc8.kept (fun i hi => hbs.block i (by omega)))
          have G9 := hide (grown_trans HG0.out (grown_low (grown_trans G7.out (grown_trans (grown_alloc _ _ _) hg8)) (by rw [hZ0]; exact hbs)))
          have hjI : (j : Int) < (n : Int) := by omega
          clear hown8 hfl hcl hcl1 hs1 hs2 hbs hc8 hg8 A2 O7 G7
          go_wp2
          go_ret
          exact ⟨_, rfl, O9.out, C9.out.mono (by omega), G9.out⟩
        | false =>
          go_wp2
          go_ret
          exact ⟨_, rfl, ⟨l, by rw [HN.out]; omega, HLP.out, by rw [HN.out]; exact own_baseT O5.out (Nat.le_succ _)⟩, C5.out.mono (by omega), grown_trans HG0.out G5.out⟩
      · go_wp2
        go_ret
        exact ⟨_, rfl, ⟨l, by rw [HN.out]; omega, HLP.out, by rw [HN.out]; exact own_baseT HROW.out (Nat.le_succ _)⟩, HCC.out.mono (by omega), grown_trans HG0.out HG.out⟩
end Go.Proofs.YthagpceagifjnaaDoor.L4
