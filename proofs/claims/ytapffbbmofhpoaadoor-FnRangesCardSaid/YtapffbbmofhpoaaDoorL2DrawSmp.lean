/-
  Contract of the specification's cursor: samples: some samples, at most 41, whatever the bytes; it turns nothing but the cursor itself.
-/
import Derived.Test.YtapffbbmofhpoaaDoorL1Values
import Derived.Test.YtapffbbmofhpoaaDoorL2Rows
import Derived.Deep.DeepCutAuto
namespace Go.Proofs.YtapffbbmofhpoaaDoor.L1
open Go.RowKit
set_option linter.unusedVariables false

theorem own_grownG {w w' : World} {base n b c : Nat} {t : TypeId} {v : Value} {ys : List Value} (h : w.ownsRow base t c v n ys) (hg : w.grownBy w' (some b)) (hb : b < base) : w'.ownsRow base t c v n ys := by
  refine ⟨h.1, ?_⟩
  rcases h.2 with h0 | ⟨g, cap, cur, rfl, hbg, hgg, r⟩
  · exact .inl h0
  · exact .inr ⟨g, cap, cur, rfl, hbg, by rw [hg.block g (Array.getElem?_eq_some_iff.1 hgg).1 (fun e => by cases e; omega)]; exact hgg, r⟩
theorem grown_set {a w : World} {r : Option Nat} {g i : Nat} {v : Value} (h : a.grownBy w r) (hg : a.heap.size ≤ g) : a.grownBy (w.setCell ⟨g, i, none⟩ v) r := by
  have hb := (Below.refl a.heap.size w).setCell (p := ⟨g, i, none⟩) hg v
  exact ⟨hb.os.trans h.os, hb.tape.trans h.tape, hb.output.trans h.output, Nat.le_trans h.size hb.size, fun k hk hn => (hb.block k hk).trans (h.block k hk hn)⟩
theorem flat2_setD : ∀ (l : List (Int × Int)) (i : Nat) (p : Int × Int), flat2 (l.set i p) = ((flat2 l).set (i * 2) (.int .i64 p.1)).set (i * 2 + 1) (.int .i64 p.2)
  | [], _, _ => rfl
  | q :: l, 0, p => rfl
  | q :: l, i + 1, p => by
    have := flat2_setD l i p
    have e1 : (i + 1) * 2 = i * 2 + 1 + 1 := by omega
    rw [e1]
    simp only [List.set_cons_succ, flat2, this]
/-- Samples as they are drawn: no number is great. -/
def BdS (l : List (Int × Int)) : Prop := ∀ p ∈ l, (-2000000000 ≤ p.1 ∧ p.1 ≤ 2000000000) ∧ -2000000000 ≤ p.2 ∧ p.2 ≤ 2000000000
/-- Some samples that the caller owns. -/
def OwnSmps (w : World) (B : Nat) (v : Value) : Prop := ∃ l : List (Int × Int), l.length ≤ 41 ∧ BdS l ∧ w.ownsRow B 50 2 v l.length (flat2 l)
theorem bdS_set {l : List (Int × Int)} (h : BdS l) (i : Nat) {p : Int × Int} (hp : (-2000000000 ≤ p.1 ∧ p.1 ≤ 2000000000) ∧ -2000000000 ≤ p.2 ∧ p.2 ≤ 2000000000) : BdS (l.set i p) := fun q hq => by
  rcases List.mem_or_eq_of_mem_set hq with h1 | h1
  · exact h q h1
  · rw [h1]; exact hp

set_option maxRecDepth 100000 in
set_option maxHeartbeats 4000000 in
theorem samples_any (b N : Nat) (w : World) (h : Cur w b N) (hN : N ≤ 1000000) :
    Calls Tryd.prog 112 #[.pointer (some ⟨b, 0, none⟩)] w fun e w' => ∃ v, e = .returned v ∧ OwnSmps w' w.heap.size v ∧ Cur w' b (N + 1000) ∧ w.grownBy w' (some b) := by
  have hbw := h.lt
  have HC := hide h
  clear h
  obtain ⟨i1, hi1, hy0, hy1, hy2⟩ := info_parts info_smpS
  go_enter Tryd.func112, Tryd.ntmps112
  go_wp2_with fail
  refine (pick_any b N 8 _ HC.out (by omega) (by omega) (by omega)).mono ?_
  rintro e w1 ⟨x0, rfl, hx0, _, hx8, hc1, hg1⟩
  have hx8' := hx8 (by omega)
  obtain ⟨k0, rfl⟩ : ∃ k0 : Nat, x0 = (k0 : Int) := ⟨x0.toNat, by omega⟩
  have C1 := hide hc1
  have G1 := hide hg1
  clear hc1 hg1 hx8 hx0 HC
  go_wp2_with fail
  refine (one_any b _ 20 _ C1.out (by omega) (by omega) (by omega)).mono ?_
  rintro e w2 ⟨t, rfl, hc2, hg2⟩
  have C2 := hide hc2
  have G2 := hide (grown_trans G1.out hg2)
  clear hc2 hg2 C1 G1
  go_upto_if 10 with fail
  go_cut [4] (fun nv wx => ∃ k : Nat, k ≤ 41 ∧ nv = .int .i64 k ∧ Cur wx b (N + 6) ∧ w.grownBy wx (some b))
  case first =>
    cases t with
    | false =>
      go_wp2_with fail
      go_meet
      exact ⟨k0, by omega, rfl, C2.out.mono (by omega), G2.out⟩
    | true =>
      go_wp2_with fail
      refine (pick_any b _ 3 _ C2.out (by omega) (by omega) (by omega)).mono ?_
      rintro e w3 ⟨x1, rfl, hx1, _, hx3, hc3, hg3⟩
      have hx3' := hx3 (by omega)
      obtain ⟨k1, rfl⟩ : ∃ k1 : Nat, x1 = (k1 : Int) := ⟨x1.toNat, by omega⟩
      have C3 := hide hc3
      have G3 := hide (grown_trans G2.out hg3)
      clear hc3 hg3 hx3
      go_wp2_with fail
      go_meet
      exact ⟨39 + k1, by omega, by congr 1, C3.out, G3.out⟩
  case rest =>
    obtain ⟨k2, hk2, rfl, hc, hg⟩ := hcut
    have C4 := hide hc
    have G4 := hide hg
    clear hc hg C2 G2
    go_wp2_with fail
    refine (pick_any b _ 50 _ C4.out (by omega) (by omega) (by omega)).mono ?_
    rintro e w5 ⟨x5, rfl, hx5, _, hx50, hc5, hg5⟩
    have hx50' := hx50 (by omega)
    have C5 := hide hc5
    have G5 := hide (grown_trans G4.out hg5)
    clear hc5 hg5 C4 G4 hx50
    go_wp2_with fail
    refine (pick_any b _ 100 _ C5.out (by omega) (by omega) (by omega)).mono ?_
    rintro e w6 ⟨x6, rfl, hx6, _, hx100, hc6, hg6⟩
    have hx100' := hx100 (by omega)
    have C6 := hide hc6
    have G6 := hide (grown_trans G5.out hg6)
    clear hc6 hg6 C5 G5 hx100
    go_wp2_with fail
    go_loopw [3, 4, 5, 6] (fun lv nv av vv wr => ∃ (k : Nat) (l : List (Int × Int)) (x y : Int), k + l.length ≤ 41 ∧ nv = .int .i64 k ∧ av = .int .i64 x ∧ vv = .int .i64 y ∧ 0 ≤ x ∧ x ≤ 50 + 300 * (l.length : Int) ∧ -(3 * (l.length : Int)) ≤ y ∧ y ≤ 100 + 1000 * (l.length : Int) ∧ Hid (BdS l) ∧ wr.ownsRow w.heap.size 50 2 lv l.length (flat2 l) ∧ Hid (Cur wr b (N + 10 + 4 * l.length)) ∧ w.grownBy wr (some b)) (fun _ nv _ _ _ => (intOf nv).toNat)
    case atStart => exact ⟨k2, [], x5, x6, by simpa using hk2, rfl, rfl, rfl, hx5, by simp; omega, by simp; omega, by simp; omega, fun p hp => by simp at hp, World.ownsRow_nil _ _ _ _, C6.out, G6.out⟩
    case round =>
      obtain ⟨k, l, x, y, hk, rfl, rfl, rfl, hxl, hxu, hyl, hyu, HBd, hown, HCr, hgr⟩ := hrel
      obtain ⟨nl, hnl⟩ : ∃ nl, nl = l.length := ⟨_, rfl⟩
      rw [← hnl] at hk hxu hyl hyu hown HCr
      have hsz := hgr.size
      have HG := hide hgr
      have HNL := hide hnl.symm
      clear hgr C6 G6 hnl
      by_cases hlt : 0 < k
      · have hltI : (0 : Int) < (k : Int) := by omega
        go_wp2_with (first
          | (at_builtin; refine wpList_append_own _ rfl _ _ 41 rfl w.heap.size 50 i1 (.agg #[.int .i64 0, .int .i64 0]) 2 16 Tryd.underlying41 hi1 hy0 hy1 hy2 rfl (by decide) _ _ _ rfl (hown.alloc _) ⟨wr.heap.size, 0, none⟩ 1 1 [.int .i64 x, .int .i64 y] rfl rfl (cell_two_newS _ _ _ _) (by intro u hu; simp at hu; rcases hu with rfl | rfl <;> rfl) (by unfold maxLen; omega) (by omega) (by simp; omega) ?_)
          | go_in)
        intro v7 w7 hown7 hgrow7 _
        have hb7 : Below w.heap.size wr w7 := below_app hsz hgrow7 (fun g hg => (hown.lt g hg).1)
        have o7 : w7.ownsRow w.heap.size 50 2 v7 (nl + 1) (flat2 (l ++ [(x, y)])) := by rw [flat2_append]; simpa [flat2] using hown7
        have O7 := hide o7
        have C7 := hide (HCr.out.keptBelow hb7 hbw)
        have G7 := hide (grown_then_below HG.out hb7)
        have SA := hide (lit_row w7 #[.int .i64 10, .int .i64 10, .int .i64 10, .int .i64 1, .int .i64 300] [10, 10, 10, 1, 300] rfl)
        have CA := hide (C7.out.alloc (.cells #[.int .i64 10, .int .i64 10, .int .i64 10, .int .i64 1, .int .i64 300] 3))
        have hbw7 := C7.out.lt
        clear hown7 o7 hgrow7 hown hb7 HG HCr
        go_wp2_with fail
        refine (among_any b _ w7.heap.size 5 5 [10, 10, 10, 1, 300] _ CA.out (by omega) rfl (by omega) (by omega) (by omega) SA.out).mono ?_
        rintro e w8 ⟨j8, hj8, rfl, hc8, hg8⟩
        have hz8 := (by decide : ∀ j, j < 5 → (1 : Int) ≤ ([10, 10, 10, 1, 300] : List Int).getD j 0 ∧ ([10, 10, 10, 1, 300] : List Int).getD j 0 ≤ 300) j8 hj8
        obtain ⟨z8, hze⟩ : ∃ z, z = ([10, 10, 10, 1, 300] : List Int).getD j8 0 := ⟨_, rfl⟩
        rw [← hze] at hz8 ⊢
        have hg78 := grown_trans (grown_alloc w7 (.cells #[.int .i64 10, .int .i64 10, .int .i64 10, .int .i64 1, .int .i64 300] 3) b) hg8
        have O8 := hide (own_grownG O7.out hg78 hbw)
        have C8 := hide hc8
        have G8 := hide (grown_trans G7.out hg78)
        have SB := hide (lit_row w8 #[.int .i64 0, .int .i64 0, .int .i64 1, .int .i64 5, .int .i64 (-3), .int .i64 1000] [0, 0, 1, 5, -3, 1000] rfl)
        have CB := hide (C8.out.alloc (.cells #[.int .i64 0, .int .i64 0, .int .i64 1, .int .i64 5, .int .i64 (-3), .int .i64 1000] 3))
        have hbw8 := C8.out.lt
        clear hze hc8 hg8 hg78 O7 C7 G7 SA CA hj8 hbw7
        go_wp2_with fail
        refine (among_any b _ w8.heap.size 6 6 [0, 0, 1, 5, -3, 1000] _ CB.out (by omega) rfl (by omega) (by omega) (by omega) SB.out).mono ?_
        rintro e w9 ⟨j9, hj9, rfl, hc9, hg9⟩
        have hz9 := (by decide : ∀ j, j < 6 → (-3 : Int) ≤ ([0, 0, 1, 5, -3, 1000] : List Int).getD j 0 ∧ ([0, 0, 1, 5, -3, 1000] : List Int).getD j 0 ≤ 1000) j9 hj9
        obtain ⟨z9, hze⟩ : ∃ z, z = ([0, 0, 1, 5, -3, 1000] : List Int).getD j9 0 := ⟨_, rfl⟩
        rw [← hze] at hz9 ⊢
        have hg89 := grown_trans (grown_alloc w8 (.cells #[.int .i64 0, .int .i64 0, .int .i64 1, .int .i64 5, .int .i64 (-3), .int .i64 1000] 3) b) hg9
        have O9 := hide (own_grownG O8.out hg89 hbw)
        have C9 := hide hc9
        have G9 := hide (grown_trans G8.out hg89)
        have B9 : Hid (BdS (l ++ [(x, y)])) := fun p hp => by
          rcases List.mem_append.1 hp with h1 | h1
          · exact HBd.out p h1
          · rw [List.mem_singleton] at h1; subst h1; exact ⟨⟨by omega, by omega⟩, by omega, by omega⟩
        have HL : Hid ((l ++ [(x, y)]).length = nl + 1) := by rw [List.length_append, HNL.out]; rfl
        clear hze hc9 hg9 hg89 O8 C8 G8 SB CB hj9 hbw8
        go_wp2_with fail
        go_roundw
        case rel => exact ⟨k - 1, l ++ [(x, y)], x + z8, y + z9, by rw [HL.out]; omega, by congr 1; omega, rfl, rfl, by omega, by rw [HL.out]; omega, by rw [HL.out]; omega, by rw [HL.out]; omega, B9, by rw [HL.out]; exact O9.out, by rw [HL.out]; exact C9.out.mono (by omega), G9.out⟩
        case measure => simp [intOf]; omega
      · have hltI : ¬ (0 : Int) < (k : Int) := by omega
        have HO := hide hown
        have hl41 : nl ≤ 41 := by omega
        rcases hown.2 with ⟨hv, h0⟩ | ⟨g, cap, cur, hv, hgb, hgh, _⟩
        · subst hv
          subst h0
          clear hown
          go_wp2_with fail
          go_ret
          exact ⟨_, rfl, ⟨l, by rw [HNL.out]; omega, HBd.out, by rw [HNL.out]; exact HO.out⟩, HCr.out.mono (by omega), HG.out⟩
        · subst hv
          by_cases hl0 : 0 < (nl : Int)
          · clear hown hgh
            go_wp2_with fail
            refine (one_any b _ 20 _ HCr.out (by omega) (by omega) (by omega)).mono ?_
            rintro e w7 ⟨t7, rfl, hc7, hg7⟩
            have O7 := hide (own_grownG HO.out hg7 hbw)
            have C7 := hide hc7
            have G7 := hide (grown_trans HG.out hg7)
            clear hc7 hg7 HO HCr HG
            cases t7 with
            | false =>
              go_wp2_with fail
              go_ret
              exact ⟨_, rfl, ⟨l, by rw [HNL.out]; omega, HBd.out, by rw [HNL.out]; exact O7.out⟩, C7.out.mono (by omega), G7.out⟩
            | true =>
              go_wp2_with fail
              refine (pick_any b _ _ _ C7.out (by omega) (by omega) (by omega)).mono ?_
              rintro e w8 ⟨x8, rfl, hx8, _, hx8n, hc8, hg8⟩
              have hx8n' := hx8n (by omega)
              obtain ⟨p8, rfl⟩ : ∃ p : Nat, x8 = (p : Int) := ⟨x8.toNat, by omega⟩
              have O8 := hide (own_grownG O7.out hg8 hbw)
              have C8 := hide hc8
              have G8 := hide (grown_trans G7.out hg8)
              have SA := hide (lit_row w8 #[.int .i64 (-1), .int .i64 0, .int .i64 1000000000, .int .i64 1000000001] [-1, 0, 1000000000, 1000000001] rfl)
              have CA := hide (C8.out.alloc (.cells #[.int .i64 (-1), .int .i64 0, .int .i64 1000000000, .int .i64 1000000001] 3))
              have hbw8 := C8.out.lt
              clear hc8 hg8 hx8n O7 C7 G7
              go_wp2_with fail
              refine (among_any b _ w8.heap.size 4 4 [-1, 0, 1000000000, 1000000001] _ CA.out (by omega) rfl (by omega) (by omega) (by omega) SA.out).mono ?_
              rintro e w9 ⟨j9, hj9, rfl, hc9, hg9⟩
              have hz9 := (by decide : ∀ j, j < 4 → (-1 : Int) ≤ ([-1, 0, 1000000000, 1000000001] : List Int).getD j 0 ∧ ([-1, 0, 1000000000, 1000000001] : List Int).getD j 0 ≤ 1000000001) j9 hj9
              obtain ⟨z9, hze⟩ : ∃ z, z = ([-1, 0, 1000000000, 1000000001] : List Int).getD j9 0 := ⟨_, rfl⟩
              rw [← hze] at hz9 ⊢
              have hg89 := grown_trans (grown_alloc w8 (.cells #[.int .i64 (-1), .int .i64 0, .int .i64 1000000000, .int .i64 1000000001] 3) b) hg9
              have O9 := hide (own_grownG O8.out hg89 hbw)
              have C9 := hide hc9
              have G9 := hide (grown_trans G8.out hg89)
              have SB := hide (lit_row w9 #[.int .i64 1000000000, .int .i64 (-1000000000), .int .i64 1000000001] [1000000000, -1000000000, 1000000001] rfl)
              have CB := hide (C9.out.alloc (.cells #[.int .i64 1000000000, .int .i64 (-1000000000), .int .i64 1000000001] 3))
              have hbw9 := C9.out.lt
              clear hze hc9 hg9 hg89 O8 C8 G8 SA CA hj9 hbw8
              go_wp2_with fail
              refine (among_any b _ w9.heap.size 3 3 [1000000000, -1000000000, 1000000001] _ CB.out (by omega) rfl (by omega) (by omega) (by omega) SB.out).mono ?_
              rintro e w10 ⟨j10, hj10, rfl, hc10, hg10⟩
              have hz10 := (by decide : ∀ j, j < 3 → (-1000000000 : Int) ≤ ([1000000000, -1000000000, 1000000001] : List Int).getD j 0 ∧ ([1000000000, -1000000000, 1000000001] : List Int).getD j 0 ≤ 1000000001) j10 hj10
              obtain ⟨z10, hze⟩ : ∃ z, z = ([1000000000, -1000000000, 1000000001] : List Int).getD j10 0 := ⟨_, rfl⟩
              rw [← hze] at hz10 ⊢
              have hg910 := grown_trans (grown_alloc w9 (.cells #[.int .i64 1000000000, .int .i64 (-1000000000), .int .i64 1000000001] 3) b) hg10
              have hown := own_grownG O9.out hg910 hbw
              have C10 := hide hc10
              have G10 := hide (grown_trans G9.out hg910)
              have hlf : (flat2 l).length = nl * 2 := by rw [flat2_len, HNL.out]
              have hp8 : p8 < nl := by omega
              have hcl := hown.cellAt (p8 * 2) (by omega)
              have hcl1 := hown.cellAt (p8 * 2 + 1) (by omega)
              have hfr := hown.frozenAt (p8 * 2)
              have hfr1 := hown.frozenAt (p8 * 2 + 1)
              obtain ⟨u, hu⟩ : ∃ u, w10.cell? ⟨g, p8 * 2, none⟩ = some u := ⟨_, hcl.trans (List.getElem?_eq_getElem (by omega))⟩
              obtain ⟨u1, hu1⟩ : ∃ u, w10.cell? ⟨g, p8 * 2 + 1, none⟩ = some u := ⟨_, hcl1.trans (List.getElem?_eq_getElem (by omega))⟩
              have hst := (hown.stored (p8 * 2) (.int .i64 z9)).1.stored (p8 * 2 + 1) (.int .i64 z10)
              have hgg : b < g := by omega
              have O11 : Hid (OwnSmps ((w10.setCell ⟨g, p8 * 2, none⟩ (.int .i64 z9)).setCell ⟨g, p8 * 2 + 1, none⟩ (.int .i64 z10)) w.heap.size (.slice (some ⟨g, 0, none⟩) nl cap)) :=
                ⟨l.set p8 (z9, z10), by rw [List.length_set, HNL.out]; omega, bdS_set HBd.out p8 ⟨⟨by omega, by omega⟩, by omega, by omega⟩, by rw [List.length_set, HNL.out, flat2_setD]; exact hst.1⟩
              have C11 : Hid (Cur ((w10.setCell ⟨g, p8 * 2, none⟩ (.int .i64 z9)).setCell ⟨g, p8 * 2 + 1, none⟩ (.int .i64 z10)) b (N + 1000)) := (C10.out.kept fun k hk => (((Below.refl g w10).setCell (p := ⟨g, p8 * 2, none⟩) (Nat.le_refl _) (.int .i64 z9)).setCell (p := ⟨g, p8 * 2 + 1, none⟩) (Nat.le_refl _) (.int .i64 z10)).block k (by omega)).mono (by omega)
              have G11 := hide (grown_set (i := p8 * 2 + 1) (v := .int .i64 z10) (grown_set (i := p8 * 2) (v := .int .i64 z9) G10.out hgb) hgb)
              have hltp : (p8 : Int) < (nl : Int) := by omega
              clear hze hc10 hg10 hg910 hown hcl hcl1 hst hlf O9 C9 G9 SB CB hj10 hbw9 C10 G10
              go_wp2_with fail
              go_ret
              exact ⟨_, rfl, O11.out, C11.out, G11.out⟩
          · clear hown hgh
            go_wp2_with fail
            go_ret
            exact ⟨_, rfl, ⟨l, by rw [HNL.out]; omega, HBd.out, by rw [HNL.out]; exact HO.out⟩, HCr.out.mono (by omega), HG.out⟩
end Go.Proofs.YtapffbbmofhpoaaDoor.L1
