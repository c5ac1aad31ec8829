/-
  Contracts of the specification's draws of counters: some samples, at most 41, in new memory, whatever the bytes; they turn nothing that was there.
-/
import Derived.Test.YticgejaaoamhmafL4DrawH
import Derived.Test.YticgejaaoamhmafL3CurA
import Derived.Test.YticgejaaoamhmafL16Row
import Derived.Deep.DeepCutAuto
import Derived.Deep.RegionWith
import Derived.Maps.AppendAt
namespace Go.Proofs.Yticgejaaoamhmaf.L16
open Go.RowKit L1 L4
set_option linter.unusedVariables false

/-- Some samples that the caller owns. -/
def OwnSm (w : World) (B : Nat) (v : Value) : Prop := ∃ l : List (Int × Int), l.length ≤ 41 ∧ w.ownsRow B 33 2 v l.length (flat l)
theorem grown_set16 {a w : World} {r : Option Nat} {g i : Nat} {v : Value} (h : a.grownBy w r) (hg : a.heap.size ≤ g) : a.grownBy (w.setCell ⟨g, i, none⟩ v) r := by
  have b : Below g w (w.setCell ⟨g, i, none⟩ v) := (Below.refl g w).setCell (p := ⟨g, i, none⟩) (Nat.le_refl _) v
  exact ⟨b.os.trans h.os, b.tape.trans h.tape, b.output.trans h.output, Nat.le_trans h.size b.size, fun k hk hn => (b.block k (by omega)).trans (h.block k hk hn)⟩
theorem grown_app16 {w wc wa w6 : World} {b : Nat} {r : Option Nat} (h : w.grownBy wc (some b)) (hal : Below wc.heap.size wc wa) (hg : wa.grownBy w6 r) (hr : ∀ q, r = some q → w.heap.size ≤ q) : w.grownBy w6 (some b) :=
  ⟨hg.os.trans (hal.os.trans h.os), hg.tape.trans (hal.tape.trans h.tape), hg.output.trans (hal.output.trans h.output), Nat.le_trans h.size (Nat.le_trans hal.size hg.size), fun k hk hn =>
    (hg.block k (by have := h.size; have := hal.size; omega) (fun e => by have := hr k e.symm; omega)).trans ((hal.block k (by have := h.size; omega)).trans (h.block k hk hn))⟩
set_option maxRecDepth 100000 in
set_option maxHeartbeats 8000000 in
theorem counter_any (b N : Nat) (w : World) (h : Cur w b N) (hN : N ≤ 1000000) :
    Calls Try.prog 46 #[.pointer (some ⟨b, 0, none⟩)] w fun e w' => ∃ v, e = .returned v ∧ OwnSm w' w.heap.size v ∧ Cur w' b (N + 1000) ∧ w.grownBy w' (some b) := by
  have hbw := h.lt
  have HC := hide h
  clear h
  obtain ⟨i1, hi1, hy0, hy1, hy2⟩ := info_parts info_smp
  go_enter Try.func46, Try.ntmps46
  go_wp2_with fail
  refine (pick_any b N 10 _ HC.out (by omega) (by omega) (by omega)).mono ?_
  rintro e w1 ⟨x0, rfl, hx0, _, hx8, hc1, hg1⟩
  have hx8' := hx8 (by omega)
  obtain ⟨k0, rfl⟩ : ∃ k0 : Nat, x0 = (k0 : Int) := ⟨x0.toNat, by omega⟩
  have C1 := hide hc1
  have G1 := hide hg1
  clear hc1 hg1 hx8 hx0 HC
  go_wp2_with fail
  refine (one_any b _ 20 _ C1.out (by omega) (by omega) (by omega)).mono ?_
  rintro e w2 ⟨t, rfl, hc2, hg2⟩
  have C2 := hide hc2
  have G2 := hide (grown_trans G1.out hg2)
  clear hc2 hg2 C1 G1
  go_upto_if 10 with fail
  go_cut [4] (fun nv wx => ∃ k : Nat, k ≤ 41 ∧ nv = .int .i64 k ∧ Cur wx b (N + 6) ∧ w.grownBy wx (some b))
  case first =>
    cases t with
    | false =>
      go_wp2_with fail
      go_meet
      exact ⟨k0, by omega, rfl, C2.out.mono (by omega), G2.out⟩
    | true =>
      go_wp2_with fail
      refine (pick_any b _ 3 _ C2.out (by omega) (by omega) (by omega)).mono ?_
      rintro e w3 ⟨x1, rfl, hx1, _, hx3, hc3, hg3⟩
      have hx3' := hx3 (by omega)
      obtain ⟨k1, rfl⟩ : ∃ k1 : Nat, x1 = (k1 : Int) := ⟨x1.toNat, by omega⟩
      have C3 := hide hc3
      have G3 := hide (grown_trans G2.out hg3)
      clear hc3 hg3 hx3
      go_wp2_with fail
      go_meet
      exact ⟨39 + k1, by omega, by congr 1, C3.out, G3.out⟩
  case rest =>
    obtain ⟨k2, hk2, rfl, hc, hg⟩ := hcut
    have C4 := hide hc
    have G4 := hide hg
    clear hc hg C2 G2
    go_wp2_with fail
    refine (pick_any b _ 20 _ C4.out (by omega) (by omega) (by omega)).mono ?_
    rintro e w5 ⟨x5, rfl, hx5, _, hx50, hc5, hg5⟩
    have hx50' := hx50 (by omega)
    have C5 := hide hc5
    have G5 := hide (grown_trans G4.out hg5)
    clear hc5 hg5 C4 G4 hx50
    go_wp2_with fail
    refine (pick_any b _ 30 _ C5.out (by omega) (by omega) (by omega)).mono ?_
    rintro e w6 ⟨x6, rfl, hx6, _, hx100, hc6, hg6⟩
    have hx100' := hx100 (by omega)
    have C6 := hide hc6
    have G6 := hide (grown_trans G5.out hg6)
    clear hc6 hg6 C5 G5 hx100
    go_wp2_with fail
    go_loopw [3, 4, 5, 6] (fun lv nv av vv wr => ∃ (k : Nat) (l : List (Int × Int)) (x y : Int), k + l.length ≤ 41 ∧ nv = .int .i64 k ∧ av = .int .i64 x ∧ vv = .int .i64 y ∧ (0 ≤ x ∧ x ≤ 50 + 300 * (l.length : Int)) ∧ (0 ≤ y ∧ y ≤ 50 + 300 * (l.length : Int)) ∧ Hid (wr.ownsRow w.heap.size 33 2 lv l.length (flat l)) ∧ Hid (Cur wr b (N + 20 + 10 * l.length)) ∧ Hid (w.grownBy wr (some b))) (fun _ nv _ _ _ => (intOf nv).toNat)
    case atStart => exact ⟨k2, [], x5, x6, by simpa using hk2, rfl, rfl, rfl, ⟨hx5, by simp; omega⟩, ⟨hx6, by simp; omega⟩, World.ownsRow_nil _ _ _ _, hide (C6.out.mono (by simp)), G6⟩
    case round =>
      obtain ⟨k, l, x, y, hk, rfl, rfl, rfl, hxb, hyb, HO, HCr, HG⟩ := hrel
      obtain ⟨nl, hnl⟩ : ∃ nl, nl = l.length := ⟨_, rfl⟩
      rw [← hnl] at hk hxb hyb HO HCr
      have HNL := hide hnl.symm
      obtain ⟨la, lc, rfl, _, _⟩ := own_form2 HO.out
      have hsz := HG.out.size
      clear C6 G6 hnl
      by_cases hlt : 0 < k
      · have hltI : (0 : Int) < (k : Int) := by omega
        have hkm : (k : Int) - 1 = ((k - 1 : Nat) : Int) := by omega
        have HKM := hide hkm
        clear hkm
        go_wp2_with (first
          | (at_builtin; refine wpList_append_own _ rfl _ _ 23 rfl w.heap.size 33 i1 (.agg #[.int .i64 0, .int .i64 0]) 2 16 Try.underlying23 hi1 hy0 hy1 hy2 rfl (by decide) _ _ _ rfl (HO.out.alloc _) ⟨wr.heap.size, 0, none⟩ 1 1 [.int .i64 x, .int .i64 y] rfl rfl (cell_two16 _ _ _ _) (by intro u hu; simp at hu; rcases hu with rfl | rfl <;> rfl) (by unfold maxLen; omega) (by omega) (by simp; omega) ?_)
          | go_in)
        intro v7 w7 hown7 hgrow7 _
        have hal : Below wr.heap.size wr (wr.alloc (.cells #[.int .i64 x, .int .i64 y] 33)) := (Below.refl _ _).alloc (Nat.le_refl _) _
        have hrr : ∀ q, (Value.slice la nl lc).ownBlock = some q → w.heap.size ≤ q := fun q hq => (HO.out.lt q hq).1
        have O7 := hide (show w7.ownsRow w.heap.size 33 2 v7 (nl + 1) (flat (l ++ [(x, y)])) by rw [flat_append]; exact hown7)
        have C7 := hide (HCr.out.kept (fun q hq => (hgrow7.block q (by have := HCr.out.lt; simp; omega) (fun e => by have := hrr q e.symm; omega)).trans (hal.block q (by have := HCr.out.lt; omega))))
        have G7 := hide (grown_app16 HG.out hal hgrow7 hrr)
        have HL : Hid ((l ++ [(x, y)]).length = nl + 1) := by rw [List.length_append, HNL.out]; rfl
        clear hown7 hgrow7 hal hrr HG HCr HO
        go_wp2_with fail
        refine (pick_any b _ 12 _ C7.out (by omega) (by omega) (by omega)).mono ?_
        rintro e w8 ⟨p8, rfl, hp8, _, hp12, hc8, hg8⟩
        have hp12' := hp12 (by omega)
        have O8 := hide (own_grown4 O7.out hg8 hbw)
        have C8 := hide hc8
        have G8 := hide (grown_trans G7.out hg8)
        have SB := hide (lit_row w8 #[.int .i64 0, .int .i64 1, .int .i64 5, .int .i64 20] [0, 1, 5, 20] rfl)
        have CB := hide (C8.out.alloc (.cells #[.int .i64 0, .int .i64 1, .int .i64 5, .int .i64 20] 3))
        have hbw8 := C8.out.lt
        clear hc8 hg8 O7 C7 G7 hp12
        go_wp2_with fail
        refine (among_any b _ w8.heap.size 4 4 [0, 1, 5, 20] _ CB.out (by omega) rfl (by omega) (by omega) (by omega) SB.out).mono ?_
        rintro e w9 ⟨j9, hj9, rfl, hc9, hg9⟩
        have hz9 := (by decide : ∀ j, j < 4 → (0 : Int) ≤ ([0, 1, 5, 20] : List Int).getD j 0 ∧ ([0, 1, 5, 20] : List Int).getD j 0 ≤ 20) j9 hj9
        obtain ⟨z9, hze⟩ : ∃ z, z = ([0, 1, 5, 20] : List Int).getD j9 0 := ⟨_, rfl⟩
        rw [← hze] at hz9 ⊢
        have hg89 := grown_trans (grown_alloc w8 (.cells #[.int .i64 0, .int .i64 1, .int .i64 5, .int .i64 20] 3) b) hg9
        have O9 := hide (own_grown4 O8.out hg89 hbw)
        have C9 := hide hc9
        have G9 := hide (grown_trans G8.out hg89)
        clear hze hc9 hg9 hg89 O8 C8 G8 SB CB hj9 hbw8
        go_wp2_with fail
        refine (one_any b _ 4 _ C9.out (by omega) (by omega) (by omega)).mono ?_
        rintro e w10 ⟨t10, rfl, hc10, hg10⟩
        have O10 := hide (own_grown4 O9.out hg10 hbw)
        have C10 := hide hc10
        have G10 := hide (grown_trans G9.out hg10)
        clear hc10 hg10 O9 C9 G9
        cases t10 with
        | false =>
          go_wp2_with fail
          go_roundw
          case rel => exact ⟨k - 1, l ++ [(x, y)], x + (1 + p8), y + z9, by rw [HL.out]; omega, by rw [HKM.out], rfl, rfl, ⟨by omega, by rw [HL.out]; omega⟩, ⟨by omega, by rw [HL.out]; omega⟩, by rw [HL.out]; exact O10, by rw [HL.out]; exact hide (C10.out.mono (by omega)), G10⟩
          case measure => simp [intOf]; omega
        | true =>
          go_wp2_with fail
          refine (pick_any b _ 6 _ C10.out (by omega) (by omega) (by omega)).mono ?_
          rintro e w11 ⟨p11, rfl, hp11, _, hp6, hc11, hg11⟩
          have hp6' := hp6 (by omega)
          have O11 := hide (own_grown4 O10.out hg11 hbw)
          have C11 := hide hc11
          have G11 := hide (grown_trans G10.out hg11)
          clear hc11 hg11 O10 C10 G10 hp6
          go_wp2_with fail
          go_roundw
          case rel => exact ⟨k - 1, l ++ [(x, y)], x + (1 + p8), p11, by rw [HL.out]; omega, by rw [HKM.out], rfl, rfl, ⟨by omega, by rw [HL.out]; omega⟩, ⟨by omega, by rw [HL.out]; omega⟩, by rw [HL.out]; exact O11, by rw [HL.out]; exact hide (C11.out.mono (by omega)), G11⟩
          case measure => simp [intOf]; omega
      · have hltI : ¬ (0 : Int) < (k : Int) := by omega
        have hl41 : nl ≤ 41 := by omega
        by_cases hl0 : 0 < (nl : Int)
        · go_wp2_with fail
          refine (one_any b _ 20 _ HCr.out (by omega) (by omega) (by omega)).mono ?_
          rintro e w7 ⟨t7, rfl, hc7, hg7⟩
          have O7 := hide (own_grown4 HO.out hg7 hbw)
          have C7 := hide hc7
          have G7 := hide (grown_trans HG.out hg7)
          clear hc7 hg7 HO HCr HG
          cases t7 with
          | false =>
            go_wp2_with fail
            go_ret
            exact ⟨_, rfl, ⟨l, by rw [HNL.out]; omega, by rw [HNL.out]; exact O7.out⟩, C7.out.mono (by omega), G7.out⟩
          | true =>
            obtain ⟨g, e⟩ : ∃ g, la = some ⟨g, 0, none⟩ := by
              rcases O7.out.2 with ⟨_, h0⟩ | ⟨g, c, cur, hv, _⟩
              · omega
              · cases hv; exact ⟨g, rfl⟩
            subst e
            go_wp2_with fail
            refine (pick_any b _ _ _ C7.out (by omega) (by omega) (by omega)).mono ?_
            rintro e w8 ⟨x8, rfl, hx8, _, hx8n, hc8, hg8⟩
            have hx8n' := hx8n (by omega)
            obtain ⟨p8, rfl⟩ : ∃ p : Nat, x8 = (p : Int) := ⟨x8.toNat, by omega⟩
            have O8 := hide (own_grown4 O7.out hg8 hbw)
            have C8 := hide hc8
            have G8 := hide (grown_trans G7.out hg8)
            have SA := hide (lit_row w8 #[.int .i64 (-1), .int .i64 1000000000, .int .i64 1000000001] [-1, 1000000000, 1000000001] rfl)
            have CA := hide (C8.out.alloc (.cells #[.int .i64 (-1), .int .i64 1000000000, .int .i64 1000000001] 3))
            have hbw8 := C8.out.lt
            clear hc8 hg8 hx8n O7 C7 G7
            go_wp2_with fail
            refine (among_any b _ w8.heap.size 3 3 [-1, 1000000000, 1000000001] _ CA.out (by omega) rfl (by omega) (by omega) (by omega) SA.out).mono ?_
            rintro e w9 ⟨j9, hj9, rfl, hc9, hg9⟩
            obtain ⟨z9, hze⟩ : ∃ z, z = ([-1, 1000000000, 1000000001] : List Int).getD j9 0 := ⟨_, rfl⟩
            rw [← hze]
            have hg89 := grown_trans (grown_alloc w8 (.cells #[.int .i64 (-1), .int .i64 1000000000, .int .i64 1000000001] 3) b) hg9
            have hown := own_grown4 O8.out hg89 hbw
            have C9 := hide hc9
            have G9 := hide (grown_trans G8.out hg89)
            have hlf : (flat l).length = nl * 2 := by rw [flat_len, HNL.out]
            have hp8 : p8 < nl := by omega
            have hcl1 := hown.cellAt (p8 * 2 + 1) (by omega)
            have hfr1 := hown.frozenAt (p8 * 2 + 1)
            obtain ⟨u1, hu1⟩ : ∃ u, w9.cell? ⟨g, p8 * 2 + 1, none⟩ = some u := ⟨_, hcl1.trans (List.getElem?_eq_getElem (by omega))⟩
            have hst := (hown.stored (p8 * 2 + 1) (.int .i64 z9)).1
            have hgb := (hown.lt g rfl).1
            have hgg : b < g := by omega
            have hse : (flat l).set (p8 * 2 + 1) (.int .i64 z9) = flat (l.set p8 ((l.getD p8 (0, 0)).1, z9)) := by
              rw [flat_set]
              congr 1
              have hg := (flat_get l p8 (by rw [HNL.out]; exact hp8)).1
              apply List.ext_getElem (by simp)
              intro j ha hb
              rw [List.getElem_set]
              split
              · next e2 =>
                subst e2
                rw [List.getElem?_eq_getElem (by omega)] at hg
                exact Option.some.inj hg
              · rfl
            rw [hse] at hst
            have O11 : Hid (OwnSm (w9.setCell ⟨g, p8 * 2 + 1, none⟩ (.int .i64 z9)) w.heap.size (.slice (some ⟨g, 0, none⟩) nl lc)) :=
              ⟨l.set p8 ((l.getD p8 (0, 0)).1, z9), by rw [List.length_set, HNL.out]; omega, by rw [List.length_set, HNL.out]; exact hst⟩
            have C11 : Hid (Cur (w9.setCell ⟨g, p8 * 2 + 1, none⟩ (.int .i64 z9)) b (N + 1000)) := (C9.out.kept fun k hk => ((Below.refl g w9).setCell (p := ⟨g, p8 * 2 + 1, none⟩) (Nat.le_refl _) (.int .i64 z9)).block k (by omega)).mono (by omega)
            have G11 := hide (grown_set16 (i := p8 * 2 + 1) (v := .int .i64 z9) G9.out hgb)
            have hltp : (p8 : Int) < (nl : Int) := by omega
            clear hze hc9 hg9 hg89 hown hcl1 hst hse hlf O8 C8 G8 SA CA hj9 hbw8 C9 G9
            go_wp2_with fail
            go_ret
            exact ⟨_, rfl, O11.out, C11.out, G11.out⟩
        · go_wp2_with fail
          go_ret
          exact ⟨_, rfl, ⟨l, by rw [HNL.out]; omega, by rw [HNL.out]; exact HO.out⟩, HCr.out.mono (by omega), HG.out⟩
theorem OwnSm.base {w : World} {B B' : Nat} {v : Value} (h : OwnSm w B v) (hb : B' ≤ B) : OwnSm w B' v := by
  obtain ⟨l, h1, h2⟩ := h
  exact ⟨l, h1, own_baseS16 h2 hb⟩
set_option maxRecDepth 100000 in
set_option maxHeartbeats 1000000 in
theorem drawCounterOk_any (a : Option Addr) (n cap : Nat) (w : World) (h : Slb w w.heap.size a n) (hn : n ≤ 1048576) :
    Calls Try.prog 32 #[.slice a n cap] w fun e w' => ∃ v, e = .returned v ∧ OwnSm w' w.heap.size v ∧ Below w.heap.size w w' := by
  have HC := hide (cur_new (cap := cap) h hn)
  clear h
  go_enter Try.func32, Try.ntmps32
  go_wp2_with fail
  refine (counter_any _ _ _ HC.out (by omega)).mono ?_
  rintro e w1 ⟨v, rfl, ho, _, hg⟩
  have B1 := hide (grown_to_below hg)
  have O1 := hide (ho.base (show w.heap.size ≤ (w.alloc _).heap.size by simp))
  clear ho hg HC
  go_wp2
  go_ret
  exact ⟨_, rfl, O1.out, B1.out⟩
set_option maxRecDepth 100000 in
set_option maxHeartbeats 1000000 in
theorem drawRiseOf_any (a : Option Addr) (n cap : Nat) (w : World) (h : Slb w w.heap.size a n) (hn : n ≤ 1048576) :
    Calls Try.prog 6 #[.slice a n cap] w fun e w' => ∃ v, e = .returned v ∧ OwnSm w' w.heap.size v ∧ Below w.heap.size w w' := by
  have HC := hide (drawCounterOk_any a n cap w h hn)
  clear h
  go_enter Try.func6, Try.ntmps6
  go_wp2_with fail
  refine HC.out.mono ?_
  rintro e w1 ⟨v, rfl, ho, hb⟩
  have B1 := hide hb
  have O1 := hide ho
  clear ho hb HC
  go_wp2
  go_ret
  exact ⟨_, rfl, O1.out, B1.out⟩
set_option maxRecDepth 100000 in
set_option maxHeartbeats 1000000 in
theorem drawWindowsOf_any (a : Option Addr) (n cap : Nat) (w : World) (h : Slb w w.heap.size a n) (hn : n ≤ 1048576) :
    Calls Try.prog 21 #[.slice a n cap] w fun e w' => ∃ v x, e = .returned (.tuple #[v, .int .i64 x]) ∧ OwnSm w' w.heap.size v ∧ Below w.heap.size w w' := by
  have HC := hide (cur_new (cap := cap) h hn)
  clear h
  go_enter Try.func21, Try.ntmps21
  go_wp2_with fail
  refine (counter_any _ _ _ HC.out (by omega)).mono ?_
  rintro e w1 ⟨v, rfl, ho, hc, hg⟩
  obtain ⟨l, hl, ho⟩ := ho
  obtain ⟨va, vc, rfl, _, _⟩ := own_form2 ho
  have O1 := hide ho
  have C1 := hide hc
  have G1 := hide hg
  have SB := hide (lit_row w1 #[.int .i64 0, .int .i64 1, .int .i64 5, .int .i64 10, .int .i64 30, .int .i64 1000000, .int .i64 1000001] [0, 1, 5, 10, 30, 1000000, 1000001] rfl)
  have CB := hide (C1.out.alloc (.cells #[.int .i64 0, .int .i64 1, .int .i64 5, .int .i64 10, .int .i64 30, .int .i64 1000000, .int .i64 1000001] 3))
  have hlt := C1.out.lt
  clear hc hg ho HC
  go_wp2_with fail
  refine (among_any _ _ w1.heap.size 7 7 [0, 1, 5, 10, 30, 1000000, 1000001] _ CB.out (by omega) rfl (by omega) (by omega) (by omega) SB.out).mono ?_
  rintro e w2 ⟨j, hj, rfl, hc2, hg2⟩
  obtain ⟨x, hxe⟩ : ∃ x, x = ([0, 1, 5, 10, 30, 1000000, 1000001] : List Int).getD j 0 := ⟨_, rfl⟩
  rw [← hxe]
  have hg12 := grown_trans (grown_alloc w1 (.cells #[.int .i64 0, .int .i64 1, .int .i64 5, .int .i64 10, .int .i64 30, .int .i64 1000000, .int .i64 1000001] 3) w.heap.size) hg2
  have O2 := hide (own_grown4 O1.out hg12 (by simp))
  have B2 := hide (grown_to_below (grown_trans G1.out hg12))
  clear hxe hc2 hg2 hg12 C1 G1 SB CB hlt O1
  go_wp2
  go_ret2
  exact ⟨_, _, rfl, ⟨l, hl, own_baseS16 O2.out (by simp)⟩, B2.out⟩
set_option maxRecDepth 100000 in
set_option maxHeartbeats 1000000 in
theorem drawRateOf_any (a : Option Addr) (n cap : Nat) (w : World) (h : Slb w w.heap.size a n) (hn : n ≤ 1048576) :
    Calls Try.prog 18 #[.slice a n cap] w fun e w' => ∃ v x, e = .returned (.tuple #[v, .int .i64 x]) ∧ OwnSm w' w.heap.size v ∧ Below w.heap.size w w' := by
  have HC := hide (drawWindowsOf_any a n cap w h hn)
  clear h
  go_enter Try.func18, Try.ntmps18
  go_wp2_with fail
  refine HC.out.mono ?_
  rintro e w1 ⟨v, x, rfl, ho, hb⟩
  have B1 := hide hb
  have O1 := hide ho
  clear ho hb HC
  go_wp2
  go_ret2
  exact ⟨_, _, rfl, O1.out, B1.out⟩
end Go.Proofs.Yticgejaaoamhmaf.L16
