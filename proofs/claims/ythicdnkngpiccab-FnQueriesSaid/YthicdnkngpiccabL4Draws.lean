/-
  Contracts: the draws of chapter 4's posts: some ints and lists of ints, whatever the bytes.
-/
import Derived.Test.YthicdnkngpiccabL4Base
import Derived.Test.YthicdnkngpiccabL3Cur
import Derived.Test.YthicdnkngpiccabL1Bytes
namespace Go.Proofs.Ythicdnkngpiccab.L4
open Go.RowKit L1
set_option linter.unusedVariables false

theorem cur_new {w : World} {a : Option Addr} {n cap : Nat} (h : Slb w w.heap.size a n) (hn : n ≤ 1048576) : Cur (w.alloc (Obj.cells #[.slice a n cap, .int .i64 0, .int .u64 0] 55)) w.heap.size 0 := by
  refine ⟨a, n, cap, 0, 0, by show (w.heap.push _)[w.heap.size]? = _; simp, Nat.le_refl _, hn, fun i hi => ?_⟩
  obtain ⟨bb, off, x, ha, hlt, hc, hx⟩ := h i hi
  exact ⟨bb, off, x, ha, hlt, by rw [World.cell?_of_block (w := w) (Below.heap_alloc _ _ _ hlt)]; exact hc, hx⟩
theorem grown_to_below {w w' : World} {o : Obj} (h : (w.alloc o).grownBy w' (some w.heap.size)) : Below w.heap.size w w' := by
  have h1 : Below w.heap.size (w.alloc o) w' := ⟨h.os, h.tape, h.output, h.size, fun k hk => h.block k (by simp; omega) (by simp; omega)⟩
  exact ((Below.refl _ _).alloc (Nat.le_refl _) _).trans h1
theorem Slb.below {w w' : World} {a : Option Addr} {n : Nat} (h : Slb w w.heap.size a n) (hb : Below w.heap.size w w') : Slb w' w'.heap.size a n := fun i hi => by
  obtain ⟨bb, off, x, ha, hlt, hc, hx⟩ := h i hi
  exact ⟨bb, off, x, ha, by have := hb.size; omega, by rw [hb.cell (p := ⟨bb, off + i, none⟩) hlt]; exact hc, hx⟩
theorem sl_len {w : World} {k : IntKind} {a : Option Addr} {len cap : Nat} {zs : List Int} (h : IsRow k w a len cap zs) : len ≤ 9223372036854775807 := by
  rcases h with ⟨_, rfl, _⟩ | ⟨x, _, hl, hm, _⟩
  · omega
  · unfold maxLen at hm; omega
theorem slb_of_row {w : World} {a : Option Addr} {len cap : Nat} {zs : List Int} (h : IsRow .u8 w a len cap zs) : Slb w w.heap.size a len := by
  rcases h with ⟨rfl, rfl, rfl, rfl⟩ | ⟨x, rfl, hl, hm, hz, hc, hwf⟩
  · exact fun i hi => absurd hi (Nat.not_lt_zero _)
  · intro i hi
    have hi' : i < zs.length := by omega
    have h0 := hc i hi'
    obtain ⟨b, off, spot⟩ := x
    have hspot : spot = none := by
      have h00 := hc 0 (by omega)
      simpa [Addr.add] using World.cell?_spot h00
    subst hspot
    have e : (⟨b, off, none⟩ : Addr).add i = ⟨b, off + i, none⟩ := by unfold Addr.add; split <;> simp_all
    rw [e] at h0
    have hw := hwf (zs.getD i 0) (by rw [List.getD, List.getElem?_eq_getElem hi']; simp)
    have hb := bounds_u8 hw
    exact ⟨b, off, zs.getD i 0, rfl, blk_lt h0, h0, by omega, by omega⟩


theorem own_grown4 {w w' : World} {base n b c : Nat} {t : TypeId} {v : Value} {ys : List Value} (h : w.ownsRow base t c v n ys) (hg : w.grownBy w' (some b)) (hb : b < base) : w'.ownsRow base t c v n ys := by
  refine ⟨h.1, ?_⟩
  rcases h.2 with h0 | ⟨g, cap, cur, rfl, hbg, hgg, r⟩
  · exact .inl h0
  · exact .inr ⟨g, cap, cur, rfl, hbg, by rw [hg.block g (Array.getElem?_eq_some_iff.1 hgg).1 (fun e => by cases e; omega)]; exact hgg, r⟩
theorem grown_low {a b c : World} {r : Option Nat} (h : a.grownBy b r) (k : Below a.heap.size b c) : a.grownBy c r :=
  ⟨k.os.trans h.os, k.tape.trans h.tape, k.output.trans h.output, Nat.le_trans h.size k.size, fun i hi hn => (k.block i hi).trans (h.block i hi hn)⟩
/-- Some ints that the caller owns. -/
def OwnP (w : World) (B : Nat) (v : Value) (m : Nat) : Prop := ∃ xs : List Int, xs.length ≤ m ∧ w.ownsRow B 3 1 v xs.length (xs.map (Value.int .i64))
theorem OwnP.grown {w w' : World} {B b m : Nat} {v : Value} (h : OwnP w B v m) (hg : w.grownBy w' (some b)) (hb : b < B) : OwnP w' B v m := by
  obtain ⟨xs, hl, ho⟩ := h
  exact ⟨xs, hl, own_grown4 ho hg hb⟩
theorem OwnP.base {w : World} {B B' m : Nat} {v : Value} (h : OwnP w B v m) (hB : B' ≤ B) : OwnP w B' v m := by
  obtain ⟨xs, hl, ho⟩ := h
  exact ⟨xs, hl, own_baseT ho hB⟩

set_option maxRecDepth 100000 in
set_option maxHeartbeats 4000000 in
theorem posts_any (b N : Nat) (w : World) (h : Cur w b N) (hN : N ≤ 1000000) :
    Calls Try.prog 30 #[.pointer (some ⟨b, 0, none⟩)] w fun e w' => ∃ v, e = .returned v ∧ OwnP w' w.heap.size v 61 ∧ Cur w' b (N + 1000) ∧ w.grownBy w' (some b) := by
  obtain ⟨i1, hi1, hy0, hy1, hy2⟩ := info_parts info_int
  have hbw := h.lt
  have HC := hide h
  clear h
  go_enter Try.func30, Try.ntmps30
  go_wp2_with fail
  refine (pick_any b N 10 _ HC.out (by omega) (by omega) (by omega)).mono ?_
  rintro e w1 ⟨o0, rfl, ho0, _, ho5, hc1, hg1⟩
  have ho5' := ho5 (by omega)
  obtain ⟨k0, rfl⟩ : ∃ k0 : Nat, o0 = (k0 : Int) := ⟨o0.toNat, by omega⟩
  have C1 := hide hc1
  have G1 := hide hg1
  clear hc1 hg1 ho5 ho0
  go_wp2_with fail
  refine (one_any b _ 20 _ C1.out (by omega) (by omega) (by omega)).mono ?_
  rintro e w2 ⟨t, rfl, hc2, hg2⟩
  have C2 := hide hc2
  have G2 := hide (grown_trans G1.out hg2)
  clear hc2 hg2
  cases t with
  | true =>
    go_wp2_with fail
    refine (pick_any b _ 3 _ C2.out (by omega) (by omega) (by omega)).mono ?_
    rintro e w3 ⟨o1, rfl, ho1, _, ho6, hc3, hg3⟩
    have ho6' := ho6 (by omega)
    obtain ⟨k1, rfl⟩ : ∃ k1 : Nat, o1 = (k1 : Int) := ⟨o1.toNat, by omega⟩
    obtain ⟨kk, hkk⟩ : ∃ kk : Nat, kk = 59 + k1 := ⟨_, rfl⟩
    have hki : 59 + (k1 : Int) = (kk : Int) := by omega
    have HKI := hide hki
    have h59 : 0 ≤ (k1 : Int) ∧ (k1 : Int) < 3 := by omega
    have hk61 : kk ≤ 61 := by omega
    have C3 := hide (hc3.mono (show N + 2 + 2 + 2 ≤ N + 6 by omega))
    have G3 := hide (grown_trans G2.out hg3)
    clear hc3 hg3 ho6 ho1 hki hkk
    go_wp2_with fail
    refine (pick_any b _ 4 _ C3.out (by omega) (by omega) (by omega)).mono ?_
    rintro e w4 ⟨x4, rfl, hx4, _, hx4', hc4, hg4⟩
    have hx4'' := hx4' (by omega)
    have C4 := hide hc4
    have G4 := hide (grown_trans G3.out hg4)
    clear hc4 hg4 hx4'
    go_wp2
    go_loopw [3, 4, 5] (fun lv nv av wr => ∃ (k : Nat) (at_ : Int), k ≤ 61 ∧ nv = .int .i64 k ∧ av = .int .i64 at_ ∧ (0 ≤ at_ ∧ at_ ≤ 10 * (62 - (k : Int))) ∧ OwnP wr w.heap.size lv (61 - k) ∧ Cur wr b (N + 8 + 2 * (61 - k)) ∧ w.grownBy wr (some b)) (fun _ nv _ _ => (intOf nv).toNat)
    case atStart => exact ⟨kk, x4, hk61, by rw [HKI.out], rfl, ⟨hx4, by omega⟩, ⟨[], by simp, World.ownsRow_nil _ _ _ _⟩, C4.out.mono (by omega), G4.out⟩
    case round =>
      obtain ⟨k, at_, hk, rfl, rfl, hat, hP, hC, hG⟩ := hrel
      obtain ⟨xs, hxl, hxo⟩ := hP
      obtain ⟨n, hn⟩ : ∃ n, n = xs.length := ⟨_, rfl⟩
      rw [← hn] at hxl hxo
      have hsz := hG.size
      by_cases hk0 : 0 < (k : Int)
      · obtain ⟨oa, ocap, rfl⟩ := own_shapeT hxo
        have HN := hide hn.symm
        have HROW := hide hxo
        have HCC := hide hC
        have HG := hide hG
        clear hn hxo hC hG
        go_wp2_with (first
          | (at_builtin; refine wpList_append_own _ rfl _ _ 23 rfl w.heap.size 3 i1 (.int .i64 0) 1 8 Try.underlying23 hi1 hy0 hy1 hy2 rfl (by decide) _ _ _ rfl (HROW.out.alloc _) ⟨wr.heap.size, 0, none⟩ 1 1 [.int .i64 at_] rfl rfl (cell_one_new _ _ _) (by intro u hu; simp at hu; subst hu; rfl) (by unfold maxLen; omega) (by omega) (by simp; omega) ?_)
          | go_in)
        intro v6 w6 hown6 hgrow6 _
        have hb6 : Below w.heap.size wr w6 := ((Below.refl _ _).alloc hsz _).grown hgrow6 (by simp; omega) (fun g hg => (HROW.out.lt g hg).1)
        have O6 : Hid (OwnP w6 w.heap.size v6 (61 - (k - 1))) := by
          refine ⟨xs ++ [at_], by simp; have := HN.out; omega, ?_⟩
          rw [List.length_append, List.map_append, HN.out]
          simpa using hown6
        obtain ⟨oa6, oc6, rfl⟩ := own_shapeT hown6
        have C6 := hide (HCC.out.kept (fun i hi => hb6.block i (by omega)))
        have G6 := hide (grown_low HG.out hb6)
        clear hown6 hgrow6 hb6 HCC HG HROW HN
        go_wp2_with fail
        refine (pick_any b _ 4 _ C6.out (by omega) (by omega) (by omega)).mono ?_
        rintro e w7 ⟨x7, rfl, hx7, _, hx7', hc7, hg7⟩
        have hx7'' := hx7' (by omega)
        have O7 := hide (O6.out.grown hg7 hbw)
        have C7 := hide hc7
        have G7 := hide (grown_trans G6.out hg7)
        clear hc7 hg7 hx7'
        go_wp2
        go_roundw
        case rel => exact ⟨k - 1, at_ + (1 + x7), by omega, by congr 1; omega, rfl, ⟨by omega, by omega⟩, O7.out, C7.out.mono (by omega), G7.out⟩
        case measure => simp [intOf]; omega
      · by_cases hn0 : 0 < (n : Int)
        · obtain ⟨g, ocap, rfl, hcc⟩ : ∃ g ocap, u3 = .slice (some ⟨g, 0, none⟩) n ocap ∧ n ≤ ocap := by
            rcases hxo.2 with ⟨_, h0⟩ | ⟨g, cap, cur, hv, _, _, hc, _⟩
            · omega
            · exact ⟨g, cap, hv, hc⟩
          have HN := hide hn.symm
          have HROW := hide hxo
          have HCC := hide hC
          have HG := hide hG
          have hgw := (hxo.lt g rfl).1
          clear hn hxo hC hG
          go_wp2_with fail
          refine (one_any b _ 30 _ HCC.out (by omega) (by omega) (by omega)).mono ?_
          rintro e w5 ⟨t5, rfl, hc5, hg5⟩
          have O5 := hide (own_grown4 HROW.out hg5 hbw)
          have C5 := hide hc5
          have G5 := hide (grown_trans HG.out hg5)
          have hz5 := G5.out.size
          clear hc5 hg5 HCC HG HROW
          cases t5 with
          | true =>
            have AM := hide (among_any b (N + 8 + 2 * (61 - k) + 2) w5.heap.size 3 3 [-1, 9999, 10000] (w5.alloc (.cells #[.int .i64 (-1), .int .i64 9999, .int .i64 10000] 3)) (C5.out.alloc _) (by omega) rfl (by omega) (by omega) (by omega) (lit_row _ _ _ rfl))
            go_wp2_with fail
            refine AM.out.mono ?_
            rintro e w6 ⟨j, hj, rfl, hc6, hg6⟩
            obtain ⟨y, hy⟩ : ∃ y, y = ([-1, 9999, 10000] : List Int).getD j 0 := ⟨_, rfl⟩
            rw [← hy]
            have hown6 := own_grown4 (O5.out.alloc _) hg6 hbw
            have hcl := hown6.cellAt 0 (by have := HN.out; simp; omega)
            have hfr := hown6.frozenAt 0
            obtain ⟨u, hu⟩ : ∃ u, w6.cell? ⟨g, 0, none⟩ = some u := ⟨_, hcl.trans (List.getElem?_eq_getElem (by have := HN.out; simp; omega))⟩
            have hs6 := hown6.stored 0 (.int .i64 y)
            have O6 : Hid (OwnP (w6.setCell ⟨g, 0, none⟩ (.int .i64 y)) w.heap.size (.slice (some ⟨g, 0, none⟩) n ocap) 61) := by
              refine ⟨xs.set 0 y, by rw [List.length_set, HN.out]; omega, ?_⟩
              rw [List.length_set, HN.out, List.map_set]
              exact hs6.1
            have hbs := (Below.refl w.heap.size w6).setCell (p := ⟨g, 0, none⟩) hgw (.int .i64 y)
            have C6 := hide (hc6.kept (fun i hi => hbs.block i (by omega)))
            have G6 := hide (grown_low (grown_trans G5.out (grown_trans (grown_alloc _ _ _) hg6)) hbs)
            clear hown6 hcl hs6 hbs hc6 hg6 hy AM
            go_wp2
            go_ret
            exact ⟨_, rfl, O6.out, C6.out.mono (by omega), G6.out⟩
          | false =>
            go_wp2
            go_ret
            exact ⟨_, rfl, ⟨xs, by rw [HN.out]; omega, by rw [HN.out]; exact O5.out⟩, C5.out.mono (by omega), G5.out⟩
        · obtain ⟨oa, ocap, rfl⟩ := own_shapeT hxo
          have HN := hide hn.symm
          have HROW := hide hxo
          clear hn hxo
          go_wp2
          go_ret
          exact ⟨_, rfl, ⟨xs, by rw [HN.out]; omega, by rw [HN.out]; exact HROW.out⟩, hC.mono (by omega), hG⟩
  | false =>
    obtain ⟨kk, hkk⟩ : ∃ kk : Nat, kk = k0 := ⟨_, rfl⟩
    have hki : (k0 : Int) = (kk : Int) := by omega
    have HKI := hide hki
    have hk61 : kk ≤ 61 := by omega
    have C3 := hide (C2.out.mono (show N + 2 + 2 ≤ N + 6 by omega))
    have G3 := G2
    clear hki hkk
    go_wp2_with fail
    refine (pick_any b _ 4 _ C3.out (by omega) (by omega) (by omega)).mono ?_
    rintro e w4 ⟨x4, rfl, hx4, _, hx4', hc4, hg4⟩
    have hx4'' := hx4' (by omega)
    have C4 := hide hc4
    have G4 := hide (grown_trans G3.out hg4)
    clear hc4 hg4 hx4'
    go_wp2
    go_loopw [3, 4, 5] (fun lv nv av wr => ∃ (k : Nat) (at_ : Int), k ≤ 61 ∧ nv = .int .i64 k ∧ av = .int .i64 at_ ∧ (0 ≤ at_ ∧ at_ ≤ 10 * (62 - (k : Int))) ∧ OwnP wr w.heap.size lv (61 - k) ∧ Cur wr b (N + 8 + 2 * (61 - k)) ∧ w.grownBy wr (some b)) (fun _ nv _ _ => (intOf nv).toNat)
    case atStart => exact ⟨kk, x4, hk61, by rw [HKI.out], rfl, ⟨hx4, by omega⟩, ⟨[], by simp, World.ownsRow_nil _ _ _ _⟩, C4.out.mono (by omega), G4.out⟩
    case round =>
      obtain ⟨k, at_, hk, rfl, rfl, hat, hP, hC, hG⟩ := hrel
      obtain ⟨xs, hxl, hxo⟩ := hP
      obtain ⟨n, hn⟩ : ∃ n, n = xs.length := ⟨_, rfl⟩
      rw [← hn] at hxl hxo
      have hsz := hG.size
      by_cases hk0 : 0 < (k : Int)
      · obtain ⟨oa, ocap, rfl⟩ := own_shapeT hxo
        have HN := hide hn.symm
        have HROW := hide hxo
        have HCC := hide hC
        have HG := hide hG
        clear hn hxo hC hG
        go_wp2_with (first
          | (at_builtin; refine wpList_append_own _ rfl _ _ 23 rfl w.heap.size 3 i1 (.int .i64 0) 1 8 Try.underlying23 hi1 hy0 hy1 hy2 rfl (by decide) _ _ _ rfl (HROW.out.alloc _) ⟨wr.heap.size, 0, none⟩ 1 1 [.int .i64 at_] rfl rfl (cell_one_new _ _ _) (by intro u hu; simp at hu; subst hu; rfl) (by unfold maxLen; omega) (by omega) (by simp; omega) ?_)
          | go_in)
        intro v6 w6 hown6 hgrow6 _
        have hb6 : Below w.heap.size wr w6 := ((Below.refl _ _).alloc hsz _).grown hgrow6 (by simp; omega) (fun g hg => (HROW.out.lt g hg).1)
        have O6 : Hid (OwnP w6 w.heap.size v6 (61 - (k - 1))) := by
          refine ⟨xs ++ [at_], by simp; have := HN.out; omega, ?_⟩
          rw [List.length_append, List.map_append, HN.out]
          simpa using hown6
        obtain ⟨oa6, oc6, rfl⟩ := own_shapeT hown6
        have C6 := hide (HCC.out.kept (fun i hi => hb6.block i (by omega)))
        have G6 := hide (grown_low HG.out hb6)
        clear hown6 hgrow6 hb6 HCC HG HROW HN
        go_wp2_with fail
        refine (pick_any b _ 4 _ C6.out (by omega) (by omega) (by omega)).mono ?_
        rintro e w7 ⟨x7, rfl, hx7, _, hx7', hc7, hg7⟩
        have hx7'' := hx7' (by omega)
        have O7 := hide (O6.out.grown hg7 hbw)
        have C7 := hide hc7
        have G7 := hide (grown_trans G6.out hg7)
        clear hc7 hg7 hx7'
        go_wp2
        go_roundw
        case rel => exact ⟨k - 1, at_ + (1 + x7), by omega, by congr 1; omega, rfl, ⟨by omega, by omega⟩, O7.out, C7.out.mono (by omega), G7.out⟩
        case measure => simp [intOf]; omega
      · by_cases hn0 : 0 < (n : Int)
        · obtain ⟨g, ocap, rfl, hcc⟩ : ∃ g ocap, u3 = .slice (some ⟨g, 0, none⟩) n ocap ∧ n ≤ ocap := by
            rcases hxo.2 with ⟨_, h0⟩ | ⟨g, cap, cur, hv, _, _, hc, _⟩
            · omega
            · exact ⟨g, cap, hv, hc⟩
          have HN := hide hn.symm
          have HROW := hide hxo
          have HCC := hide hC
          have HG := hide hG
          have hgw := (hxo.lt g rfl).1
          clear hn hxo hC hG
          go_wp2_with fail
          refine (one_any b _ 30 _ HCC.out (by omega) (by omega) (by omega)).mono ?_
          rintro e w5 ⟨t5, rfl, hc5, hg5⟩
          have O5 := hide (own_grown4 HROW.out hg5 hbw)
          have C5 := hide hc5
          have G5 := hide (grown_trans HG.out hg5)
          have hz5 := G5.out.size
          clear hc5 hg5 HCC HG HROW
          cases t5 with
          | true =>
            have AM := hide (among_any b (N + 8 + 2 * (61 - k) + 2) w5.heap.size 3 3 [-1, 9999, 10000] (w5.alloc (.cells #[.int .i64 (-1), .int .i64 9999, .int .i64 10000] 3)) (C5.out.alloc _) (by omega) rfl (by omega) (by omega) (by omega) (lit_row _ _ _ rfl))
            go_wp2_with fail
            refine AM.out.mono ?_
            rintro e w6 ⟨j, hj, rfl, hc6, hg6⟩
            obtain ⟨y, hy⟩ : ∃ y, y = ([-1, 9999, 10000] : List Int).getD j 0 := ⟨_, rfl⟩
            rw [← hy]
            have hown6 := own_grown4 (O5.out.alloc _) hg6 hbw
            have hcl := hown6.cellAt 0 (by have := HN.out; simp; omega)
            have hfr := hown6.frozenAt 0
            obtain ⟨u, hu⟩ : ∃ u, w6.cell? ⟨g, 0, none⟩ = some u := ⟨_, hcl.trans (List.getElem?_eq_getElem (by have := HN.out; simp; omega))⟩
            have hs6 := hown6.stored 0 (.int .i64 y)
            have O6 : Hid (OwnP (w6.setCell ⟨g, 0, none⟩ (.int .i64 y)) w.heap.size (.slice (some ⟨g, 0, none⟩) n ocap) 61) := by
              refine ⟨xs.set 0 y, by rw [List.length_set, HN.out]; omega, ?_⟩
              rw [List.length_set, HN.out, List.map_set]
              exact hs6.1
            have hbs := (Below.refl w.heap.size w6).setCell (p := ⟨g, 0, none⟩) hgw (.int .i64 y)
            have C6 := hide (hc6.kept (fun i hi => hbs.block i (by omega)))
            have G6 := hide (grown_low (grown_trans G5.out (grown_trans (grown_alloc _ _ _) hg6)) hbs)
            clear hown6 hcl hs6 hbs hc6 hg6 hy AM
            go_wp2
            go_ret
            exact ⟨_, rfl, O6.out, C6.out.mono (by omega), G6.out⟩
          | false =>
            go_wp2
            go_ret
            exact ⟨_, rfl, ⟨xs, by rw [HN.out]; omega, by rw [HN.out]; exact O5.out⟩, C5.out.mono (by omega), G5.out⟩
        · obtain ⟨oa, ocap, rfl⟩ := own_shapeT hxo
          have HN := hide hn.symm
          have HROW := hide hxo
          clear hn hxo
          go_wp2
          go_ret
          exact ⟨_, rfl, ⟨xs, by rw [HN.out]; omega, by rw [HN.out]; exact HROW.out⟩, hC.mono (by omega), hG⟩

set_option maxRecDepth 100000 in
set_option maxHeartbeats 2000000 in
theorem drawMeet_any (a : Option Addr) (n cap : Nat) (w : World) (h : Slb w w.heap.size a n) (hn : n ≤ 1048576) :
    Calls Try.prog 5 #[.slice a n cap] w fun e w' => ∃ v u, e = .returned (.tuple #[v, u]) ∧ OwnP w' w.heap.size v 61 ∧ OwnP w' w.heap.size u 61 ∧ Below w.heap.size w w' := by
  have HC := hide (cur_new (cap := cap) h hn)
  clear h
  have hsz0 : (w.alloc (Obj.cells #[.slice a n cap, .int .i64 0, .int .u64 0] 55)).heap.size = w.heap.size + 1 := by simp
  go_enter Try.func5, Try.ntmps5
  go_wp2_with fail
  refine (posts_any _ 0 _ HC.out (by omega)).mono ?_
  rintro e w1 ⟨v, rfl, hT1, hc1, hg1⟩
  rw [hsz0] at hT1
  have hv : ∃ oa k ocap, v = .slice oa k ocap := by
    obtain ⟨xs, _, ho⟩ := hT1
    obtain ⟨oa, ocap, e⟩ := own_shapeT ho
    exact ⟨oa, _, ocap, e⟩
  obtain ⟨oa, k1, ocap, rfl⟩ := hv
  have T1 := hide hT1
  have C1 := hide hc1
  have G1 := hide hg1
  have hz1 := hg1.size
  rw [hsz0] at hz1
  clear hT1 hc1 hg1
  go_wp2_with fail
  refine (posts_any _ (0 + 1000) _ C1.out (by omega)).mono ?_
  rintro e w2 ⟨u, rfl, hT2, hc2, hg2⟩
  have hv : ∃ oa k ocap, u = .slice oa k ocap := by
    obtain ⟨xs, _, ho⟩ := hT2
    obtain ⟨oa, ocap, e⟩ := own_shapeT ho
    exact ⟨oa, _, ocap, e⟩
  obtain ⟨ob, k2, obcap, rfl⟩ := hv
  have T2 := hide (hT2.base (show w.heap.size ≤ w1.heap.size by omega))
  have T1' := hide ((T1.out.grown hg2 (by omega)).base (Nat.le_succ _))
  have B2 := hide (grown_to_below (grown_trans G1.out hg2))
  clear hT2 hc2 hg2
  go_wp2
  go_ret2
  exact ⟨_, _, rfl, T1'.out, T2.out, B2.out⟩

set_option maxRecDepth 100000 in
set_option maxHeartbeats 2000000 in
theorem drawLeap_any (a : Option Addr) (n cap : Nat) (w : World) (h : Slb w w.heap.size a n) (hn : n ≤ 1048576) :
    Calls Try.prog 15 #[.slice a n cap] w fun e w' => ∃ v f x, e = .returned (.tuple #[v, .int .i64 f, .int .i64 x]) ∧ (-1 ≤ f ∧ f ≤ 70000) ∧ (-1 ≤ x ∧ x ≤ 70000) ∧ OwnP w' w.heap.size v 61 ∧ Below w.heap.size w w' := by
  have HC := hide (cur_new (cap := cap) h hn)
  clear h
  have hsz0 : (w.alloc (Obj.cells #[.slice a n cap, .int .i64 0, .int .u64 0] 55)).heap.size = w.heap.size + 1 := by simp
  go_enter Try.func15, Try.ntmps15
  go_wp2_with fail
  refine (posts_any _ 0 _ HC.out (by omega)).mono ?_
  rintro e w1 ⟨v, rfl, hT1, hc1, hg1⟩
  rw [hsz0] at hT1
  obtain ⟨oa, k1, ocap, rfl, hk1⟩ : ∃ oa k ocap, v = .slice oa k ocap ∧ k ≤ 61 := by
    obtain ⟨xs, hl, ho⟩ := hT1
    obtain ⟨oa, ocap, e⟩ := own_shapeT ho
    exact ⟨oa, _, ocap, e, hl⟩
  have T1 := hide hT1
  have C1 := hide hc1
  have G1 := hide hg1
  clear hT1 hc1 hg1
  go_wp2_with fail
  refine (pick_any _ _ ((k1 : Int) + 3) _ C1.out (by omega) (by omega) (by omega)).mono ?_
  rintro e w2 ⟨x2, rfl, hx2, hx2', _, hc2, hg2⟩
  have T2 := hide (T1.out.grown hg2 (by omega))
  have C2 := hide hc2
  have G2 := hide (grown_trans G1.out hg2)
  clear hc2 hg2
  go_wp2_with fail
  refine (pick_any _ _ 40 _ C2.out (by omega) (by omega) (by omega)).mono ?_
  rintro e w3 ⟨x3, rfl, hx3, hx3', _, hc3, hg3⟩
  have T3 := hide ((T2.out.grown hg3 (by omega)).base (Nat.le_succ _))
  have B3 := hide (grown_to_below (grown_trans G2.out hg3))
  clear hc3 hg3
  go_wp2
  go_ret3
  exact ⟨_, _, _, rfl, ⟨by omega, by omega⟩, ⟨by omega, by omega⟩, T3.out, B3.out⟩
end Go.Proofs.Ythicdnkngpiccab.L4
