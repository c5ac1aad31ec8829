/-
  Contract: spec.MergeLabels: two good lists of labels merged, in new memory, and true, where they are at most six; else no list and false.
-/
import Derived.Test.YthagpceagifjnaaDoorL3MergeMath
import Derived.Test.YthagpceagifjnaaDoorL3SpecGood
import Derived.Maps.AppendAt
namespace Go.Proofs.YthagpceagifjnaaDoor.L3
open Go.RowKit L1
set_option linter.unusedVariables false

theorem slL_cells {w : World} {b off : Nat} {l : List Lb} (h : SlL w (some ⟨b, off, none⟩) l) : ∀ j u, (flatL l)[j]? = some u → w.cell? ((⟨b, off, none⟩ : Addr).add j) = some u := by
  intro j u hu
  have hj : j < (flatL l).length := (List.getElem?_eq_some_iff.1 hu).1
  rw [flatL_len] at hj
  have e0 : ∀ j, (⟨b, off, none⟩ : Addr).add j = ⟨b, off + j, none⟩ := fun j => by unfold Addr.add; split <;> simp_all
  obtain ⟨b', off', ha, h1, h2⟩ := h (j / 2) (by omega)
  cases ha
  have hf := flatL_get l (j / 2) (by omega)
  rw [e0]
  rcases (show j % 2 = 0 ∨ j % 2 = 1 by omega) with hm | hm
  · have e : j = j / 2 * 2 := by omega
    rw [e, hf.1] at hu
    rw [e, h1, ← hu]
  · have e : j = j / 2 * 2 + 1 := by omega
    rw [e, hf.2] at hu
    rw [e, ← Nat.add_assoc, h2, ← hu]
theorem slL_drop {w : World} {b off : Nat} {l : List Lb} (h : SlL w (some ⟨b, off, none⟩) l) (k : Nat) : SlL w (some ⟨b, off + k * 2, none⟩) (l.drop k) := fun i hi => by
  have hi' : k + i < l.length := by simp at hi; omega
  obtain ⟨b', off', ha, h1, h2⟩ := h (k + i) hi'
  cases ha
  refine ⟨b, off + k * 2, rfl, ?_, ?_⟩
  · rw [show off + k * 2 + i * 2 = off + (k + i) * 2 by omega, h1]; simp [List.getD]
  · rw [show off + k * 2 + i * 2 + 1 = off + (k + i) * 2 + 1 by omega, h2]; simp [List.getD]
theorem flatL_one : ∀ l : List Lb, ∀ u ∈ flatL l, u.oneCell' = true
  | [], u, h => by simp [flatL] at h
  | p :: l, u, h => by
    simp only [flatL, List.mem_cons] at h
    rcases h with rfl | rfl | h
    · rfl
    · rfl
    · exact flatL_one l u h
theorem cell_two_newL (w : World) (p q : Value) (t : TypeId) : ∀ j u, [p, q][j]? = some u → (w.alloc (.cells #[p, q] t)).cell? ((⟨w.heap.size, 0, none⟩ : Addr).add j) = some u := by
  intro j u h
  rw [addr_add]
  match j, h with
  | 0, h => simp at h; subst h; simp
  | 1, h => simp at h; subst h; simp
  | j + 2, h => simp at h
theorem own_shapeL {w : World} {base n c : Nat} {t : TypeId} {v : Value} {xs : List Value} (h : w.ownsRow base t c v n xs) : ∃ a cap, v = .slice a n cap := by
  rcases h.2 with ⟨hv, h0⟩ | ⟨g, cap, cur, hv, _⟩
  · exact ⟨none, 0, by rw [hv, h0]⟩
  · exact ⟨_, cap, hv⟩
theorem capL {w : World} {base n c cap : Nat} {t : TypeId} {a : Option Addr} {xs : List Value} (h : w.ownsRow base t c (.slice a n cap) n xs) : n ≤ cap := by
  rcases h.2 with ⟨hv, h0⟩ | ⟨g, cap', cur, hv, _, _, hc, _⟩
  · omega
  · cases hv; exact hc
theorem drop_cons (l : List Lb) (k : Nat) (hk : k < l.length) : l.drop k = l.getD k eL :: l.drop (k + 1) := by
  rw [List.drop_eq_getElem_cons hk]
  simp [List.getD, List.getElem?_eq_getElem hk]
theorem cell_app {w w6 : World} {o : Obj} {row : Option Nat} {p : Addr} {v : Value} (h : w.cell? p = some v) (hg : (w.alloc o).grownBy w6 row) (hne : some p.block ≠ row) : w6.cell? p = some v :=
  hg.cell ((((Below.refl w.heap.size w).alloc (Nat.le_refl _) o).cell (World.block_lt_of_cell? w p h)).trans h) hne
/-- Two cells stay, and one more, while only draws are made. -/
theorem keepM {wa wb : World} {B1 O1 X N : Nat} {v1 v2 : Value} {W : World} (h : wa.cell? ⟨B1, O1, none⟩ = some v1 ∧ wa.cell? ⟨X, 0, none⟩ = some v2 ∧ Below N W wa) (hb : Below wa.heap.size wa wb) (hN : N ≤ W.heap.size) :
    wb.cell? ⟨B1, O1, none⟩ = some v1 ∧ wb.cell? ⟨X, 0, none⟩ = some v2 ∧ Below N W wb :=
  ⟨(hb.cell (p := ⟨B1, O1, none⟩) (blk_lt h.1)).trans h.1, (hb.cell (p := ⟨X, 0, none⟩) (blk_lt h.2.1)).trans h.2.1, h.2.2.trans (hb.mono (Nat.le_trans hN h.2.2.size))⟩

open Classical in
set_option maxRecDepth 100000 in
set_option maxHeartbeats 8000000 in
theorem specMerge_opt (b1 o1 : Nat) (a2 : Option Addr) (a b : List Lb) (n1 n2 c1 c2 : Nat) (w : World) (hn1 : a.length = n1) (hs1 : SlL w (some ⟨b1, o1, none⟩) a) (hn2 : b.length = n2) (hs2 : SlL w a2 b) (hm1 : n1 ≤ 1048576) (hm2 : n2 ≤ 1048576) (hc1 : n1 ≤ c1) (hc2 : c1 ≤ 9223372036854775807)
    (ht1 : ∀ j, j < a.length → (a.getD j eL).1.size ≤ 9223372036854775807 ∧ (a.getD j eL).2.size ≤ 9223372036854775807) (ht2 : ∀ j, j < b.length → (b.getD j eL).1.size ≤ 9223372036854775807 ∧ (b.getD j eL).2.size ≤ 9223372036854775807) (r : Option (List Lb)) (hr : r = mrgRes a b) :
    Calls Tryd.prog 69 #[.slice (some ⟨b1, o1, none⟩) n1 c1, .slice a2 n2 c2] w fun e w' => RetLb w r e w' := by
  have NO : ∀ e w', r = none → e = .returned (.tuple #[.slice none 0 0, .bool false]) → Below w.heap.size w w' → RetLb w r e w' := fun e w' h1 h2 h3 => ⟨.slice none 0 0, by rw [h2, h1]; rfl, by rw [h1]; exact World.ownsRow_nil _ _ _ _, h3⟩
  have HNO := hide NO
  clear NO
  by_cases hg1 : GoodL a
  · have C1 := hide (specGoodLabels_any (some ⟨b1, o1, none⟩) a n1 c1 w hn1 hs1 hm1 ht1 true (by simp [hg1]))
    by_cases hg2 : GoodL b
    · have C2 := hide (fun w hs => specGoodLabels_any a2 b n2 c2 w hn2 hs hm2 ht2 true (by simp [hg2]))
      have h61 : n1 ≤ 6 := by have := hg1.1; omega
      have h62 : n2 ≤ 6 := by have := hg2.1; omega
      have hMl := mg_len _ a b (Nat.le_refl _)
      have hrr : r = if (mg a b).length ≤ 6 then some (mg a b) else none := by
        rw [hr]; unfold mrgRes
        by_cases h : (mg a b).length ≤ 6
        · rw [if_pos ⟨hg1, hg2, h⟩, if_pos h]
        · rw [if_neg (fun hh => h hh.2.2), if_neg h]
      obtain ⟨M, hM⟩ : ∃ M, M = mg a b := ⟨_, rfl⟩
      rw [← hM] at hMl hrr
      have HRR := hide hrr
      have HM := hide hM
      have hM12 : M.length ≤ 12 := by omega
      have HS1 := hide hs1
      have HS2 := hide hs2
      have HN1 := hide hn1
      have HN2 := hide hn2
      obtain ⟨i1, hi1, hy0, hy1, hy2⟩ := info_parts info_lab
      clear hr hrr hg1 hg2 hs1 hs2 hn1 hn2 ht1 ht2 hM hMl
      go_enter Tryd.func69, Tryd.ntmps69
      go_wp2_with fail
      refine C1.out.mono ?_
      rintro e w1 ⟨rfl, hb1⟩
      have B1 := hide hb1
      clear hb1
      go_wp2_with fail
      refine (C2.out _ (HS2.out.below B1.out)).mono ?_
      rintro e w2 ⟨rfl, hb2⟩
      have B2 := hide (B1.out.trans (hb2.mono B1.out.size))
      clear hb2
      go_wp2
      go_loopw [6, 7, 20] (fun ot iv jv wr => ∃ (k j : Nat) (ys : List Lb), k ≤ n1 ∧ j ≤ n2 ∧ iv = .int .i64 k ∧ jv = .int .i64 j ∧ wr.ownsRow w.heap.size 105 2 ot ys.length (flatL ys) ∧ Hid (ys ++ mg (a.drop k) (b.drop j) = M) ∧ Below w.heap.size w wr) (fun _ _ jv _ => n2 - (intOf jv).toNat)
      case atStart => exact ⟨0, 0, [], Nat.zero_le _, Nat.zero_le _, rfl, rfl, World.ownsRow_nil _ _ _ _, by show [] ++ mg (a.drop 0) (b.drop 0) = M; rw [HM.out]; simp, B2.out⟩
      case round =>
        obtain ⟨k, j, ys, hk, hj, rfl, rfl, hown, HMG, hbel⟩ := hrel
        obtain ⟨oa, ocap, rfl⟩ := own_shapeL hown
        by_cases hlt : j < n2
        · obtain ⟨b2, o2, rfl, hc0, hd0⟩ := HS2.out j (by rw [HN2.out]; exact hlt)
          have hc := (hbel.cell (p := ⟨b2, o2 + j * 2, none⟩) (blk_lt hc0)).trans hc0
          have hd := (hbel.cell (p := ⟨b2, o2 + j * 2 + 1, none⟩) (blk_lt hd0)).trans hd0
          have hltI : (j : Int) < (n2 : Int) := by omega
          have hbd := drop_cons b j (by rw [HN2.out]; exact hlt)
          obtain ⟨y, hy⟩ : ∃ y, y = (b.getD j eL).1 := ⟨_, rfl⟩
          obtain ⟨z, hz⟩ : ∃ z, z = (b.getD j eL).2 := ⟨_, rfl⟩
          have hyz : b.getD j eL = (y, z) := by rw [hy, hz]
          rw [hyz] at hbd
          rw [← hy] at hc
          rw [← hz] at hd
          have HBD := hide hbd
          have HOW := hide hown
          have B0 := hide hbel
          have hsz := hbel.size
          clear hc0 hd0 hy hz hyz hbd hown hbel
          go_wp2
          obtain ⟨X, hX⟩ : ∃ X, X = wr.heap.size := ⟨_, rfl⟩
          obtain ⟨W0, hW0⟩ : ∃ W0, wr.alloc (.cells #[.string y, .string z] 105) = W0 := ⟨_, rfl⟩
          have x0 : W0.cell? ⟨X, 0, none⟩ = some (.string y) := by rw [← hW0, hX]; simp
          have x1 : W0.cell? ⟨X, 1, none⟩ = some (.string z) := by rw [← hW0, hX]; simp
          have hXW : X < W0.heap.size := by rw [← hW0, hX]; simp
          have hwX : w.heap.size ≤ X := by rw [hX]; exact hsz
          have hb0 : Below w.heap.size w W0 := by rw [← hW0]; exact B0.out.alloc hsz _
          have ho0 : W0.ownsRow w.heap.size 105 2 (.slice oa ys.length ocap) ys.length (flatL ys) := by rw [← hW0]; exact HOW.out.alloc _
          have hne0 : (Value.slice oa ys.length ocap).ownBlock ≠ some X := fun e => by have := (HOW.out.lt X e).2; omega
          rw [hW0, ← hX]
          have X0 := hide (And.intro x0 x1)
          have HB0 := hide hb0
          have HO0 := hide ho0
          have HNE0 := hide hne0
          clear hW0 hX x0 x1 hb0 ho0 hne0 HOW B0 hc hd
          go_loopw [6, 7] (fun ot iv wq => ∃ (k : Nat) (ys : List Lb), k ≤ n1 ∧ iv = .int .i64 k ∧ wq.ownsRow w.heap.size 105 2 ot ys.length (flatL ys) ∧ Hid (ot.ownBlock ≠ some X) ∧ Hid (ys ++ mg (a.drop k) (b.drop j) = M) ∧ wq.cell? ⟨X, 0, none⟩ = some (.string y) ∧ wq.cell? ⟨X, 1, none⟩ = some (.string z) ∧ Below w.heap.size w wq) (fun _ iv _ => n1 - (intOf iv).toNat)
          case atStart => exact ⟨k, ys, hk, rfl, HO0.out, HNE0.out, HMG.out, X0.out.1, X0.out.2, HB0.out⟩
          case round =>
            clear hk HMG HO0 HNE0 X0 HB0
            obtain ⟨k, ys, hk, rfl, hown, HNE, HMG, hX0, hX1, hbel⟩ := hrel
            obtain ⟨oa, ocap, rfl⟩ := own_shapeL hown
            have hyl : ys.length ≤ 12 := by
              have := congrArg List.length HMG.out
              rw [List.length_append] at this
              omega
            have HX1 := hide hX1
            have hXq := blk_lt hX0
            have hsz2 := hbel.size
            by_cases hkn : k < n1
            · obtain ⟨b', o', ha', hp0, hq0⟩ := HS1.out k (by rw [HN1.out]; exact hkn)
              cases ha'
              have hpc := (hbel.cell (p := ⟨b1, o1 + k * 2, none⟩) (blk_lt hp0)).trans hp0
              have hqc := (hbel.cell (p := ⟨b1, o1 + k * 2 + 1, none⟩) (blk_lt hq0)).trans hq0
              have hknI : (k : Int) < (n1 : Int) := by omega
              have hk0 : (0 : Int) ≤ (k : Int) := by omega
              have had := drop_cons a k (by rw [HN1.out]; exact hkn)
              obtain ⟨p, hp⟩ : ∃ p, p = (a.getD k eL).1 := ⟨_, rfl⟩
              obtain ⟨q, hq⟩ : ∃ q, q = (a.getD k eL).2 := ⟨_, rfl⟩
              have hpq : a.getD k eL = (p, q) := by rw [hp, hq]
              rw [hpq] at had
              rw [← hp] at hpc
              rw [← hq] at hqc
              have hmg := HMG.out
              rw [had, HBD.out] at hmg
              have HB1 := hide (blk_lt hp0)
              have HB2 := hide (blk_lt hq0)
              have HQC := hide hqc
              have HMG2 := hide hmg
              have HAK := hide hpq
              have HOW := hide hown
              have B0 := hide hbel
              clear hp0 hq0 hp hq hpq had hmg hown hbel hX1 HMG hqc
              by_cases hah : Ahead p y
              · have hlt2 : Op.bytesLess p.toList y.toList = true := hah
                have hst : ys ++ [(p, q)] ++ mg (a.drop (k + 1)) (b.drop j) = M := by rw [← HMG2.out, mg_ahead _ _ hah, HBD.out]; simp
                have HST := hide hst
                clear hah hst
                go_wp2
                refine wp_region_held_drew (S := (fun wx => wx.cell? ⟨b1, o1 + k * 2, none⟩ = some (.string p) ∧ wx.cell? ⟨X, 0, none⟩ = some (.string y) ∧ Below wr.heap.size wr wx)) (by kernel_rfl) ⟨hpc, hX0, (Below.refl _ _).drew⟩ (fun hHeld => ?_)
                refine wpAnyH_take (i := 0) (v := ?v1) rfl (by kernel_rfl) (by kernel_rfl) (by kernel_rfl) (fun _ _ _ h => h) (Or.inl ⟨by rfl, ?y1⟩) (by assumption) ?r1
                case y1 => (intro w hSw; (try dsimp only at hSw); go_simp; try (with_reducible rfl))
                simp only [List.getElem_toArray, List.getElem_cons_zero, Act.put, List.setIfInBounds_toArray, List.set_cons_zero, List.set_cons_succ]
                refine wpAnyH_take (i := 1) (v := ?v2) rfl (by kernel_rfl) (by kernel_rfl) (by kernel_rfl) (fun _ _ _ h => h) (Or.inl ⟨by rfl, ?y2⟩) (by assumption) ?r2
                case y2 => (intro w hSw; (try dsimp only at hSw); go_simp; try (with_reducible rfl))
                simp only [List.getElem_toArray, List.getElem_cons_succ, List.getElem_cons_zero, Act.put, List.setIfInBounds_toArray, List.set_cons_zero, List.set_cons_succ]
                refine wpAnyH_take (i := 2) (v := ?v3) rfl (by kernel_rfl) (by kernel_rfl) (by kernel_rfl) (fun _ _ _ h => h) (Or.inl ⟨by rfl, ?y3⟩) (by assumption) ?r3
                case y3 => (intro w hSw; (try dsimp only at hSw); go_simp; try (with_reducible rfl))
                simp only [List.getElem_toArray, List.getElem_cons_succ, List.getElem_cons_zero, Act.put, List.setIfInBounds_toArray, List.set_cons_zero, List.set_cons_succ]
                refine wpAnyH_take (i := 3) (v := ?v4) rfl (by kernel_rfl) (by kernel_rfl) (by kernel_rfl) (fun _ _ _ h => h) (Or.inl ⟨by rfl, ?y4⟩) (by assumption) ?r4
                case y4 => (intro w hSw; (try dsimp only at hSw); go_simp; try (with_reducible rfl))
                simp only [List.getElem_toArray, List.getElem_cons_succ, List.getElem_cons_zero, Act.put, List.setIfInBounds_toArray, List.set_cons_zero, List.set_cons_succ]
                refine wpAnyH_take (i := 4) (v := ?v5) rfl (by kernel_rfl) (by kernel_rfl) (by kernel_rfl) (fun _ _ _ h => h) (Or.inl ⟨by rfl, ?y5⟩) (by assumption) ?r5
                case y5 => (intro w hSw; (try dsimp only at hSw); go_simp; try (with_reducible rfl))
                simp only [List.getElem_toArray, List.getElem_cons_succ, List.getElem_cons_zero, Act.put, List.setIfInBounds_toArray, List.set_cons_zero, List.set_cons_succ]
                refine wpAnyH_take (i := 5) (v := ?v6) rfl (by kernel_rfl) (by kernel_rfl) (by kernel_rfl) (fun _ _ _ h => h) (Or.inl ⟨by rfl, ?y6⟩) (by assumption) ?r6
                case y6 => (intro w hSw; (try dsimp only at hSw); go_simp; try (with_reducible rfl))
                simp only [List.getElem_toArray, List.getElem_cons_succ, List.getElem_cons_zero, Act.put, List.setIfInBounds_toArray, List.set_cons_zero, List.set_cons_succ]
                refine wpAnyH_take (i := 6) (v := ?v7) rfl (by kernel_rfl) (by kernel_rfl) (by kernel_rfl) (fun _ _ _ h => h) (Or.inl ⟨by rfl, ?y7⟩) (by assumption) ?r7
                case y7 => (intro w hSw; (try dsimp only at hSw); go_simp; try (with_reducible rfl))
                simp only [List.getElem_toArray, List.getElem_cons_succ, List.getElem_cons_zero, Act.put, List.setIfInBounds_toArray, List.set_cons_zero, List.set_cons_succ]
                refine wpAnyH_take (i := 7) (v := ?v8) rfl (by kernel_rfl) (by kernel_rfl) (by kernel_rfl) (fun _ _ _ h => h) (Or.inl ⟨by rfl, ?y8⟩) (by assumption) ?r8
                case y8 => (intro w hSw; (try dsimp only at hSw); go_simp; try (with_reducible rfl))
                simp only [List.getElem_toArray, List.getElem_cons_succ, List.getElem_cons_zero, Act.put, List.setIfInBounds_toArray, List.set_cons_zero, List.set_cons_succ]
                refine wpAnyH_take (i := 8) (v := ?v9) rfl (by kernel_rfl) (by kernel_rfl) (by kernel_rfl) (fun _ _ _ h => h) (Or.inl ⟨by rfl, ?y9⟩) (by assumption) ?r9
                case y9 => (intro w hSw; (try dsimp only at hSw); go_simp; try (with_reducible rfl))
                simp only [List.getElem_toArray, List.getElem_cons_succ, List.getElem_cons_zero, Act.put, List.setIfInBounds_toArray, List.set_cons_zero, List.set_cons_succ]
                refine wpAnyH_take (i := 9) (v := ?v10) rfl (by kernel_rfl) (by kernel_rfl) (by kernel_rfl) (fun _ _ _ h => h) (Or.inl ⟨by rfl, ?y10⟩) (by assumption) ?r10
                case y10 => (intro w hSw; (try dsimp only at hSw); go_simp; try (with_reducible rfl))
                simp only [List.getElem_toArray, List.getElem_cons_succ, List.getElem_cons_zero, Act.put, List.setIfInBounds_toArray, List.set_cons_zero, List.set_cons_succ]
                refine wpAnyH_take (i := 10) (v := ?v11) rfl (by kernel_rfl) (by kernel_rfl) (by kernel_rfl) (fun _ _ _ h => h) (Or.inl ⟨by rfl, ?y11⟩) (by assumption) ?r11
                case y11 => (intro w hSw; (try dsimp only at hSw); go_simp; try (with_reducible rfl))
                simp only [List.getElem_toArray, List.getElem_cons_succ, List.getElem_cons_zero, Act.put, List.setIfInBounds_toArray, List.set_cons_zero, List.set_cons_succ]
                refine wpAnyH_take (i := 11) (v := ?v12) rfl (by kernel_rfl) (by kernel_rfl) (by kernel_rfl) (fun _ _ _ h => h) (Or.inl ⟨by rfl, ?y12⟩) (by assumption) ?r12
                case y12 => (intro w hSw; (try dsimp only at hSw); go_simp; try (with_reducible rfl))
                simp only [List.getElem_toArray, List.getElem_cons_succ, List.getElem_cons_zero, Act.put, List.setIfInBounds_toArray, List.set_cons_zero, List.set_cons_succ]
                refine wpAnyH_take (i := 12) (v := ?v13) rfl (by kernel_rfl) (by kernel_rfl) (by kernel_rfl) (fun _ _ _ h => h) (Or.inl ⟨by rfl, ?y13⟩) (by assumption) ?r13
                case y13 => (intro w hSw; (try dsimp only at hSw); go_simp; try (with_reducible rfl))
                simp only [List.getElem_toArray, List.getElem_cons_succ, List.getElem_cons_zero, Act.put, List.setIfInBounds_toArray, List.set_cons_zero, List.set_cons_succ]
                refine wpAnyH_take (i := 13) (v := ?v14) rfl (by kernel_rfl) (by kernel_rfl) (by kernel_rfl) (fun _ _ _ h => h) (Or.inl ⟨by rfl, ?y14⟩) (by assumption) ?r14
                case y14 => (intro w hSw; (try dsimp only at hSw); go_simp; try (with_reducible rfl))
                simp only [List.getElem_toArray, List.getElem_cons_succ, List.getElem_cons_zero, Act.put, List.setIfInBounds_toArray, List.set_cons_zero, List.set_cons_succ]
                refine wpAnyH_done (by kernel_rfl) ?_ _
                have hb9 := hHeld.2.2
                have hq9 := (hb9.cell (p := ⟨b1, o1 + k * 2 + 1, none⟩) (by show b1 < _; have := HB2.out; have := B0.out.size; omega)).trans HQC.out
                have hp9 := hHeld.1
                have hx9 := hHeld.2.1
                have hx91 := (hb9.cell (p := ⟨X, 1, none⟩) hXq).trans HX1.out
                have ho9 := own_belowT HOW.out hb9
                have B9 := hide (B0.out.trans (hb9.mono B0.out.size))
                have hz9 := B9.out.size
                clear hHeld hpc hX0 hb9 HOW HX1 HQC
                go_wp2_with (first
                  | (at_builtin; refine wpList_append_own_at _ rfl _ _ 61 rfl w.heap.size 105 i1 (.agg #[.string ByteArray.empty, .string ByteArray.empty]) 2 32 Tryd.underlying61 hi1 hy0 hy1 hy2 rfl (by decide) _ _ _ rfl (ho9.alloc _) ⟨_, 0, none⟩ 1 1 [.string p, .string q] rfl rfl (cell_two_newL _ _ _ _) (by intro u hu; simp at hu; rcases hu with rfl | rfl <;> rfl) (by unfold maxLen; omega) (by omega) (by simp; omega) ?_)
                  | go_in)
                intro v6 w6 hown6 hgrow6 hnil6 hblk6
                have hx6 := cell_app hx9 hgrow6 (Ne.symm HNE.out)
                have hx61 := cell_app hx91 hgrow6 (Ne.symm HNE.out)
                have hb6 := B9.out.trans (((Below.refl _ _).alloc hz9 _).grown hgrow6 (by simp; omega) (fun g hg => (ho9.lt g hg).1))
                have hne6 : v6.ownBlock ≠ some X := by
                  rcases hblk6 with e | e
                  · rw [e]; exact HNE.out
                  · have hX9 := blk_lt hx9
                    rw [e]
                    intro e2
                    simp at e2
                    omega
                have hown8 : w6.ownsRow w.heap.size 105 2 v6 (ys ++ [(p, q)]).length (flatL (ys ++ [(p, q)])) := by rw [flatL_append, List.length_append]; simpa [flatL] using hown6
                have O6 := hide hown8
                have NE6 := hide hne6
                have B6 := hide hb6
                have HX6 := hide (And.intro hx6 hx61)
                clear hown6 hgrow6 hnil6 hblk6 hown8 hne6 hb6 hx6 hx61 hp9 hx9 hx91 hq9 ho9
                go_wp2
                go_roundw
                case rel => exact ⟨k + 1, ys ++ [(p, q)], by omega, by go_num, O6.out, NE6.out, HST.out, HX6.out.1, HX6.out.2, B6.out⟩
                case measure => simp [intOf]; omega
              · have hlt2 : Op.bytesLess p.toList y.toList = false := by unfold Ahead at hah; simpa using hah
                by_cases hpy : p = y
                · have heq : (p.toList == y.toList) = true := by rw [hpy]; simp
                  have hst : ys ++ [(y, z)] ++ mg (a.drop (k + 1)) (b.drop (j + 1)) = M := by rw [← HMG2.out, mg_same _ _ hah hpy]; simp
                  have HST := hide hst
                  clear hah hst hpy
                  go_wp2
                  refine wp_region_held_drew (S := (fun wx => wx.cell? ⟨b1, o1 + k * 2, none⟩ = some (.string p) ∧ wx.cell? ⟨X, 0, none⟩ = some (.string y) ∧ Below wr.heap.size wr wx)) (by kernel_rfl) ⟨hpc, hX0, (Below.refl _ _).drew⟩ (fun hHeld => ?_)
                  refine wpAnyH_take (i := 0) (v := ?v15) rfl (by kernel_rfl) (by kernel_rfl) (by kernel_rfl) (fun _ _ _ h => h) (Or.inl ⟨by rfl, ?y15⟩) (by assumption) ?r15
                  case y15 => (intro w hSw; (try dsimp only at hSw); go_simp; try (with_reducible rfl))
                  simp only [List.getElem_toArray, List.getElem_cons_zero, Act.put, List.setIfInBounds_toArray, List.set_cons_zero, List.set_cons_succ]
                  refine wpAnyH_take (i := 1) (v := ?v16) rfl (by kernel_rfl) (by kernel_rfl) (by kernel_rfl) (fun _ _ _ h => h) (Or.inl ⟨by rfl, ?y16⟩) (by assumption) ?r16
                  case y16 => (intro w hSw; (try dsimp only at hSw); go_simp; try (with_reducible rfl))
                  simp only [List.getElem_toArray, List.getElem_cons_succ, List.getElem_cons_zero, Act.put, List.setIfInBounds_toArray, List.set_cons_zero, List.set_cons_succ]
                  refine wpAnyH_take (i := 2) (v := ?v17) rfl (by kernel_rfl) (by kernel_rfl) (by kernel_rfl) (fun _ _ _ h => h) (Or.inl ⟨by rfl, ?y17⟩) (by assumption) ?r17
                  case y17 => (intro w hSw; (try dsimp only at hSw); go_simp; try (with_reducible rfl))
                  simp only [List.getElem_toArray, List.getElem_cons_succ, List.getElem_cons_zero, Act.put, List.setIfInBounds_toArray, List.set_cons_zero, List.set_cons_succ]
                  refine wpAnyH_take (i := 3) (v := ?v18) rfl (by kernel_rfl) (by kernel_rfl) (by kernel_rfl) (fun _ _ _ h => h) (Or.inl ⟨by rfl, ?y18⟩) (by assumption) ?r18
                  case y18 => (intro w hSw; (try dsimp only at hSw); go_simp; try (with_reducible rfl))
                  simp only [List.getElem_toArray, List.getElem_cons_succ, List.getElem_cons_zero, Act.put, List.setIfInBounds_toArray, List.set_cons_zero, List.set_cons_succ]
                  refine wpAnyH_take (i := 4) (v := ?v19) rfl (by kernel_rfl) (by kernel_rfl) (by kernel_rfl) (fun _ _ _ h => h) (Or.inl ⟨by rfl, ?y19⟩) (by assumption) ?r19
                  case y19 => (intro w hSw; (try dsimp only at hSw); go_simp; try (with_reducible rfl))
                  simp only [List.getElem_toArray, List.getElem_cons_succ, List.getElem_cons_zero, Act.put, List.setIfInBounds_toArray, List.set_cons_zero, List.set_cons_succ]
                  refine wpAnyH_take (i := 5) (v := ?v20) rfl (by kernel_rfl) (by kernel_rfl) (by kernel_rfl) (fun _ _ _ h => h) (Or.inl ⟨by rfl, ?y20⟩) (by assumption) ?r20
                  case y20 => (intro w hSw; (try dsimp only at hSw); go_simp; try (with_reducible rfl))
                  simp only [List.getElem_toArray, List.getElem_cons_succ, List.getElem_cons_zero, Act.put, List.setIfInBounds_toArray, List.set_cons_zero, List.set_cons_succ]
                  refine wpAnyH_take (i := 6) (v := ?v21) rfl (by kernel_rfl) (by kernel_rfl) (by kernel_rfl) (fun _ _ _ h => h) (Or.inl ⟨by rfl, ?y21⟩) (by assumption) ?r21
                  case y21 => (intro w hSw; (try dsimp only at hSw); go_simp; try (with_reducible rfl))
                  simp only [List.getElem_toArray, List.getElem_cons_succ, List.getElem_cons_zero, Act.put, List.setIfInBounds_toArray, List.set_cons_zero, List.set_cons_succ]
                  refine wpAnyH_take (i := 7) (v := ?v22) rfl (by kernel_rfl) (by kernel_rfl) (by kernel_rfl) (fun _ _ _ h => h) (Or.inl ⟨by rfl, ?y22⟩) (by assumption) ?r22
                  case y22 => (intro w hSw; (try dsimp only at hSw); go_simp; try (with_reducible rfl))
                  simp only [List.getElem_toArray, List.getElem_cons_succ, List.getElem_cons_zero, Act.put, List.setIfInBounds_toArray, List.set_cons_zero, List.set_cons_succ]
                  refine wpAnyH_take (i := 8) (v := ?v23) rfl (by kernel_rfl) (by kernel_rfl) (by kernel_rfl) (fun _ _ _ h => h) (Or.inl ⟨by rfl, ?y23⟩) (by assumption) ?r23
                  case y23 => (intro w hSw; (try dsimp only at hSw); go_simp; try (with_reducible rfl))
                  simp only [List.getElem_toArray, List.getElem_cons_succ, List.getElem_cons_zero, Act.put, List.setIfInBounds_toArray, List.set_cons_zero, List.set_cons_succ]
                  refine wpAnyH_take (i := 9) (v := ?v24) rfl (by kernel_rfl) (by kernel_rfl) (by kernel_rfl) (fun _ _ _ h => h) (Or.inl ⟨by rfl, ?y24⟩) (by assumption) ?r24
                  case y24 => (intro w hSw; (try dsimp only at hSw); go_simp; try (with_reducible rfl))
                  simp only [List.getElem_toArray, List.getElem_cons_succ, List.getElem_cons_zero, Act.put, List.setIfInBounds_toArray, List.set_cons_zero, List.set_cons_succ]
                  refine wpAnyH_take (i := 10) (v := ?v25) rfl (by kernel_rfl) (by kernel_rfl) (by kernel_rfl) (fun _ _ _ h => h) (Or.inl ⟨by rfl, ?y25⟩) (by assumption) ?r25
                  case y25 => (intro w hSw; (try dsimp only at hSw); go_simp; try (with_reducible rfl))
                  simp only [List.getElem_toArray, List.getElem_cons_succ, List.getElem_cons_zero, Act.put, List.setIfInBounds_toArray, List.set_cons_zero, List.set_cons_succ]
                  refine wpAnyH_take (i := 11) (v := ?v26) rfl (by kernel_rfl) (by kernel_rfl) (by kernel_rfl) (fun _ _ _ h => h) (Or.inl ⟨by rfl, ?y26⟩) (by assumption) ?r26
                  case y26 => (intro w hSw; (try dsimp only at hSw); go_simp; try (with_reducible rfl))
                  simp only [List.getElem_toArray, List.getElem_cons_succ, List.getElem_cons_zero, Act.put, List.setIfInBounds_toArray, List.set_cons_zero, List.set_cons_succ]
                  refine wpAnyH_take (i := 12) (v := ?v27) rfl (by kernel_rfl) (by kernel_rfl) (by kernel_rfl) (fun _ _ _ h => h) (Or.inl ⟨by rfl, ?y27⟩) (by assumption) ?r27
                  case y27 => (intro w hSw; (try dsimp only at hSw); go_simp; try (with_reducible rfl))
                  simp only [List.getElem_toArray, List.getElem_cons_succ, List.getElem_cons_zero, Act.put, List.setIfInBounds_toArray, List.set_cons_zero, List.set_cons_succ]
                  refine wpAnyH_take (i := 13) (v := ?v28) rfl (by kernel_rfl) (by kernel_rfl) (by kernel_rfl) (fun _ _ _ h => h) (Or.inl ⟨by rfl, ?y28⟩) (by assumption) ?r28
                  case y28 => (intro w hSw; (try dsimp only at hSw); go_simp; try (with_reducible rfl))
                  simp only [List.getElem_toArray, List.getElem_cons_succ, List.getElem_cons_zero, Act.put, List.setIfInBounds_toArray, List.set_cons_zero, List.set_cons_succ]
                  refine wpAnyH_done (by kernel_rfl) ?_ _
                  have hp9 := hHeld.1
                  have hx9 := hHeld.2.1
                  have hb9 := hHeld.2.2
                  clear hHeld hpc hX0
                  go_wp2
                  refine wp_region_held_drew (S := (fun wx => wx.cell? ⟨b1, o1 + k * 2, none⟩ = some (.string p) ∧ wx.cell? ⟨X, 0, none⟩ = some (.string y) ∧ Below wr.heap.size wr wx)) (by kernel_rfl) ⟨hp9, hx9, hb9.drew⟩ (fun hHeld => ?_)
                  refine wpAnyH_take (i := 0) (v := ?v43) rfl (by kernel_rfl) (by kernel_rfl) (by kernel_rfl) (fun _ _ _ h => h) (Or.inl ⟨by rfl, ?y43⟩) (by assumption) ?r43
                  case y43 => (intro w hSw; (try dsimp only at hSw); go_simp; try (with_reducible rfl))
                  simp only [List.getElem_toArray, List.getElem_cons_zero, Act.put, List.setIfInBounds_toArray, List.set_cons_zero, List.set_cons_succ]
                  refine wpAnyH_take (i := 1) (v := ?v44) rfl (by kernel_rfl) (by kernel_rfl) (by kernel_rfl) (fun _ _ _ h => h) (Or.inl ⟨by rfl, ?y44⟩) (by assumption) ?r44
                  case y44 => (intro w hSw; (try dsimp only at hSw); go_simp; try (with_reducible rfl))
                  simp only [List.getElem_toArray, List.getElem_cons_succ, List.getElem_cons_zero, Act.put, List.setIfInBounds_toArray, List.set_cons_zero, List.set_cons_succ]
                  refine wpAnyH_take (i := 2) (v := ?v45) rfl (by kernel_rfl) (by kernel_rfl) (by kernel_rfl) (fun _ _ _ h => h) (Or.inl ⟨by rfl, ?y45⟩) (by assumption) ?r45
                  case y45 => (intro w hSw; (try dsimp only at hSw); go_simp; try (with_reducible rfl))
                  simp only [List.getElem_toArray, List.getElem_cons_succ, List.getElem_cons_zero, Act.put, List.setIfInBounds_toArray, List.set_cons_zero, List.set_cons_succ]
                  refine wpAnyH_take (i := 3) (v := ?v46) rfl (by kernel_rfl) (by kernel_rfl) (by kernel_rfl) (fun _ _ _ h => h) (Or.inl ⟨by rfl, ?y46⟩) (by assumption) ?r46
                  case y46 => (intro w hSw; (try dsimp only at hSw); go_simp; try (with_reducible rfl))
                  simp only [List.getElem_toArray, List.getElem_cons_succ, List.getElem_cons_zero, Act.put, List.setIfInBounds_toArray, List.set_cons_zero, List.set_cons_succ]
                  refine wpAnyH_take (i := 4) (v := ?v47) rfl (by kernel_rfl) (by kernel_rfl) (by kernel_rfl) (fun _ _ _ h => h) (Or.inl ⟨by rfl, ?y47⟩) (by assumption) ?r47
                  case y47 => (intro w hSw; (try dsimp only at hSw); go_simp; try (with_reducible rfl))
                  simp only [List.getElem_toArray, List.getElem_cons_succ, List.getElem_cons_zero, Act.put, List.setIfInBounds_toArray, List.set_cons_zero, List.set_cons_succ]
                  refine wpAnyH_take (i := 5) (v := ?v48) rfl (by kernel_rfl) (by kernel_rfl) (by kernel_rfl) (fun _ _ _ h => h) (Or.inl ⟨by rfl, ?y48⟩) (by assumption) ?r48
                  case y48 => (intro w hSw; (try dsimp only at hSw); go_simp; try (with_reducible rfl))
                  simp only [List.getElem_toArray, List.getElem_cons_succ, List.getElem_cons_zero, Act.put, List.setIfInBounds_toArray, List.set_cons_zero, List.set_cons_succ]
                  refine wpAnyH_take (i := 6) (v := ?v49) rfl (by kernel_rfl) (by kernel_rfl) (by kernel_rfl) (fun _ _ _ h => h) (Or.inl ⟨by rfl, ?y49⟩) (by assumption) ?r49
                  case y49 => (intro w hSw; (try dsimp only at hSw); go_simp; try (with_reducible rfl))
                  simp only [List.getElem_toArray, List.getElem_cons_succ, List.getElem_cons_zero, Act.put, List.setIfInBounds_toArray, List.set_cons_zero, List.set_cons_succ]
                  refine wpAnyH_take (i := 7) (v := ?v50) rfl (by kernel_rfl) (by kernel_rfl) (by kernel_rfl) (fun _ _ _ h => h) (Or.inl ⟨by rfl, ?y50⟩) (by assumption) ?r50
                  case y50 => (intro w hSw; (try dsimp only at hSw); go_simp; try (with_reducible rfl))
                  simp only [List.getElem_toArray, List.getElem_cons_succ, List.getElem_cons_zero, Act.put, List.setIfInBounds_toArray, List.set_cons_zero, List.set_cons_succ]
                  refine wpAnyH_take (i := 8) (v := ?v51) rfl (by kernel_rfl) (by kernel_rfl) (by kernel_rfl) (fun _ _ _ h => h) (Or.inl ⟨by rfl, ?y51⟩) (by assumption) ?r51
                  case y51 => (intro w hSw; (try dsimp only at hSw); go_simp; try (with_reducible rfl))
                  simp only [List.getElem_toArray, List.getElem_cons_succ, List.getElem_cons_zero, Act.put, List.setIfInBounds_toArray, List.set_cons_zero, List.set_cons_succ]
                  refine wpAnyH_take (i := 9) (v := ?v52) rfl (by kernel_rfl) (by kernel_rfl) (by kernel_rfl) (fun _ _ _ h => h) (Or.inl ⟨by rfl, ?y52⟩) (by assumption) ?r52
                  case y52 => (intro w hSw; (try dsimp only at hSw); go_simp; try (with_reducible rfl))
                  simp only [List.getElem_toArray, List.getElem_cons_succ, List.getElem_cons_zero, Act.put, List.setIfInBounds_toArray, List.set_cons_zero, List.set_cons_succ]
                  refine wpAnyH_take (i := 10) (v := ?v53) rfl (by kernel_rfl) (by kernel_rfl) (by kernel_rfl) (fun _ _ _ h => h) (Or.inl ⟨by rfl, ?y53⟩) (by assumption) ?r53
                  case y53 => (intro w hSw; (try dsimp only at hSw); go_simp; try (with_reducible rfl))
                  simp only [List.getElem_toArray, List.getElem_cons_succ, List.getElem_cons_zero, Act.put, List.setIfInBounds_toArray, List.set_cons_zero, List.set_cons_succ]
                  refine wpAnyH_take (i := 11) (v := ?v54) rfl (by kernel_rfl) (by kernel_rfl) (by kernel_rfl) (fun _ _ _ h => h) (Or.inl ⟨by rfl, ?y54⟩) (by assumption) ?r54
                  case y54 => (intro w hSw; (try dsimp only at hSw); go_simp; try (with_reducible rfl))
                  simp only [List.getElem_toArray, List.getElem_cons_succ, List.getElem_cons_zero, Act.put, List.setIfInBounds_toArray, List.set_cons_zero, List.set_cons_succ]
                  refine wpAnyH_take (i := 12) (v := ?v55) rfl (by kernel_rfl) (by kernel_rfl) (by kernel_rfl) (fun _ _ _ h => h) (Or.inl ⟨by rfl, ?y55⟩) (by assumption) ?r55
                  case y55 => (intro w hSw; (try dsimp only at hSw); go_simp; try (with_reducible rfl))
                  simp only [List.getElem_toArray, List.getElem_cons_succ, List.getElem_cons_zero, Act.put, List.setIfInBounds_toArray, List.set_cons_zero, List.set_cons_succ]
                  refine wpAnyH_take (i := 13) (v := ?v56) rfl (by kernel_rfl) (by kernel_rfl) (by kernel_rfl) (fun _ _ _ h => h) (Or.inl ⟨by rfl, ?y56⟩) (by assumption) ?r56
                  case y56 => (intro w hSw; (try dsimp only at hSw); go_simp; try (with_reducible rfl))
                  simp only [List.getElem_toArray, List.getElem_cons_succ, List.getElem_cons_zero, Act.put, List.setIfInBounds_toArray, List.set_cons_zero, List.set_cons_succ]
                  refine wpAnyH_done (by kernel_rfl) ?_ _
                  have hbA := hHeld.2.2
                  have hxA := hHeld.2.1
                  have hxA1 := (hbA.cell (p := ⟨X, 1, none⟩) hXq).trans HX1.out
                  have hoA := own_belowT HOW.out hbA
                  have BA := hide (B0.out.trans (hbA.mono B0.out.size))
                  have hzA := BA.out.size
                  clear hHeld hbA HOW HX1
                  go_wp2_with (first
                    | (at_builtin; refine wpList_append_own_at _ rfl _ _ 61 rfl w.heap.size 105 i1 (.agg #[.string ByteArray.empty, .string ByteArray.empty]) 2 32 Tryd.underlying61 hi1 hy0 hy1 hy2 rfl (by decide) _ _ _ rfl (hoA.alloc _) ⟨_, 0, none⟩ 1 1 [.string y, .string z] rfl rfl (cell_two_newL _ _ _ _) (by intro u hu; simp at hu; rcases hu with rfl | rfl <;> rfl) (by unfold maxLen; omega) (by omega) (by simp; omega) ?_)
                    | go_in)
                  intro v6 w6 hown6 hgrow6 hnil6 hblk6
                  have hb6 := BA.out.trans (((Below.refl _ _).alloc hzA _).grown hgrow6 (by simp; omega) (fun g hg => (hoA.lt g hg).1))
                  have hown8 : w6.ownsRow w.heap.size 105 2 v6 (ys ++ [(y, z)]).length (flatL (ys ++ [(y, z)])) := by rw [flatL_append, List.length_append]; simpa [flatL] using hown6
                  have O6 := hide hown8
                  have B6 := hide hb6
                  clear hown6 hgrow6 hnil6 hblk6 hown8 hb6 hxA hxA1 hoA
                  go_wp2
                  go_roundw
                  case rel => exact ⟨k + 1, j + 1, ys ++ [(y, z)], by omega, by omega, by go_num, by go_num, O6.out, HST.out, B6.out⟩
                  case measure => simp [intOf]; omega
                · have heq : (p.toList == y.toList) = false := by
                    cases e : (p.toList == y.toList) with
                    | false => rfl
                    | true => exact absurd (toList_eq (by simpa using e)) hpy
                  have hst : ys ++ [(y, z)] ++ mg (a.drop k) (b.drop (j + 1)) = M := by rw [drop_cons a k (by rw [HN1.out]; exact hkn), HAK.out, ← HMG2.out, mg_behind _ _ hah hpy]; simp
                  have HST := hide hst
                  clear hah hst hpy
                  go_wp2
                  refine wp_region_held_drew (S := (fun wx => wx.cell? ⟨b1, o1 + k * 2, none⟩ = some (.string p) ∧ wx.cell? ⟨X, 0, none⟩ = some (.string y) ∧ Below wr.heap.size wr wx)) (by kernel_rfl) ⟨hpc, hX0, (Below.refl _ _).drew⟩ (fun hHeld => ?_)
                  refine wpAnyH_take (i := 0) (v := ?v29) rfl (by kernel_rfl) (by kernel_rfl) (by kernel_rfl) (fun _ _ _ h => h) (Or.inl ⟨by rfl, ?y29⟩) (by assumption) ?r29
                  case y29 => (intro w hSw; (try dsimp only at hSw); go_simp; try (with_reducible rfl))
                  simp only [List.getElem_toArray, List.getElem_cons_zero, Act.put, List.setIfInBounds_toArray, List.set_cons_zero, List.set_cons_succ]
                  refine wpAnyH_take (i := 1) (v := ?v30) rfl (by kernel_rfl) (by kernel_rfl) (by kernel_rfl) (fun _ _ _ h => h) (Or.inl ⟨by rfl, ?y30⟩) (by assumption) ?r30
                  case y30 => (intro w hSw; (try dsimp only at hSw); go_simp; try (with_reducible rfl))
                  simp only [List.getElem_toArray, List.getElem_cons_succ, List.getElem_cons_zero, Act.put, List.setIfInBounds_toArray, List.set_cons_zero, List.set_cons_succ]
                  refine wpAnyH_take (i := 2) (v := ?v31) rfl (by kernel_rfl) (by kernel_rfl) (by kernel_rfl) (fun _ _ _ h => h) (Or.inl ⟨by rfl, ?y31⟩) (by assumption) ?r31
                  case y31 => (intro w hSw; (try dsimp only at hSw); go_simp; try (with_reducible rfl))
                  simp only [List.getElem_toArray, List.getElem_cons_succ, List.getElem_cons_zero, Act.put, List.setIfInBounds_toArray, List.set_cons_zero, List.set_cons_succ]
                  refine wpAnyH_take (i := 3) (v := ?v32) rfl (by kernel_rfl) (by kernel_rfl) (by kernel_rfl) (fun _ _ _ h => h) (Or.inl ⟨by rfl, ?y32⟩) (by assumption) ?r32
                  case y32 => (intro w hSw; (try dsimp only at hSw); go_simp; try (with_reducible rfl))
                  simp only [List.getElem_toArray, List.getElem_cons_succ, List.getElem_cons_zero, Act.put, List.setIfInBounds_toArray, List.set_cons_zero, List.set_cons_succ]
                  refine wpAnyH_take (i := 4) (v := ?v33) rfl (by kernel_rfl) (by kernel_rfl) (by kernel_rfl) (fun _ _ _ h => h) (Or.inl ⟨by rfl, ?y33⟩) (by assumption) ?r33
                  case y33 => (intro w hSw; (try dsimp only at hSw); go_simp; try (with_reducible rfl))
                  simp only [List.getElem_toArray, List.getElem_cons_succ, List.getElem_cons_zero, Act.put, List.setIfInBounds_toArray, List.set_cons_zero, List.set_cons_succ]
                  refine wpAnyH_take (i := 5) (v := ?v34) rfl (by kernel_rfl) (by kernel_rfl) (by kernel_rfl) (fun _ _ _ h => h) (Or.inl ⟨by rfl, ?y34⟩) (by assumption) ?r34
                  case y34 => (intro w hSw; (try dsimp only at hSw); go_simp; try (with_reducible rfl))
                  simp only [List.getElem_toArray, List.getElem_cons_succ, List.getElem_cons_zero, Act.put, List.setIfInBounds_toArray, List.set_cons_zero, List.set_cons_succ]
                  refine wpAnyH_take (i := 6) (v := ?v35) rfl (by kernel_rfl) (by kernel_rfl) (by kernel_rfl) (fun _ _ _ h => h) (Or.inl ⟨by rfl, ?y35⟩) (by assumption) ?r35
                  case y35 => (intro w hSw; (try dsimp only at hSw); go_simp; try (with_reducible rfl))
                  simp only [List.getElem_toArray, List.getElem_cons_succ, List.getElem_cons_zero, Act.put, List.setIfInBounds_toArray, List.set_cons_zero, List.set_cons_succ]
                  refine wpAnyH_take (i := 7) (v := ?v36) rfl (by kernel_rfl) (by kernel_rfl) (by kernel_rfl) (fun _ _ _ h => h) (Or.inl ⟨by rfl, ?y36⟩) (by assumption) ?r36
                  case y36 => (intro w hSw; (try dsimp only at hSw); go_simp; try (with_reducible rfl))
                  simp only [List.getElem_toArray, List.getElem_cons_succ, List.getElem_cons_zero, Act.put, List.setIfInBounds_toArray, List.set_cons_zero, List.set_cons_succ]
                  refine wpAnyH_take (i := 8) (v := ?v37) rfl (by kernel_rfl) (by kernel_rfl) (by kernel_rfl) (fun _ _ _ h => h) (Or.inl ⟨by rfl, ?y37⟩) (by assumption) ?r37
                  case y37 => (intro w hSw; (try dsimp only at hSw); go_simp; try (with_reducible rfl))
                  simp only [List.getElem_toArray, List.getElem_cons_succ, List.getElem_cons_zero, Act.put, List.setIfInBounds_toArray, List.set_cons_zero, List.set_cons_succ]
                  refine wpAnyH_take (i := 9) (v := ?v38) rfl (by kernel_rfl) (by kernel_rfl) (by kernel_rfl) (fun _ _ _ h => h) (Or.inl ⟨by rfl, ?y38⟩) (by assumption) ?r38
                  case y38 => (intro w hSw; (try dsimp only at hSw); go_simp; try (with_reducible rfl))
                  simp only [List.getElem_toArray, List.getElem_cons_succ, List.getElem_cons_zero, Act.put, List.setIfInBounds_toArray, List.set_cons_zero, List.set_cons_succ]
                  refine wpAnyH_take (i := 10) (v := ?v39) rfl (by kernel_rfl) (by kernel_rfl) (by kernel_rfl) (fun _ _ _ h => h) (Or.inl ⟨by rfl, ?y39⟩) (by assumption) ?r39
                  case y39 => (intro w hSw; (try dsimp only at hSw); go_simp; try (with_reducible rfl))
                  simp only [List.getElem_toArray, List.getElem_cons_succ, List.getElem_cons_zero, Act.put, List.setIfInBounds_toArray, List.set_cons_zero, List.set_cons_succ]
                  refine wpAnyH_take (i := 11) (v := ?v40) rfl (by kernel_rfl) (by kernel_rfl) (by kernel_rfl) (fun _ _ _ h => h) (Or.inl ⟨by rfl, ?y40⟩) (by assumption) ?r40
                  case y40 => (intro w hSw; (try dsimp only at hSw); go_simp; try (with_reducible rfl))
                  simp only [List.getElem_toArray, List.getElem_cons_succ, List.getElem_cons_zero, Act.put, List.setIfInBounds_toArray, List.set_cons_zero, List.set_cons_succ]
                  refine wpAnyH_take (i := 12) (v := ?v41) rfl (by kernel_rfl) (by kernel_rfl) (by kernel_rfl) (fun _ _ _ h => h) (Or.inl ⟨by rfl, ?y41⟩) (by assumption) ?r41
                  case y41 => (intro w hSw; (try dsimp only at hSw); go_simp; try (with_reducible rfl))
                  simp only [List.getElem_toArray, List.getElem_cons_succ, List.getElem_cons_zero, Act.put, List.setIfInBounds_toArray, List.set_cons_zero, List.set_cons_succ]
                  refine wpAnyH_take (i := 13) (v := ?v42) rfl (by kernel_rfl) (by kernel_rfl) (by kernel_rfl) (fun _ _ _ h => h) (Or.inl ⟨by rfl, ?y42⟩) (by assumption) ?r42
                  case y42 => (intro w hSw; (try dsimp only at hSw); go_simp; try (with_reducible rfl))
                  simp only [List.getElem_toArray, List.getElem_cons_succ, List.getElem_cons_zero, Act.put, List.setIfInBounds_toArray, List.set_cons_zero, List.set_cons_succ]
                  refine wpAnyH_done (by kernel_rfl) ?_ _
                  have hp9 := hHeld.1
                  have hx9 := hHeld.2.1
                  have hb9 := hHeld.2.2
                  clear hHeld hpc hX0
                  go_wp2
                  refine wp_region_held_drew (S := (fun wx => wx.cell? ⟨b1, o1 + k * 2, none⟩ = some (.string p) ∧ wx.cell? ⟨X, 0, none⟩ = some (.string y) ∧ Below wr.heap.size wr wx)) (by kernel_rfl) ⟨hp9, hx9, hb9.drew⟩ (fun hHeld => ?_)
                  refine wpAnyH_take (i := 0) (v := ?v57) rfl (by kernel_rfl) (by kernel_rfl) (by kernel_rfl) (fun _ _ _ h => h) (Or.inl ⟨by rfl, ?y57⟩) (by assumption) ?r57
                  case y57 => (intro w hSw; (try dsimp only at hSw); go_simp; try (with_reducible rfl))
                  simp only [List.getElem_toArray, List.getElem_cons_zero, Act.put, List.setIfInBounds_toArray, List.set_cons_zero, List.set_cons_succ]
                  refine wpAnyH_take (i := 1) (v := ?v58) rfl (by kernel_rfl) (by kernel_rfl) (by kernel_rfl) (fun _ _ _ h => h) (Or.inl ⟨by rfl, ?y58⟩) (by assumption) ?r58
                  case y58 => (intro w hSw; (try dsimp only at hSw); go_simp; try (with_reducible rfl))
                  simp only [List.getElem_toArray, List.getElem_cons_succ, List.getElem_cons_zero, Act.put, List.setIfInBounds_toArray, List.set_cons_zero, List.set_cons_succ]
                  refine wpAnyH_take (i := 2) (v := ?v59) rfl (by kernel_rfl) (by kernel_rfl) (by kernel_rfl) (fun _ _ _ h => h) (Or.inl ⟨by rfl, ?y59⟩) (by assumption) ?r59
                  case y59 => (intro w hSw; (try dsimp only at hSw); go_simp; try (with_reducible rfl))
                  simp only [List.getElem_toArray, List.getElem_cons_succ, List.getElem_cons_zero, Act.put, List.setIfInBounds_toArray, List.set_cons_zero, List.set_cons_succ]
                  refine wpAnyH_take (i := 3) (v := ?v60) rfl (by kernel_rfl) (by kernel_rfl) (by kernel_rfl) (fun _ _ _ h => h) (Or.inl ⟨by rfl, ?y60⟩) (by assumption) ?r60
                  case y60 => (intro w hSw; (try dsimp only at hSw); go_simp; try (with_reducible rfl))
                  simp only [List.getElem_toArray, List.getElem_cons_succ, List.getElem_cons_zero, Act.put, List.setIfInBounds_toArray, List.set_cons_zero, List.set_cons_succ]
                  refine wpAnyH_take (i := 4) (v := ?v61) rfl (by kernel_rfl) (by kernel_rfl) (by kernel_rfl) (fun _ _ _ h => h) (Or.inl ⟨by rfl, ?y61⟩) (by assumption) ?r61
                  case y61 => (intro w hSw; (try dsimp only at hSw); go_simp; try (with_reducible rfl))
                  simp only [List.getElem_toArray, List.getElem_cons_succ, List.getElem_cons_zero, Act.put, List.setIfInBounds_toArray, List.set_cons_zero, List.set_cons_succ]
                  refine wpAnyH_take (i := 5) (v := ?v62) rfl (by kernel_rfl) (by kernel_rfl) (by kernel_rfl) (fun _ _ _ h => h) (Or.inl ⟨by rfl, ?y62⟩) (by assumption) ?r62
                  case y62 => (intro w hSw; (try dsimp only at hSw); go_simp; try (with_reducible rfl))
                  simp only [List.getElem_toArray, List.getElem_cons_succ, List.getElem_cons_zero, Act.put, List.setIfInBounds_toArray, List.set_cons_zero, List.set_cons_succ]
                  refine wpAnyH_take (i := 6) (v := ?v63) rfl (by kernel_rfl) (by kernel_rfl) (by kernel_rfl) (fun _ _ _ h => h) (Or.inl ⟨by rfl, ?y63⟩) (by assumption) ?r63
                  case y63 => (intro w hSw; (try dsimp only at hSw); go_simp; try (with_reducible rfl))
                  simp only [List.getElem_toArray, List.getElem_cons_succ, List.getElem_cons_zero, Act.put, List.setIfInBounds_toArray, List.set_cons_zero, List.set_cons_succ]
                  refine wpAnyH_take (i := 7) (v := ?v64) rfl (by kernel_rfl) (by kernel_rfl) (by kernel_rfl) (fun _ _ _ h => h) (Or.inl ⟨by rfl, ?y64⟩) (by assumption) ?r64
                  case y64 => (intro w hSw; (try dsimp only at hSw); go_simp; try (with_reducible rfl))
                  simp only [List.getElem_toArray, List.getElem_cons_succ, List.getElem_cons_zero, Act.put, List.setIfInBounds_toArray, List.set_cons_zero, List.set_cons_succ]
                  refine wpAnyH_take (i := 8) (v := ?v65) rfl (by kernel_rfl) (by kernel_rfl) (by kernel_rfl) (fun _ _ _ h => h) (Or.inl ⟨by rfl, ?y65⟩) (by assumption) ?r65
                  case y65 => (intro w hSw; (try dsimp only at hSw); go_simp; try (with_reducible rfl))
                  simp only [List.getElem_toArray, List.getElem_cons_succ, List.getElem_cons_zero, Act.put, List.setIfInBounds_toArray, List.set_cons_zero, List.set_cons_succ]
                  refine wpAnyH_take (i := 9) (v := ?v66) rfl (by kernel_rfl) (by kernel_rfl) (by kernel_rfl) (fun _ _ _ h => h) (Or.inl ⟨by rfl, ?y66⟩) (by assumption) ?r66
                  case y66 => (intro w hSw; (try dsimp only at hSw); go_simp; try (with_reducible rfl))
                  simp only [List.getElem_toArray, List.getElem_cons_succ, List.getElem_cons_zero, Act.put, List.setIfInBounds_toArray, List.set_cons_zero, List.set_cons_succ]
                  refine wpAnyH_take (i := 10) (v := ?v67) rfl (by kernel_rfl) (by kernel_rfl) (by kernel_rfl) (fun _ _ _ h => h) (Or.inl ⟨by rfl, ?y67⟩) (by assumption) ?r67
                  case y67 => (intro w hSw; (try dsimp only at hSw); go_simp; try (with_reducible rfl))
                  simp only [List.getElem_toArray, List.getElem_cons_succ, List.getElem_cons_zero, Act.put, List.setIfInBounds_toArray, List.set_cons_zero, List.set_cons_succ]
                  refine wpAnyH_take (i := 11) (v := ?v68) rfl (by kernel_rfl) (by kernel_rfl) (by kernel_rfl) (fun _ _ _ h => h) (Or.inl ⟨by rfl, ?y68⟩) (by assumption) ?r68
                  case y68 => (intro w hSw; (try dsimp only at hSw); go_simp; try (with_reducible rfl))
                  simp only [List.getElem_toArray, List.getElem_cons_succ, List.getElem_cons_zero, Act.put, List.setIfInBounds_toArray, List.set_cons_zero, List.set_cons_succ]
                  refine wpAnyH_take (i := 12) (v := ?v69) rfl (by kernel_rfl) (by kernel_rfl) (by kernel_rfl) (fun _ _ _ h => h) (Or.inl ⟨by rfl, ?y69⟩) (by assumption) ?r69
                  case y69 => (intro w hSw; (try dsimp only at hSw); go_simp; try (with_reducible rfl))
                  simp only [List.getElem_toArray, List.getElem_cons_succ, List.getElem_cons_zero, Act.put, List.setIfInBounds_toArray, List.set_cons_zero, List.set_cons_succ]
                  refine wpAnyH_take (i := 13) (v := ?v70) rfl (by kernel_rfl) (by kernel_rfl) (by kernel_rfl) (fun _ _ _ h => h) (Or.inl ⟨by rfl, ?y70⟩) (by assumption) ?r70
                  case y70 => (intro w hSw; (try dsimp only at hSw); go_simp; try (with_reducible rfl))
                  simp only [List.getElem_toArray, List.getElem_cons_succ, List.getElem_cons_zero, Act.put, List.setIfInBounds_toArray, List.set_cons_zero, List.set_cons_succ]
                  refine wpAnyH_done (by kernel_rfl) ?_ _
                  have hbA := hHeld.2.2
                  have hxA := hHeld.2.1
                  have hxA1 := (hbA.cell (p := ⟨X, 1, none⟩) hXq).trans HX1.out
                  have hoA := own_belowT HOW.out hbA
                  have BA := hide (B0.out.trans (hbA.mono B0.out.size))
                  have hzA := BA.out.size
                  clear hHeld hbA HOW HX1
                  go_wp2_with (first
                    | (at_builtin; refine wpList_append_own_at _ rfl _ _ 61 rfl w.heap.size 105 i1 (.agg #[.string ByteArray.empty, .string ByteArray.empty]) 2 32 Tryd.underlying61 hi1 hy0 hy1 hy2 rfl (by decide) _ _ _ rfl (hoA.alloc _) ⟨_, 0, none⟩ 1 1 [.string y, .string z] rfl rfl (cell_two_newL _ _ _ _) (by intro u hu; simp at hu; rcases hu with rfl | rfl <;> rfl) (by unfold maxLen; omega) (by omega) (by simp; omega) ?_)
                    | go_in)
                  intro v6 w6 hown6 hgrow6 hnil6 hblk6
                  have hb6 := BA.out.trans (((Below.refl _ _).alloc hzA _).grown hgrow6 (by simp; omega) (fun g hg => (hoA.lt g hg).1))
                  have hown8 : w6.ownsRow w.heap.size 105 2 v6 (ys ++ [(y, z)]).length (flatL (ys ++ [(y, z)])) := by rw [flatL_append, List.length_append]; simpa [flatL] using hown6
                  have O6 := hide hown8
                  have B6 := hide hb6
                  clear hown6 hgrow6 hnil6 hblk6 hown8 hb6 hxA hxA1 hoA
                  go_wp2
                  go_roundw
                  case rel => exact ⟨k, j + 1, ys ++ [(y, z)], by omega, by omega, by go_num, by go_num, O6.out, HST.out, B6.out⟩
                  case measure => simp [intOf]; omega
            · have hknI : ¬ (k : Int) < (n1 : Int) := by omega
              have hke : a.drop k = [] := List.drop_eq_nil_of_le (by rw [HN1.out]; omega)
              have hst : ys ++ [(y, z)] ++ mg (a.drop k) (b.drop (j + 1)) = M := by rw [← HMG.out, hke, HBD.out, mg_left]; simp
              have HST := hide hst
              have HOW := hide hown
              have B0 := hide hbel
              clear hke hst hown hbel hX1 HMG
              go_wp2
              refine wp_region_held_drew (S := (fun wx => wx.cell? ⟨X, 0, none⟩ = some (.string y) ∧ wx.cell? ⟨X, 0, none⟩ = some (.string y) ∧ Below wr.heap.size wr wx)) (by kernel_rfl) ⟨hX0, hX0, (Below.refl _ _).drew⟩ (fun hHeld => ?_)
              refine wpAnyH_take (i := 0) (v := ?v71) rfl (by kernel_rfl) (by kernel_rfl) (by kernel_rfl) (fun _ _ _ h => h) (Or.inl ⟨by rfl, ?y71⟩) (by assumption) ?r71
              case y71 => (intro w hSw; (try dsimp only at hSw); go_simp; try (with_reducible rfl))
              simp only [List.getElem_toArray, List.getElem_cons_zero, Act.put, List.setIfInBounds_toArray, List.set_cons_zero, List.set_cons_succ]
              refine wpAnyH_take (i := 1) (v := ?v72) rfl (by kernel_rfl) (by kernel_rfl) (by kernel_rfl) (fun _ _ _ h => h) (Or.inl ⟨by rfl, ?y72⟩) (by assumption) ?r72
              case y72 => (intro w hSw; (try dsimp only at hSw); go_simp; try (with_reducible rfl))
              simp only [List.getElem_toArray, List.getElem_cons_succ, List.getElem_cons_zero, Act.put, List.setIfInBounds_toArray, List.set_cons_zero, List.set_cons_succ]
              refine wpAnyH_take (i := 2) (v := ?v73) rfl (by kernel_rfl) (by kernel_rfl) (by kernel_rfl) (fun _ _ _ h => h) (Or.inl ⟨by rfl, ?y73⟩) (by assumption) ?r73
              case y73 => (intro w hSw; (try dsimp only at hSw); go_simp; try (with_reducible rfl))
              simp only [List.getElem_toArray, List.getElem_cons_succ, List.getElem_cons_zero, Act.put, List.setIfInBounds_toArray, List.set_cons_zero, List.set_cons_succ]
              refine wpAnyH_take (i := 3) (v := ?v74) rfl (by kernel_rfl) (by kernel_rfl) (by kernel_rfl) (fun _ _ _ h => h) (Or.inl ⟨by rfl, ?y74⟩) (by assumption) ?r74
              case y74 => (intro w hSw; (try dsimp only at hSw); go_simp; try (with_reducible rfl))
              simp only [List.getElem_toArray, List.getElem_cons_succ, List.getElem_cons_zero, Act.put, List.setIfInBounds_toArray, List.set_cons_zero, List.set_cons_succ]
              refine wpAnyH_take (i := 4) (v := ?v75) rfl (by kernel_rfl) (by kernel_rfl) (by kernel_rfl) (fun _ _ _ h => h) (Or.inl ⟨by rfl, ?y75⟩) (by assumption) ?r75
              case y75 => (intro w hSw; (try dsimp only at hSw); go_simp; try (with_reducible rfl))
              simp only [List.getElem_toArray, List.getElem_cons_succ, List.getElem_cons_zero, Act.put, List.setIfInBounds_toArray, List.set_cons_zero, List.set_cons_succ]
              refine wpAnyH_take (i := 5) (v := undef) rfl (by kernel_rfl) (by kernel_rfl) (by kernel_rfl) (fun _ _ _ h => h) (Or.inr ⟨by rfl, rfl⟩) (by assumption) ?_
              simp only [List.getElem_toArray, List.getElem_cons_succ, List.getElem_cons_zero, Act.put, List.setIfInBounds_toArray, List.set_cons_zero, List.set_cons_succ]
              refine wpAnyH_take (i := 6) (v := undef) rfl (by kernel_rfl) (by kernel_rfl) (by kernel_rfl) (fun _ _ _ h => h) (Or.inr ⟨by rfl, rfl⟩) (by assumption) ?_
              simp only [List.getElem_toArray, List.getElem_cons_succ, List.getElem_cons_zero, Act.put, List.setIfInBounds_toArray, List.set_cons_zero, List.set_cons_succ]
              refine wpAnyH_take (i := 7) (v := undef) rfl (by kernel_rfl) (by kernel_rfl) (by kernel_rfl) (fun _ _ _ h => h) (Or.inr ⟨by rfl, rfl⟩) (by assumption) ?_
              simp only [List.getElem_toArray, List.getElem_cons_succ, List.getElem_cons_zero, Act.put, List.setIfInBounds_toArray, List.set_cons_zero, List.set_cons_succ]
              refine wpAnyH_take (i := 8) (v := undef) rfl (by kernel_rfl) (by kernel_rfl) (by kernel_rfl) (fun _ _ _ h => h) (Or.inr ⟨by rfl, rfl⟩) (by assumption) ?_
              simp only [List.getElem_toArray, List.getElem_cons_succ, List.getElem_cons_zero, Act.put, List.setIfInBounds_toArray, List.set_cons_zero, List.set_cons_succ]
              refine wpAnyH_take (i := 9) (v := undef) rfl (by kernel_rfl) (by kernel_rfl) (by kernel_rfl) (fun _ _ _ h => h) (Or.inr ⟨by rfl, rfl⟩) (by assumption) ?_
              simp only [List.getElem_toArray, List.getElem_cons_succ, List.getElem_cons_zero, Act.put, List.setIfInBounds_toArray, List.set_cons_zero, List.set_cons_succ]
              refine wpAnyH_take (i := 10) (v := undef) rfl (by kernel_rfl) (by kernel_rfl) (by kernel_rfl) (fun _ _ _ h => h) (Or.inr ⟨by rfl, rfl⟩) (by assumption) ?_
              simp only [List.getElem_toArray, List.getElem_cons_succ, List.getElem_cons_zero, Act.put, List.setIfInBounds_toArray, List.set_cons_zero, List.set_cons_succ]
              refine wpAnyH_take (i := 11) (v := undef) rfl (by kernel_rfl) (by kernel_rfl) (by kernel_rfl) (fun _ _ _ h => h) (Or.inr ⟨by rfl, rfl⟩) (by assumption) ?_
              simp only [List.getElem_toArray, List.getElem_cons_succ, List.getElem_cons_zero, Act.put, List.setIfInBounds_toArray, List.set_cons_zero, List.set_cons_succ]
              refine wpAnyH_take (i := 12) (v := undef) rfl (by kernel_rfl) (by kernel_rfl) (by kernel_rfl) (fun _ _ _ h => h) (Or.inr ⟨by rfl, rfl⟩) (by assumption) ?_
              simp only [List.getElem_toArray, List.getElem_cons_succ, List.getElem_cons_zero, Act.put, List.setIfInBounds_toArray, List.set_cons_zero, List.set_cons_succ]
              refine wpAnyH_take (i := 13) (v := ?v84) rfl (by kernel_rfl) (by kernel_rfl) (by kernel_rfl) (fun _ _ _ h => h) (Or.inl ⟨by rfl, ?y84⟩) (by assumption) ?r84
              case y84 => (intro w hSw; (try dsimp only at hSw); go_simp; try (with_reducible rfl))
              simp only [List.getElem_toArray, List.getElem_cons_succ, List.getElem_cons_zero, Act.put, List.setIfInBounds_toArray, List.set_cons_zero, List.set_cons_succ]
              refine wpAnyH_done (by kernel_rfl) ?_ _
              have hx9 := hHeld.2.1
              have hb9 := hHeld.2.2
              clear hHeld hX0
              go_wp2
              refine wp_region_held_drew (S := (fun wx => wx.cell? ⟨X, 0, none⟩ = some (.string y) ∧ wx.cell? ⟨X, 0, none⟩ = some (.string y) ∧ Below wr.heap.size wr wx)) (by kernel_rfl) ⟨hx9, hx9, hb9.drew⟩ (fun hHeld => ?_)
              refine wpAnyH_take (i := 0) (v := ?v85) rfl (by kernel_rfl) (by kernel_rfl) (by kernel_rfl) (fun _ _ _ h => h) (Or.inl ⟨by rfl, ?y85⟩) (by assumption) ?r85
              case y85 => (intro w hSw; (try dsimp only at hSw); go_simp; try (with_reducible rfl))
              simp only [List.getElem_toArray, List.getElem_cons_zero, Act.put, List.setIfInBounds_toArray, List.set_cons_zero, List.set_cons_succ]
              refine wpAnyH_take (i := 1) (v := ?v86) rfl (by kernel_rfl) (by kernel_rfl) (by kernel_rfl) (fun _ _ _ h => h) (Or.inl ⟨by rfl, ?y86⟩) (by assumption) ?r86
              case y86 => (intro w hSw; (try dsimp only at hSw); go_simp; try (with_reducible rfl))
              simp only [List.getElem_toArray, List.getElem_cons_succ, List.getElem_cons_zero, Act.put, List.setIfInBounds_toArray, List.set_cons_zero, List.set_cons_succ]
              refine wpAnyH_take (i := 2) (v := ?v87) rfl (by kernel_rfl) (by kernel_rfl) (by kernel_rfl) (fun _ _ _ h => h) (Or.inl ⟨by rfl, ?y87⟩) (by assumption) ?r87
              case y87 => (intro w hSw; (try dsimp only at hSw); go_simp; try (with_reducible rfl))
              simp only [List.getElem_toArray, List.getElem_cons_succ, List.getElem_cons_zero, Act.put, List.setIfInBounds_toArray, List.set_cons_zero, List.set_cons_succ]
              refine wpAnyH_take (i := 3) (v := ?v88) rfl (by kernel_rfl) (by kernel_rfl) (by kernel_rfl) (fun _ _ _ h => h) (Or.inl ⟨by rfl, ?y88⟩) (by assumption) ?r88
              case y88 => (intro w hSw; (try dsimp only at hSw); go_simp; try (with_reducible rfl))
              simp only [List.getElem_toArray, List.getElem_cons_succ, List.getElem_cons_zero, Act.put, List.setIfInBounds_toArray, List.set_cons_zero, List.set_cons_succ]
              refine wpAnyH_take (i := 4) (v := ?v89) rfl (by kernel_rfl) (by kernel_rfl) (by kernel_rfl) (fun _ _ _ h => h) (Or.inl ⟨by rfl, ?y89⟩) (by assumption) ?r89
              case y89 => (intro w hSw; (try dsimp only at hSw); go_simp; try (with_reducible rfl))
              simp only [List.getElem_toArray, List.getElem_cons_succ, List.getElem_cons_zero, Act.put, List.setIfInBounds_toArray, List.set_cons_zero, List.set_cons_succ]
              refine wpAnyH_take (i := 5) (v := undef) rfl (by kernel_rfl) (by kernel_rfl) (by kernel_rfl) (fun _ _ _ h => h) (Or.inr ⟨by rfl, rfl⟩) (by assumption) ?_
              simp only [List.getElem_toArray, List.getElem_cons_succ, List.getElem_cons_zero, Act.put, List.setIfInBounds_toArray, List.set_cons_zero, List.set_cons_succ]
              refine wpAnyH_take (i := 6) (v := undef) rfl (by kernel_rfl) (by kernel_rfl) (by kernel_rfl) (fun _ _ _ h => h) (Or.inr ⟨by rfl, rfl⟩) (by assumption) ?_
              simp only [List.getElem_toArray, List.getElem_cons_succ, List.getElem_cons_zero, Act.put, List.setIfInBounds_toArray, List.set_cons_zero, List.set_cons_succ]
              refine wpAnyH_take (i := 7) (v := undef) rfl (by kernel_rfl) (by kernel_rfl) (by kernel_rfl) (fun _ _ _ h => h) (Or.inr ⟨by rfl, rfl⟩) (by assumption) ?_
              simp only [List.getElem_toArray, List.getElem_cons_succ, List.getElem_cons_zero, Act.put, List.setIfInBounds_toArray, List.set_cons_zero, List.set_cons_succ]
              refine wpAnyH_take (i := 8) (v := undef) rfl (by kernel_rfl) (by kernel_rfl) (by kernel_rfl) (fun _ _ _ h => h) (Or.inr ⟨by rfl, rfl⟩) (by assumption) ?_
              simp only [List.getElem_toArray, List.getElem_cons_succ, List.getElem_cons_zero, Act.put, List.setIfInBounds_toArray, List.set_cons_zero, List.set_cons_succ]
              refine wpAnyH_take (i := 9) (v := undef) rfl (by kernel_rfl) (by kernel_rfl) (by kernel_rfl) (fun _ _ _ h => h) (Or.inr ⟨by rfl, rfl⟩) (by assumption) ?_
              simp only [List.getElem_toArray, List.getElem_cons_succ, List.getElem_cons_zero, Act.put, List.setIfInBounds_toArray, List.set_cons_zero, List.set_cons_succ]
              refine wpAnyH_take (i := 10) (v := undef) rfl (by kernel_rfl) (by kernel_rfl) (by kernel_rfl) (fun _ _ _ h => h) (Or.inr ⟨by rfl, rfl⟩) (by assumption) ?_
              simp only [List.getElem_toArray, List.getElem_cons_succ, List.getElem_cons_zero, Act.put, List.setIfInBounds_toArray, List.set_cons_zero, List.set_cons_succ]
              refine wpAnyH_take (i := 11) (v := undef) rfl (by kernel_rfl) (by kernel_rfl) (by kernel_rfl) (fun _ _ _ h => h) (Or.inr ⟨by rfl, rfl⟩) (by assumption) ?_
              simp only [List.getElem_toArray, List.getElem_cons_succ, List.getElem_cons_zero, Act.put, List.setIfInBounds_toArray, List.set_cons_zero, List.set_cons_succ]
              refine wpAnyH_take (i := 12) (v := undef) rfl (by kernel_rfl) (by kernel_rfl) (by kernel_rfl) (fun _ _ _ h => h) (Or.inr ⟨by rfl, rfl⟩) (by assumption) ?_
              simp only [List.getElem_toArray, List.getElem_cons_succ, List.getElem_cons_zero, Act.put, List.setIfInBounds_toArray, List.set_cons_zero, List.set_cons_succ]
              refine wpAnyH_take (i := 13) (v := ?v98) rfl (by kernel_rfl) (by kernel_rfl) (by kernel_rfl) (fun _ _ _ h => h) (Or.inl ⟨by rfl, ?y98⟩) (by assumption) ?r98
              case y98 => (intro w hSw; (try dsimp only at hSw); go_simp; try (with_reducible rfl))
              simp only [List.getElem_toArray, List.getElem_cons_succ, List.getElem_cons_zero, Act.put, List.setIfInBounds_toArray, List.set_cons_zero, List.set_cons_succ]
              refine wpAnyH_done (by kernel_rfl) ?_ _
              have hbA := hHeld.2.2
              have hxA := hHeld.2.1
              have hxA1 := (hbA.cell (p := ⟨X, 1, none⟩) hXq).trans HX1.out
              have hoA := own_belowT HOW.out hbA
              have BA := hide (B0.out.trans (hbA.mono B0.out.size))
              have hzA := BA.out.size
              clear hHeld hbA HOW HX1
              go_wp2_with (first
                | (at_builtin; refine wpList_append_own_at _ rfl _ _ 61 rfl w.heap.size 105 i1 (.agg #[.string ByteArray.empty, .string ByteArray.empty]) 2 32 Tryd.underlying61 hi1 hy0 hy1 hy2 rfl (by decide) _ _ _ rfl (hoA.alloc _) ⟨_, 0, none⟩ 1 1 [.string y, .string z] rfl rfl (cell_two_newL _ _ _ _) (by intro u hu; simp at hu; rcases hu with rfl | rfl <;> rfl) (by unfold maxLen; omega) (by omega) (by simp; omega) ?_)
                | go_in)
              intro v6 w6 hown6 hgrow6 hnil6 hblk6
              have hb6 := BA.out.trans (((Below.refl _ _).alloc hzA _).grown hgrow6 (by simp; omega) (fun g hg => (hoA.lt g hg).1))
              have hown8 : w6.ownsRow w.heap.size 105 2 v6 (ys ++ [(y, z)]).length (flatL (ys ++ [(y, z)])) := by rw [flatL_append, List.length_append]; simpa [flatL] using hown6
              have O6 := hide hown8
              have B6 := hide hb6
              clear hown6 hgrow6 hnil6 hblk6 hown8 hb6 hxA hxA1 hoA
              go_wp2
              go_roundw
              case rel => exact ⟨k, j + 1, ys ++ [(y, z)], by omega, by omega, by go_num, by go_num, O6.out, HST.out, B6.out⟩
              case measure => simp [intOf]; omega
        · obtain rfl : j = n2 := by omega
          have hltI : ¬ (j : Int) < (j : Int) := by omega
          have hbe : b.drop j = [] := List.drop_eq_nil_of_le (by rw [HN2.out]; exact Nat.le_refl _)
          have hmg := HMG.out
          rw [hbe, mg_nil] at hmg
          have hyl : ys.length + (n1 - k) = M.length := by
            have := congrArg List.length hmg
            rw [List.length_append, List.length_drop, HN1.out] at this
            exact this
          have HMG2 := hide hmg
          have HOW := hide hown
          have B0 := hide hbel
          have hsz := hbel.size
          have HYL := hide hyl
          have hb12 : ys.length + (n1 - k) ≤ 12 := by omega
          have hDC := hide (slL_cells (slL_drop (HS1.out.below hbel) k))
          have hDL : (flatL (a.drop k)).length = (n1 - k) * 2 := by rw [flatL_len]; simp; rw [HN1.out]
          have HDL := hide hDL
          have hkI : (k : Int) ≤ (n1 : Int) := by omega
          have hkc : (k : Int) ≤ (c1 : Int) := by omega
          have hn1c : (n1 : Int) ≤ (c1 : Int) := by omega
          have hc2I : (c1 : Int) ≤ 9223372036854775807 := by omega
          clear hbe hmg hown hbel HMG hyl hDL
          have FIN : ∀ (v6 : Value) (w6 : World), w6.ownsRow w.heap.size 105 2 v6 M.length (flatL M) → Below w.heap.size w w6 → ∃ a6 c6, v6 = .slice a6 M.length c6 := fun v6 w6 h1 _ => own_shapeL h1
          clear FIN
          by_cases hkc2 : k < c1
          · have hkc2I : (k : Int) < (c1 : Int) := by omega
            go_wp2_with (first
              | (at_builtin; refine wpList_append_own_at _ rfl _ _ 61 rfl w.heap.size 105 i1 (.agg #[.string ByteArray.empty, .string ByteArray.empty]) 2 32 Tryd.underlying61 hi1 hy0 hy1 hy2 rfl (by decide) _ _ _ rfl HOW.out ⟨b1, o1 + k * 2, none⟩ (n1 - k) (c1 - k) (flatL (a.drop k)) rfl HDL.out hDC.out (flatL_one _) (by unfold maxLen; omega) (by omega) hsz ?_)
              | go_in)
            intro v6 w6 hown6 hgrow6 _ _
            have hb6 := B0.out.trans ((Below.refl _ _).grown hgrow6 hsz (fun g hg => (HOW.out.lt g hg).1))
            rw [← flatL_append, HMG2.out, HYL.out] at hown6
            obtain ⟨a6, c6, rfl⟩ := own_shapeL hown6
            have O6 := hide hown6
            have B6 := hide hb6
            clear hown6 hgrow6 hb6 HOW hDC HDL
            by_cases h6 : M.length ≤ 6
            · have hrr := HRR.out
              rw [if_pos h6] at hrr
              have HR0 := hide hrr
              have h6I : ¬ 6 < (M.length : Int) := by omega
              clear hrr
              go_wp2
              go_ret2
              exact ⟨_, by rw [HR0.out]; rfl, by rw [HR0.out]; exact O6.out, B6.out⟩
            · have hrr := HRR.out
              rw [if_neg h6] at hrr
              have HR0 := hide hrr
              have h6I : 6 < (M.length : Int) := by omega
              clear hrr
              go_wp2
              go_ret2
              exact HNO.out _ _ HR0.out rfl B6.out
          · obtain rfl : k = c1 := by omega
            have hae : a.drop k = [] := List.drop_eq_nil_of_le (by rw [HN1.out]; omega)
            have hm := HMG2.out
            rw [hae, List.append_nil] at hm
            subst hm
            have O6 := HOW
            have B6 := B0
            obtain ⟨a6, c6, e6⟩ := own_shapeL HOW.out
            cases e6
            obtain rfl : n1 = k := by omega
            clear HOW hDC HDL hae
            have hcapL := capL O6.out
            have hcapI : (ys.length : Int) ≤ (ocap : Int) := by omega
            cases oa with
            | none =>
              by_cases h6 : ys.length ≤ 6
              · have hrr := HRR.out
                rw [if_pos h6] at hrr
                have HR0 := hide hrr
                have h6I : ¬ 6 < (ys.length : Int) := by omega
                clear hrr
                go_wp2
                try go_simp
                try go_wp2
                go_ret2
                exact ⟨_, by rw [HR0.out]; rfl, by rw [HR0.out]; exact O6.out, B6.out⟩
              · have hrr := HRR.out
                rw [if_neg h6] at hrr
                have HR0 := hide hrr
                have h6I : 6 < (ys.length : Int) := by omega
                clear hrr
                go_wp2
                try go_simp
                try go_wp2
                go_ret2
                exact HNO.out _ _ HR0.out rfl B6.out
            | some a7 =>
              by_cases h6 : ys.length ≤ 6
              · have hrr := HRR.out
                rw [if_pos h6] at hrr
                have HR0 := hide hrr
                have h6I : ¬ 6 < (ys.length : Int) := by omega
                clear hrr
                go_wp2
                try go_simp
                try go_wp2
                go_ret2
                exact ⟨_, by rw [HR0.out]; rfl, by rw [HR0.out]; exact O6.out, B6.out⟩
              · have hrr := HRR.out
                rw [if_neg h6] at hrr
                have HR0 := hide hrr
                have h6I : 6 < (ys.length : Int) := by omega
                clear hrr
                go_wp2
                try go_simp
                try go_wp2
                go_ret2
                exact HNO.out _ _ HR0.out rfl B6.out
    · have C2 := hide (fun w hs => specGoodLabels_any a2 b n2 c2 w hn2 hs hm2 ht2 false (by simp [hg2]))
      have hr' : r = none := by rw [hr]; unfold mrgRes; rw [if_neg (fun hh => hg2 hh.2.1)]
      have HR0 := hide hr'
      have HS2 := hide hs2
      clear hr hr' hg1 hg2 hs1 hs2 hn1 hn2 ht1 ht2
      go_enter Tryd.func69, Tryd.ntmps69
      go_wp2_with fail
      refine C1.out.mono ?_
      rintro e w1 ⟨rfl, hb1⟩
      have B1 := hide hb1
      clear hb1
      go_wp2_with fail
      refine (C2.out _ (HS2.out.below B1.out)).mono ?_
      rintro e w2 ⟨rfl, hb2⟩
      have B2 := hide (B1.out.trans (hb2.mono B1.out.size))
      clear hb2
      go_wp2
      go_ret2
      exact HNO.out _ _ HR0.out rfl B2.out
  · have C1 := hide (specGoodLabels_any (some ⟨b1, o1, none⟩) a n1 c1 w hn1 hs1 hm1 ht1 false (by simp [hg1]))
    have hr' : r = none := by rw [hr]; unfold mrgRes; rw [if_neg (fun hh => hg1 hh.1)]
    have HR0 := hide hr'
    clear hr hr' hg1 hs1 hs2 hn1 hn2 ht1 ht2
    go_enter Tryd.func69, Tryd.ntmps69
    go_wp2_with fail
    refine C1.out.mono ?_
    rintro e w1 ⟨rfl, hb1⟩
    have B1 := hide hb1
    clear hb1
    go_wp2
    go_ret2
    exact HNO.out _ _ HR0.out rfl B1.out
theorem specMerge_some (b1 o1 b2 o2 : Nat) (a b : List Lb) (n1 n2 c1 c2 : Nat) (w : World) (hn1 : a.length = n1) (hs1 : SlL w (some ⟨b1, o1, none⟩) a) (hn2 : b.length = n2) (hs2 : SlL w (some ⟨b2, o2, none⟩) b) (hm1 : n1 ≤ 1048576) (hm2 : n2 ≤ 1048576) (hc1 : n1 ≤ c1) (hc2 : c1 ≤ 9223372036854775807)
    (ht1 : ∀ j, j < a.length → (a.getD j eL).1.size ≤ 9223372036854775807 ∧ (a.getD j eL).2.size ≤ 9223372036854775807) (ht2 : ∀ j, j < b.length → (b.getD j eL).1.size ≤ 9223372036854775807 ∧ (b.getD j eL).2.size ≤ 9223372036854775807) (r : Option (List Lb)) (hr : r = mrgRes a b) :
    Calls Tryd.prog 69 #[.slice (some ⟨b1, o1, none⟩) n1 c1, .slice (some ⟨b2, o2, none⟩) n2 c2] w fun e w' => RetLb w r e w' :=
  specMerge_opt b1 o1 (some ⟨b2, o2, none⟩) a b n1 n2 c1 c2 w hn1 hs1 hn2 hs2 hm1 hm2 hc1 hc2 ht1 ht2 r hr
end Go.Proofs.YthagpceagifjnaaDoor.L3
