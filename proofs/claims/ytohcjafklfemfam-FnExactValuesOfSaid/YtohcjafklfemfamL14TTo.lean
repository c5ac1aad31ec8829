/-
  Contracts of the laws' own helpers: laws.toTotal, laws.toTotalS copy into new memory.
-/
import Derived.Test.YtohcjafklfemfamL14TMem
import Derived.Test.YtohcjafklfemfamL3LabLists
namespace Go.Proofs.Ytohcjafklfemfam.L14T
open Go.RowKit L1 L3
set_option linter.unusedVariables false

theorem blk_three (w : World) (o1 o2 o3 : Obj) : (((w.alloc o1).alloc o2).alloc o3).heap[w.heap.size + 2]? = some o3 ∧ (((w.alloc o1).alloc o2).alloc o3).heap[w.heap.size + 1]? = some o2 ∧ (((w.alloc o1).alloc o2).alloc o3).heap[w.heap.size]? = some o1 ∧ (((w.alloc o1).alloc o2).alloc o3).heap.size = w.heap.size + 3 := by
  have h1 := L8.blk_new w o1
  have h2 := L8.blk_new (w.alloc o1) o2
  have h3 := L8.blk_new ((w.alloc o1).alloc o2) o3
  have e2 : (w.alloc o1).heap.size = w.heap.size + 1 := by simp
  have e3 : ((w.alloc o1).alloc o2).heap.size = w.heap.size + 2 := by simp
  rw [e2] at h2
  rw [e3] at h3
  have k2 := ((Below.refl ((w.alloc o1).alloc o2).heap.size ((w.alloc o1).alloc o2)).alloc (Nat.le_refl _) o3)
  have k1 := ((Below.refl (w.alloc o1).heap.size (w.alloc o1)).alloc (Nat.le_refl _) o2)
  refine ⟨h3, (k2.block (w.heap.size + 1) (by rw [e3]; omega)).trans h2, (k2.block w.heap.size (by rw [e3]; omega)).trans ((k1.block w.heap.size (by rw [e2]; omega)).trans h1), by simp⟩
theorem made_rs (n : Nat) : (madeCells (Value.agg #[.slice none 0 0, .int .i64 0, .int .i64 0, .int .i64 0, .int .i64 0]).cells (n * 5)).toList = flatR (List.replicate n eV) := by
  apply List.ext_getElem?
  intro j
  by_cases hj : j < n * 5
  · have hi : j / 5 < (List.replicate n eV).length := by simp; omega
    have hg : (List.replicate n eV).getD (j / 5) eV = eV := by
      simp [List.getD, List.getElem?_replicate]; split <;> rfl
    have f := L8.flat_get cR 5 cR_len eV (List.replicate n eV) (j / 5) (j % 5) hi (Nat.mod_lt _ (by omega))
    rw [show j / 5 * 5 + j % 5 = j by omega, hg] at f
    have hm : (madeCells (Value.agg #[.slice none 0 0, .int .i64 0, .int .i64 0, .int .i64 0, .int .i64 0]).cells (n * 5)).toList[j]? = [Value.slice none 0 0, .int .i64 0, .int .i64 0, .int .i64 0, .int .i64 0][j % 5]? := by
      simp only [madeCells, Value.cells, Array.toList_map, Array.toList_range, List.getElem?_map]
      rw [List.getElem?_range hj]
      simp only [Option.map_some, List.size_toArray, List.length_cons, List.length_nil]
      have h01 : j % 5 = 0 ∨ j % 5 = 1 ∨ j % 5 = 2 ∨ j % 5 = 3 ∨ j % 5 = 4 := by omega
      rcases h01 with h | h | h | h | h <;> simp [h]
    rw [hm]
    show _ = (List.flatMap cR _)[j]?
    rw [f]
    rfl
  · rw [List.getElem?_eq_none (by simp [size_madeCells]; omega), List.getElem?_eq_none (by rw [flatR_len]; simp; omega)]
/-- Rows as they are made: each without anything. -/
theorem own_zero {w : World} {base n : Nat} {v : Value} (h : w.ownsRow base 60 5 v n (flatR (List.replicate n eV))) : OwR w base v n (List.replicate n eV) := by
  have hg : ∀ i, (List.replicate n eV).getD i eV = eV := fun i => by
    simp [List.getD, List.getElem?_replicate]; split <;> rfl
  refine ⟨by simp, h, fun i hi => by rw [hg i]; exact World.ownsRow_nil _ _ _ _, fun i j _ _ g e => ?_⟩
  rw [hg i] at e
  simp [eV, Value.ownBlock] at e

set_option maxRecDepth 100000 in
set_option maxHeartbeats 2000000 in
theorem toTotal_any (a : Option Addr) (xs : List Lb) (n cap : Nat) (v0 v1 v2 v3 : Int) (w : World) (hn : xs.length = n) (hs : SlL w a xs) (hn2 : n ≤ 1048576) :
    Calls Try.prog 37 #[.agg #[.slice a n cap, .int .i64 v0, .int .i64 v1, .int .i64 v2, .int .i64 v3]] w fun e w' => ∃ g, e = .returned (.agg #[.slice (some ⟨g, 0, none⟩) n n, .int .i64 v0, .int .i64 v1, .int .i64 v2, .int .i64 v3]) ∧ w'.ownsRow w.heap.size 87 2 (.slice (some ⟨g, 0, none⟩) n n) n (flatL xs) ∧ Below w.heap.size w w' := by
  have C := hide (fun w (hs : SlL w a xs) => toLabelS_any a xs n cap w hn hs hn2)
  have HS := hide hs
  clear hs hn
  go_enter Try.func37, Try.ntmps37
  go_wp2_with fail
  refine (C.out _ (HS.out.below ((((Below.refl _ _).alloc (Nat.le_refl _) _).alloc (by simp) _).alloc (by simp; omega) _))).mono ?_
  rintro e w1 ⟨rfl, ho, hb⟩
  obtain ⟨b3, b2, b1, bz⟩ := blk_three w (.cells #[.slice a n cap, .int .i64 v0, .int .i64 v1, .int .i64 v2, .int .i64 v3] 57 (0, 0)) (.cells #[.slice none 0 0, .int .i64 0, .int .i64 0, .int .i64 0, .int .i64 0] 60 (0, 0)) (.cells #[.slice none 0 0, .int .i64 0, .int .i64 0, .int .i64 0, .int .i64 0] 60 (0, 0))
  have G3 := (hb.block (w.heap.size + 2) (by simp)).trans b3
  have G2 := (hb.block (w.heap.size + 1) (by simp)).trans b2
  have G1 := (hb.block w.heap.size (by simp; omega)).trans b1
  obtain ⟨c0, c1, c2, c3, c4, cf0, cf1, cf2, cf3, cf4⟩ := blkp G3
  obtain ⟨d0, d1, d2, d3, d4, df0, df1, df2, df3, df4⟩ := blkp G2
  obtain ⟨f0, f1, f2, f3, f4, ff0, ff1, ff2, ff3, ff4⟩ := blkp G1
  have ho' : w1.ownsRow (w.heap.size + 3) 87 2 (.slice (some ⟨w.heap.size + 1 + 1 + 1, 0, none⟩) n n) n (flatL xs) := by
    simp only [World.size_alloc] at ho
    exact own_baseR ho (by omega)
  have H1 := hide ho'
  have BB0 := hide (hb.mono (show w.heap.size ≤ _ by simp; omega))
  have BB := hide ((((Below.refl w.heap.size w).alloc (Nat.le_refl _) (.cells #[.slice a n cap, .int .i64 v0, .int .i64 v1, .int .i64 v2, .int .i64 v3] 57 (0, 0))).alloc (by simp) (.cells #[.slice none 0 0, .int .i64 0, .int .i64 0, .int .i64 0, .int .i64 0] 60 (0, 0))).alloc (by simp; omega) (.cells #[.slice none 0 0, .int .i64 0, .int .i64 0, .int .i64 0, .int .i64 0] 60 (0, 0)))
  clear ho hb G3 G2 G1 b1 b2 b3 bz ho'
  go_wp2
  refine bodyPost_ret (v := .agg #[.slice (some ⟨w.heap.size + 1 + 1 + 1, 0, none⟩) n n, .int .i64 v0, .int .i64 v1, .int .i64 v2, .int .i64 v3]) (by simp [results, Try.f37, go_sem, d0, d1, d2, d3, d4]) rfl ⟨_, rfl, ?_, ?_⟩
  · have z1 : w.heap.size + 1 + 1 < w.heap.size + 3 := by omega
    have z2 : w.heap.size + 1 < w.heap.size + 3 := by omega
    exact own_baseR (b1 := w.heap.size + 3) (L8.own_setC (L8.own_setC (L8.own_setC (L8.own_setC (L8.own_setC (L8.own_setC (L8.own_setC (L8.own_setC (L8.own_setC (L8.own_setC (H1.out) ⟨_, _, none⟩ _ z1) ⟨_, _, none⟩ _ z1) ⟨_, _, none⟩ _ z1) ⟨_, _, none⟩ _ z1) ⟨_, _, none⟩ _ z1) ⟨_, _, none⟩ _ z2) ⟨_, _, none⟩ _ z2) ⟨_, _, none⟩ _ z2) ⟨_, _, none⟩ _ z2) ⟨_, _, none⟩ _ z2) (by omega)
  · exact (((((((((((BB.out.trans BB0.out).setCell (p := ⟨_, _, none⟩) (by show w.heap.size ≤ w.heap.size + 1 + 1; omega) _).setCell (p := ⟨_, _, none⟩) (by show w.heap.size ≤ w.heap.size + 1 + 1; omega) _).setCell (p := ⟨_, _, none⟩) (by show w.heap.size ≤ w.heap.size + 1 + 1; omega) _).setCell (p := ⟨_, _, none⟩) (by show w.heap.size ≤ w.heap.size + 1 + 1; omega) _).setCell (p := ⟨_, _, none⟩) (by show w.heap.size ≤ w.heap.size + 1 + 1; omega) _).setCell (p := ⟨_, _, none⟩) (by show w.heap.size ≤ w.heap.size + 1; omega) _).setCell (p := ⟨_, _, none⟩) (by show w.heap.size ≤ w.heap.size + 1; omega) _).setCell (p := ⟨_, _, none⟩) (by show w.heap.size ≤ w.heap.size + 1; omega) _).setCell (p := ⟨_, _, none⟩) (by show w.heap.size ≤ w.heap.size + 1; omega) _).setCell (p := ⟨_, _, none⟩) (by show w.heap.size ≤ w.heap.size + 1; omega) _)

set_option maxRecDepth 100000 in
set_option maxHeartbeats 4000000 in
theorem toTotalS_any (a : Option Addr) (L : List Rw) (n cap : Nat) (w : World) (hn : L.length = n) (hs : SlR w a L) (hn2 : n ≤ 1048576) (hsz : ∀ i, i < n → (gr L i).l.length ≤ 1048576) :
    Calls Try.prog 10 #[.slice a n cap] w fun e w' => e = .returned (.slice (some ⟨w.heap.size, 0, none⟩) n n) ∧ (∃ M, rws M = L ∧ OwR w' w.heap.size (.slice (some ⟨w.heap.size, 0, none⟩) n n) n M) ∧ Below w.heap.size w w' := by
  obtain ⟨i0, hi, hz0, hz1, hz2⟩ := info_parts info_row
  obtain ⟨w1, hmk, hown1, hg1⟩ := run_make_full (P := Try.prog) w w.heap.size 25 60 i0 (.agg #[.slice none 0 0, .int .i64 0, .int .i64 0, .int .i64 0, .int .i64 0]) 5 Try.underlying25 hi hz0 hz1 .i64 .i64 n (by rw [hz2]; omega) (by unfold maxLen; omega) (Nat.le_refl _)
  rw [made_rs] at hown1
  have hb1 : Below w.heap.size w w1 := (Below.refl _ _).grown hg1 (Nat.le_refl _) (fun k hk => by cases hk)
  have HO := hide (own_zero hown1)
  have HS := hide hs
  have HN := hide hn
  have HSZ := hide hsz
  clear hown1 hg1 hs hn hsz
  go_enter Try.func10, Try.ntmps10
  go_wp2
  go_loopw [4] (fun i wr => ∃ (k : Nat) (M : List PR), k ≤ n ∧ i = .int .i64 k ∧ Hid (∀ j, j < k → (M.getD j eV).1 = gr L j) ∧ OwR wr w.heap.size (.slice (some ⟨w.heap.size, 0, none⟩) n n) n M ∧ Below w.heap.size w wr) (fun i _ => n - (intOf i).toNat)
  case atStart => exact ⟨0, List.replicate n eV, Nat.zero_le _, rfl, fun j hj => absurd hj (Nat.not_lt_zero _), HO.out, hb1⟩
  case round =>
    obtain ⟨k, M, hk, rfl, HX, hown, hbel⟩ := hrel
    by_cases hlt : k < n
    · obtain ⟨b, off, rfl, ai, ci, hat⟩ := HS.out.below hbel k (by rw [HN.out]; exact hlt)
      have hxl := HSZ.out k hlt
      obtain ⟨x0, x1, x2, x3, x4, t1⟩ := hat
      obtain ⟨p, hp⟩ : ∃ p, p = gr L k := ⟨_, rfl⟩
      rw [← hp] at x0 x1 x2 x3 x4 t1
      rw [← hp] at hxl
      obtain ⟨x, v0, v1, v2, v3⟩ := p
      simp only at x0 x1 x2 x3 x4 t1 hxl
      obtain ⟨m, hm⟩ : ∃ m, m = x.length := ⟨_, rfl⟩
      rw [← hm] at x0 hxl
      have hltI : (k : Int) < (n : Int) := by omega
      have C := hide (toTotal_any ai x m ci v0 v1 v2 v3 wr hm.symm t1 hxl)
      have HP := hide hp
      have HM := hide hm
      have O := hide hown
      have B := hide hbel
      clear t1 hp hm hown hbel
      go_wp2_with fail
      refine C.out.mono ?_
      rintro e w2 ⟨g, rfl, ho2, hb2⟩
      have O2 := O.out.below hb2
      have hB2 := B.out.trans (hb2.mono B.out.size)
      have hl := O2.len
      have hfl : (flatR M).length = n * 5 := by rw [flatR_len, hl]
      have hcl0 := O2.row.cellAt (k * 5) (by omega)
      have hfr0 := O2.row.frozenAt (k * 5)
      obtain ⟨z0, hz0⟩ : ∃ v, w2.cell? ⟨w.heap.size, k * 5, none⟩ = some v := ⟨_, hcl0.trans (List.getElem?_eq_getElem (by omega))⟩
      clear hcl0
      have hcl1 := O2.row.cellAt (k * 5 + 1) (by omega)
      have hfr1 := O2.row.frozenAt (k * 5 + 1)
      obtain ⟨z1, hz1⟩ : ∃ v, w2.cell? ⟨w.heap.size, k * 5 + 1, none⟩ = some v := ⟨_, hcl1.trans (List.getElem?_eq_getElem (by omega))⟩
      clear hcl1
      have hcl2 := O2.row.cellAt (k * 5 + 2) (by omega)
      have hfr2 := O2.row.frozenAt (k * 5 + 2)
      obtain ⟨z2, hz2⟩ : ∃ v, w2.cell? ⟨w.heap.size, k * 5 + 2, none⟩ = some v := ⟨_, hcl2.trans (List.getElem?_eq_getElem (by omega))⟩
      clear hcl2
      have hcl3 := O2.row.cellAt (k * 5 + 3) (by omega)
      have hfr3 := O2.row.frozenAt (k * 5 + 3)
      obtain ⟨z3, hz3⟩ : ∃ v, w2.cell? ⟨w.heap.size, k * 5 + 3, none⟩ = some v := ⟨_, hcl3.trans (List.getElem?_eq_getElem (by omega))⟩
      clear hcl3
      have hcl4 := O2.row.cellAt (k * 5 + 4) (by omega)
      have hfr4 := O2.row.frozenAt (k * 5 + 4)
      obtain ⟨z4, hz4⟩ : ∃ v, w2.cell? ⟨w.heap.size, k * 5 + 4, none⟩ = some v := ⟨_, hcl4.trans (List.getElem?_eq_getElem (by omega))⟩
      clear hcl4
      have hP := O2.put k hlt ⟨x, v0, v1, v2, v3⟩ (.slice (some ⟨g, 0, none⟩) m m) (by show w2.ownsRow _ _ _ _ x.length _; rw [← HM.out]; exact own_baseR ho2 B.out.size) (fun i hi _ b hb e => by
        have h1 := (L8.own_lt (O.out.idx i hi) b e).2
        have h2 := (L8.own_lt ho2 b hb).1
        omega)
      have R : ∃ (k' : Nat) (M' : List PR), k' ≤ n ∧ Value.int .i64 ((k : Int) + 1) = .int .i64 k' ∧ Hid (∀ j, j < k' → (M'.getD j eV).1 = gr L j) ∧ OwR (((((w2.setCell ⟨w.heap.size, k * 5, none⟩ (.slice (some ⟨g, 0, none⟩) m m)).setCell ⟨w.heap.size, k * 5 + 1, none⟩ (.int .i64 v0)).setCell ⟨w.heap.size, k * 5 + 2, none⟩ (.int .i64 v1)).setCell ⟨w.heap.size, k * 5 + 3, none⟩ (.int .i64 v2)).setCell ⟨w.heap.size, k * 5 + 4, none⟩ (.int .i64 v3)) w.heap.size (.slice (some ⟨w.heap.size, 0, none⟩) n n) n M' ∧ Below w.heap.size w (((((w2.setCell ⟨w.heap.size, k * 5, none⟩ (.slice (some ⟨g, 0, none⟩) m m)).setCell ⟨w.heap.size, k * 5 + 1, none⟩ (.int .i64 v0)).setCell ⟨w.heap.size, k * 5 + 2, none⟩ (.int .i64 v1)).setCell ⟨w.heap.size, k * 5 + 3, none⟩ (.int .i64 v2)).setCell ⟨w.heap.size, k * 5 + 4, none⟩ (.int .i64 v3)) := by
        refine ⟨k + 1, _, by omega, by simp, fun j hj => ?_, hP.1, hB2.grown hP.2 (hB2.size) (fun q hq => by cases hq; exact Nat.le_refl _)⟩
        by_cases e : j = k
        · subst e
          rw [L8.getD_self M j _ _ (by omega)]
          exact HP.out
        · rw [L8.getD_ne M k j _ _ e]
          exact HX.out j (by omega)
      have HR := hide R
      clear hfl hl O2 hB2 hP R ho2 hb2
      go_wp2
      go_roundw
      case rel => exact HR.out
      case measure => simp [intOf]; omega
    · obtain rfl : k = n := by omega
      have hltI : ¬ (k : Int) < (k : Int) := by omega
      have E := list_sameR hown.len HN.out HX.out
      have O := hide hown
      have HE := hide E
      clear hown E
      go_wp2
      go_ret
      exact ⟨rfl, ⟨M, HE.out, O.out⟩, hbel⟩
end Go.Proofs.Ytohcjafklfemfam.L14T
