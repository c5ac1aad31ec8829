/-
  Contracts of the laws' own helpers: laws.toItem, laws.toItemS copy into new memory.
-/
import Derived.Test.YtohcjafklfemfalL14IMem
import Derived.Test.YtohcjafklfemfalL3LabLists
namespace Go.Proofs.Ytohcjafklfemfal.L14I
open Go.RowKit L1 L3
set_option linter.unusedVariables false

theorem blk_three (w : World) (o1 o2 o3 : Obj) : (((w.alloc o1).alloc o2).alloc o3).heap[w.heap.size + 2]? = some o3 ∧ (((w.alloc o1).alloc o2).alloc o3).heap[w.heap.size + 1]? = some o2 ∧ (((w.alloc o1).alloc o2).alloc o3).heap[w.heap.size]? = some o1 ∧ (((w.alloc o1).alloc o2).alloc o3).heap.size = w.heap.size + 3 := by
  have h1 := L8.blk_new w o1
  have h2 := L8.blk_new (w.alloc o1) o2
  have h3 := L8.blk_new ((w.alloc o1).alloc o2) o3
  have e2 : (w.alloc o1).heap.size = w.heap.size + 1 := by simp
  have e3 : ((w.alloc o1).alloc o2).heap.size = w.heap.size + 2 := by simp
  rw [e2] at h2
  rw [e3] at h3
  have k2 := ((Below.refl ((w.alloc o1).alloc o2).heap.size ((w.alloc o1).alloc o2)).alloc (Nat.le_refl _) o3)
  have k1 := ((Below.refl (w.alloc o1).heap.size (w.alloc o1)).alloc (Nat.le_refl _) o2)
  refine ⟨h3, (k2.block (w.heap.size + 1) (by rw [e3]; omega)).trans h2, (k2.block w.heap.size (by rw [e3]; omega)).trans ((k1.block w.heap.size (by rw [e2]; omega)).trans h1), by simp⟩
theorem made_rs (n : Nat) : (madeCells (Value.agg #[.slice none 0 0, .int .i64 0]).cells (n * 2)).toList = flatR (List.replicate n eV) := by
  apply List.ext_getElem?
  intro j
  by_cases hj : j < n * 2
  · have hi : j / 2 < (List.replicate n eV).length := by simp; omega
    have hg : (List.replicate n eV).getD (j / 2) eV = eV := by
      simp [List.getD, List.getElem?_replicate]; split <;> rfl
    have f := L8.flat_get cR 2 cR_len eV (List.replicate n eV) (j / 2) (j % 2) hi (Nat.mod_lt _ (by omega))
    rw [show j / 2 * 2 + j % 2 = j by omega, hg] at f
    have hm : (madeCells (Value.agg #[.slice none 0 0, .int .i64 0]).cells (n * 2)).toList[j]? = [Value.slice none 0 0, .int .i64 0][j % 2]? := by
      simp only [madeCells, Value.cells, Array.toList_map, Array.toList_range, List.getElem?_map]
      rw [List.getElem?_range hj]
      simp only [Option.map_some, List.size_toArray, List.length_cons, List.length_nil]
      have h01 : j % 2 = 0 ∨ j % 2 = 1 := by omega
      rcases h01 with h | h <;> simp [h]
    rw [hm]
    show _ = (List.flatMap cR _)[j]?
    rw [f]
    rfl
  · rw [List.getElem?_eq_none (by simp [size_madeCells]; omega), List.getElem?_eq_none (by rw [flatR_len]; simp; omega)]
/-- Rows as they are made: each without anything. -/
theorem own_zero {w : World} {base n : Nat} {v : Value} (h : w.ownsRow base 94 2 v n (flatR (List.replicate n eV))) : OwR w base v n (List.replicate n eV) := by
  have hg : ∀ i, (List.replicate n eV).getD i eV = eV := fun i => by
    simp [List.getD, List.getElem?_replicate]; split <;> rfl
  refine ⟨by simp, h, fun i hi => by rw [hg i]; exact World.ownsRow_nil _ _ _ _, fun i j _ _ g e => ?_⟩
  rw [hg i] at e
  simp [eV, Value.ownBlock] at e

set_option maxRecDepth 100000 in
set_option maxHeartbeats 2000000 in
theorem toItem_any (a : Option Addr) (xs : List Lb) (n cap : Nat) (v0 : Int) (w : World) (hn : xs.length = n) (hs : SlL w a xs) (hn2 : n ≤ 1048576) :
    Calls Try.prog 62 #[.agg #[.slice a n cap, .int .i64 v0]] w fun e w' => ∃ g, e = .returned (.agg #[.slice (some ⟨g, 0, none⟩) n n, .int .i64 v0]) ∧ w'.ownsRow w.heap.size 104 2 (.slice (some ⟨g, 0, none⟩) n n) n (flatL xs) ∧ Below w.heap.size w w' := by
  have C := hide (fun w (hs : SlL w a xs) => toLabelS_any a xs n cap w hn hs hn2)
  have HS := hide hs
  clear hs hn
  go_enter Try.func62, Try.ntmps62
  go_wp2_with fail
  refine (C.out _ (HS.out.below ((((Below.refl _ _).alloc (Nat.le_refl _) _).alloc (by simp) _).alloc (by simp; omega) _))).mono ?_
  rintro e w1 ⟨rfl, ho, hb⟩
  obtain ⟨b3, b2, b1, bz⟩ := blk_three w (.cells #[.slice a n cap, .int .i64 v0] 92 (0, 0)) (.cells #[.slice none 0 0, .int .i64 0] 94 (0, 0)) (.cells #[.slice none 0 0, .int .i64 0] 94 (0, 0))
  have G3 := (hb.block (w.heap.size + 2) (by simp)).trans b3
  have G2 := (hb.block (w.heap.size + 1) (by simp)).trans b2
  have G1 := (hb.block w.heap.size (by simp; omega)).trans b1
  obtain ⟨c0, c1, cf0, cf1⟩ := blkp G3
  obtain ⟨d0, d1, df0, df1⟩ := blkp G2
  obtain ⟨f0, f1, ff0, ff1⟩ := blkp G1
  have ho' : w1.ownsRow (w.heap.size + 3) 104 2 (.slice (some ⟨w.heap.size + 1 + 1 + 1, 0, none⟩) n n) n (flatL xs) := by
    simp only [World.size_alloc] at ho
    exact own_baseR ho (by omega)
  have H1 := hide ho'
  have BB0 := hide (hb.mono (show w.heap.size ≤ _ by simp; omega))
  have BB := hide ((((Below.refl w.heap.size w).alloc (Nat.le_refl _) (.cells #[.slice a n cap, .int .i64 v0] 92 (0, 0))).alloc (by simp) (.cells #[.slice none 0 0, .int .i64 0] 94 (0, 0))).alloc (by simp; omega) (.cells #[.slice none 0 0, .int .i64 0] 94 (0, 0)))
  clear ho hb G3 G2 G1 b1 b2 b3 bz ho'
  go_wp2
  refine bodyPost_ret (v := .agg #[.slice (some ⟨w.heap.size + 1 + 1 + 1, 0, none⟩) n n, .int .i64 v0]) (by simp [results, Try.f62, go_sem, d0, d1]) rfl ⟨_, rfl, ?_, ?_⟩
  · have z1 : w.heap.size + 1 + 1 < w.heap.size + 3 := by omega
    have z2 : w.heap.size + 1 < w.heap.size + 3 := by omega
    exact own_baseR (b1 := w.heap.size + 3) (L8.own_setC (L8.own_setC (L8.own_setC (L8.own_setC (H1.out) ⟨_, _, none⟩ _ z1) ⟨_, _, none⟩ _ z1) ⟨_, _, none⟩ _ z2) ⟨_, _, none⟩ _ z2) (by omega)
  · exact (((((BB.out.trans BB0.out).setCell (p := ⟨_, _, none⟩) (by show w.heap.size ≤ w.heap.size + 1 + 1; omega) _).setCell (p := ⟨_, _, none⟩) (by show w.heap.size ≤ w.heap.size + 1 + 1; omega) _).setCell (p := ⟨_, _, none⟩) (by show w.heap.size ≤ w.heap.size + 1; omega) _).setCell (p := ⟨_, _, none⟩) (by show w.heap.size ≤ w.heap.size + 1; omega) _)

set_option maxRecDepth 100000 in
set_option maxHeartbeats 4000000 in
theorem toItemS_any (a : Option Addr) (L : List Rw) (n cap : Nat) (w : World) (hn : L.length = n) (hs : SlR w a L) (hn2 : n ≤ 1048576) (hsz : ∀ i, i < n → (gr L i).l.length ≤ 1048576) :
    Calls Try.prog 23 #[.slice a n cap] w fun e w' => e = .returned (.slice (some ⟨w.heap.size, 0, none⟩) n n) ∧ (∃ M, rws M = L ∧ OwR w' w.heap.size (.slice (some ⟨w.heap.size, 0, none⟩) n n) n M) ∧ Below w.heap.size w w' := by
  obtain ⟨i0, hi, hz0, hz1, hz2⟩ := info_parts info_row
  obtain ⟨w1, hmk, hown1, hg1⟩ := run_make_full (P := Try.prog) w w.heap.size 44 94 i0 (.agg #[.slice none 0 0, .int .i64 0]) 2 Try.underlying44 hi hz0 hz1 .i64 .i64 n (by rw [hz2]; omega) (by unfold maxLen; omega) (Nat.le_refl _)
  rw [made_rs] at hown1
  have hb1 : Below w.heap.size w w1 := (Below.refl _ _).grown hg1 (Nat.le_refl _) (fun k hk => by cases hk)
  have HO := hide (own_zero hown1)
  have HS := hide hs
  have HN := hide hn
  have HSZ := hide hsz
  clear hown1 hg1 hs hn hsz
  go_enter Try.func23, Try.ntmps23
  go_wp2
  go_loopw [4] (fun i wr => ∃ (k : Nat) (M : List PR), k ≤ n ∧ i = .int .i64 k ∧ Hid (∀ j, j < k → (M.getD j eV).1 = gr L j) ∧ OwR wr w.heap.size (.slice (some ⟨w.heap.size, 0, none⟩) n n) n M ∧ Below w.heap.size w wr) (fun i _ => n - (intOf i).toNat)
  case atStart => exact ⟨0, List.replicate n eV, Nat.zero_le _, rfl, fun j hj => absurd hj (Nat.not_lt_zero _), HO.out, hb1⟩
  case round =>
    obtain ⟨k, M, hk, rfl, HX, hown, hbel⟩ := hrel
    by_cases hlt : k < n
    · obtain ⟨b, off, rfl, ai, ci, hat⟩ := HS.out.below hbel k (by rw [HN.out]; exact hlt)
      have hxl := HSZ.out k hlt
      obtain ⟨x0, x1, t1⟩ := hat
      obtain ⟨p, hp⟩ : ∃ p, p = gr L k := ⟨_, rfl⟩
      rw [← hp] at x0 x1 t1
      rw [← hp] at hxl
      obtain ⟨x, v0⟩ := p
      simp only at x0 x1 t1 hxl
      obtain ⟨m, hm⟩ : ∃ m, m = x.length := ⟨_, rfl⟩
      rw [← hm] at x0 hxl
      have hltI : (k : Int) < (n : Int) := by omega
      have C := hide (toItem_any ai x m ci v0 wr hm.symm t1 hxl)
      have HP := hide hp
      have HM := hide hm
      have O := hide hown
      have B := hide hbel
      clear t1 hp hm hown hbel
      go_wp2_with fail
      refine C.out.mono ?_
      rintro e w2 ⟨g, rfl, ho2, hb2⟩
      have O2 := O.out.below hb2
      have hB2 := B.out.trans (hb2.mono B.out.size)
      have hl := O2.len
      have hfl : (flatR M).length = n * 2 := by rw [flatR_len, hl]
      have hcl0 := O2.row.cellAt (k * 2) (by omega)
      have hfr0 := O2.row.frozenAt (k * 2)
      obtain ⟨z0, hz0⟩ : ∃ v, w2.cell? ⟨w.heap.size, k * 2, none⟩ = some v := ⟨_, hcl0.trans (List.getElem?_eq_getElem (by omega))⟩
      clear hcl0
      have hcl1 := O2.row.cellAt (k * 2 + 1) (by omega)
      have hfr1 := O2.row.frozenAt (k * 2 + 1)
      obtain ⟨z1, hz1⟩ : ∃ v, w2.cell? ⟨w.heap.size, k * 2 + 1, none⟩ = some v := ⟨_, hcl1.trans (List.getElem?_eq_getElem (by omega))⟩
      clear hcl1
      have hP := O2.put k hlt ⟨x, v0⟩ (.slice (some ⟨g, 0, none⟩) m m) (by show w2.ownsRow _ _ _ _ x.length _; rw [← HM.out]; exact own_baseR ho2 B.out.size) (fun i hi _ b hb e => by
        have h1 := (L8.own_lt (O.out.idx i hi) b e).2
        have h2 := (L8.own_lt ho2 b hb).1
        omega)
      have R : ∃ (k' : Nat) (M' : List PR), k' ≤ n ∧ Value.int .i64 ((k : Int) + 1) = .int .i64 k' ∧ Hid (∀ j, j < k' → (M'.getD j eV).1 = gr L j) ∧ OwR ((w2.setCell ⟨w.heap.size, k * 2, none⟩ (.slice (some ⟨g, 0, none⟩) m m)).setCell ⟨w.heap.size, k * 2 + 1, none⟩ (.int .i64 v0)) w.heap.size (.slice (some ⟨w.heap.size, 0, none⟩) n n) n M' ∧ Below w.heap.size w ((w2.setCell ⟨w.heap.size, k * 2, none⟩ (.slice (some ⟨g, 0, none⟩) m m)).setCell ⟨w.heap.size, k * 2 + 1, none⟩ (.int .i64 v0)) := by
        refine ⟨k + 1, _, by omega, by simp, fun j hj => ?_, hP.1, hB2.grown hP.2 (hB2.size) (fun q hq => by cases hq; exact Nat.le_refl _)⟩
        by_cases e : j = k
        · subst e
          rw [L8.getD_self M j _ _ (by omega)]
          exact HP.out
        · rw [L8.getD_ne M k j _ _ e]
          exact HX.out j (by omega)
      have HR := hide R
      clear hfl hl O2 hB2 hP R ho2 hb2
      go_wp2
      go_roundw
      case rel => exact HR.out
      case measure => simp [intOf]; omega
    · obtain rfl : k = n := by omega
      have hltI : ¬ (k : Int) < (k : Int) := by omega
      have E := list_sameR hown.len HN.out HX.out
      have O := hide hown
      have HE := hide E
      clear hown E
      go_wp2
      go_ret
      exact ⟨rfl, ⟨M, HE.out, O.out⟩, hbel⟩
end Go.Proofs.Ytohcjafklfemfal.L14I
