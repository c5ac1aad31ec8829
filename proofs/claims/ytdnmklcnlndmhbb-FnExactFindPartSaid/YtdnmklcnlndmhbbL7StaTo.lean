/-
  Contracts of the laws' own helpers toStartS (it copies a list of starts into new memory) and szStartS (it takes a length off).
-/
import Derived.Test.YtdnmklcnlndmhbbL7StaSame
namespace Go.Proofs.Ytdnmklcnlndmhbb.L7
open Go.RowKit L1
set_option linter.unusedVariables false

set_option maxRecDepth 100000 in
set_option maxHeartbeats 400000 in
theorem toStart_any (x y : Int) (w : World) :
    Calls Try.prog 42 #[.agg #[.int .i64 x, .int .i64 y]] w fun e w' => e = .returned (.agg #[.int .i64 x, .int .i64 y]) ∧ Below w.heap.size w w' := by
  go_enter Try.func42, Try.ntmps42
  go_wp2
  refine bodyPost_ret (v := .agg #[.int .i64 x, .int .i64 y]) (by simp [results, Try.f42, go_sem]) rfl ⟨rfl, ?_⟩
  exact (((Below.refl _ _).alloc (Nat.le_refl _) _).alloc (by simp) _).alloc (by simp; omega) _

theorem made_stas (n : Nat) : (madeCells (Value.agg #[.int .i64 0, .int .i64 0]).cells (n * 2)).toList = flatS (List.replicate n ((0 : Int), (0 : Int))) := by
  apply List.ext_getElem?
  intro j
  by_cases hj : j < n * 2
  · have hi : j / 2 < (List.replicate n ((0 : Int), (0 : Int))).length := by simp; omega
    have hf := flatS_get (List.replicate n ((0 : Int), (0 : Int))) (j / 2) hi
    have hg : (List.replicate n ((0 : Int), (0 : Int))).getD (j / 2) (0, 0) = (0, 0) := by
      simp [List.getD, List.getElem?_replicate]; split <;> rfl
    rw [hg] at hf
    have hm : (madeCells (Value.agg #[.int .i64 0, .int .i64 0]).cells (n * 2)).toList[j]? = some (.int .i64 0) := by
      simp only [madeCells, Value.cells, Array.toList_map, Array.toList_range, List.getElem?_map]
      rw [List.getElem?_range hj]
      simp only [Option.map_some, List.size_toArray, List.length_cons, List.length_nil]
      have h01 : j % 2 = 0 ∨ j % 2 = 1 := by omega
      rcases h01 with h | h <;> simp [h]
    rw [hm]
    have h01 : j % 2 = 0 ∨ j % 2 = 1 := by omega
    rcases h01 with h | h
    · rw [show j = j / 2 * 2 by omega]; exact hf.1.symm
    · rw [show j = j / 2 * 2 + 1 by omega]; exact hf.2.symm
  · rw [List.getElem?_eq_none (by simp [size_madeCells]; omega), List.getElem?_eq_none (by rw [flatS_len]; simp; omega)]

/-- One round of the copy. -/
theorem copy_roundS {w wr : World} {xs ys : List (Int × Int)} {m k : Nat} {x y : Int} (hx : xs.getD k (0, 0) = (x, y)) (hlt : k < m) (hm : xs.length = m) (hl : ys.length = m) (HX : ∀ j, j < k → ys.getD j (0, 0) = xs.getD j (0, 0))
    (hown : wr.ownsRow w.heap.size 58 2 (.slice (some ⟨w.heap.size, 0, none⟩) m m) m (flatS ys)) (hb : Below w.heap.size w wr) :
    ∃ (k' : Nat) (ys' : List (Int × Int)), k' ≤ m ∧ Value.int .i64 ((k : Int) + 1) = .int .i64 k' ∧ ys'.length = m ∧ Hid (∀ j, j < k' → ys'.getD j (0, 0) = xs.getD j (0, 0)) ∧
      ((wr.setCell ⟨w.heap.size, k * 2, none⟩ (.int .i64 x)).setCell ⟨w.heap.size, k * 2 + 1, none⟩ (.int .i64 y)).ownsRow w.heap.size 58 2 (.slice (some ⟨w.heap.size, 0, none⟩) m m) m (flatS ys') ∧ Below w.heap.size w ((wr.setCell ⟨w.heap.size, k * 2, none⟩ (.int .i64 x)).setCell ⟨w.heap.size, k * 2 + 1, none⟩ (.int .i64 y)) := by
  have hst := (hown.stored (k * 2) (.int .i64 x)).1.stored (k * 2 + 1) (.int .i64 y)
  have hb2 := (hb.setCell (p := ⟨w.heap.size, k * 2, none⟩) (Nat.le_refl _) (.int .i64 x)).setCell (p := ⟨w.heap.size, k * 2 + 1, none⟩) (Nat.le_refl _) (.int .i64 y)
  refine ⟨k + 1, ys.set k (x, y), by omega, by simp, by simpa using hl, ?_, by rw [flatS_set]; exact hst.1, hb2⟩
  intro j hj
  by_cases e : j = k
  · subst e
    rw [hx]
    simp [List.getD, hl, hlt]
  · rw [← HX j (by omega)]
    simp [List.getD, Ne.symm e]
set_option maxRecDepth 100000 in
set_option maxHeartbeats 1000000 in
theorem toStartS_any (a : Option Addr) (xs : List (Int × Int)) (n cap : Nat) (w : World) (hn : xs.length = n) (hs : SlS w a xs) (hn2 : n ≤ 1048576) :
    Calls Try.prog 18 #[.slice a n cap] w fun e w' => e = .returned (.slice (some ⟨w.heap.size, 0, none⟩) n n) ∧
      w'.ownsRow w.heap.size 58 2 (.slice (some ⟨w.heap.size, 0, none⟩) n n) n (flatS xs) ∧ Below w.heap.size w w' := by
  obtain ⟨i0, hi, hz0, hz1, hz2⟩ := info_parts info_sta
  obtain ⟨w1, hmk, hown1, hg1⟩ := run_make_full (P := Try.prog) w w.heap.size 36 58 i0 (.agg #[.int .i64 0, .int .i64 0]) 2 Try.underlying36 hi hz0 hz1 .i64 .i64 n (by rw [hz2]; omega) (by unfold maxLen; omega) (Nat.le_refl _)
  rw [made_stas] at hown1
  have hb1 : Below w.heap.size w w1 := (Below.refl _ _).grown hg1 (Nat.le_refl _) (fun k hk => by cases hk)
  have HO := hide hown1
  have HS := hide hs
  have HN := hide hn
  clear hown1 hg1 hs hn
  go_enter Try.func18, Try.ntmps18
  go_wp2
  go_loopw [4] (fun i wr => ∃ (k : Nat) (ys : List (Int × Int)), k ≤ n ∧ i = .int .i64 k ∧ ys.length = n ∧ Hid (∀ j, j < k → ys.getD j (0, 0) = xs.getD j (0, 0)) ∧
      wr.ownsRow w.heap.size 58 2 (.slice (some ⟨w.heap.size, 0, none⟩) n n) n (flatS ys) ∧ Below w.heap.size w wr) (fun i _ => n - (intOf i).toNat)
  case atStart => exact ⟨0, List.replicate n (0, 0), Nat.zero_le _, rfl, by simp, fun j hj => absurd hj (Nat.not_lt_zero _), HO, hb1⟩
  case round =>
    obtain ⟨k, ys, hk, rfl, hyl, HX, hown, hbel⟩ := hrel
    have HL := hide hyl
    clear hyl
    by_cases hlt : k < n
    · obtain ⟨b, off, rfl, hc0, hd0⟩ := HS.out k (by rw [HN.out]; exact hlt)
      have hc : wr.cell? ⟨b, off + k * 2, none⟩ = some (.int .i64 (xs.getD k (0, 0)).1) := by
        rw [hbel.cell (p := ⟨b, off + k * 2, none⟩) (blk_lt hc0)]
        exact hc0
      have hd : wr.cell? ⟨b, off + k * 2 + 1, none⟩ = some (.int .i64 (xs.getD k (0, 0)).2) := by
        rw [hbel.cell (p := ⟨b, off + k * 2 + 1, none⟩) (blk_lt hd0)]
        exact hd0
      have hltI : (k : Int) < (n : Int) := by omega
      obtain ⟨x, hx⟩ : ∃ x, x = (xs.getD k (0, 0)).1 := ⟨_, rfl⟩
      obtain ⟨y, hy⟩ : ∃ y, y = (xs.getD k (0, 0)).2 := ⟨_, rfl⟩
      rw [← hx] at hc
      rw [← hy] at hd
      have hxy : xs.getD k (0, 0) = (x, y) := by rw [hx, hy]
      have HXY := hide hxy
      have HO2 := hide hown
      have HB2 := hide hbel
      clear hc0 hd0 hx hy hxy hown hbel
      go_wp2_with fail
      refine (toStart_any x y _).mono ?_
      rintro e w2 ⟨rfl, hb2⟩
      have hown2 := own_belowS HO2.out hb2
      have hbel2 := HB2.out.trans (hb2.mono HB2.out.size)
      have hl0 : k * 2 < (flatS ys).length := by rw [flatS_len, HL.out]; omega
      have hl1 : k * 2 + 1 < (flatS ys).length := by rw [flatS_len, HL.out]; omega
      have hcl := hown2.cellAt (k * 2) (by have := HL.out; omega)
      have hcl1 := hown2.cellAt (k * 2 + 1) (by have := HL.out; omega)
      have hfr := hown2.frozenAt (k * 2)
      have hfr1 := hown2.frozenAt (k * 2 + 1)
      obtain ⟨v, hv⟩ : ∃ v, w2.cell? ⟨w.heap.size, k * 2, none⟩ = some v := ⟨_, hcl.trans (List.getElem?_eq_getElem hl0)⟩
      obtain ⟨v1, hv1⟩ : ∃ v, w2.cell? ⟨w.heap.size, k * 2 + 1, none⟩ = some v := ⟨_, hcl1.trans (List.getElem?_eq_getElem hl1)⟩
      have R := hide (copy_roundS HXY.out hlt HN.out HL.out HX.out hown2 hbel2)
      clear hcl hcl1 hl0 hl1 hown2 hbel2 hb2
      go_wp2
      go_roundw
      case rel => exact R.out
      case measure => simp [intOf]; omega
    · have e : ys = xs := list_sameS HN.out HL.out (fun j hj => HX.out j (by omega))
      subst e
      have hltI : ¬ (k : Int) < (n : Int) := by omega
      go_wp2
      go_ret
      exact ⟨rfl, hown, hbel⟩

set_option maxRecDepth 100000 in
set_option maxHeartbeats 400000 in
theorem szStartS_any (a : Option Addr) (n cap : Nat) (L : Int) (w : World) (hm : n ≤ 9223372036854775807) (h0 : 0 ≤ L) (h1 : L ≤ 1048576) (r : Int) (hr : r = if (n : Int) ≤ L then L - (n : Int) else -1) :
    Calls Try.prog 16 #[.slice a n cap, .int .i64 L] w fun e w' => e = .returned (.int .i64 r) ∧ Below w.heap.size w w' := by
  have HR := hide hr
  clear hr
  by_cases ha : L - (n : Int) < 0
  · go_enter Try.func16, Try.ntmps16
    go_wp2
    go_ret
    exact ⟨by rw [HR.out, if_neg (by omega)]; rfl, Below.refl _ _⟩
  · go_enter Try.func16, Try.ntmps16
    go_wp2
    go_ret
    exact ⟨by rw [HR.out, if_pos (by omega)]; rfl, Below.refl _ _⟩
end Go.Proofs.Ytdnmklcnlndmhbb.L7
