/-
  Contracts of the laws' own helpers toTold, toToldS.
-/
import Derived.Test.YthmekhhfihjclagTri
namespace Go.Proofs.Ythmekhhfihjclag.Tri
open Go.RowKit L1
set_option linter.unusedVariables false

theorem info_Told : (Try.prog.info? 75).map (fun i => (i.zero, i.size, i.bytes)) = some (some (.agg #[.int .i64 0, .int .i64 0, .string ByteArray.empty]), 3, 32) := by kernel_rfl
set_option maxRecDepth 100000 in
set_option maxHeartbeats 400000 in
theorem toTold_any (x z : Int) (y : ByteArray) (w : World) :
    Calls Try.prog 83 #[.agg #[.int .i64 x, .int .i64 z, .string y]] w fun e w' => e = .returned (.agg #[.int .i64 x, .int .i64 z, .string y]) ∧ Below w.heap.size w w' := by
  go_enter Try.func83, Try.ntmps83
  go_wp2
  refine bodyPost_ret (v := .agg #[.int .i64 x, .int .i64 z, .string y]) (by simp [results, Try.f83, go_sem]) rfl ⟨rfl, ?_⟩
  exact (((Below.refl _ _).alloc (Nat.le_refl _) _).alloc (by simp) _).alloc (by simp; omega) _

/-- One round of the copy. -/
theorem copy_roundTold {w wr : World} {xs ys : List Tr} {m k : Nat} {x z : Int} {y : ByteArray} (hx : xs.getD k e3 = (x, z, y)) (hlt : k < m) (hm : xs.length = m) (hl : ys.length = m) (HX : ∀ j, j < k → ys.getD j e3 = xs.getD j e3)
    (hown : wr.ownsRow w.heap.size 75 3 (.slice (some ⟨w.heap.size, 0, none⟩) m m) m (flat3 ys)) (hb : Below w.heap.size w wr) :
    ∃ (k' : Nat) (ys' : List Tr), k' ≤ m ∧ Value.int .i64 ((k : Int) + 1) = .int .i64 k' ∧ ys'.length = m ∧ Hid (∀ j, j < k' → ys'.getD j e3 = xs.getD j e3) ∧
      (((wr.setCell ⟨w.heap.size, k * 3, none⟩ (.int .i64 x)).setCell ⟨w.heap.size, k * 3 + 1, none⟩ (.int .i64 z)).setCell ⟨w.heap.size, k * 3 + 2, none⟩ (.string y)).ownsRow w.heap.size 75 3 (.slice (some ⟨w.heap.size, 0, none⟩) m m) m (flat3 ys') ∧ Below w.heap.size w (((wr.setCell ⟨w.heap.size, k * 3, none⟩ (.int .i64 x)).setCell ⟨w.heap.size, k * 3 + 1, none⟩ (.int .i64 z)).setCell ⟨w.heap.size, k * 3 + 2, none⟩ (.string y)) := by
  have hst := (((hown.stored (k * 3) (.int .i64 x)).1.stored (k * 3 + 1) (.int .i64 z)).1.stored (k * 3 + 2) (.string y))
  have hb2 := ((hb.setCell (p := ⟨w.heap.size, k * 3, none⟩) (Nat.le_refl _) (.int .i64 x)).setCell (p := ⟨w.heap.size, k * 3 + 1, none⟩) (Nat.le_refl _) (.int .i64 z)).setCell (p := ⟨w.heap.size, k * 3 + 2, none⟩) (Nat.le_refl _) (.string y)
  refine ⟨k + 1, ys.set k (x, z, y), by omega, by simp, by simpa using hl, ?_, by rw [flat3_set]; exact hst.1, hb2⟩
  intro j hj
  by_cases e : j = k
  · subst e
    rw [hx]
    simp [List.getD, hl, hlt]
  · rw [← HX j (by omega)]
    simp [List.getD, Ne.symm e]

set_option maxRecDepth 100000 in
set_option maxHeartbeats 1000000 in
theorem toToldS_any (a : Option Addr) (xs : List Tr) (n cap : Nat) (w : World) (hn : xs.length = n) (hs : Sl3 w a xs) (hn2 : n ≤ 1048576) :
    Calls Try.prog 49 #[.slice a n cap] w fun e w' => e = .returned (.slice (some ⟨w.heap.size, 0, none⟩) n n) ∧
      w'.ownsRow w.heap.size 75 3 (.slice (some ⟨w.heap.size, 0, none⟩) n n) n (flat3 xs) ∧ Below w.heap.size w w' := by
  obtain ⟨i0, hi, hz0, hz1, hz2⟩ := info_parts info_Told
  obtain ⟨w1, hmk, hown1, hg1⟩ := run_make_full (P := Try.prog) w w.heap.size 31 75 i0 (.agg #[.int .i64 0, .int .i64 0, .string ByteArray.empty]) 3 Try.underlying31 hi hz0 hz1 .i64 .i64 n (by rw [hz2]; omega) (by unfold maxLen; omega) (Nat.le_refl _)
  rw [made_3] at hown1
  have hb1 : Below w.heap.size w w1 := (Below.refl _ _).grown hg1 (Nat.le_refl _) (fun k hk => by cases hk)
  have HO := hide hown1
  have HS := hide hs
  have HN := hide hn
  clear hown1 hg1 hs hn
  go_enter Try.func49, Try.ntmps49
  go_wp2
  go_loopw [4] (fun i wr => ∃ (k : Nat) (ys : List Tr), k ≤ n ∧ i = .int .i64 k ∧ ys.length = n ∧ Hid (∀ j, j < k → ys.getD j e3 = xs.getD j e3) ∧
      wr.ownsRow w.heap.size 75 3 (.slice (some ⟨w.heap.size, 0, none⟩) n n) n (flat3 ys) ∧ Below w.heap.size w wr) (fun i _ => n - (intOf i).toNat)
  case atStart => exact ⟨0, List.replicate n e3, Nat.zero_le _, rfl, by simp, fun j hj => absurd hj (Nat.not_lt_zero _), HO, hb1⟩
  case round =>
    obtain ⟨k, ys, hk, rfl, hyl, HX, hown, hbel⟩ := hrel
    have HL := hide hyl
    clear hyl
    by_cases hlt : k < n
    · obtain ⟨b, off, rfl, hc0, he0, hd0⟩ := HS.out k (by rw [HN.out]; exact hlt)
      have hc := (hbel.cell (p := ⟨b, off + k * 3, none⟩) (blk_lt hc0)).trans hc0
      have he := (hbel.cell (p := ⟨b, off + k * 3 + 1, none⟩) (blk_lt he0)).trans he0
      have hd := (hbel.cell (p := ⟨b, off + k * 3 + 2, none⟩) (blk_lt hd0)).trans hd0
      have hltI : (k : Int) < (n : Int) := by omega
      obtain ⟨x, hx⟩ : ∃ x, x = (xs.getD k e3).1 := ⟨_, rfl⟩
      obtain ⟨z, hz⟩ : ∃ z, z = (xs.getD k e3).2.1 := ⟨_, rfl⟩
      obtain ⟨y, hy⟩ : ∃ y, y = (xs.getD k e3).2.2 := ⟨_, rfl⟩
      rw [← hx] at hc
      rw [← hz] at he
      rw [← hy] at hd
      have hxy : xs.getD k e3 = (x, z, y) := by rw [hx, hz, hy]
      have HXY := hide hxy
      have HO2 := hide hown
      have HB2 := hide hbel
      clear hc0 hd0 he0 hx hy hz hxy hown hbel
      go_wp2_with fail
      refine (toTold_any x z y _).mono ?_
      rintro e w2 ⟨rfl, hb2⟩
      have hown2 := own_below3 HO2.out hb2
      have hbel2 := HB2.out.trans (hb2.mono HB2.out.size)
      have hl0 : k * 3 < (flat3 ys).length := by rw [flat3_len, HL.out]; omega
      have hl1 : k * 3 + 1 < (flat3 ys).length := by rw [flat3_len, HL.out]; omega
      have hl2 : k * 3 + 2 < (flat3 ys).length := by rw [flat3_len, HL.out]; omega
      have hcl := hown2.cellAt (k * 3) (by have := HL.out; omega)
      have hcl1 := hown2.cellAt (k * 3 + 1) (by have := HL.out; omega)
      have hcl2 := hown2.cellAt (k * 3 + 2) (by have := HL.out; omega)
      have hfr := hown2.frozenAt (k * 3)
      have hfr1 := hown2.frozenAt (k * 3 + 1)
      have hfr2 := hown2.frozenAt (k * 3 + 2)
      obtain ⟨v, hv⟩ : ∃ v, w2.cell? ⟨w.heap.size, k * 3, none⟩ = some v := ⟨_, hcl.trans (List.getElem?_eq_getElem hl0)⟩
      obtain ⟨v1, hv1⟩ : ∃ v, w2.cell? ⟨w.heap.size, k * 3 + 1, none⟩ = some v := ⟨_, hcl1.trans (List.getElem?_eq_getElem hl1)⟩
      obtain ⟨v2, hv2⟩ : ∃ v, w2.cell? ⟨w.heap.size, k * 3 + 2, none⟩ = some v := ⟨_, hcl2.trans (List.getElem?_eq_getElem hl2)⟩
      have R := hide (copy_roundTold HXY.out hlt HN.out HL.out HX.out hown2 hbel2)
      clear hcl hcl1 hcl2 hl0 hl1 hl2 hown2 hbel2 hb2
      go_wp2
      go_roundw
      case rel => exact R.out
      case measure => simp [intOf]; omega
    · have e : ys = xs := list_same3 HN.out HL.out (fun j hj => HX.out j (by omega))
      subst e
      have hltI : ¬ (k : Int) < (n : Int) := by omega
      go_wp2
      go_ret
      exact ⟨rfl, hown, hbel⟩
end Go.Proofs.Ythmekhhfihjclag.Tri
