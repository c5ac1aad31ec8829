/-
  Contracts of the laws' own helpers toNote, toNoteS.
-/
import Derived.Test.YthmekhhfihjclagNote
import Derived.Test.YthmekhhfihjclagTriToldTo
namespace Go.Proofs.Ythmekhhfihjclag.Nte
open Go.RowKit L1 Tri
set_option linter.unusedVariables false

theorem info_Note : (Try.prog.info? 77).map (fun i => (i.zero, i.size, i.bytes)) = some (some (.agg #[.bool false, .int .i64 0, .int .i64 0, .string ByteArray.empty]), 4, 40) := by kernel_rfl
theorem blkN (w : World) (o : Obj) : (w.alloc o).heap[w.heap.size]? = some o := by
  show (w.heap.push o)[w.heap.size]? = some o
  simp
theorem al3N (w : World) (A B C : Obj) : (((w.alloc A).alloc B).alloc C).heap[w.heap.size + 1]? = some B ∧ (((w.alloc A).alloc B).alloc C).heap[w.heap.size + 1 + 1]? = some C ∧ Below w.heap.size w (((w.alloc A).alloc B).alloc C) := by
  have e1 : (w.alloc A).heap.size = w.heap.size + 1 := by simp
  have e2 : ((w.alloc A).alloc B).heap.size = w.heap.size + 1 + 1 := by simp
  have a2 := (Below.refl ((w.alloc A).alloc B).heap.size ((w.alloc A).alloc B)).alloc (Nat.le_refl _) C
  refine ⟨(a2.block _ (by omega)).trans ?_, ?_, (((Below.refl w.heap.size w).alloc (Nat.le_refl _) A).alloc (by omega) B).alloc (by omega) C⟩
  · rw [← e1]; exact blkN (w.alloc A) B
  · rw [← e2]; exact blkN ((w.alloc A).alloc B) C
theorem blk4 {w : World} {b : Nat} {c0 c1 c2 c3 : Value} {t : TypeId} (h : w.heap[b]? = some (.cells #[c0, c1, c2, c3] t (0, 0))) : w.cell? ⟨b, 0, none⟩ = some c0 ∧ w.cell? ⟨b, 1, none⟩ = some c1 ∧ w.cell? ⟨b, 2, none⟩ = some c2 ∧ w.cell? ⟨b, 3, none⟩ = some c3 := by
  simp [World.cell?, h]
theorem frz4 {w : World} {b : Nat} {cur : Array Value} {t : TypeId} (h : w.heap[b]? = some (.cells cur t (0, 0))) (i : Nat) : w.frozen? ⟨b, i, none⟩ = false := by
  simp [World.frozen?, h]
set_option maxRecDepth 100000 in
set_option maxHeartbeats 1000000 in
theorem toNote_any (q : Bool) (x z : Int) (y : ByteArray) (w : World) :
    Calls Try.prog 82 #[.agg #[.bool q, .int .i64 x, .int .i64 z, .string y]] w fun e w' => e = .returned (.agg #[.bool q, .int .i64 x, .int .i64 z, .string y]) ∧ Below w.heap.size w w' := by
  obtain ⟨wa, hwa⟩ : ∃ wa, wa = ((w.alloc (.cells #[.bool q, .int .i64 x, .int .i64 z, .string y] 102 (0, 0))).alloc (.cells #[.bool false, .int .i64 0, .int .i64 0, .string ⟨#[]⟩] 77 (0, 0))).alloc (.cells #[.bool q, .int .i64 0, .int .i64 0, .string ⟨#[]⟩] 77 (0, 0)) := ⟨_, rfl⟩
  obtain ⟨h1, h2, hB⟩ := al3N w (.cells #[.bool q, .int .i64 x, .int .i64 z, .string y] 102 (0, 0)) (.cells #[.bool false, .int .i64 0, .int .i64 0, .string ⟨#[]⟩] 77 (0, 0)) (.cells #[.bool q, .int .i64 0, .int .i64 0, .string ⟨#[]⟩] 77 (0, 0))
  rw [← hwa] at h1 h2 hB
  have H1 := hide h1
  have H2 := hide h2
  have HB := hide hB
  have HWA := hide hwa
  clear h1 h2 hB hwa
  go_enter Try.func82, Try.ntmps82
  go_wp2_with fail
  rw [← HWA.out]
  refine (toTold_any x z y _).mono ?_
  rintro e w2 ⟨rfl, hb⟩
  have g1 := (hb.block _ (Array.getElem?_eq_some_iff.1 H1.out).1).trans H1.out
  have g2 := (hb.block _ (Array.getElem?_eq_some_iff.1 H2.out).1).trans H2.out
  have B2 := hide (HB.out.trans (hb.mono HB.out.size))
  obtain ⟨a0, a1, a2, a3⟩ := blk4 g1
  obtain ⟨b0, b1, b2, b3⟩ := blk4 g2
  have f1 : ∀ i, w2.frozen? ⟨w.heap.size + 1, i, none⟩ = false := fun i => frz4 g1 i
  have f2 : ∀ i, w2.frozen? ⟨w.heap.size + 1 + 1, i, none⟩ = false := fun i => frz4 g2 i
  clear g1 g2 hb
  go_wp2
  refine bodyPost_ret (v := .agg #[.bool q, .int .i64 x, .int .i64 z, .string y]) (by simp [results, Try.f82, go_sem, a0, a1, a2, a3]) rfl ⟨rfl, ?_⟩
  have u1 : w.heap.size ≤ w.heap.size + 1 := by omega
  have u2 : w.heap.size ≤ w.heap.size + 1 + 1 := by omega
  exact ((((((B2.out.setCell (p := ⟨w.heap.size + 1 + 1, 1, none⟩) u2 _).setCell (p := ⟨w.heap.size + 1 + 1, 2, none⟩) u2 _).setCell (p := ⟨w.heap.size + 1 + 1, 3, none⟩) u2 _).setCell (p := ⟨w.heap.size + 1, 0, none⟩) u1 _).setCell (p := ⟨w.heap.size + 1, 1, none⟩) u1 _).setCell (p := ⟨w.heap.size + 1, 2, none⟩) u1 _).setCell (p := ⟨w.heap.size + 1, 3, none⟩) u1 _

/-- One round of the copy. -/
theorem copy_roundN {w wr : World} {xs ys : List Nt} {m k : Nat} {q : Bool} {x z : Int} {y : ByteArray} (hx : xs.getD k e4 = (q, x, z, y)) (hlt : k < m) (hm : xs.length = m) (hl : ys.length = m) (HX : ∀ j, j < k → ys.getD j e4 = xs.getD j e4)
    (hown : wr.ownsRow w.heap.size 77 4 (.slice (some ⟨w.heap.size, 0, none⟩) m m) m (flat4 ys)) (hb : Below w.heap.size w wr) :
    ∃ (k' : Nat) (ys' : List Nt), k' ≤ m ∧ Value.int .i64 ((k : Int) + 1) = .int .i64 k' ∧ ys'.length = m ∧ Hid (∀ j, j < k' → ys'.getD j e4 = xs.getD j e4) ∧
      ((((wr.setCell ⟨w.heap.size, k * 4, none⟩ (.bool q)).setCell ⟨w.heap.size, k * 4 + 1, none⟩ (.int .i64 x)).setCell ⟨w.heap.size, k * 4 + 2, none⟩ (.int .i64 z)).setCell ⟨w.heap.size, k * 4 + 3, none⟩ (.string y)).ownsRow w.heap.size 77 4 (.slice (some ⟨w.heap.size, 0, none⟩) m m) m (flat4 ys') ∧ Below w.heap.size w ((((wr.setCell ⟨w.heap.size, k * 4, none⟩ (.bool q)).setCell ⟨w.heap.size, k * 4 + 1, none⟩ (.int .i64 x)).setCell ⟨w.heap.size, k * 4 + 2, none⟩ (.int .i64 z)).setCell ⟨w.heap.size, k * 4 + 3, none⟩ (.string y)) := by
  have hst := ((((hown.stored (k * 4) (.bool q)).1.stored (k * 4 + 1) (.int .i64 x)).1.stored (k * 4 + 2) (.int .i64 z)).1.stored (k * 4 + 3) (.string y))
  have hb2 := (((hb.setCell (p := ⟨w.heap.size, k * 4, none⟩) (Nat.le_refl _) (.bool q)).setCell (p := ⟨w.heap.size, k * 4 + 1, none⟩) (Nat.le_refl _) (.int .i64 x)).setCell (p := ⟨w.heap.size, k * 4 + 2, none⟩) (Nat.le_refl _) (.int .i64 z)).setCell (p := ⟨w.heap.size, k * 4 + 3, none⟩) (Nat.le_refl _) (.string y)
  refine ⟨k + 1, ys.set k (q, x, z, y), by omega, by simp, by simpa using hl, ?_, by rw [flat4_set]; exact hst.1, hb2⟩
  intro j hj
  by_cases e : j = k
  · subst e
    rw [hx]
    simp [List.getD, hl, hlt]
  · rw [← HX j (by omega)]
    simp [List.getD, Ne.symm e]

set_option maxRecDepth 100000 in
set_option maxHeartbeats 1000000 in
theorem toNoteS_any (a : Option Addr) (xs : List Nt) (n cap : Nat) (w : World) (hn : xs.length = n) (hs : Sl4 w a xs) (hn2 : n ≤ 1048576) :
    Calls Try.prog 48 #[.slice a n cap] w fun e w' => e = .returned (.slice (some ⟨w.heap.size, 0, none⟩) n n) ∧
      w'.ownsRow w.heap.size 77 4 (.slice (some ⟨w.heap.size, 0, none⟩) n n) n (flat4 xs) ∧ Below w.heap.size w w' := by
  obtain ⟨i0, hi, hz0, hz1, hz2⟩ := info_parts info_Note
  obtain ⟨w1, hmk, hown1, hg1⟩ := run_make_full (P := Try.prog) w w.heap.size 30 77 i0 (.agg #[.bool false, .int .i64 0, .int .i64 0, .string ByteArray.empty]) 4 Try.underlying30 hi hz0 hz1 .i64 .i64 n (by rw [hz2]; omega) (by unfold maxLen; omega) (Nat.le_refl _)
  rw [made_4] at hown1
  have hb1 : Below w.heap.size w w1 := (Below.refl _ _).grown hg1 (Nat.le_refl _) (fun k hk => by cases hk)
  have HO := hide hown1
  have HS := hide hs
  have HN := hide hn
  clear hown1 hg1 hs hn
  go_enter Try.func48, Try.ntmps48
  go_wp2
  go_loopw [4] (fun i wr => ∃ (k : Nat) (ys : List Nt), k ≤ n ∧ i = .int .i64 k ∧ ys.length = n ∧ Hid (∀ j, j < k → ys.getD j e4 = xs.getD j e4) ∧
      wr.ownsRow w.heap.size 77 4 (.slice (some ⟨w.heap.size, 0, none⟩) n n) n (flat4 ys) ∧ Below w.heap.size w wr) (fun i _ => n - (intOf i).toNat)
  case atStart => exact ⟨0, List.replicate n e4, Nat.zero_le _, rfl, by simp, fun j hj => absurd hj (Nat.not_lt_zero _), HO, hb1⟩
  case round =>
    obtain ⟨k, ys, hk, rfl, hyl, HX, hown, hbel⟩ := hrel
    have HL := hide hyl
    clear hyl
    by_cases hlt : k < n
    · obtain ⟨b, off, rfl, hq0, hc0, he0, hd0⟩ := HS.out k (by rw [HN.out]; exact hlt)
      have hqq := (hbel.cell (p := ⟨b, off + k * 4, none⟩) (blk_lt hq0)).trans hq0
      have hc := (hbel.cell (p := ⟨b, off + k * 4 + 1, none⟩) (blk_lt hc0)).trans hc0
      have he := (hbel.cell (p := ⟨b, off + k * 4 + 2, none⟩) (blk_lt he0)).trans he0
      have hd := (hbel.cell (p := ⟨b, off + k * 4 + 3, none⟩) (blk_lt hd0)).trans hd0
      have hltI : (k : Int) < (n : Int) := by omega
      obtain ⟨q, hqe⟩ : ∃ q, q = (xs.getD k e4).1 := ⟨_, rfl⟩
      obtain ⟨x, hx⟩ : ∃ x, x = (xs.getD k e4).2.1 := ⟨_, rfl⟩
      obtain ⟨z, hz⟩ : ∃ z, z = (xs.getD k e4).2.2.1 := ⟨_, rfl⟩
      obtain ⟨y, hy⟩ : ∃ y, y = (xs.getD k e4).2.2.2 := ⟨_, rfl⟩
      rw [← hqe] at hqq
      rw [← hx] at hc
      rw [← hz] at he
      rw [← hy] at hd
      have hxy : xs.getD k e4 = (q, x, z, y) := by rw [hqe, hx, hz, hy]
      have HXY := hide hxy
      have HO2 := hide hown
      have HB2 := hide hbel
      clear hq0 hc0 hd0 he0 hqe hx hy hz hxy hown hbel
      go_wp2_with fail
      refine (toNote_any q x z y _).mono ?_
      rintro e w2 ⟨rfl, hb2⟩
      have hown2 := own_below4 HO2.out hb2
      have hbel2 := HB2.out.trans (hb2.mono HB2.out.size)
      have hlf : (flat4 ys).length = n * 4 := by rw [flat4_len, HL.out]
      have hcl := hown2.cellAt (k * 4) (by have := HL.out; omega)
      have hcl1 := hown2.cellAt (k * 4 + 1) (by have := HL.out; omega)
      have hcl2 := hown2.cellAt (k * 4 + 2) (by have := HL.out; omega)
      have hcl3 := hown2.cellAt (k * 4 + 3) (by have := HL.out; omega)
      have hfr := hown2.frozenAt (k * 4)
      have hfr1 := hown2.frozenAt (k * 4 + 1)
      have hfr2 := hown2.frozenAt (k * 4 + 2)
      have hfr3 := hown2.frozenAt (k * 4 + 3)
      obtain ⟨v, hv⟩ : ∃ v, w2.cell? ⟨w.heap.size, k * 4, none⟩ = some v := ⟨_, hcl.trans (List.getElem?_eq_getElem (by omega))⟩
      obtain ⟨v1, hv1⟩ : ∃ v, w2.cell? ⟨w.heap.size, k * 4 + 1, none⟩ = some v := ⟨_, hcl1.trans (List.getElem?_eq_getElem (by omega))⟩
      obtain ⟨v2, hv2⟩ : ∃ v, w2.cell? ⟨w.heap.size, k * 4 + 2, none⟩ = some v := ⟨_, hcl2.trans (List.getElem?_eq_getElem (by omega))⟩
      obtain ⟨v3, hv3⟩ : ∃ v, w2.cell? ⟨w.heap.size, k * 4 + 3, none⟩ = some v := ⟨_, hcl3.trans (List.getElem?_eq_getElem (by omega))⟩
      have R := hide (copy_roundN HXY.out hlt HN.out HL.out HX.out hown2 hbel2)
      clear hcl hcl1 hcl2 hcl3 hlf hown2 hbel2 hb2
      go_wp2
      go_roundw
      case rel => exact R.out
      case measure => simp [intOf]; omega
    · have e : ys = xs := list_same4 HN.out HL.out (fun j hj => HX.out j (by omega))
      subst e
      have hltI : ¬ (k : Int) < (n : Int) := by omega
      go_wp2
      go_ret
      exact ⟨rfl, hown, hbel⟩
end Go.Proofs.Ythmekhhfihjclag.Nte
