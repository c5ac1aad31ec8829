/-
  Contracts: the draw of one label.
-/
import Derived.Test.YthicdnkngpiccabL4DrawL
namespace Go.Proofs.Ythicdnkngpiccab.L4
open Go.RowKit L1 L3
set_option linter.unusedVariables false

set_option maxRecDepth 100000 in
set_option maxHeartbeats 4000000 in
theorem label_any (b N : Nat) (w : World) (h : Cur w b N) (hN : N ≤ 100000000) :
    Calls Try.prog 49 #[.pointer (some ⟨b, 0, none⟩)] w fun e w' => ∃ s t : ByteArray, e = .returned (.agg #[.string s, .string t]) ∧ (s.size ≤ 20 ∧ t.size ≤ 20) ∧ Cur w' b (N + 4) ∧ w.grownBy w' (some b) := by
  have hbw := h.lt
  have HC := hide h
  clear h
  go_enter Try.func49, Try.ntmps49
  have hz : (w.alloc (.cells #[.string ⟨#[]⟩, .string ⟨#[]⟩] 44)).heap.size = w.heap.size + 1 := by simp
  have A1 := of_any b N (w.heap.size + 1) 5 5 ((w.alloc (.cells #[.string ⟨#[]⟩, .string ⟨#[]⟩] 44)).alloc (.cells #[.string ⟨#[97, 112, 112]⟩, .string ⟨#[104, 111, 115, 116]⟩, .string ⟨#[106, 111, 98]⟩, .string ⟨#[108, 101]⟩, .string ⟨#[]⟩] 9)) ((HC.out.alloc _).alloc _) (by omega) (by omega) (by omega) (by omega) (by
    have := txts_new (w.alloc (.cells #[.string ⟨#[]⟩, .string ⟨#[]⟩] 44)) [⟨#[97, 112, 112]⟩, ⟨#[104, 111, 115, 116]⟩, ⟨#[106, 111, 98]⟩, ⟨#[108, 101]⟩, ⟨#[]⟩] 9 (by decide)
    rw [hz] at this
    exact this)
  have HA := hide A1
  clear A1 hz
  go_wp2_with fail
  refine HA.out.mono ?_
  rintro e w1 ⟨s, rfl, hs, hc1, hg1⟩
  have G1 := hide (grown_trans (grown_alloc _ _ _) (grown_trans (grown_alloc _ _ _) hg1))
  have hz1 : w.heap.size + 2 ≤ w1.heap.size := by have := hg1.size; simpa using this
  have hblk : w1.heap[w.heap.size]? = some (.cells #[.string ⟨#[]⟩, .string ⟨#[]⟩] 44 (0, 0)) := by
    rw [hg1.block w.heap.size (by simp; omega) (by simp; omega), Below.heap_alloc _ _ _ (by simp)]
    show (w.heap.push _)[w.heap.size]? = _
    exact Array.getElem?_push_size
  have B1 := hide hblk
  have A2 := hide (of_any b (N + 2) w1.heap.size 4 4 (w1.alloc (.cells #[.string ⟨#[97]⟩, .string ⟨#[98]⟩, .string ⟨#[97, 112, 105]⟩, .string ⟨#[119, 101, 98, 49]⟩] 9)) (hc1.alloc _) (by omega) (by omega) (by omega) (by omega) (txts_new w1 [⟨#[97]⟩, ⟨#[98]⟩, ⟨#[97, 112, 105]⟩, ⟨#[119, 101, 98, 49]⟩] 9 (by decide)))
  clear hc1 hg1 HA hblk
  go_wp2_with fail
  refine A2.out.mono ?_
  rintro e w2 ⟨t, rfl, ht, hc2, hg2⟩
  have hblk2 : w2.heap[w.heap.size]? = some (.cells #[.string ⟨#[]⟩, .string ⟨#[]⟩] 44 (0, 0)) := by
    rw [hg2.block w.heap.size (by simp; omega) (by simp; omega), ← B1.out, Below.heap_alloc _ _ _ (by omega)]
  have k0 : w2.cell? ⟨w.heap.size, 0, none⟩ = some (.string ⟨#[]⟩) := by rw [Lib.cell_of_heap hblk2]; rfl
  have k1 : w2.cell? ⟨w.heap.size, 1, none⟩ = some (.string ⟨#[]⟩) := by rw [Lib.cell_of_heap hblk2]; rfl
  have f0 := Lib.frozen_of_heap hblk2 0
  have f1 := Lib.frozen_of_heap hblk2 1
  have hne : b ≠ w.heap.size := by omega
  have G2 := hide (grown_trans G1.out (grown_trans (grown_alloc _ _ _) hg2))
  have C2 := hide hc2
  have hbs := ((Below.refl w.heap.size w2).setCell (p := ⟨w.heap.size, 0, none⟩) (Nat.le_refl _) (.string s)).setCell (p := ⟨w.heap.size, 1, none⟩) (Nat.le_refl _) (.string t)
  have C3 := hide (C2.out.kept (fun i hi => hbs.block i (by omega)))
  have G3 := hide (grown_low G2.out hbs)
  clear hc2 hg2 A2 G1 hblk2 hbs C2 G2
  go_wp2
  refine bodyPost_ret (v := .agg #[.string s, .string t]) (by simp [results, Try.f49, go_sem, k0, k1]) rfl ⟨s, t, rfl, ⟨hs, ht⟩, C3.out, G3.out⟩
end Go.Proofs.Ythicdnkngpiccab.L4
