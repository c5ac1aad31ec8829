/-
  Contracts: impl.endOf, impl.recordsIn, impl.isWithin.
-/
import Derived.Test.YtdnmklcnlndmhazDoorL6GoodL
import Derived.Test.YtdnmklcnlndmhazDoorL6Log
import Derived.Deep.RegionHeld3
namespace Go.Proofs.YtdnmklcnlndmhazDoor.L6
open Go.RowKit L1
set_option linter.unusedVariables false

theorem blk2 {w : World} {g : Nat} {a b : Value} {t : TypeId} (h : w.heap[g]? = some (.cells #[a, b] t (0, 0))) :
    w.cell? ⟨g, 0, none⟩ = some a ∧ w.cell? ⟨g, 1, none⟩ = some b := by
  simp [World.cell?, h]
/-- What is asked of a log's pieces where its end is looked up. -/
structure LogAt (w : World) (a : Option Addr) (L : List Pc) (n : Nat) : Prop where
  len : L.length = n
  one : 1 ≤ n
  few : n ≤ 20
  sl : SlC w a L
  f0 : 0 ≤ (gc L 0).f ∧ (gc L 0).f ≤ 100000
  fl : 0 ≤ (gc L (n - 1)).f ∧ (gc L (n - 1)).f ≤ 1000000
  sz : (gc L (n - 1)).s.size ≤ 60
  tab : Tab w
theorem LogAt.below {w w' : World} {a : Option Addr} {L : List Pc} {n : Nat} (h : LogAt w a L n) (hb : Below w.heap.size w w') : LogAt w' a L n :=
  ⟨h.len, h.one, h.few, h.sl.below hb, h.f0, h.fl, h.sz, h.tab.below hb⟩
theorem lastEnd_bd {w : World} {a : Option Addr} {L : List Pc} {n : Nat} (h : LogAt w a L n) : 0 ≤ lastEnd L n ∧ lastEnd L n ≤ 1000060 := by
  have h1 := h.fl
  have h2 := h.sz
  have h3 := cnt_le (gc L (n - 1)).s
  unfold lastEnd
  omega

set_option maxRecDepth 100000 in
set_option maxHeartbeats 1000000 in
theorem endOf_any (a : Option Addr) (L : List Pc) (n cap : Nat) (B : Int) (w : World) (h : LogAt w a L n) :
    Calls Tryd.prog 39 #[.agg #[.slice a n cap, .int .i64 B]] w fun e w' => e = .returned (.int .i64 (lastEnd L n)) ∧ Below w.heap.size w w' := by
  obtain ⟨m, hm⟩ : ∃ m, m = n - 1 := ⟨_, rfl⟩
  have h1 := h.one
  have h20 := h.few
  have hnm : (n : Int) - 1 = (m : Int) := by omega
  have hmn : (m : Int) < (n : Int) := by omega
  have hm0 : (0 : Int) ≤ (m : Int) := by omega
  obtain ⟨b, off, rfl, ai, ci, hat⟩ := h.sl m (by rw [h.len]; omega)
  have hfl := h.fl
  have hsz := h.sz
  have hT := hide h.tab
  unfold lastEnd
  rw [← hm] at hfl hsz ⊢
  have hd1 := hat.f
  have hd2 := hat.s
  have hd3 := hat.x
  obtain ⟨p, hp⟩ : ∃ p, p = gc L m := ⟨_, rfl⟩
  rw [show L.getD m eC = p from hp.symm] at hd1 hd2 hd3
  rw [← hp] at hfl hsz ⊢
  obtain ⟨f, s, x⟩ := p
  simp only at hd1 hd2 hd3 hfl hsz ⊢
  obtain ⟨k, hk⟩ : ∃ k, k = x.length := ⟨_, rfl⟩
  rw [← hk] at hd3
  have C := hide (fun w ht => endOfPiece_any f s ai k ci w (by omega) (by omega) (by omega) ht)
  have e1 := Go.Lib.cell?_alloc_some (.cells #[.slice (some ⟨b, off, none⟩) n cap, .int .i64 B] 29 (0, 0)) hd1
  have e2 := Go.Lib.cell?_alloc_some (.cells #[.slice (some ⟨b, off, none⟩) n cap, .int .i64 B] 29 (0, 0)) hd2
  have e3 := Go.Lib.cell?_alloc_some (.cells #[.slice (some ⟨b, off, none⟩) n cap, .int .i64 B] 29 (0, 0)) hd3
  clear hat hp hk h hm
  go_enter Tryd.func39, Tryd.ntmps39
  go_wp2_with fail
  refine (C.out _ (hT.out.below ((Below.refl _ _).alloc (Nat.le_refl _) _))).mono ?_
  rintro e w1 ⟨rfl, hb1⟩
  have B1 := hide (((Below.refl w.heap.size w).alloc (Nat.le_refl _) (.cells #[.slice (some ⟨b, off, none⟩) n cap, .int .i64 B] 29 (0, 0))).trans (hb1.mono (by simp)))
  clear hb1
  go_wp2
  go_ret
  exact ⟨rfl, B1.out⟩

/-- A log's own two cells and one of its first piece's stay where they are. -/
theorem keepL {wa wb : World} {g b o N : Nat} {v0 v1 v2 : Value} {W : World} (h : (wa.cell? ⟨g, 0, none⟩ = some v0 ∧ wa.cell? ⟨g, 1, none⟩ = some v1 ∧ wa.cell? ⟨b, o, none⟩ = some v2) ∧ Below N W wa) (hb : Below wa.heap.size wa wb) (hN : N ≤ W.heap.size) : (wb.cell? ⟨g, 0, none⟩ = some v0 ∧ wb.cell? ⟨g, 1, none⟩ = some v1 ∧ wb.cell? ⟨b, o, none⟩ = some v2) ∧ Below N W wb := by
  obtain ⟨⟨h1, h2, h3⟩, h4⟩ := h
  exact ⟨⟨(hb.cell (p := ⟨g, 0, none⟩) (blk_lt h1)).trans h1, (hb.cell (p := ⟨g, 1, none⟩) (blk_lt h2)).trans h2, (hb.cell (p := ⟨b, o, none⟩) (blk_lt h3)).trans h3⟩, h4.trans (hb.mono (Nat.le_trans hN h4.size))⟩

set_option maxRecDepth 100000 in
set_option maxHeartbeats 1000000 in
theorem recordsIn_any (a : Option Addr) (L : List Pc) (n cap : Nat) (B : Int) (w : World) (h : LogAt w a L n) :
    Calls Tryd.prog 32 #[.agg #[.slice a n cap, .int .i64 B]] w fun e w' => e = .returned (.int .i64 (lastEnd L n - (gc L 0).f)) ∧ Below w.heap.size w w' := by
  have h1 := h.one
  have h20 := h.few
  have hn0 : 0 < n := by omega
  have hle := lastEnd_bd h
  have hf0 := h.f0
  obtain ⟨b, off, rfl, ai, ci, hat⟩ := h.sl 0 (by rw [h.len]; omega)
  have hd1 := hat.f
  rw [Nat.zero_mul, Nat.add_zero] at hd1
  have C := hide (fun wx (hb : Below w.heap.size w wx) => endOf_any (some ⟨b, off, none⟩) L n cap B wx (h.below hb))
  obtain ⟨f, hf⟩ : ∃ f, f = (gc L 0).f := ⟨_, rfl⟩
  rw [show (L.getD 0 eC).f = f from hf.symm] at hd1
  rw [← hf] at hf0 ⊢
  obtain ⟨E, hE⟩ : ∃ E, E = lastEnd L n := ⟨_, rfl⟩
  rw [← hE] at hle C ⊢
  have hwr : IntKind.i64.wrap (E - f) = E - f := wrap6 (by omega) (by omega)
  have e1 := Go.Lib.cell?_alloc_some (.cells #[.slice (some ⟨b, off, none⟩) n cap, .int .i64 B] 29 (0, 0)) hd1
  obtain ⟨w0, hw0⟩ : ∃ w0, w0 = w.alloc (.cells #[.slice (some ⟨b, off, none⟩) n cap, .int .i64 B] 29 (0, 0)) := ⟨_, rfl⟩
  have k0 : w0.cell? ⟨w.heap.size, 0, none⟩ = some (.slice (some ⟨b, off, none⟩) n cap) ∧ w0.cell? ⟨w.heap.size, 1, none⟩ = some (.int .i64 B) := by rw [hw0]; exact blk2 (blk_new _ _)
  rw [← hw0] at e1
  have hb0 : Below w.heap.size w w0 := by rw [hw0]; exact (Below.refl w.heap.size w).alloc (Nat.le_refl _) _
  have HW := hide hw0
  have HB := hide hb0
  clear hat hf hE h hw0 hb0
  go_enter Tryd.func32, Tryd.ntmps32
  go_wp2
  rw [← HW.out]
  obtain ⟨k1, k2⟩ := k0
  go_region_held3 (fun wx => (wx.cell? ⟨w.heap.size, 0, none⟩ = some (.slice (some ⟨b, off, none⟩) n cap) ∧ wx.cell? ⟨w.heap.size, 1, none⟩ = some (.int .i64 B) ∧ wx.cell? ⟨b, off, none⟩ = some (.int .i64 f)) ∧ Below w0.heap.size w0 wx) (first | exact ⟨⟨k1, k2, e1⟩, (Below.refl _ _).drew⟩ | exact keepL (by assumption) (by assumption) (Nat.le_refl _)) ((go_at_call 39; refine (C.out _ (HB.out.trans ((by first | exact And.right (by assumption) | exact (Below.refl _ _).drew | exact Below.refl _ _ : Below w0.heap.size w0 _).mono HB.out.size))).mono ?_; rintro e w1 ⟨rfl, hb⟩))
  rename_i hHeld
  have B1 := hide (HB.out.trans (hHeld.2.mono HB.out.size))
  clear hHeld
  go_wp2
  go_ret
  exact ⟨rfl, B1.out⟩
end Go.Proofs.YtdnmklcnlndmhazDoor.L6
