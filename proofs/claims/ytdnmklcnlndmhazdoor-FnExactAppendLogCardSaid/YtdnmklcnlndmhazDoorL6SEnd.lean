/-
  Contracts: spec.l6End, spec.EndOf.
-/
import Derived.Test.YtdnmklcnlndmhazDoorL6SGood
import Derived.Test.YtdnmklcnlndmhazDoorL6Log
namespace Go.Proofs.YtdnmklcnlndmhazDoor.L6
open Go.RowKit L1
set_option linter.unusedVariables false

set_option maxRecDepth 100000 in
set_option maxHeartbeats 1000000 in
theorem l6End_any (a : Option Addr) (L : List Pc) (n cap : Nat) (B : Int) (w : World) (hn : L.length = n) (hs : SlC w a L) (h1 : 1 ≤ n) (h20 : n ≤ 20) (hg : GoodP (gc L (n - 1))) (hf : 0 ≤ (gc L (n - 1)).f ∧ (gc L (n - 1)).f ≤ 1000000) :
    Calls Tryd.prog 42 #[.agg #[.slice a n cap, .int .i64 B]] w fun e w' => e = .returned (.int .i64 (lastEnd L n)) ∧ Below w.heap.size w w' := by
  obtain ⟨m, hm⟩ : ∃ m, m = n - 1 := ⟨_, rfl⟩
  have hnm : (n : Int) - 1 = (m : Int) := by omega
  have hmn : (m : Int) < (n : Int) := by omega
  have hm0 : (0 : Int) ≤ (m : Int) := by omega
  obtain ⟨b, off, rfl, ai, ci, hat⟩ := hs m (by rw [hn]; omega)
  unfold lastEnd
  rw [← hm] at hg hf ⊢
  have hc60 := good_cnt hg
  have hs60 := hg.1
  have hx : (gc L m).x.length ≤ 1048576 := by
    rw [hg.2.2]
    unfold ix
    rw [ixk_len]
    omega
  have hd1 := hat.f
  have hd2 := hat.s
  have hd3 := hat.x
  have hd4 := hat.l
  have hN : many (gc L m) = (cnt (gc L m).s : Int) := by unfold many; rw [if_pos hg]
  obtain ⟨p, hp⟩ : ∃ p, p = gc L m := ⟨_, rfl⟩
  rw [show L.getD m eC = p from hp.symm] at hd1 hd2 hd3 hd4
  rw [← hp] at hf hc60 hs60 hx hN ⊢
  obtain ⟨f, s, x⟩ := p
  simp only at hd1 hd2 hd3 hd4 hf hc60 hs60 hx hN ⊢
  obtain ⟨k, hk⟩ : ∃ k, k = x.length := ⟨_, rfl⟩
  rw [← hk] at hd3 hx
  obtain ⟨c, hc⟩ : ∃ c, c = cnt s := ⟨_, rfl⟩
  rw [← hc] at hc60 hN ⊢
  have C := hide (fun wx (hb : Below w.heap.size w wx) => l6Many_any f s ai x k ci wx hk.symm (hd4.below hb) (by omega) (by omega) (c : Int) hN.symm)
  have hwr : IntKind.i64.wrap (f + (c : Int)) = f + (c : Int) := wrap6 (by omega) (by omega)
  obtain ⟨w0, hw0⟩ : ∃ w0, w0 = w.alloc (.cells #[.slice (some ⟨b, off, none⟩) n cap, .int .i64 B] 29 (0, 0)) := ⟨_, rfl⟩
  have e1 := Go.Lib.cell?_alloc_some (.cells #[.slice (some ⟨b, off, none⟩) n cap, .int .i64 B] 29 (0, 0)) hd1
  have e2 := Go.Lib.cell?_alloc_some (.cells #[.slice (some ⟨b, off, none⟩) n cap, .int .i64 B] 29 (0, 0)) hd2
  have e3 := Go.Lib.cell?_alloc_some (.cells #[.slice (some ⟨b, off, none⟩) n cap, .int .i64 B] 29 (0, 0)) hd3
  clear hat hp hk hd4 hc hN hg hn hs hm
  go_enter Tryd.func42, Tryd.ntmps42
  go_wp2
  obtain ⟨w1, hw1⟩ : ∃ w1, w1 = (w.alloc (.cells #[.slice (some ⟨b, off, none⟩) n cap, .int .i64 B] 29 (0, 0))).alloc (.cells #[.int .i64 f, .string s, .slice ai k ci] 51 (0, 0)) := ⟨_, rfl⟩
  have B1 : Below w.heap.size w w1 := by rw [hw1]; exact ((Below.refl _ _).alloc (Nat.le_refl _) _).alloc (by simp) _
  obtain ⟨c0, c1, c2, _, _, _⟩ := blk3 (show w1.heap[w.heap.size + 1]? = some (.cells #[.int .i64 f, .string s, .slice ai k ci] 51 (0, 0)) by rw [hw1]; have := blk_new (w.alloc (.cells #[.slice (some ⟨b, off, none⟩) n cap, .int .i64 B] 29 (0, 0))) (.cells #[.int .i64 f, .string s, .slice ai k ci] 51 (0, 0)); rw [World.size_alloc] at this; exact this)
  have HB1 := hide B1
  rw [← hw1]
  clear B1 hw1 hw0 e1 e2 e3
  go_region_held3 (fun wx => (wx.cell? ⟨w.heap.size + 1, 0, none⟩ = some (.int .i64 f) ∧ wx.cell? ⟨w.heap.size + 1, 1, none⟩ = some (.string s) ∧ wx.cell? ⟨w.heap.size + 1, 2, none⟩ = some (.slice ai k ci)) ∧ Below w1.heap.size w1 wx) (first | exact ⟨⟨c0, c1, c2⟩, (Below.refl _ _).drew⟩ | exact keep3 (by assumption) (by assumption) (Nat.le_refl _)) ((go_at_call 28; refine (C.out _ (HB1.out.trans ((by first | exact And.right (by assumption) | exact (Below.refl _ _).drew | exact Below.refl _ _ : Below w1.heap.size w1 _).mono HB1.out.size))).mono ?_; rintro e w2 ⟨rfl, hb⟩))
  rename_i hHeld
  have B2 := hide (HB1.out.trans (hHeld.2.mono HB1.out.size))
  clear hHeld
  go_wp2
  go_ret
  exact ⟨rfl, B2.out⟩

/-- Of a good log, as spec.l6End asks it. -/
theorem l6End_good (a : Option Addr) (L : List Pc) (n cap : Nat) (B : Int) (w : World) (hn : L.length = n) (hs : SlC w a L) (hg : GoodG L B) (B' : Int) :
    Calls Tryd.prog 42 #[.agg #[.slice a n cap, .int .i64 B']] w fun e w' => e = .returned (.int .i64 (lastEnd L n)) ∧ Below w.heap.size w w' := by
  have h1 := hg.one
  have h20 := hg.many
  have hk := hg.ps (n - 1) (by omega)
  have hb := atg_bd L (n - 1) (fun j hj => (hg.ps j (by omega)).1)
  have hf0 := hg.f0
  have hf1 := hg.f1
  exact l6End_any a L n cap B' w hn hs (by omega) (by omega) hk.1 (by rw [hk.2.1]; omega)
end Go.Proofs.YtdnmklcnlndmhazDoor.L6
