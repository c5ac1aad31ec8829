/-
  Contracts of the laws' own helpers: laws.eqNode, laws.eqNodeS say that what is alike is alike.
-/
import Derived.Test.YtapffbbmofhpobcL8Nd
import Derived.Test.YtapffbbmofhpobcL1Eq
import Derived.Deep.RegionHeld3
namespace Go.Proofs.Ytapffbbmofhpobc.L8
open Go.RowKit L1 L4
set_option linter.unusedVariables false

set_option maxRecDepth 100000 in
set_option maxHeartbeats 1000000 in
theorem eqNode_same (t v g : Int) (a b : Option Addr) (xs : List Int) (n c1 c2 : Nat) (r : Int) (w : World) (hn : xs.length = n) (ha : Sl w a xs) (hb : Sl w b xs) (hn2 : n ≤ 1048576) :
    Calls Try.prog 67 #[.agg #[.int .i64 t, .int .i64 v, .int .i64 g, .slice a n c1, .int .i64 r], .agg #[.int .i64 t, .int .i64 v, .int .i64 g, .slice b n c2, .int .i64 r]] w fun e w' => e = .returned (.bool true) ∧ Below w.heap.size w w' := by
  have C := hide (fun w ha hb => eqIntS_same a b xs n c1 c2 w hn ha hb hn2)
  have HA := hide ha
  have HB := hide hb
  clear ha hb hn
  go_enter Try.func67, Try.ntmps67
  go_wp2_with fail
  refine (C.out _ (HA.out.below (((Below.refl _ _).alloc (Nat.le_refl _) _).alloc (by simp) _)) (HB.out.below (((Below.refl _ _).alloc (Nat.le_refl _) _).alloc (by simp) _))).mono ?_
  rintro e w1 ⟨rfl, hb⟩
  have B1 := hide ((((Below.refl w.heap.size w).alloc (Nat.le_refl _) (.cells #[.int .i64 t, .int .i64 v, .int .i64 g, .slice a n c1, .int .i64 r] 70 (0, 0))).alloc (by simp) (.cells #[.int .i64 t, .int .i64 v, .int .i64 g, .slice b n c2, .int .i64 r] 70 (0, 0))).trans (hb.mono (by simp; omega)))
  have G0 := (hb.block w.heap.size (by simp; omega)).trans ((((Below.refl (w.alloc (.cells #[.int .i64 t, .int .i64 v, .int .i64 g, .slice a n c1, .int .i64 r] 70 (0, 0))).heap.size _).alloc (Nat.le_refl _) _).block w.heap.size (by simp)).trans (blk_new _ _))
  have G1 : w1.heap[w.heap.size + 1]? = some (.cells #[.int .i64 t, .int .i64 v, .int .i64 g, .slice b n c2, .int .i64 r] 70 (0, 0)) := (hb.block (w.heap.size + 1) (by simp)).trans (by have := blk_new (w.alloc (.cells #[.int .i64 t, .int .i64 v, .int .i64 g, .slice a n c1, .int .i64 r] 70 (0, 0))) (.cells #[.int .i64 t, .int .i64 v, .int .i64 g, .slice b n c2, .int .i64 r] 70 (0, 0)); rw [World.size_alloc] at this; exact this)
  have d0 : w1.cell? ⟨w.heap.size, 4, none⟩ = some (.int .i64 r) := by simp [World.cell?, G0]
  have d1 : w1.cell? ⟨w.heap.size + 1, 4, none⟩ = some (.int .i64 r) := by simp [World.cell?, G1]
  clear hb G0 G1
  go_wp2
  go_ret
  exact ⟨rfl, B1.out⟩

set_option maxRecDepth 100000 in
set_option maxHeartbeats 2000000 in
theorem eqNodeS_same (a b : Option Addr) (L : List Nd) (n c1 c2 : Nat) (w : World) (hn : L.length = n) (ha : SlN w a L) (hb : SlN w b L) (hn2 : n ≤ 1048576) (hsz : ∀ i, i < n → (gn L i).h.length ≤ 1048576) :
    Calls Try.prog 40 #[.slice a n c1, .slice b n c2] w fun e w' => e = .returned (.bool true) ∧ Below w.heap.size w w' := by
  have HA := hide ha
  have HB := hide hb
  have HN := hide hn
  have HSZ := hide hsz
  clear ha hb hn hsz
  go_enter Try.func40, Try.ntmps40
  go_wp2
  go_loopw [5] (fun i wr => ∃ k : Nat, k ≤ n ∧ i = .int .i64 k ∧ Below w.heap.size w wr) (fun i _ => n - (intOf i).toNat)
  case atStart => exact ⟨0, Nat.zero_le _, rfl, Below.refl _ _⟩
  case round =>
    obtain ⟨k, hk, rfl, hbel⟩ := hrel
    by_cases hlt : k < n
    · obtain ⟨b1, o1, rfl, x1, q1, h1⟩ := HA.out.below hbel k (by rw [HN.out]; exact hlt)
      obtain ⟨b2, o2, rfl, x2, q2, h2⟩ := HB.out.below hbel k (by rw [HN.out]; exact hlt)
      have hxl := HSZ.out k hlt
      obtain ⟨g0, g1, g2, g3, g4, t1⟩ := h1
      obtain ⟨g5, g6, g7, g8, g9, t2⟩ := h2
      obtain ⟨p, hp⟩ : ∃ p, p = gn L k := ⟨_, rfl⟩
      rw [← hp] at g0 g1 g2 g3 g4 g5 g6 g7 g8 g9 t1 t2 hxl
      obtain ⟨t, v, g, x, r⟩ := p
      simp only at g0 g1 g2 g3 g4 g5 g6 g7 g8 g9 t1 t2 hxl
      obtain ⟨m, hm⟩ : ∃ m, m = x.length := ⟨_, rfl⟩
      rw [← hm] at g3 g8 hxl
      have hltI : (k : Int) < (n : Int) := by omega
      have hk0 : (0 : Int) ≤ (k : Int) := by omega
      have C := hide (fun wx (hb : Below wr.heap.size wr wx) => eqNode_same t v g x1 x2 x m q1 q2 r wx hm.symm (t1.below hb) (t2.below hb) hxl)
      clear hp hm t1 t2
      go_wp2
      go_region_held3 (fun wx => (wx.cell? ⟨b1, o1 + k * 5, none⟩ = some (.int .i64 t) ∧ wx.cell? ⟨b1, o1 + k * 5 + 1, none⟩ = some (.int .i64 v) ∧ wx.cell? ⟨b1, o1 + k * 5 + 2, none⟩ = some (.int .i64 g) ∧ wx.cell? ⟨b1, o1 + k * 5 + 3, none⟩ = some (.slice x1 m q1) ∧ wx.cell? ⟨b1, o1 + k * 5 + 4, none⟩ = some (.int .i64 r) ∧ wx.cell? ⟨b2, o2 + k * 5, none⟩ = some (.int .i64 t) ∧ wx.cell? ⟨b2, o2 + k * 5 + 1, none⟩ = some (.int .i64 v) ∧ wx.cell? ⟨b2, o2 + k * 5 + 2, none⟩ = some (.int .i64 g) ∧ wx.cell? ⟨b2, o2 + k * 5 + 3, none⟩ = some (.slice x2 m q2) ∧ wx.cell? ⟨b2, o2 + k * 5 + 4, none⟩ = some (.int .i64 r)) ∧ Below wr.heap.size wr wx) (first | exact ⟨⟨g0, g1, g2, g3, g4, g5, g6, g7, g8, g9⟩, (Below.refl _ _).drew⟩ | exact keep10 (by assumption) (by assumption) (Nat.le_refl _)) ((go_at_call 67; refine (C.out _ (by first | exact And.right (by assumption) | exact (Below.refl _ _).drew | exact Below.refl _ _)).mono ?_; rintro e w1 ⟨rfl, hb⟩))
      rename_i hHeld
      have B1 := hide (hbel.trans (hHeld.2.mono hbel.size))
      clear hHeld
      go_wp2
      go_roundw
      case rel => exact ⟨k + 1, by omega, by go_num, B1.out⟩
      case measure => simp [intOf]; omega
    · have hltI : ¬ (k : Int) < (n : Int) := by omega
      go_wp2
      go_ret
      exact ⟨rfl, hbel⟩
end Go.Proofs.Ytapffbbmofhpobc.L8
