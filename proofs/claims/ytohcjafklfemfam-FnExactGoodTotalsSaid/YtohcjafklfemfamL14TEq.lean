/-
  Contracts of the laws' own helpers: laws.eqTotal, laws.eqTotalS say that what is alike is alike.
-/
import Derived.Test.YtohcjafklfemfamL14TMem
import Derived.Test.YtohcjafklfemfamL3LabEq
import Derived.Deep.RegionHeld3
namespace Go.Proofs.Ytohcjafklfemfam.L14T
open Go.RowKit L1 L3
set_option linter.unusedVariables false

set_option maxRecDepth 100000 in
set_option maxHeartbeats 1000000 in
theorem eqTotal_same (a b : Option Addr) (xs : List Lb) (n c1 c2 : Nat) (v0 v1 v2 v3 : Int) (w : World) (hn : xs.length = n) (ha : SlL w a xs) (hb : SlL w b xs) (hn2 : n ≤ 1048576) :
    Calls Try.prog 40 #[.agg #[.slice a n c1, .int .i64 v0, .int .i64 v1, .int .i64 v2, .int .i64 v3], .agg #[.slice b n c2, .int .i64 v0, .int .i64 v1, .int .i64 v2, .int .i64 v3]] w fun e w' => e = .returned (.bool true) ∧ Below w.heap.size w w' := by
  have C := hide (fun w ha hb => eqLabelS_same a b xs n c1 c2 w hn ha hb hn2)
  have HA := hide ha
  have HB := hide hb
  clear ha hb hn
  go_enter Try.func40, Try.ntmps40
  go_wp2_with fail
  refine (C.out _ (HA.out.below (((Below.refl _ _).alloc (Nat.le_refl _) _).alloc (by simp) _)) (HB.out.below (((Below.refl _ _).alloc (Nat.le_refl _) _).alloc (by simp) _))).mono ?_
  rintro e w1 ⟨rfl, hb⟩
  have B1 := hide ((((Below.refl w.heap.size w).alloc (Nat.le_refl _) (.cells #[.slice a n c1, .int .i64 v0, .int .i64 v1, .int .i64 v2, .int .i64 v3] 60 (0, 0))).alloc (by simp) (.cells #[.slice b n c2, .int .i64 v0, .int .i64 v1, .int .i64 v2, .int .i64 v3] 60 (0, 0))).trans (hb.mono (by simp; omega)))
  have G0 := (hb.block w.heap.size (by simp; omega)).trans ((((Below.refl (w.alloc (.cells #[.slice a n c1, .int .i64 v0, .int .i64 v1, .int .i64 v2, .int .i64 v3] 60 (0, 0))).heap.size _).alloc (Nat.le_refl _) _).block w.heap.size (by simp)).trans (L8.blk_new _ _))
  have G1 : w1.heap[w.heap.size + 1]? = some (.cells #[.slice b n c2, .int .i64 v0, .int .i64 v1, .int .i64 v2, .int .i64 v3] 60 (0, 0)) := (hb.block (w.heap.size + 1) (by simp)).trans (by have := L8.blk_new (w.alloc (.cells #[.slice a n c1, .int .i64 v0, .int .i64 v1, .int .i64 v2, .int .i64 v3] 60 (0, 0))) (.cells #[.slice b n c2, .int .i64 v0, .int .i64 v1, .int .i64 v2, .int .i64 v3] 60 (0, 0)); rw [World.size_alloc] at this; exact this)
  obtain ⟨c0, c1, c2, c3, c4, cf0, cf1, cf2, cf3, cf4⟩ := blkp G0
  obtain ⟨d0, d1, d2, d3, d4, df0, df1, df2, df3, df4⟩ := blkp G1
  clear hb G0 G1
  go_wp2
  go_ret
  exact ⟨rfl, B1.out⟩

set_option maxRecDepth 100000 in
set_option maxHeartbeats 2000000 in
theorem eqTotalS_same (a b : Option Addr) (L : List Rw) (n c1 c2 : Nat) (w : World) (hn : L.length = n) (ha : SlR w a L) (hb : SlR w b L) (hn2 : n ≤ 1048576) (hsz : ∀ i, i < n → (gr L i).l.length ≤ 1048576) :
    Calls Try.prog 12 #[.slice a n c1, .slice b n c2] w fun e w' => e = .returned (.bool true) ∧ Below w.heap.size w w' := by
  have HA := hide ha
  have HB := hide hb
  have HN := hide hn
  have HSZ := hide hsz
  clear ha hb hn hsz
  go_enter Try.func12, Try.ntmps12
  go_wp2
  go_loopw [5] (fun i wr => ∃ k : Nat, k ≤ n ∧ i = .int .i64 k ∧ Below w.heap.size w wr) (fun i _ => n - (intOf i).toNat)
  case atStart => exact ⟨0, Nat.zero_le _, rfl, Below.refl _ _⟩
  case round =>
    obtain ⟨k, hk, rfl, hbel⟩ := hrel
    by_cases hlt : k < n
    · obtain ⟨b1, o1, rfl, x1, q1, h1⟩ := HA.out.below hbel k (by rw [HN.out]; exact hlt)
      obtain ⟨b2, o2, rfl, x2, q2, h2⟩ := HB.out.below hbel k (by rw [HN.out]; exact hlt)
      have hxl := HSZ.out k hlt
      obtain ⟨g0, g1, g2, g3, g4, t1⟩ := h1
      obtain ⟨k0, k1, k2, k3, k4, t2⟩ := h2
      obtain ⟨p, hp⟩ : ∃ p, p = gr L k := ⟨_, rfl⟩
      rw [← hp] at g0 g1 g2 g3 g4 k0 k1 k2 k3 k4 t1 t2 hxl
      obtain ⟨x, v0, v1, v2, v3⟩ := p
      simp only at g0 g1 g2 g3 g4 k0 k1 k2 k3 k4 t1 t2 hxl
      obtain ⟨m, hm⟩ : ∃ m, m = x.length := ⟨_, rfl⟩
      rw [← hm] at g0 k0 hxl
      have hltI : (k : Int) < (n : Int) := by omega
      have hk0 : (0 : Int) ≤ (k : Int) := by omega
      have C := hide (fun wx (hb : Below wr.heap.size wr wx) => eqTotal_same x1 x2 x m q1 q2 v0 v1 v2 v3 wx hm.symm (t1.below hb) (t2.below hb) hxl)
      clear hp hm t1 t2
      go_wp2
      go_region_held3 (fun wx => (wx.cell? ⟨b1, o1 + k * 5, none⟩ = some (.slice x1 m q1) ∧ wx.cell? ⟨b1, o1 + k * 5 + 1, none⟩ = some (.int .i64 v0) ∧ wx.cell? ⟨b1, o1 + k * 5 + 2, none⟩ = some (.int .i64 v1) ∧ wx.cell? ⟨b1, o1 + k * 5 + 3, none⟩ = some (.int .i64 v2) ∧ wx.cell? ⟨b1, o1 + k * 5 + 4, none⟩ = some (.int .i64 v3) ∧ wx.cell? ⟨b2, o2 + k * 5, none⟩ = some (.slice x2 m q2) ∧ wx.cell? ⟨b2, o2 + k * 5 + 1, none⟩ = some (.int .i64 v0) ∧ wx.cell? ⟨b2, o2 + k * 5 + 2, none⟩ = some (.int .i64 v1) ∧ wx.cell? ⟨b2, o2 + k * 5 + 3, none⟩ = some (.int .i64 v2) ∧ wx.cell? ⟨b2, o2 + k * 5 + 4, none⟩ = some (.int .i64 v3)) ∧ Below wr.heap.size wr wx) (first | exact ⟨⟨g0, g1, g2, g3, g4, k0, k1, k2, k3, k4⟩, (Below.refl _ _).drew⟩ | exact L8.keep10 (by assumption) (by assumption) (Nat.le_refl _)) ((go_at_call 40; refine (C.out _ (by first | exact And.right (by assumption) | exact (Below.refl _ _).drew | exact Below.refl _ _)).mono ?_; rintro e w1 ⟨rfl, hb⟩))
      rename_i hHeld
      have B1 := hide (hbel.trans (hHeld.2.mono hbel.size))
      clear hHeld
      go_wp2
      go_roundw
      case rel => exact ⟨k + 1, by omega, by go_num, B1.out⟩
      case measure => simp [intOf]; omega
    · have hltI : ¬ (k : Int) < (n : Int) := by omega
      go_wp2
      go_ret
      exact ⟨rfl, hbel⟩
end Go.Proofs.Ytohcjafklfemfam.L14T
