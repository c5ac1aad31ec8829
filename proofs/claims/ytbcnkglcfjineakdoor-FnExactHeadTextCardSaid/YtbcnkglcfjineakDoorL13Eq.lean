/-
  Contracts of the laws' own helpers: laws.eqRow, laws.eqRowS, laws.eqHead say that what is alike is alike.
-/
import Derived.Test.YtbcnkglcfjineakDoorL13Mem
import Derived.Test.YtbcnkglcfjineakDoorL2Lists2
import Derived.Deep.RegionHeld3
namespace Go.Proofs.YtbcnkglcfjineakDoor.L13
open Go.RowKit L1
set_option linter.unusedVariables false

set_option maxRecDepth 100000 in
set_option maxHeartbeats 1000000 in
theorem eqRow_same (s : ByteArray) (a b : Option Addr) (xs : List (Int × Int)) (n c1 c2 : Nat) (w : World) (hn : xs.length = n) (ha : Sl2 w a xs) (hb : Sl2 w b xs) (hn2 : n ≤ 1048576) :
    Calls Tryd.prog 62 #[.agg #[.string s, .slice a n c1], .agg #[.string s, .slice b n c2]] w fun e w' => e = .returned (.bool true) ∧ Below w.heap.size w w' := by
  have C := hide (fun w ha hb => eqSampleS_same a b xs n c1 c2 w hn ha hb hn2)
  have HA := hide ha
  have HB := hide hb
  clear ha hb hn
  go_enter Tryd.func62, Tryd.ntmps62
  go_wp2_with fail
  refine (C.out _ (HA.out.below (((Below.refl _ _).alloc (Nat.le_refl _) _).alloc (by simp) _)) (HB.out.below (((Below.refl _ _).alloc (Nat.le_refl _) _).alloc (by simp) _))).mono ?_
  rintro e w1 ⟨rfl, hb⟩
  have B1 := hide ((((Below.refl w.heap.size w).alloc (Nat.le_refl _) (.cells #[.string s, .slice a n c1] 69 (0, 0))).alloc (by simp) (.cells #[.string s, .slice b n c2] 69 (0, 0))).trans (hb.mono (by simp; omega)))
  clear hb
  go_wp2
  go_ret
  exact ⟨rfl, B1.out⟩

set_option maxRecDepth 100000 in
set_option maxHeartbeats 2000000 in
theorem eqRowS_same (a b : Option Addr) (L : List Rw) (n c1 c2 : Nat) (w : World) (hn : L.length = n) (ha : SlR w a L) (hb : SlR w b L) (hn2 : n ≤ 1048576) (hsz : ∀ i, i < n → (gr L i).l.length ≤ 1048576) :
    Calls Tryd.prog 38 #[.slice a n c1, .slice b n c2] w fun e w' => e = .returned (.bool true) ∧ Below w.heap.size w w' := by
  have HA := hide ha
  have HB := hide hb
  have HN := hide hn
  have HSZ := hide hsz
  clear ha hb hn hsz
  go_enter Tryd.func38, Tryd.ntmps38
  go_wp2
  go_loopw [5] (fun i wr => ∃ k : Nat, k ≤ n ∧ i = .int .i64 k ∧ Below w.heap.size w wr) (fun i _ => n - (intOf i).toNat)
  case atStart => exact ⟨0, Nat.zero_le _, rfl, Below.refl _ _⟩
  case round =>
    obtain ⟨k, hk, rfl, hbel⟩ := hrel
    by_cases hlt : k < n
    · obtain ⟨b1, o1, rfl, x1, q1, h1⟩ := HA.out.below hbel k (by rw [HN.out]; exact hlt)
      obtain ⟨b2, o2, rfl, x2, q2, h2⟩ := HB.out.below hbel k (by rw [HN.out]; exact hlt)
      have hxl := HSZ.out k hlt
      have g1 := h1.s
      have g2 := h1.x
      have g4 := h2.s
      have g5 := h2.x
      have t1 := h1.l
      have t2 := h2.l
      obtain ⟨p, hp⟩ : ∃ p, p = gr L k := ⟨_, rfl⟩
      rw [← hp] at g1 g2 g4 g5 t1 t2
      rw [← hp] at hxl
      obtain ⟨s, x⟩ := p
      simp only at g1 g2 g4 g5 t1 t2 hxl
      obtain ⟨m, hm⟩ : ∃ m, m = x.length := ⟨_, rfl⟩
      rw [← hm] at g2 g5 hxl
      have hltI : (k : Int) < (n : Int) := by omega
      have hk0 : (0 : Int) ≤ (k : Int) := by omega
      have C := hide (fun wx (hb : Below wr.heap.size wr wx) => eqRow_same s x1 x2 x m q1 q2 wx hm.symm (t1.below hb) (t2.below hb) hxl)
      clear h1 h2 hp hm t1 t2
      go_wp2
      go_region_held3 (fun wx => (wx.cell? ⟨b1, o1 + k * 2, none⟩ = some (.string s) ∧ wx.cell? ⟨b1, o1 + k * 2 + 1, none⟩ = some (.slice x1 m q1) ∧ wx.cell? ⟨b2, o2 + k * 2, none⟩ = some (.string s) ∧ wx.cell? ⟨b2, o2 + k * 2 + 1, none⟩ = some (.slice x2 m q2)) ∧ Below wr.heap.size wr wx) (first | exact ⟨⟨g1, g2, g4, g5⟩, (Below.refl _ _).drew⟩ | exact L8.keep4 (by assumption) (by assumption) (Nat.le_refl _)) ((go_at_call 62; refine (C.out _ (by first | exact And.right (by assumption) | exact (Below.refl _ _).drew | exact Below.refl _ _)).mono ?_; rintro e w1 ⟨rfl, hb⟩))
      rename_i hHeld
      have B1 := hide (hbel.trans (hHeld.2.mono hbel.size))
      clear hHeld
      go_wp2
      go_roundw
      case rel => exact ⟨k + 1, by omega, by go_num, B1.out⟩
      case measure => simp [intOf]; omega
    · have hltI : ¬ (k : Int) < (n : Int) := by omega
      go_wp2
      go_ret
      exact ⟨rfl, hbel⟩

set_option maxRecDepth 100000 in
set_option maxHeartbeats 1000000 in
theorem eqHead_same (a b : Option Addr) (L : List Rw) (n c1 c2 : Nat) (B : Int) (w : World) (hn : L.length = n) (ha : SlR w a L) (hb : SlR w b L) (hn2 : n ≤ 1048576) (hsz : ∀ i, i < n → (gr L i).l.length ≤ 1048576) :
    Calls Tryd.prog 18 #[.agg #[.slice a n c1, .int .i64 B], .agg #[.slice b n c2, .int .i64 B]] w fun e w' => e = .returned (.bool true) ∧ Below w.heap.size w w' := by
  have C := hide (fun w ha hb => eqRowS_same a b L n c1 c2 w hn ha hb hn2 hsz)
  have HA := hide ha
  have HB := hide hb
  clear ha hb hn hsz
  go_enter Tryd.func18, Tryd.ntmps18
  go_wp2_with fail
  refine (C.out _ (HA.out.below (((Below.refl _ _).alloc (Nat.le_refl _) _).alloc (by simp) _)) (HB.out.below (((Below.refl _ _).alloc (Nat.le_refl _) _).alloc (by simp) _))).mono ?_
  rintro e w1 ⟨rfl, hb⟩
  have B1 := hide ((((Below.refl w.heap.size w).alloc (Nat.le_refl _) (.cells #[.slice a n c1, .int .i64 B] 41 (0, 0))).alloc (by simp) (.cells #[.slice b n c2, .int .i64 B] 41 (0, 0))).trans (hb.mono (by simp; omega)))
  have G0 := (hb.block w.heap.size (by simp; omega)).trans ((((Below.refl (w.alloc (.cells #[.slice a n c1, .int .i64 B] 41 (0, 0))).heap.size _).alloc (Nat.le_refl _) _).block w.heap.size (by simp)).trans (L8.blk_new _ _))
  have G1 : w1.heap[w.heap.size + 1]? = some (.cells #[.slice b n c2, .int .i64 B] 41 (0, 0)) := (hb.block (w.heap.size + 1) (by simp)).trans (by have := L8.blk_new (w.alloc (.cells #[.slice a n c1, .int .i64 B] 41 (0, 0))) (.cells #[.slice b n c2, .int .i64 B] 41 (0, 0)); rw [World.size_alloc] at this; exact this)
  obtain ⟨c0, c1, _, _⟩ := blkp G0
  obtain ⟨d0, d1, _, _⟩ := blkp G1
  clear hb G0 G1
  go_wp2
  go_ret
  exact ⟨rfl, B1.out⟩
end Go.Proofs.YtbcnkglcfjineakDoor.L13
