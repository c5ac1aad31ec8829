/-
  Contracts of the laws' own helpers: laws.heldPieceS, laws.heldLog find the marks of a log.
-/
import Derived.Test.YtdnmklcnlndmhazDoorL6Marks
import Derived.Deep.RegionHeld3
namespace Go.Proofs.YtdnmklcnlndmhazDoor.L6
open Go.RowKit L1
set_option linter.unusedVariables false

set_option maxRecDepth 100000 in
set_option maxHeartbeats 1000000 in
theorem heldIntS_from (a : Option Addr) (n cap : Nat) (c : Int) (w : World) (hc0 : 0 ≤ c) (hc1 : c ≤ 4294967296) (hn2 : n ≤ 1048576) (hs : Sl w a (L4.mkC c n)) :
    Calls Tryd.prog 63 #[.slice a n cap, .int .i64 c] w fun e w' => e = .returned (.int .i64 (c + (n : Int))) ∧ Below w.heap.size w w' := by
  have HS := hide hs
  clear hs
  go_enter Tryd.func63, Tryd.ntmps63
  go_wp2
  go_loop [1, 5] (fun k i => ∃ j : Nat, j ≤ n ∧ i = .int .i64 j ∧ k = .int .i64 (c + (j : Int))) (fun _ i => n - (intOf i).toNat)
  case atStart => exact ⟨0, by omega, rfl, by simp⟩
  case round =>
    obtain ⟨j, hj, rfl, rfl⟩ := hrel
    by_cases hlt : j < n
    · obtain ⟨b, off, rfl, hc⟩ := HS.out j (by rw [L4.mkC_len]; exact hlt)
      rw [L4.mkC_get c n j hlt] at hc
      have hltI : (j : Int) < (n : Int) := by omega
      go_wp2
      go_round
      case rel => exact ⟨j + 1, by omega, by go_num, by go_num⟩
      case measure => simp [intOf]; omega
    · have hltI : ¬ (j : Int) < (n : Int) := by omega
      obtain rfl : j = n := by omega
      go_wp2
      go_ret
      exact ⟨rfl, Below.refl _ _⟩

set_option maxRecDepth 100000 in
set_option maxHeartbeats 2000000 in
theorem heldPieceS_any (a : Option Addr) (n cap : Nat) (L : List Pc) (w : World) (hLn : L.length = n) (hn2 : n ≤ 1048576) (hk : ∀ i, i ≤ n → kat L i ≤ 2147483648) (hX : ∀ i, i < n → (gc L i).x.length ≤ 1048576) (hs : SlC w a (mks L)) :
    Calls Tryd.prog 41 #[.slice a n cap, .int .i64 1] w fun e w' => e = .returned (.int .i64 (kat L n)) ∧ Below w.heap.size w w' := by
  have HS := hide hs
  have HLN := hide hLn
  have HK := hide hk
  have HX := hide hX
  clear hs hLn hk hX
  go_enter Tryd.func41, Tryd.ntmps41
  go_wp2
  go_loopw [1, 5] (fun k i wr => ∃ j : Nat, j ≤ n ∧ i = .int .i64 j ∧ k = .int .i64 (kat L j) ∧ Below w.heap.size w wr) (fun _ i _ => n - (intOf i).toNat)
  case atStart => exact ⟨0, Nat.zero_le _, rfl, rfl, Below.refl _ _⟩
  case round =>
    obtain ⟨j, hj, rfl, rfl, hbel⟩ := hrel
    by_cases hlt : j < n
    · obtain ⟨b, off, rfl, ai, ci, hat⟩ := HS.out.below hbel j (by rw [mks_len, HLN.out]; exact hlt)
      have hmk := mks_get L j (by rw [HLN.out]; exact hlt)
      have hd1 := hat.f
      have hd2 := hat.s
      have hd3 := hat.x
      have hd4 := hat.l
      rw [show (mks L).getD j eC = mkp L j from hmk] at hd1 hd2 hd3 hd4
      unfold mkp at hd1 hd2 hd3 hd4
      simp only [L4.mkC_len] at hd1 hd2 hd3 hd4
      have hltI : (j : Int) < (n : Int) := by omega
      have hj0 : (0 : Int) ≤ (j : Int) := by omega
      have hpos := kat_pos L j
      have hkle := HK.out (j + 1) (by omega)
      have hkn : kat L (j + 1) = kat L j + 2 + ((gc L j).x.length : Int) := rfl
      have hxl := HX.out j hlt
      obtain ⟨c, hc⟩ : ∃ c, c = kat L j := ⟨_, rfl⟩
      obtain ⟨m, hm⟩ : ∃ m, m = (gc L j).x.length := ⟨_, rfl⟩
      rw [← hc] at hd1 hd2 hd4 hpos hkn ⊢
      rw [← hm] at hd3 hd4 hkn hxl
      rw [hkn] at hkle
      have CT := hide (fun wx => L3.markText_any (c + 1) wx (by omega) (by omega))
      obtain ⟨y, hy⟩ : ∃ y, y = L3.mkT (c + 1) := ⟨_, rfl⟩
      rw [← hy] at hd2 CT
      have CX := hide (fun wx (hb : Below wr.heap.size wr wx) => heldIntS_from ai m ci (c + 2) wx (by omega) (by omega) (by omega) (hd4.below hb))
      rw [show c + 2 = c + 1 + 1 by omega] at CX
      have h0 : ¬ (c + 1 + 1 + (m : Int)) < 0 := by omega
      have HKN := hide hkn
      have HB := hide hbel
      clear hat hmk hd4 hc hm hkn hy hbel
      go_wp2
      go_region_held3 (fun wx => (wx.cell? ⟨b, off + j * 3 + 1, none⟩ = some (.string y) ∧ wx.cell? ⟨b, off + j * 3 + 2, none⟩ = some (.slice ai m ci)) ∧ Below wr.heap.size wr wx) (first | exact ⟨⟨hd2, hd3⟩, (Below.refl _ _).drew⟩ | exact keep2 (by assumption) (by assumption) (Nat.le_refl _)) ((go_at_call 49; refine (CT.out _).mono ?_; rintro e w1 ⟨rfl, hb⟩))
      rename_i hHeld
      have hHeld' := hHeld
      obtain ⟨⟨k1, k2⟩, hb3⟩ := hHeld'
      have B3 := hide hb3
      clear hHeld hb3
      go_wp2_with fail
      refine (CX.out _ B3.out).mono ?_
      rintro e w4 ⟨rfl, hb4⟩
      have B4 := hide (HB.out.trans ((B3.out.trans (hb4.mono B3.out.size)).mono HB.out.size))
      clear hb4
      go_wp2
      go_roundw
      case rel => exact ⟨j + 1, by omega, by go_num, by rw [HKN.out]; go_num, B4.out⟩
      case measure => simp [intOf]; omega
    · obtain rfl : j = n := by omega
      have hltI : ¬ (j : Int) < (j : Int) := by omega
      obtain ⟨c, hc⟩ : ∃ c, c = kat L j := ⟨_, rfl⟩
      rw [← hc]
      have HC := hide hc
      clear hc
      go_wp2
      go_ret
      exact ⟨by rw [← HC.out]; rfl, hbel⟩

set_option maxRecDepth 100000 in
set_option maxHeartbeats 1000000 in
theorem heldLog_any (a : Option Addr) (n cap : Nat) (L : List Pc) (B : Int) (w : World) (hLn : L.length = n) (hn2 : n ≤ 1048576) (hk : ∀ i, i ≤ n → kat L i ≤ 2147483648) (hX : ∀ i, i < n → (gc L i).x.length ≤ 1048576) (hs : SlC w a (mks L)) :
    Calls Tryd.prog 16 #[.agg #[.slice a n cap, .int .i64 B], .int .i64 1] w fun e w' => e = .returned (.int .i64 (kat L n)) ∧ Below w.heap.size w w' := by
  have C := hide (fun wx hs => heldPieceS_any a n cap L wx hLn hn2 hk hX hs)
  have HS := hide hs
  have hpos := kat_pos L n
  obtain ⟨c, hc⟩ : ∃ c, c = kat L n := ⟨_, rfl⟩
  rw [← hc] at C hpos ⊢
  have h0 : ¬ c < 0 := by omega
  clear hs hLn hk hX hc
  go_enter Tryd.func16, Tryd.ntmps16
  go_wp2_with fail
  refine (C.out _ (HS.out.below ((Below.refl _ _).alloc (Nat.le_refl _) _))).mono ?_
  rintro e w1 ⟨rfl, hb1⟩
  have B1 := hide (((Below.refl w.heap.size w).alloc (Nat.le_refl _) (.cells #[.slice a n cap, .int .i64 B] 29 (0, 0))).trans (hb1.mono (by simp)))
  clear hb1
  go_wp2
  go_ret
  exact ⟨rfl, B1.out⟩
end Go.Proofs.YtdnmklcnlndmhazDoor.L6
