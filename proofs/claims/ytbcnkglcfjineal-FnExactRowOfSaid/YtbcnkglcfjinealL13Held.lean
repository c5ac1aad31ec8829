/-
  Contracts of the laws' own helpers: laws.heldRowS, laws.heldHead find the marks of a head.
-/
import Derived.Test.YtbcnkglcfjinealL13Mark
import Derived.Deep.RegionHeld3
namespace Go.Proofs.Ytbcnkglcfjineal.L13
open Go.RowKit L1
set_option linter.unusedVariables false

set_option maxRecDepth 100000 in
set_option maxHeartbeats 2000000 in
theorem heldRowS_any (a : Option Addr) (n cap : Nat) (L : List Rw) (w : World) (hLn : L.length = n) (hn2 : n ≤ 1048576) (hk : ∀ i, i ≤ n → katR L i ≤ 2147483648) (hX : ∀ i, i < n → (gr L i).l.length ≤ 1048576) (hs : SlR w a (mksR L)) :
    Calls Try.prog 28 #[.slice a n cap, .int .i64 1] w fun e w' => e = .returned (.int .i64 (katR L n)) ∧ Below w.heap.size w w' := by
  have HS := hide hs
  have HLN := hide hLn
  have HK := hide hk
  have HX := hide hX
  clear hs hLn hk hX
  go_enter Try.func28, Try.ntmps28
  go_wp2
  go_loopw [1, 5] (fun k i wr => ∃ j : Nat, j ≤ n ∧ i = .int .i64 j ∧ k = .int .i64 (katR L j) ∧ Below w.heap.size w wr) (fun _ i _ => n - (intOf i).toNat)
  case atStart => exact ⟨0, Nat.zero_le _, rfl, rfl, Below.refl _ _⟩
  case round =>
    obtain ⟨j, hj, rfl, rfl, hbel⟩ := hrel
    by_cases hlt : j < n
    · obtain ⟨b, off, rfl, ai, ci, hat⟩ := HS.out.below hbel j (by rw [mksR_len, HLN.out]; exact hlt)
      have hmk := mksR_get L j (by rw [HLN.out]; exact hlt)
      have hd2 := hat.s
      have hd3 := hat.x
      have hd4 := hat.l
      rw [hmk] at hd2 hd3 hd4
      unfold mkR at hd2 hd3 hd4
      simp only [mk2F_len] at hd2 hd3 hd4
      have hltI : (j : Int) < (n : Int) := by omega
      have hj0 : (0 : Int) ≤ (j : Int) := by omega
      have hpos := katR_pos L j
      have hkle := HK.out (j + 1) (by omega)
      have hkn : katR L (j + 1) = katR L j + 1 + 2 * ((gr L j).l.length : Int) := rfl
      have hxl := HX.out j hlt
      obtain ⟨c, hc⟩ : ∃ c, c = katR L j := ⟨_, rfl⟩
      obtain ⟨m, hm⟩ : ∃ m, m = (gr L j).l.length := ⟨_, rfl⟩
      rw [← hc] at hd2 hd4 hpos hkn ⊢
      rw [← hm] at hd3 hd4 hkn hxl
      rw [hkn] at hkle
      have CT := hide (fun wx => L3.markText_any c wx (by omega) (by omega))
      obtain ⟨y, hy⟩ : ∃ y, y = L3.mkT c := ⟨_, rfl⟩
      rw [← hy] at hd2 CT
      have CX := hide (fun wx (hb : Below wr.heap.size wr wx) => heldSampleS_from ai m ci (c + 1) wx (by omega) (by omega) (by omega) (hd4.below hb))
      have h0 : ¬ (c + 1 + 2 * (m : Int)) < 0 := by omega
      have HKN := hide hkn
      have HB := hide hbel
      clear hat hmk hd4 hc hm hkn hy hbel
      go_wp2
      go_region_held3 (fun wx => (wx.cell? ⟨b, off + j * 2, none⟩ = some (.string y) ∧ wx.cell? ⟨b, off + j * 2 + 1, none⟩ = some (.slice ai m ci)) ∧ Below wr.heap.size wr wx) (first | exact ⟨⟨hd2, hd3⟩, (Below.refl _ _).drew⟩ | exact L8.keep2 (by assumption) (by assumption) (Nat.le_refl _)) ((go_at_call 37; refine (CT.out _).mono ?_; rintro e w1 ⟨rfl, hb⟩))
      rename_i hHeld
      have hHeld' := hHeld
      obtain ⟨⟨k1, k2⟩, hb3⟩ := hHeld'
      have B3 := hide hb3
      clear hHeld hb3
      go_wp2_with fail
      refine (CX.out _ B3.out).mono ?_
      rintro e w4 ⟨rfl, hb4⟩
      have B4 := hide (HB.out.trans ((B3.out.trans (hb4.mono B3.out.size)).mono HB.out.size))
      clear hb4
      go_wp2
      go_roundw
      case rel => exact ⟨j + 1, by omega, by go_num, by rw [HKN.out], B4.out⟩
      case measure => simp [intOf]; omega
    · obtain rfl : j = n := by omega
      have hltI : ¬ (j : Int) < (j : Int) := by omega
      obtain ⟨c, hc⟩ : ∃ c, c = katR L j := ⟨_, rfl⟩
      rw [← hc]
      have HC := hide hc
      clear hc
      go_wp2
      go_ret
      exact ⟨by rw [← HC.out]; rfl, hbel⟩

set_option maxRecDepth 100000 in
set_option maxHeartbeats 1000000 in
theorem heldHead_any (a : Option Addr) (n cap : Nat) (L : List Rw) (B : Int) (w : World) (hLn : L.length = n) (hn2 : n ≤ 1048576) (hk : ∀ i, i ≤ n → katR L i ≤ 2147483648) (hX : ∀ i, i < n → (gr L i).l.length ≤ 1048576) (hs : SlR w a (mksR L)) :
    Calls Try.prog 16 #[.agg #[.slice a n cap, .int .i64 B], .int .i64 1] w fun e w' => e = .returned (.int .i64 (katR L n)) ∧ Below w.heap.size w w' := by
  have C := hide (fun wx hs => heldRowS_any a n cap L wx hLn hn2 hk hX hs)
  have HS := hide hs
  have hpos := katR_pos L n
  obtain ⟨c, hc⟩ : ∃ c, c = katR L n := ⟨_, rfl⟩
  rw [← hc] at C hpos ⊢
  have h0 : ¬ c < 0 := by omega
  clear hs hLn hk hX hc
  go_enter Try.func16, Try.ntmps16
  go_wp2_with fail
  refine (C.out _ (HS.out.below ((Below.refl _ _).alloc (Nat.le_refl _) _))).mono ?_
  rintro e w1 ⟨rfl, hb1⟩
  have B1 := hide (((Below.refl w.heap.size w).alloc (Nat.le_refl _) (.cells #[.slice a n cap, .int .i64 B] 31 (0, 0))).trans (hb1.mono (by simp)))
  clear hb1
  go_wp2
  go_ret
  exact ⟨rfl, B1.out⟩
end Go.Proofs.Ytbcnkglcfjineal.L13
