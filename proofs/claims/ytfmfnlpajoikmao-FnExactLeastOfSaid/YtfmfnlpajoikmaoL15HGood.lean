/-
  Contracts: impl.goodPlace, impl.isEmptyPlace, slices.Index of the empty text, impl.takenPlaces.
-/
import Derived.Test.YtfmfnlpajoikmaoL15HGM
import Derived.Test.YtfmfnlpajoikmaoL3Word1
import Derived.Deep.DeepCutAuto
namespace Go.Proofs.Ytfmfnlpajoikmao.L15H
open Go.RowKit L1 Own Str
set_option linter.unusedVariables false

set_option maxRecDepth 100000 in
set_option maxHeartbeats 1000000 in
theorem goodPlace_any (s : ByteArray) (c : Int) (w : World) (hs : s.size ≤ 9223372036854775807) (bb : Bool) (hbb : bb = true ↔ L3.Word false s ∧ 1 ≤ c ∧ c ≤ 100000) :
    Calls Try.prog 46 #[.string s, .int .i64 c] w fun e w' => e = .returned (.bool bb) ∧ Below w.heap.size w w' := by
  obtain ⟨bw, hbw⟩ := dec_exH (L3.Word false s)
  have C := hide (fun wx => L3.isName_any s wx hs bw hbw)
  cases bw with
  | false =>
    obtain rfl : bb = false := bool_noG hbb (fun h => by have := hbw.2 h.1; cases this)
    clear hbb hbw
    go_enter Try.func46, Try.ntmps46
    go_wp2_with fail
    refine (C.out _).mono ?_
    rintro e w1 ⟨rfl, hb⟩
    go_wp2
    go_ret
    exact ⟨rfl, hb⟩
  | true =>
    have hw := hbw.1 rfl
    by_cases h1 : c ≥ 1
    · have E : Hid (bb = decide (c ≤ 100000)) := hide (by rw [Bool.eq_iff_iff, hbb]; simp; exact ⟨fun q => q.2.2, fun q => ⟨hw, h1, q⟩⟩)
      clear hbb hbw hw
      go_enter Try.func46, Try.ntmps46
      go_wp2_with fail
      refine (C.out _).mono ?_
      rintro e w1 ⟨rfl, hb⟩
      go_wp2
      go_ret
      exact ⟨by rw [E.out]; rfl, hb⟩
    · obtain rfl : bb = false := bool_noG hbb (fun h => h1 h.2.1)
      clear hbb hbw hw
      go_enter Try.func46, Try.ntmps46
      go_wp2_with fail
      refine (C.out _).mono ?_
      rintro e w1 ⟨rfl, hb⟩
      go_wp2
      go_ret
      exact ⟨rfl, hb⟩
set_option maxRecDepth 100000 in
set_option maxHeartbeats 1000000 in
theorem isEmptyPlace_any (s : ByteArray) (c : Int) (w : World) (bb : Bool) (hbb : bb = true ↔ s = e0 ∧ c = 0) :
    Calls Try.prog 47 #[.string s, .int .i64 c] w fun e w' => e = .returned (.bool bb) ∧ w = w' := by
  by_cases hs : s = e0
  · subst hs
    have E : Hid (bb = (c == 0)) := hide (by rw [Bool.eq_iff_iff, hbb]; simp)
    clear hbb
    go_enter Try.func47, Try.ntmps47
    go_wp2
    go_ret
    exact ⟨by rw [E.out]; rfl, rfl⟩
  · obtain rfl : bb = false := bool_noG hbb (fun h => hs h.1)
    have hs2 := ne_list hs
    clear hbb
    go_enter Try.func47, Try.ntmps47
    go_wp2
    go_ret
    exact ⟨rfl, rfl⟩
set_option maxRecDepth 100000 in
set_option maxHeartbeats 1000000 in
theorem indexE_any (a : Option Addr) (xs : List ByteArray) (n cap k : Nat) (w : World) (hn : xs.length = n) (hs : SlS w a xs) (hn2 : n ≤ 1048576) (hk : IsTk xs n k) (r : Int) (hr : r = if k < n then (k : Int) else -1) :
    Calls Try.prog 51 #[.slice a n cap, .string ByteArray.empty] w fun e w' => e = .returned (.int .i64 r) ∧ w = w' := by
  have HS := hide hs
  have HN := hide hn
  have HK := hide hk
  have HR := hide hr
  have hkn := hk.le
  clear hs hn hk hr
  go_enter Try.func51, Try.ntmps51
  go_wp2
  go_loop [8] (fun i => ∃ j : Nat, j ≤ k ∧ i = .int .i64 j ∧ Hid True) (fun i => k - (intOf i).toNat)
  case atStart => exact ⟨0, Nat.zero_le _, rfl, hide trivial⟩
  case round =>
    obtain ⟨j, hj, rfl, HTR⟩ := hrel
    by_cases hlt : j < n
    · obtain ⟨b, off, rfl, hc⟩ := HS.out j (by rw [HN.out]; exact hlt)
      have hltI : (j : Int) < (n : Int) := by omega
      have hj0 : (0 : Int) ≤ (j : Int) := by omega
      by_cases e : j = k
      · have hx := HK.out.emp (by omega)
        subst e
        rw [hx] at hc
        have E : Hid (r = (j : Int)) := hide (by rw [HR.out, if_pos hlt])
        clear hx
        go_wp2
        go_ret
        exact ⟨by rw [E.out]; rfl, rfl⟩
      · have hx := HK.out.ne j (by omega)
        obtain ⟨x, hxx⟩ : ∃ x, x = xs.getD j e0 := ⟨_, rfl⟩
        rw [← hxx] at hc hx
        have hx2 := ne_list hx
        clear hxx hx
        go_wp2
        go_round
        case rel => exact ⟨j + 1, by omega, by go_num, HTR⟩
        case measure => simp [intOf]; omega
    · have hltI : ¬ (j : Int) < (n : Int) := by omega
      have E : Hid (r = -1) := hide (by rw [HR.out, if_neg (by omega)])
      go_wp2
      go_ret
      exact ⟨by rw [E.out]; rfl, rfl⟩
set_option maxRecDepth 100000 in
set_option maxHeartbeats 1000000 in
theorem takenPlaces_any (a : Option Addr) (n c : Nat) (b : Option Addr) (m d : Nat) (G T : Int) (h : Hv) (k : Nat) (w : World) (hf : HF w a b n m h) (hn2 : n ≤ 1048576) (hk : IsTk h.nm n k) :
    Calls Try.prog 32 #[.agg #[.slice a n c, .slice b m d, .int .i64 G, .int .i64 T]] w fun e w' => e = .returned (.int .i64 (k : Int)) ∧ Below w.heap.size w w' := by
  have BX := (Below.refl w.heap.size w).alloc (Nat.le_refl _) (hvO (.slice a n c) (.slice b m d) G T)
  have g0 := L8.blk_new w (hvO (.slice a n c) (.slice b m d) G T)
  obtain ⟨W0, hW0⟩ : ∃ W0, W0 = w.alloc (hvO (.slice a n c) (.slice b m d) G T) := ⟨_, rfl⟩
  rw [← hW0] at BX g0
  obtain ⟨k0, k1, k2, k3⟩ := blk4 g0
  have HW := hide hW0
  have B0 := hide BX
  have hkn := hk.le
  obtain ⟨r, hr⟩ : ∃ r : Int, r = if k < n then (k : Int) else -1 := ⟨_, rfl⟩
  have C := hide (indexE_any a h.nm n c k W0 hf.ln (hf.sN.below BX) hn2 hk r hr)
  clear hf hk BX g0 hW0
  by_cases hlt : k < n
  · obtain rfl : r = (k : Int) := by rw [hr, if_pos hlt]
    have hr0 : ¬ (k : Int) < 0 := by omega
    clear hr
    go_enter Try.func32, Try.ntmps32
    go_upto_region 1 with fail
    rw [← HW.out]
    go_wp2_with fail
    refine C.out.mono ?_
    rintro e w1 ⟨rfl, rfl⟩
    go_wp2
    go_ret
    exact ⟨rfl, B0.out⟩
  · obtain rfl : r = -1 := by rw [hr, if_neg hlt]
    obtain rfl : k = n := by omega
    clear hr
    go_enter Try.func32, Try.ntmps32
    go_upto_region 1 with fail
    rw [← HW.out]
    go_wp2_with fail
    refine C.out.mono ?_
    rintro e w1 ⟨rfl, rfl⟩
    go_wp2
    go_ret
    exact ⟨rfl, B0.out⟩
end Go.Proofs.Ytfmfnlpajoikmao.L15H
