/-
  Contracts: impl.UnZigZag, and impl.GetVarint: of a text and a place the number whose digits stand there, and the place behind.
-/
import Derived.Test.YtapffbbmofhpoaaDoorL1Tab
import Derived.Test.YtapffbbmofhpoaaDoorL1Bytes
namespace Go.Proofs.YtapffbbmofhpoaaDoor.L1
open Go.RowKit
set_option linter.unusedVariables false

def gvRes (a : Nat) : Option (List Int) → Value
  | none => .tuple #[.int .i64 0, .int .i64 0, .bool false]
  | some l => .tuple #[.int .i64 (zag (val l)), .int .i64 ((a + l.length : Nat) : Int), .bool true]

theorem gvRes_some {a k : Nat} {l : List Int} {v : Int} (hv : val l = v) (hl : l.length = k + 1) : gvRes a (some l) = .tuple #[.int .i64 (zag v), .int .i64 ((a : Int) + (k : Int) + 1), .bool true] := by
  subst hv
  simp only [gvRes, hl]
  congr 4

theorem tdiv_zag (z : Int) (h : 0 ≤ z) (h2 : z ≤ 2000000000000) (ho : z % 2 = 1) : wrap64 (-(z + 1).tdiv 2) = zag z := by
  unfold zag
  rw [if_pos ho, Int.tdiv_eq_ediv_of_nonneg (by omega)]
  unfold wrap64
  omega

set_option maxRecDepth 100000 in
set_option maxHeartbeats 400000 in
theorem unZigZag_yes (z : Int) (w : World) (h1 : 0 ≤ z) (h2 : z ≤ 2000000000000) :
    Calls Tryd.prog 16 #[.int .i64 z] w fun e w' => e = .returned (.tuple #[.int .i64 (zag z), .bool true]) ∧ w = w' := by
  by_cases h : z % 2 = 1
  · have e := tdiv_zag z h1 h2 h
    have E := hide e
    clear e
    go_enter Tryd.func16, Tryd.ntmps16
    go_wp2
    go_ret2
    rw [← E.out]
    exact ⟨rfl, rfl⟩
  · have e : zag z = z / 2 := by unfold zag; rw [if_neg h]
    rw [e]
    clear e
    go_enter Tryd.func16, Tryd.ntmps16
    go_wp2
    go_ret2
    exact ⟨rfl, rfl⟩
set_option maxRecDepth 100000 in
set_option maxHeartbeats 400000 in
theorem unZigZag_no (z : Int) (w : World) (h1 : 2000000000000 < z) :
    Calls Tryd.prog 16 #[.int .i64 z] w fun e w' => e = .returned (.tuple #[.int .i64 0, .bool false]) ∧ w = w' := by
  have h0 : ¬ z < 0 := by omega
  go_enter Tryd.func16, Tryd.ntmps16
  go_wp2
  go_ret2
  exact ⟨rfl, rfl⟩

set_option maxRecDepth 100000 in
set_option maxHeartbeats 400000 in
theorem getVarint_out (s : ByteArray) (a : Int) (w : World) (h : a < 0 ∨ (s.size : Int) ≤ a) :
    Calls Tryd.prog 15 #[.string s, .int .i64 a] w fun e w' => e = .returned (.tuple #[.int .i64 0, .int .i64 0, .bool false]) ∧ w = w' := by
  by_cases h0 : a < 0
  · clear h
    go_enter Tryd.func15, Tryd.ntmps15
    go_wp2
    go_ret3
    exact ⟨rfl, rfl⟩
  · have h1 : (s.size : Int) ≤ a := by omega
    clear h
    go_enter Tryd.func15, Tryd.ntmps15
    go_wp2
    go_ret3
    exact ⟨rfl, rfl⟩

set_option maxRecDepth 100000 in
set_option maxHeartbeats 1000000 in
theorem getVarint_any (s : ByteArray) (a : Nat) (w : World) (ha : a < s.size) (hs : s.size ≤ maxLen) (ht : Tab w) :
    Calls Tryd.prog 15 #[.string s, .int .i64 a] w fun e w' => e = .returned (gvRes a (gv (bts s a))) ∧ w = w' := by
  unfold maxLen at hs
  have hI : (a : Int) < (s.size : Int) := by omega
  have e1 : ¬ s.size ≤ a := by omega
  have e2 : ¬ (a : Int) < 0 := by omega
  have HT := hide ht
  clear ht
  have htl := hide (bts_len s a)
  go_enter Tryd.func15, Tryd.ntmps15
  go_wp2
  go_loop [7, 8] (fun z i => ∃ k : Nat, k ≤ 6 ∧ k ≤ s.size - a ∧ i = .int .i64 k ∧ z = .int .i64 (val ((bts s a).take k)) ∧ Hid (Hi ((bts s a).take k)) ∧ Hid (gv (bts s a) = gvf (6 - k) ((bts s a).take k) ((bts s a).drop k))) (fun _ i => 6 - (intOf i).toNat)
  case atStart => exact ⟨0, by omega, by omega, rfl, rfl, fun x hx => by simp at hx, rfl⟩
  case round =>
    obtain ⟨k, hk6, hkl, rfl, rfl, HH, HG⟩ := hrel
    by_cases h6 : k < 6
    · by_cases hl : k < s.size - a
      · have hlt : a + k < s.size := by omega
        have hb := bts_get s a k hlt
        have hbb := bts_byte s a k
        have hc := unhide HT k h6
        have hd := digit_bd ((bts s a).getD k 0) k (by omega)
        have hv := val_bd7 (bts s a) k (by rw [htl.out]; omega) (by omega)
        have h6I : (k : Int) < 6 := by omega
        have hlI : (k : Int) < (s.size : Int) - (a : Int) := by omega
        obtain ⟨b, hbe⟩ : ∃ b, b = (bts s a).getD k 0 := ⟨_, rfl⟩
        rw [← hbe] at hb hbb hd
        obtain ⟨v, hve⟩ : ∃ v, v = val ((bts s a).take k) := ⟨_, rfl⟩
        rw [← hve] at hv ⊢
        have HB := hide hbe
        have HV := hide hve
        obtain ⟨hb0, hb1⟩ := hbb
        obtain ⟨hd0, hd1⟩ := hd
        obtain ⟨hv0, hv1⟩ := hv
        have hb' := hb.symm
        clear hbe hve hb
        by_cases h128 : 128 ≤ b
        · go_wp2
          go_round
          case rel =>
            refine ⟨k + 1, by omega, by omega, by go_num, ?_, ?_, ?_⟩
            · rw [val_take _ _ (by rw [htl.out]; omega), ← HB.out, ← HV.out]
            · exact hi_take (by rw [htl.out]; omega) HH.out (by rw [← HB.out]; exact h128) (by rw [← HB.out]; exact hb1)
            · exact HG.out.trans (gvf_on (by rw [htl.out]; omega) h6 (by rw [← HB.out]; exact h128))
          case measure => simp [intOf]; omega
        · have hstop := gvf_stop (t := bts s a) (k := k) (by rw [htl.out]; omega) h6 (by rw [← HB.out]; omega)
          rw [← HG.out, val_take _ _ (by rw [htl.out]; omega), ← HB.out, ← HV.out] at hstop
          have hst : val ((bts s a).take (k + 1)) = v + b % 128 * wor k := by rw [val_take _ _ (by rw [htl.out]; omega), ← HB.out, ← HV.out]
          have hsl : ((bts s a).take (k + 1)).length = k + 1 := by rw [List.length_take, htl.out]; omega
          have ST := hide hstop
          have VT := hide hst
          have SL := hide hsl
          clear hstop hst hsl HH HG
          by_cases hz : v + b % 128 * wor k ≤ 2000000000000
          · by_cases hk0 : k = 0
            · have hkI : ¬ (0 : Int) < (k : Int) := by omega
              have HK := hide hk0
              clear hk0
              go_wp2_with (go_at_call 16; refine (unZigZag_yes _ _ (by omega) hz).mono ?_; rintro e w' ⟨rfl, rfl⟩)
              go_ret3
              rw [ST.out, if_pos ⟨hz, .inl HK.out⟩, gvRes_some VT.out SL.out]
              exact ⟨rfl, rfl⟩
            · have hkI : (0 : Int) < (k : Int) := by omega
              by_cases hb00 : (b == 0) = true
              · go_wp2_with (go_at_call 16; refine (unZigZag_yes _ _ (by omega) hz).mono ?_; rintro e w' ⟨rfl, rfl⟩)
                go_ret3
                rw [ST.out, if_neg (by have := eq_of_beq hb00; omega)]
                exact ⟨rfl, rfl⟩
              · go_wp2_with (go_at_call 16; refine (unZigZag_yes _ _ (by omega) hz).mono ?_; rintro e w' ⟨rfl, rfl⟩)
                go_ret3
                rw [ST.out, if_pos ⟨hz, .inr (by simpa using hb00)⟩, gvRes_some VT.out SL.out]
                exact ⟨rfl, rfl⟩
          · go_wp2_with (go_at_call 16; refine (unZigZag_no _ _ (by omega)).mono ?_; rintro e w' ⟨rfl, rfl⟩)
            go_ret3
            rw [ST.out, if_neg (by omega)]
            exact ⟨rfl, rfl⟩
      · have hend := gvf_end (t := bts s a) (k := k) (by rw [htl.out]; omega)
        rw [← HG.out] at hend
        have h6I : (k : Int) < 6 := by omega
        have hlI : ¬ (k : Int) < (s.size : Int) - (a : Int) := by omega
        have HE := hide hend
        clear hend
        go_wp2
        go_ret3
        rw [HE.out]
        exact ⟨rfl, rfl⟩
    · have hend := gvf_six (t := bts s a) (k := k) (by omega)
      rw [← HG.out] at hend
      have h6I : ¬ (k : Int) < 6 := by omega
      have HE := hide hend
      clear hend
      go_wp2
      go_ret3
      rw [HE.out]
      exact ⟨rfl, rfl⟩
end Go.Proofs.YtapffbbmofhpoaaDoor.L1
