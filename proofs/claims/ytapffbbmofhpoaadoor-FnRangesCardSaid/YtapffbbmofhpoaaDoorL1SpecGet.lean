/-
  Contracts: spec.l1Zag, spec.l1Get (of a text and a place the number whose digits stand there, and the place behind, -1 where there is none), spec.GetVarint.
-/
import Derived.Test.YtapffbbmofhpoaaDoorL1GetVarint
import Derived.Test.YtapffbbmofhpoaaDoorL1Varint
import Derived.Lib.VarintBits
import Derived.Deep.RegionHeld3
import Derived.Deep.QuietTactic
import Derived.BigQuiet
namespace Go.Proofs.YtapffbbmofhpoaaDoor.L1
open Go.RowKit
set_option linter.unusedVariables false

def lgRes (a : Nat) : Option (List Int) → Value
  | none => .tuple #[.int .i64 0, .int .i64 (-1)]
  | some l => .tuple #[.int .i64 (zag (val l)), .int .i64 ((a + l.length : Nat) : Int)]
theorem lgRes_some {a k : Nat} {l : List Int} {v : Int} (hv : val l = v) (hl : l.length = k + 1) : lgRes a (some l) = .tuple #[.int .i64 (zag v), .int .i64 ((a : Int) + (k : Int) + 1)] := by
  subst hv
  simp only [lgRes, hl]
  congr 4

theorem tdiv_zag7 (z : Int) (h : 0 ≤ z) (h2 : z ≤ 1125899906842624) (ho : z % 2 = 1) : wrap64 (-(z + 1).tdiv 2) = zag z := by
  unfold zag
  rw [if_pos ho, Int.tdiv_eq_ediv_of_nonneg (by omega)]
  unfold wrap64
  omega

set_option maxRecDepth 100000 in
set_option maxHeartbeats 400000 in
theorem l1Zag_any (z : Int) (w : World) (h1 : 0 ≤ z) (h2 : z ≤ 1125899906842624) :
    Calls Tryd.prog 96 #[.int .i64 z] w fun e w' => e = .returned (.int .i64 (zag z)) ∧ w = w' := by
  by_cases h : z % 2 = 1
  · have e := tdiv_zag7 z h1 h2 h
    have E := hide e
    clear e
    go_enter Tryd.func96, Tryd.ntmps96
    go_wp2
    go_ret
    rw [← E.out]
    exact ⟨rfl, rfl⟩
  · have e : zag z = z / 2 := by unfold zag; rw [if_neg h]
    rw [e]
    clear e
    go_enter Tryd.func96, Tryd.ntmps96
    go_wp2
    go_ret
    exact ⟨rfl, rfl⟩

theorem slice_nat (w : World) (s : ByteArray) (a k : Nat) (h : a + k < s.size) :
    (Instr.slice 9 (.string s) (some (.int .i64 (a : Int))) (some (.int .i64 ((a : Int) + (k : Int) + 1))) none).run Tryd.prog w = .ok (.string (s.extract a (a + k + 1))) w := by
  have h := run_slice_string (P := Tryd.prog) w 9 s .i64 .i64 (a : Int) ((a : Int) + (k : Int) + 1) Tryd.underlying9 (by omega) (by omega) (by omega)
  rw [h]
  congr 4
attribute [local go_sem ↓] slice_nat
set_option maxRecDepth 100000 in
set_option maxHeartbeats 1000000 in
theorem l1Get_any (s : ByteArray) (a : Nat) (w : World) (ha : a < s.size) (hs : s.size ≤ 1048576) :
    Calls Tryd.prog 81 #[.string s, .int .i64 a] w fun e w' => e = .returned (lgRes a (gv (bts s a))) ∧ Below w.heap.size w w' := by
  have hI : (a : Int) < (s.size : Int) := by omega
  have htl := hide (bts_len s a)
  go_enter Tryd.func81, Tryd.ntmps81
  go_wp2
  go_loop [6, 7, 8] (fun z by_ i => ∃ j : Nat, j ≤ 7 ∧ j ≤ s.size - a ∧ i = .int .i64 ((a : Int) + (j : Int)) ∧ by_ = .int .i64 (wor j) ∧ z = .int .i64 (val ((bts s a).take j)) ∧ Hid (Hi ((bts s a).take j)) ∧ Hid (gv (bts s a) = gvf (6 - j) ((bts s a).take j) ((bts s a).drop j))) (fun _ _ i => a + 7 - (intOf i).toNat)
  case atStart => exact ⟨0, by omega, by omega, by simp, rfl, rfl, fun x hx => by simp at hx, rfl⟩
  case round =>
    obtain ⟨k, hk7, hkl, rfl, rfl, rfl, HH, HG⟩ := hrel
    by_cases hl : k < s.size - a
    · by_cases h7 : k < 7
      · have hlt : a + k < s.size := by omega
        have hb := bts_get s a k hlt
        have hbb := bts_byte s a k
        have hd := digit_bd ((bts s a).getD k 0) k (by omega)
        have hv := val_bd7 (bts s a) k (by rw [htl.out]; omega) (by omega)
        have h7I : (k : Int) < 7 := by omega
        have h7J : (a : Int) + (k : Int) < (a : Int) + 7 := by omega
        have hlI : (a : Int) + (k : Int) < (s.size : Int) := by omega
        have hb1I : (a : Int) ≤ (a : Int) + (k : Int) + 1 := by omega
        have hb2I : (a : Int) + (k : Int) + 1 ≤ (s.size : Int) := by omega
        have hb3I : (0 : Int) ≤ (a : Int) := by omega
        have hwr : IntKind.i64.wrap ((a : Int) + (k : Int) + 1) = (a : Int) + (k : Int) + 1 := by
          simp [IntKind.wrap, IntKind.bits, IntKind.signed]
          omega
        have hw1 := wor_pos k
        have hw2 : wor k ≤ 4398046511104 := by
          have : wor k ≤ wor 6 := wor_le (by omega)
          simpa [wor] using this
        obtain ⟨b, hbe⟩ : ∃ b, b = (bts s a).getD k 0 := ⟨_, rfl⟩
        rw [← hbe] at hb hbb hd
        obtain ⟨v, hve⟩ : ∃ v, v = val ((bts s a).take k) := ⟨_, rfl⟩
        rw [← hve] at hv ⊢
        have HB := hide hbe
        have HV := hide hve
        obtain ⟨hb0, hb1⟩ := hbb
        obtain ⟨hd0, hd1⟩ := hd
        obtain ⟨hv0, hv1⟩ := hv
        have hb' := hb.symm
        have hand := u8_and127 b hb0 hb1
        clear hbe hve hb
        by_cases h128 : b < 128
        · have hsep := vd_sep k (bts s a) (by rw [htl.out]; omega) h7 HH.out (by rw [← HB.out]; omega) (by rw [← HB.out]; omega)
          rw [← HG.out] at hsep
          have hst : val ((bts s a).take (k + 1)) = v + b % 128 * wor k := by rw [val_take _ _ (by rw [htl.out]; omega), ← HB.out, ← HV.out]
          rw [hst] at hsep
          have hsl : ((bts s a).take (k + 1)).length = k + 1 := by rw [List.length_take, htl.out]; omega
          have hpc := str_piece s a (k + 1) (by omega)
          have hmem : ∀ x ∈ (bts s a).take (k + 1), 0 ≤ x ∧ x < 256 := fun x hx => bts_mem s a x (List.mem_of_mem_take hx)
          have ST := hide hsep
          have VT := hide hst
          have SL := hide hsl
          have PC := hide hpc
          have ME := hide hmem
          clear hsep hst hsl hpc hmem HH HG
          by_cases hz : v + b % 128 * wor k ≤ 2000000000000
          · have hd : decide (2000000000000 < v + b % 128 * wor k) = false := by simp; omega
            have hzl := zag_lo (v + b % 128 * wor k) (by omega) hz
            have hvc := fun wx => l1Varint_any (zag (v + b % 128 * wor k)) wx hzl.1 hzl.2
            rw [zig_zag _ (by omega)] at hvc
            have hdec : vd (v + b % 128 * wor k) = (bts s a).take (k + 1) ↔ strOfNums (vd (v + b % 128 * wor k)) = s.extract a (a + k + 1) :=
              ⟨fun h => by rw [h]; exact PC.out, fun h => str_inj (vdf_byte 5 _ (by omega) (by simp [wor]; omega)) ME.out (h.trans PC.out.symm)⟩
            obtain ⟨A, hA⟩ : ∃ A, A = strOfNums (vd (v + b % 128 * wor k)) := ⟨_, rfl⟩
            rw [← hA] at hvc hdec
            have VC := hide hvc
            have DE := hide hdec
            clear hA hvc hdec
            by_cases hAB : A = s.extract a (a + k + 1)
            · have hcmp : (A.toList == (s.extract a (a + k + 1)).toList) = true := by rw [hAB]; simp
              have HQ := hide hAB
              clear hAB
              go_wp2_with (go_at_call 96; refine (l1Zag_any _ _ (by omega) (by omega)).mono ?_; rintro e w' ⟨rfl, rfl⟩)
              go_region_held3 (fun _ => True) (trivial) ((go_at_call 76; refine (unhide VC _).mono ?_; rintro e w1 ⟨rfl, hb⟩))
              go_wp2
              go_ret2
              rw [ST.out, if_pos ⟨hz, DE.out.2 HQ.out⟩, lgRes_some VT.out SL.out]
              exact ⟨rfl, (Below.drew (Below.refl _ _)).trans (by assumption)⟩
            · have hcmp : (A.toList == (s.extract a (a + k + 1)).toList) = false := by
                apply Bool.eq_false_iff.2
                intro h
                exact hAB (L1.toList_inj (eq_of_beq h))
              have HN := hide hAB
              clear hAB
              go_wp2_with (go_at_call 96; refine (l1Zag_any _ _ (by omega) (by omega)).mono ?_; rintro e w' ⟨rfl, rfl⟩)
              go_region_held3 (fun _ => True) (trivial) ((go_at_call 76; refine (unhide VC _).mono ?_; rintro e w1 ⟨rfl, hb⟩))
              go_wp2
              go_ret2
              rw [ST.out, if_neg (fun h => HN.out (DE.out.1 h.2))]
              exact ⟨rfl, (Below.drew (Below.refl _ _)).trans (by assumption)⟩
          · have hz' : 2000000000000 < v + b % 128 * wor k := by omega
            have hd : decide (2000000000000 < v + b % 128 * wor k) = true := by simp; omega
            go_wp2_with (go_at_call 96; refine (l1Zag_any _ _ (by omega) (by omega)).mono ?_; rintro e w' ⟨rfl, rfl⟩)
            go_quiet (fail)
            go_wp2
            go_ret2
            rw [ST.out, if_neg (by omega)]
            exact ⟨rfl, below_drewN (Below.refl _ _) _⟩
        · go_wp2
          go_round
          case rel =>
            refine ⟨k + 1, by omega, by omega, by go_num, ?_, ?_, ?_, ?_⟩
            · show Value.int .i64 (wor k * 128) = .int .i64 (128 * wor k)
              rw [Int.mul_comm]
            · rw [val_take _ _ (by rw [htl.out]; omega), ← HB.out, ← HV.out]
            · exact hi_take (by rw [htl.out]; omega) HH.out (by rw [← HB.out]; omega) (by rw [← HB.out]; exact hb1)
            · by_cases h6 : k < 6
              · exact HG.out.trans (gvf_on (by rw [htl.out]; omega) h6 (by rw [← HB.out]; omega))
              · rw [HG.out]
                show _ = _
                rw [gvf_six (by omega), gvf_six (by omega)]
          case measure => simp [intOf]; omega
      · have hend := gvf_six (t := bts s a) (k := k) (by omega)
        rw [← HG.out] at hend
        have h7J : ¬ (a : Int) + (k : Int) < (a : Int) + 7 := by omega
        have hlI : (a : Int) + (k : Int) < (s.size : Int) := by omega
        have HE := hide hend
        clear hend
        go_wp2
        go_ret2
        rw [HE.out]
        exact ⟨rfl, Below.refl _ _⟩
    · have hend := gvf_end (t := bts s a) (k := k) (by rw [htl.out]; omega)
      rw [← HG.out] at hend
      have hlI : ¬ (a : Int) + (k : Int) < (s.size : Int) := by omega
      have HE := hide hend
      clear hend
      go_wp2
      go_ret2
      rw [HE.out]
      exact ⟨rfl, Below.refl _ _⟩
end Go.Proofs.YtapffbbmofhpoaaDoor.L1
