/-
  Contract: spec.l1Varint makes the digits to 128 of a number's ZigZag, as a text; memory that was there stays as it was.
-/
import Derived.Test.YtapffbbmofhpoaaDoorL1Base
import Derived.Test.YtapffbbmofhpoaaDoorL1Conv
namespace Go.Proofs.YtapffbbmofhpoaaDoor.L1
open Go.RowKit
set_option linter.unusedVariables false

set_option maxRecDepth 100000 in
set_option maxHeartbeats 400000 in
theorem l1Zig_any (n : Int) (w : World) (h1 : -1000000000000 ≤ n) (h2 : n ≤ 1000000000000) :
    Calls Tryd.prog 78 #[.int .i64 n] w fun e w' => e = .returned (.int .i64 (zig n)) ∧ w = w' := by
  unfold zig
  by_cases h : n < 0
  · rw [if_pos h]
    go_enter Tryd.func78, Tryd.ntmps78
    go_wp2
    go_ret
    exact ⟨rfl, rfl⟩
  · rw [if_neg h]
    go_enter Tryd.func78, Tryd.ntmps78
    go_wp2
    go_ret
    exact ⟨rfl, rfl⟩

set_option maxRecDepth 100000 in
set_option maxHeartbeats 1000000 in
theorem l1Varint_any (n : Int) (w : World) (h1 : -1000000000000 ≤ n) (h2 : n ≤ 1000000000000) :
    Calls Tryd.prog 76 #[.int .i64 n] w fun e w' => e = .returned (.string (strOfNums (vd (zig n)))) ∧ Below w.heap.size w w' := by
  have z0 := zig_lo n
  have z1 := zig_hi n h1 h2
  obtain ⟨i0, hi, hz0, hz1, hz2⟩ := info_parts info_u8
  go_enter Tryd.func76, Tryd.ntmps76
  go_wp2_with (go_at_call 78; refine (l1Zig_any _ _ h1 h2).mono ?_; rintro e w' ⟨rfl, rfl⟩)
  obtain ⟨Z, hZ⟩ : ∃ Z, Z = zig n := ⟨_, rfl⟩
  rw [← hZ] at z0 z1 ⊢
  have HZ := hide hZ
  clear hZ h1 h2
  go_loopw [3, 4] (fun z b wr => ∃ (f : Nat) (pre : List Int) (zk : Int), f ≤ 5 ∧ Hid (vd Z = pre ++ vdf f zk) ∧ 0 ≤ zk ∧ zk < wor (f + 1) ∧ zk ≤ 2000000000000 ∧ pre.length = 5 - f ∧ z = .int .i64 zk ∧
      wr.ownsRow w.heap.size 5 1 b pre.length (pre.map (Value.int .u8)) ∧ Below w.heap.size w wr) (fun z _ _ => (intOf z).toNat)
  case atStart => exact ⟨5, [], Z, by omega, rfl, z0, by simp [wor]; omega, z1, rfl, rfl, World.ownsRow_nil _ _ _ _, Below.refl _ _⟩
  case round =>
    obtain ⟨f, pre, zk, hf, HV, hz0', hz1', hz2', hpl, rfl, hown, hbel⟩ := hrel
    have HP := hide hpl
    have HW := hide hz1'
    have hpl5 : pre.length ≤ 5 := by omega
    clear hpl hz1'
    by_cases hlt : zk < 128
    · go_wp2_with (first
        | (at_builtin; refine wpList_append_own _ rfl _ _ 22 rfl w.heap.size 5 i0 (.int .u8 0) 1 1 Tryd.underlying22 hi hz0 hz1 hz2 rfl (by decide) _ _ _ rfl (hown.alloc _) ⟨wr.heap.size, 0, none⟩ 1 1 [.int .u8 zk] rfl rfl (cell_one_new _ _ _) (by intro u hu; simp at hu; subst hu; rfl) (by unfold maxLen; omega) (by omega) (by have := hbel.size; simp; omega) ?_)
        | go_in)
      · intro v' w1 hown' hgrow _
        have e : vd (zig n) = pre ++ [zk] := by
          rw [← HZ.out, HV.out]
          congr 1
          cases f with
          | zero => rfl
          | succ f => simp only [vdf]; rw [if_pos hlt]
        have hcv := conv_own (l := pre ++ [zk]) (v := v') (w := w1) (base := w.heap.size) (n := pre.length + 1) (by simpa using hown') (by omega)
        have hb1 : Below w.heap.size w w1 := (hbel.alloc hbel.size _).grown hgrow (by have := hbel.size; simp; omega) (fun k hk => (hown.lt k hk).1)
        have E := hide e
        clear e hown' hgrow hown
        go_wp2
        go_ret
        exact ⟨by rw [E.out]; rfl, hb1⟩
    · go_wp2_with (first
        | (at_builtin; refine wpList_append_own _ rfl _ _ 22 rfl w.heap.size 5 i0 (.int .u8 0) 1 1 Tryd.underlying22 hi hz0 hz1 hz2 rfl (by decide) _ _ _ rfl (hown.alloc _) ⟨wr.heap.size, 0, none⟩ 1 1 [.int .u8 (128 + zk % 128)] rfl rfl (cell_one_new _ _ _) (by intro u hu; simp at hu; subst hu; rfl) (by unfold maxLen; omega) (by omega) (by have := hbel.size; simp; omega) ?_)
        | go_in)
      · intro v' w1 hown' hgrow _
        have hb1 : Below w.heap.size w w1 := (hbel.alloc hbel.size _).grown hgrow (by have := hbel.size; simp; omega) (fun k hk => (hown.lt k hk).1)
        have hown2 : w1.ownsRow w.heap.size 5 1 v' (pre ++ [128 + zk % 128]).length ((pre ++ [128 + zk % 128]).map (Value.int .u8)) := by simpa using hown'
        obtain ⟨g, rfl⟩ : ∃ g, f = g + 1 := by
          cases f with
          | zero => have := HW.out; simp [wor] at this; omega
          | succ g => exact ⟨g, rfl⟩
        clear hown' hgrow hown
        go_wp2
        go_roundw
        case rel =>
          refine ⟨g, pre ++ [128 + zk % 128], zk / 128, by omega, ?_, by omega, ?_, by omega, ?_, rfl, hown2, hb1⟩
          · show vd Z = _
            rw [HV.out]
            simp only [vdf]
            rw [if_neg (by omega)]
            simp
          · have := HW.out
            have hw : wor (g + 1 + 1) = 128 * wor (g + 1) := rfl
            omega
          · have := HP.out
            simp
            omega
        case measure => simp [intOf]; omega
end Go.Proofs.YtapffbbmofhpoaaDoor.L1
