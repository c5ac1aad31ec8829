/-
  Contract: strconv.FormatInt(n, 2): a number's binary digits as a text, for 1..1000000, where the library's table lies in memory.
-/
import Derived.Test.YtlhmailmgpocbaaDoorL1Bytes
import Derived.Test.YtlhmailmgpocbaaDoorL1Bits
import Derived.Lib.Builder
namespace Go.Proofs.YtlhmailmgpocbaaDoor.L1
open Go.RowKit
set_option linter.unusedVariables false

set_option maxHeartbeats 400000 in
theorem tz_two (w : World) (h64 : w.cell? ⟨4, 1, none⟩ = some (.int .u8 1)) :
    Calls Tryd.prog 77 #[.int .u64 2] w fun e w' => e = .returned (.int .i64 1) ∧ w = w' := by
  have e1 : IntKind.u64.wrap (bits BinOp.and IntKind.u64 2 (IntKind.u64.wrap (-2)) * 285870213051353865) / 288230376151711744 = 1 := by kernel_rfl
  go_enter Tryd.func77, Tryd.ntmps77
  go_wp2
  go_ret
  exact ⟨rfl, rfl⟩
set_option maxHeartbeats 400000 in
theorem pow2_two (w : World) :
    Calls Tryd.prog 76 #[.int .i64 2] w fun e w' => e = .returned (.bool true) ∧ w = w' := by
  go_enter Tryd.func76, Tryd.ntmps76
  go_wp2
  go_ret
  exact ⟨rfl, rfl⟩

theorem fb_lt {w : World} {b o : Nat} {v : Value} (h : w.cell? ⟨b, o, none⟩ = some v) : b < w.heap.size := by
  by_cases hb : b < w.heap.size
  · exact hb
  · simp [World.cell?, Array.getElem?_eq_none (show w.heap.size ≤ b by omega)] at h

/-- The digits laid so far at the array's end. -/
def Laid (w : World) (b : Nat) (sfx : List Int) : Prop :=
  ∃ cur, w.heap[b]? = some (.cells cur 89 (0, 0)) ∧ cur.size = 65 ∧ ∀ j, j < sfx.length → cur[65 - sfx.length + j]? = some (.int .u8 (sfx.getD j 0))
theorem Laid.cell {w : World} {b : Nat} {sfx : List Int} (h : Laid w b sfx) (j : Nat) (hj : j < 65) : (∃ v, w.cell? ⟨b, j, none⟩ = some v) ∧ w.frozen? ⟨b, j, none⟩ = false := by
  obtain ⟨cur, hb, hs, _⟩ := h
  refine ⟨⟨_, (Lib.cell_of_heap hb j).trans (Array.getElem?_eq_getElem (by omega))⟩, Lib.frozen_of_heap hb j⟩
theorem Laid.put {w : World} {b : Nat} {sfx : List Int} (h : Laid w b sfx) (hl : sfx.length < 65) (x : Int) : Laid (w.setCell ⟨b, 65 - (sfx.length + 1), none⟩ (.int .u8 x)) b (x :: sfx) := by
  obtain ⟨cur, hb, hs, hc⟩ := h
  refine ⟨cur.setIfInBounds (65 - (sfx.length + 1)) (.int .u8 x), heap_setCell_same w b _ cur _ _ hb, by simpa using hs, fun j hj => ?_⟩
  simp only [List.length_cons] at hj ⊢
  cases j with
  | zero =>
    simp [Array.getElem?_setIfInBounds, hs]
    omega
  | succ j =>
    have := hc j (by omega)
    rw [Array.getElem?_setIfInBounds, if_neg (by omega)]
    rw [show 65 - (sfx.length + 1) + (j + 1) = 65 - sfx.length + j by omega, this]
    simp
theorem Laid.conv {w : World} {b : Nat} {sfx : List Int} (h : Laid w b sfx) (hl : sfx.length ≤ 65) (c : Nat) :
    (convert 22 9 (.slice (some ⟨b, 65 - sfx.length, none⟩) sfx.length c)).run Tryd.prog w = .ok (.string (strOfNums sfx)) w := by
  obtain ⟨cur, hb, hs, hc⟩ := h
  exact run_convert_bytes_arg w 22 5 Tryd.underlying22 Tryd.underlying5 b (65 - sfx.length) sfx.length c sfx rfl (fun i hi => by
    rw [Lib.cell_of_heap hb]
    exact hc i hi) 9 Tryd.underlying9

theorem slice_arr (w : World) (b q : Nat) (h : q < 65) :
    (Instr.sliceAt 89 (.pointer (some ⟨b, 0, none⟩)) (some (.int .i64 (q : Int))) none none).run Tryd.prog w = .ok (.slice (some ⟨b, q, none⟩) (65 - q) (65 - q)) w := by
  have e0 : Tryd.prog.underlying 89 = some (.array (Tryd.prog.arrayLen 89) (Tryd.prog.elem 89)) := by kernel_rfl
  have e1 : Tryd.prog.arrayLen 89 = 65 := by kernel_rfl
  have e2 : Tryd.prog.elem 89 = 5 := by kernel_rfl
  have h1 := run_sliceAt_array_l (P := Tryd.prog) w 89 ⟨b, 0, none⟩ e0 .i64 (q : Int) (by omega) (by rw [e1]; omega)
  rw [h1, e2, Tryd.sizeOf5 w, e1]
  simp only [Result.andThen, slicedAt, Int.toNat_natCast, Nat.mul_one]
  rw [if_neg (by omega), addr_add]
attribute [local go_sem ↓] slice_arr

set_option maxHeartbeats 2000000 in
theorem formatBits_two (n : Int) (w : World) (h1 : 1 ≤ n) (h2 : n ≤ 1000000) (h64 : w.cell? ⟨4, 1, none⟩ = some (.int .u8 1)) :
    Calls Tryd.prog 68 #[.slice none 0 0, .int .u64 n, .int .i64 2, .bool false, .bool false] w fun e w' => e = .returned (.tuple #[.slice none 0 0, .string (strOfNums (bl 20 n))]) ∧ Below w.heap.size w w' := by
  have hb0 : Below w.heap.size w (w.alloc (Obj.cells Tryd.zeroCells89 89)) := (Below.refl _ _).alloc (Nat.le_refl _) _
  have hc64 : (w.alloc (Obj.cells Tryd.zeroCells89 89)).cell? ⟨4, 1, none⟩ = some (.int .u8 1) := by
    rw [hb0.cell (p := ⟨4, 1, none⟩) (fb_lt h64)]
    exact h64
  have hz : Tryd.zeroCells89.size = 65 := by kernel_rfl
  have hL0 : Laid (w.alloc (Obj.cells Tryd.zeroCells89 89)) w.heap.size [] := ⟨Tryd.zeroCells89, by show (w.heap.push _)[w.heap.size]? = _; simp, hz, fun j hj => by simp at hj⟩
  have HB := hide hb0
  have H64 := hide hc64
  have HL := hide hL0
  clear hb0 hc64 hz hL0 h64
  go_enter Tryd.func68, Tryd.ntmps68
  go_wp2_with (first | (go_at_call 76; refine (pow2_two _).mono ?_; rintro e w1 ⟨rfl, rfl⟩) | (go_at_call 77; refine (tz_two _ H64.out).mono ?_; rintro e w1 ⟨rfl, rfl⟩))
  go_loopw [1, 13] (fun x i wr => ∃ (f p : Nat) (u : Int) (sfx : List Int), f ≤ 20 ∧ sfx.length + f = 20 ∧ p + sfx.length = 65 ∧ Hid (bl 20 n = bl f u ++ sfx) ∧ 0 ≤ u ∧ u ≤ 1000000 ∧ Hid (u < pw (f + 1)) ∧ x = .int .u64 u ∧ i = .int .i64 (p : Int) ∧ Hid (Laid wr w.heap.size sfx) ∧ Below w.heap.size w wr) (fun x _ _ => (intOf x).toNat)
  case atStart => exact ⟨20, 65, n, [], by omega, rfl, rfl, by show _ = _; simp, by omega, h2, by show _ < _; simp [pw]; omega, rfl, rfl, HL.out, HB.out⟩
  case round =>
    obtain ⟨f, p, u, sfx, hf, hlf, hpl, HD, hu0, hu1, HP, rfl, rfl, HLr, hbel⟩ := hrel
    obtain ⟨q, rfl⟩ : ∃ q, p = q + 1 := ⟨p - 1, by omega⟩
    have hq : q < 65 := by omega
    have hqI : (q : Int) < 65 := by omega
    have hp := hide hpl
    have hcf := HLr.out.cell q hq
    obtain ⟨⟨v, hv⟩, hfr⟩ := hcf
    have hput : ∀ x, Laid (wr.setCell ⟨w.heap.size, q, none⟩ (.int .u8 x)) w.heap.size (x :: sfx) := fun x => by
      have := HLr.out.put (by omega) x
      rw [show 65 - (sfx.length + 1) = q by omega] at this
      exact this
    have hbp : ∀ x, Below w.heap.size w (wr.setCell ⟨w.heap.size, q, none⟩ (.int .u8 x)) := fun x => hbel.setCell (p := ⟨w.heap.size, q, none⟩) (Nat.le_refl _) _
    have HPUT := hide hput
    have HBP := hide hbp
    have HLF := hide hlf
    clear hlf hpl hput hbp
    by_cases hu2 : u < 2
    · have hcv : ∀ x, (convert 22 9 (.slice (some ⟨w.heap.size, q, none⟩) (65 - q) (65 - q))).run Tryd.prog (wr.setCell ⟨w.heap.size, q, none⟩ (.int .u8 x)) = .ok (.string (strOfNums (x :: sfx))) (wr.setCell ⟨w.heap.size, q, none⟩ (.int .u8 x)) := fun x => by
        have h := (HPUT.out x).conv (by have := hp.out; simp; omega) (65 - q)
        have e : (x :: sfx).length = 65 - q := by have := hp.out; simp; omega
        rw [e] at h
        rw [show 65 - (65 - q) = q by omega] at h
        exact h
      have hfin : bl 20 n = (48 + u) :: sfx := by rw [HD.out, bl_small f u hu2]; rfl
      have HF := hide hfin
      clear hfin
      rcases (show u = 0 ∨ u = 1 by omega) with hu | hu
      · subst hu
        go_wp2
        go_ret2
        exact ⟨by rw [HF.out]; rfl, HBP.out _⟩
      · subst hu
        go_wp2
        go_ret2
        exact ⟨by rw [HF.out]; rfl, HBP.out _⟩
    · have hand := and_one_u64 u hu0 (by omega)
      obtain ⟨g, rfl⟩ : ∃ g, f = g + 1 := by
        cases f with
        | zero => have := HP.out; simp [pw] at this; omega
        | succ g => exact ⟨g, rfl⟩
      have hR : ∀ d, d = 48 + u % 2 → ∃ (f p : Nat) (u' : Int) (sfx' : List Int), f ≤ 20 ∧ sfx'.length + f = 20 ∧ p + sfx'.length = 65 ∧ Hid (bl 20 n = bl f u' ++ sfx') ∧ 0 ≤ u' ∧ u' ≤ 1000000 ∧ Hid (u' < pw (f + 1)) ∧ Value.int .u64 (u / 2) = .int .u64 u' ∧ Value.int .i64 (q : Int) = .int .i64 (p : Int) ∧ Hid (Laid (wr.setCell ⟨w.heap.size, q, none⟩ (.int .u8 d)) w.heap.size sfx') ∧ Below w.heap.size w (wr.setCell ⟨w.heap.size, q, none⟩ (.int .u8 d)) := fun d hd => by
        refine ⟨g, q, u / 2, d :: sfx, by omega, by have := HLF.out; simp; omega, by have := hp.out; simp; omega, ?_, by omega, by omega, ?_, rfl, rfl, HPUT.out d, HBP.out d⟩
        · show _ = _
          rw [HD.out, bl_step g u (by omega), hd]
          simp
        · show _ < _
          have := HP.out
          have e : pw (g + 1 + 1) = 2 * pw (g + 1) := rfl
          omega
      have HR := hide hR
      clear hR
      rcases Int.emod_two_eq u with hm | hm
      · rw [hm] at hand
        have HM := hide hm
        clear hm
        go_wp2
        go_roundw
        case rel => exact HR.out 48 (by rw [HM.out]; rfl)
        case measure => simp [intOf]; omega
      · rw [hm] at hand
        have HM := hide hm
        clear hm
        go_wp2
        go_roundw
        case rel => exact HR.out 49 (by rw [HM.out]; rfl)
        case measure => simp [intOf]; omega
end Go.Proofs.YtlhmailmgpocbaaDoor.L1
