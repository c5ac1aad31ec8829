/-
  Contracts: impl.GammaBits and spec.GammaBits: of a number in 1..1000000 its binary digits, with as many noughts ahead as they are, less 1, as a text, and true; else the empty text and false.
-/
import Derived.Test.YtlhmailmgpocbaaDoorL1Format
import Derived.Test.YtlhmailmgpocbaaDoorL1Repeat
import Derived.Test.YtlhmailmgpocbaaDoorL1GammaMath
namespace Go.Proofs.YtlhmailmgpocbaaDoor.L1
open Go.RowKit
set_option linter.unusedVariables false

/-- Where the library's table of shifts lies. -/
def Tab64 (w : World) : Prop := w.cell? ⟨4, 1, none⟩ = some (.int .u8 1)
theorem Tab64.below {w w' : World} (h : Tab64 w) (hb : Below w.heap.size w w') : Tab64 w' := by
  unfold Tab64 at h ⊢
  rw [hb.cell (p := ⟨4, 1, none⟩) (fb_lt h)]
  exact h

theorem one_cell_conv (w : World) (x : Int) :
    (convert 22 9 (.slice (some ⟨w.heap.size, 0, none⟩) 1 1)).run Tryd.prog (w.alloc (.cells #[.int .u8 x] 5)) = .ok (.string (strOfNums [x])) (w.alloc (.cells #[.int .u8 x] 5)) :=
  run_convert_bytes_arg _ 22 5 Tryd.underlying22 Tryd.underlying5 w.heap.size 0 1 1 [x] rfl (fun i hi => by
    obtain rfl : i = 0 := by omega
    simp) 9 Tryd.underlying9

set_option maxHeartbeats 400000 in
theorem l1Num_bit (d : Int) (w : World) (h0 : 0 ≤ d) (h1 : d ≤ 9) :
    Calls Tryd.prog 63 #[.int .i64 d] w fun e w' => e = .returned (.string (strOfNums [48 + d])) ∧ Below w.heap.size w w' := by
  have h10 : d < 10 := by omega
  have hcv := one_cell_conv w (48 + d)
  have hb : Below w.heap.size w (w.alloc (.cells #[.int .u8 (48 + d)] 5)) := (Below.refl _ _).alloc (Nat.le_refl _) _
  go_enter Tryd.func63, Tryd.ntmps63
  go_wp2_with fail
  go_ret
  exact ⟨rfl, hb⟩

theorem str_append' (l m : List Int) : strOfNums (l ++ m) = strOfNums l ++ strOfNums m := by
  apply ByteArray.ext
  simp [strOfNums, ByteArray.data_append]

set_option maxHeartbeats 1000000 in
theorem l1Binary_any (f : Nat) : ∀ (n : Int) (w : World), f ≤ 20 → 0 ≤ n → n ≤ 1000000 → n < pw (f + 1) →
    Calls Tryd.prog 51 #[.int .i64 n] w fun e w' => e = .returned (.string (strOfNums (bl f n))) ∧ Below w.heap.size w w' := by
  induction f with
  | zero =>
    intro n w hf h0 h1 h2
    simp [pw] at h2
    rw [bl_small 0 n h2]
    go_enter Tryd.func51, Tryd.ntmps51
    go_wp2_with (go_at_call 63; refine (l1Num_bit _ _ h0 (by omega)).mono ?_; rintro e w1 ⟨rfl, hb⟩)
    go_ret
    exact ⟨rfl, by assumption⟩
  | succ f ih =>
    intro n w hf h0 h1 h2
    by_cases hn : n < 2
    · rw [bl_small (f + 1) n hn]
      clear ih h2
      go_enter Tryd.func51, Tryd.ntmps51
      go_wp2_with (go_at_call 63; refine (l1Num_bit _ _ h0 (by omega)).mono ?_; rintro e w1 ⟨rfl, hb⟩)
      go_ret
      exact ⟨rfl, by assumption⟩
    · have hw : pw (f + 1 + 1) = 2 * pw (f + 1) := rfl
      have hc1 := fun w => ih (n / 2) w (by omega) (by omega) (by omega) (by omega)
      have hc2 := fun w => l1Num_bit (n % 2) w (by omega) (by omega)
      have hl := bl_len f (n / 2)
      have hs1 : (strOfNums (bl f (n / 2))).size ≤ 21 := by rw [strOfNums_size]; omega
      have hs2 : (strOfNums [48 + n % 2]).size ≤ 1 := by rw [strOfNums_size]; simp
      have hst : strOfNums (bl (f + 1) n) = strOfNums (bl f (n / 2)) ++ strOfNums [48 + n % 2] := by rw [bl_step f n (by omega), str_append']
      rw [hst]
      obtain ⟨A, hA⟩ : ∃ A, A = strOfNums (bl f (n / 2)) := ⟨_, rfl⟩
      obtain ⟨C, hC⟩ : ∃ C, C = strOfNums [48 + n % 2] := ⟨_, rfl⟩
      rw [← hA, ← hC]
      simp only [← hA, ← hC] at hc1 hc2 hs1 hs2
      have hsum : ¬ 9223372036854775807 < A.size + C.size := by omega
      have H1 := hide hc1
      have H2 := hide hc2
      clear hc1 hc2 hl hst hA hC ih hw h2
      go_enter Tryd.func51, Tryd.ntmps51
      go_wp2_with fail
      refine (unhide H1 _).mono ?_
      rintro e w1 ⟨rfl, hb1⟩
      go_wp2_with fail
      refine (unhide H2 _).mono ?_
      rintro e w2 ⟨rfl, hb2⟩
      go_wp2_with fail
      go_ret
      exact ⟨rfl, hb1.trans (hb2.mono hb1.size)⟩

theorem rep_succ (k : Nat) (l : List Int) : strOfNums (List.replicate (k + 1) 48 ++ l) = (⟨#[48]⟩ : ByteArray) ++ strOfNums (List.replicate k 48 ++ l) := by
  rw [List.replicate_succ, List.cons_append]
  apply ByteArray.ext
  simp [strOfNums, ByteArray.data_append]

set_option maxHeartbeats 1000000 in
theorem specBits_yes (n : Int) (w : World) (h1 : 1 ≤ n) (h2 : n ≤ 1000000) :
    Calls Tryd.prog 25 #[.int .i64 n] w fun e w' => e = .returned (.tuple #[.string (strOfNums (gbits n)), .bool true]) ∧ Below w.heap.size w w' := by
  have hc := l1Binary_any 20 n w (by omega) (by omega) h2 (by simp [pw]; omega)
  have hl := bl_len 20 n
  have hg : gbits n = List.replicate ((bl 20 n).length - 1) 48 ++ bl 20 n := rfl
  have hsz := strOfNums_size (bl 20 n)
  obtain ⟨D, hD⟩ : ∃ D, D = bl 20 n := ⟨_, rfl⟩
  rw [← hD] at hc hl hg hsz
  obtain ⟨m, hm⟩ : ∃ m, m = D.length := ⟨_, rfl⟩
  rw [← hm] at hg hl hsz
  have HC := hide hc
  have HG := hide hg
  have HM := hide hm
  obtain ⟨hl1, hl2⟩ := hl
  clear hc hg hD hm
  go_enter Tryd.func25, Tryd.ntmps25
  go_wp2_with (first | (go_at_call 51; refine (unhide HC).mono ?_; rintro e w1 ⟨rfl, hb1⟩) | go_in)
  go_loop [5, 6] (fun s i => ∃ k : Nat, 1 ≤ k ∧ k ≤ m ∧ i = .int .i64 k ∧ s = .string (strOfNums (List.replicate (k - 1) 48 ++ D))) (fun _ i => m - (intOf i).toNat)
  case atStart => exact ⟨1, by omega, by omega, rfl, rfl⟩
  case round =>
    obtain ⟨k, hk1, hk2, rfl, rfl⟩ := hrel
    by_cases hlt : k < m
    · have hltI : (k : Int) < (m : Int) := by omega
      have hrs := rep_succ (k - 1) D
      rw [show k - 1 + 1 = k by omega] at hrs
      have hss : (strOfNums (List.replicate (k - 1) 48 ++ D)).size ≤ 42 := by
        rw [strOfNums_size]
        have := HM.out
        simp
        omega
      obtain ⟨A, hA⟩ : ∃ A, A = strOfNums (List.replicate (k - 1) 48 ++ D) := ⟨_, rfl⟩
      rw [← hA] at hrs hss ⊢
      have hsum : ¬ 9223372036854775807 < (ByteArray.mk #[48]).size + A.size := by
        have : (ByteArray.mk #[48]).size = 1 := rfl
        omega
      have HRS := hide hrs
      clear hrs hA
      go_wp2
      go_round
      case rel => exact ⟨k + 1, by omega, by omega, by go_num, by rw [show k + 1 - 1 = k by omega, HRS.out]⟩
      case measure => simp [intOf]; omega
    · have hltI : ¬ (k : Int) < (m : Int) := by omega
      obtain rfl : k = m := by omega
      go_wp2
      go_ret2
      exact ⟨by rw [HG.out]; rfl, by assumption⟩

set_option maxHeartbeats 400000 in
theorem specBits_no (n : Int) (w : World) (h : ¬ (1 ≤ n ∧ n ≤ 1000000)) :
    Calls Tryd.prog 25 #[.int .i64 n] w fun e w' => e = .returned (.tuple #[.string ⟨#[]⟩, .bool false]) ∧ w = w' := by
  by_cases h1 : 1 ≤ n
  · have h2 : ¬ n ≤ 1000000 := fun h2 => h ⟨h1, h2⟩
    clear h
    go_enter Tryd.func25, Tryd.ntmps25
    go_wp2
    go_ret2
    exact ⟨rfl, rfl⟩
  · clear h
    go_enter Tryd.func25, Tryd.ntmps25
    go_wp2
    go_ret2
    exact ⟨rfl, rfl⟩

set_option maxHeartbeats 400000 in
theorem formatInt_two (n : Int) (w : World) (h1 : 1 ≤ n) (h2 : n ≤ 1000000) (h64 : Tab64 w) :
    Calls Tryd.prog 58 #[.int .i64 n, .int .i64 2] w fun e w' => e = .returned (.string (strOfNums (bl 20 n))) ∧ Below w.heap.size w w' := by
  have hc := hide (formatBits_two n w h1 h2 h64)
  have h0 : ¬ n < 0 := by omega
  clear h64
  go_enter Tryd.func58, Tryd.ntmps58
  go_wp2_with (go_at_call 68; refine (unhide hc).mono ?_; rintro e w1 ⟨rfl, hb⟩)
  go_ret
  exact ⟨rfl, by assumption⟩
set_option maxHeartbeats 400000 in
theorem format_two (n : Int) (w : World) (h1 : 1 ≤ n) (h2 : n ≤ 1000000) (h64 : Tab64 w) :
    Calls Tryd.prog 48 #[.int .i64 n, .int .i64 2] w fun e w' => e = .returned (.string (strOfNums (bl 20 n))) ∧ Below w.heap.size w w' := by
  have hc := hide (formatInt_two n w h1 h2 h64)
  clear h64
  go_enter Tryd.func48, Tryd.ntmps48
  go_wp2_with (go_at_call 58; refine (unhide hc).mono ?_; rintro e w1 ⟨rfl, hb⟩)
  go_ret
  exact ⟨rfl, by assumption⟩

theorem repeat_zeros (k : Nat) : (⟨(Lib.repeatL (ByteArray.mk #[48]).data.toList k).toArray⟩ : ByteArray) = strOfNums (List.replicate k 48) := by
  have : ∀ k, Lib.repeatL [48] k = (List.replicate k (48 : Int)).map (fun n => UInt8.ofNat n.toNat) := fun k => by
    induction k with
    | zero => rfl
    | succ k ih => rw [Lib.repeatL, ih, List.replicate_succ]; rfl
  show (⟨(Lib.repeatL [48] k).toArray⟩ : ByteArray) = _
  rw [this]
  rfl

set_option maxHeartbeats 1000000 in
theorem bits_yes (n : Int) (w : World) (h1 : 1 ≤ n) (h2 : n ≤ 1000000) (h64 : Tab64 w) :
    Calls Tryd.prog 24 #[.int .i64 n] w fun e w' => e = .returned (.tuple #[.string (strOfNums (gbits n)), .bool true]) ∧ Below w.heap.size w w' := by
  have hc := format_two n w h1 h2 h64
  have hl := bl_len 20 n
  have hsz := strOfNums_size (bl 20 n)
  have hr : ∀ w, Calls Tryd.prog 49 #[.string (ByteArray.mk #[48]), .int .i64 (((bl 20 n).length - 1 : Nat) : Int)] w fun e w' => e = .returned (.string (strOfNums (List.replicate ((bl 20 n).length - 1) 48))) ∧ Below w.heap.size w w' := fun w => by
    have h := sh_strings_Repeat (ByteArray.mk #[48]) ((bl 20 n).length - 1) w (by omega) (by
      have : (ByteArray.mk #[48]).size = 1 := rfl
      rw [this]; omega)
    rw [repeat_zeros] at h
    exact h
  have hg : strOfNums (gbits n) = strOfNums (List.replicate ((bl 20 n).length - 1) 48) ++ strOfNums (bl 20 n) := str_append' _ _
  have hz2 : (strOfNums (List.replicate ((bl 20 n).length - 1) 48)).size ≤ 20 := by rw [strOfNums_size]; simp; omega
  rw [hg]
  obtain ⟨D, hD⟩ : ∃ D, D = strOfNums (bl 20 n) := ⟨_, rfl⟩
  obtain ⟨m, hm⟩ : ∃ m, m + 1 = (bl 20 n).length := ⟨(bl 20 n).length - 1, by omega⟩
  rw [← hm] at hl hsz
  simp only [← hm, Nat.add_sub_cancel] at hr hz2 ⊢
  rw [← hD] at hc hsz ⊢
  obtain ⟨Z, hZ⟩ : ∃ Z, Z = strOfNums (List.replicate m 48) := ⟨_, rfl⟩
  simp only [← hZ] at hr hz2 ⊢
  have hsI : (D.size : Int) = (m : Int) + 1 := by omega
  have hsum : ¬ 9223372036854775807 < Z.size + D.size := by omega
  have hm20 : m ≤ 20 := by omega
  have HC := hide hc
  have HR := hide hr
  clear hc hr hg hm hD hZ h64 hl hsz
  go_enter Tryd.func24, Tryd.ntmps24
  go_wp2_with fail
  refine (unhide HC).mono ?_
  rintro e w1 ⟨rfl, hb1⟩
  go_wp2_with fail
  refine (unhide HR _).mono ?_
  rintro e w2 ⟨rfl, hb2⟩
  go_wp2
  go_ret2
  exact ⟨rfl, hb1.trans (hb2.mono hb1.size)⟩

set_option maxHeartbeats 400000 in
theorem bits_no (n : Int) (w : World) (h : ¬ (1 ≤ n ∧ n ≤ 1000000)) :
    Calls Tryd.prog 24 #[.int .i64 n] w fun e w' => e = .returned (.tuple #[.string ⟨#[]⟩, .bool false]) ∧ w = w' := by
  by_cases h1 : n < 1
  · clear h
    go_enter Tryd.func24, Tryd.ntmps24
    go_wp2
    go_ret2
    exact ⟨rfl, rfl⟩
  · have h2 : 1000000 < n := by omega
    clear h
    go_enter Tryd.func24, Tryd.ntmps24
    go_wp2
    go_ret2
    exact ⟨rfl, rfl⟩
end Go.Proofs.YtlhmailmgpocbaaDoor.L1
