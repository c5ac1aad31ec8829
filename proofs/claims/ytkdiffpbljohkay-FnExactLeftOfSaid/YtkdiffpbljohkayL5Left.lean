/-
  Contracts: impl.isNone, impl.isEmpty, impl.oneThen, impl.oneOrOther, impl.leftOf: what is left of a shape by a letter.
-/
import Derived.Test.YtkdiffpbljohkayL5Empty
import Derived.Test.YtkdiffpbljohkayL5Text
namespace Go.Proofs.Ytkdiffpbljohkay.L5
open Go.RowKit L1 L4
set_option linter.unusedVariables false
attribute [local go_sem] mk_noText mk_emptyText mk_oneLetter mk_anyLetter mk_thenShape mk_eitherShape mk_manyShape mk_notShape as_noText_noText as_noText_emptyText as_noText_oneLetter as_noText_anyLetter as_noText_thenShape as_noText_eitherShape as_noText_manyShape as_noText_notShape as_emptyText_noText as_emptyText_emptyText as_emptyText_oneLetter as_emptyText_anyLetter as_emptyText_thenShape as_emptyText_eitherShape as_emptyText_manyShape as_emptyText_notShape as_oneLetter_noText as_oneLetter_emptyText as_oneLetter_oneLetter as_oneLetter_anyLetter as_oneLetter_thenShape as_oneLetter_eitherShape as_oneLetter_manyShape as_oneLetter_notShape as_anyLetter_noText as_anyLetter_emptyText as_anyLetter_oneLetter as_anyLetter_anyLetter as_anyLetter_thenShape as_anyLetter_eitherShape as_anyLetter_manyShape as_anyLetter_notShape as_thenShape_noText as_thenShape_emptyText as_thenShape_oneLetter as_thenShape_anyLetter as_thenShape_thenShape as_thenShape_eitherShape as_thenShape_manyShape as_thenShape_notShape as_eitherShape_noText as_eitherShape_emptyText as_eitherShape_oneLetter as_eitherShape_anyLetter as_eitherShape_thenShape as_eitherShape_eitherShape as_eitherShape_manyShape as_eitherShape_notShape as_manyShape_noText as_manyShape_emptyText as_manyShape_oneLetter as_manyShape_anyLetter as_manyShape_thenShape as_manyShape_eitherShape as_manyShape_manyShape as_manyShape_notShape as_notShape_noText as_notShape_emptyText as_notShape_oneLetter as_notShape_anyLetter as_notShape_thenShape as_notShape_eitherShape as_notShape_manyShape as_notShape_notShape
set_option maxRecDepth 100000 in
set_option maxHeartbeats 1000000 in
theorem isNone_any : ∀ (x : Sh) (w : World) (bb : Bool), (bb = true ↔ kd x = 1) → Calls Try.prog 75 #[sv x] w fun e w' => e = .returned (.bool bb) ∧ Below w.heap.size w w'
  | .none, w, bb, h => by
    obtain rfl : bb = true := by cases bb <;> simp [kd] at h <;> rfl
    show Calls Try.prog 75 #[.iface 105 (.agg #[])] w _
    clear h
    go_enter Try.func75, Try.ntmps75
    go_wp2
    go_ret
    exact ⟨rfl, (Below.refl _ _).alloc (Nat.le_refl _) _⟩
  | .empty, w, bb, h => by
    obtain rfl : bb = false := by cases bb <;> simp [kd] at h <;> rfl
    show Calls Try.prog 75 #[.iface 101 (.agg #[])] w _
    clear h
    go_enter Try.func75, Try.ntmps75
    go_wp2
    go_ret
    exact ⟨rfl, (Below.refl _ _).alloc (Nat.le_refl _) _⟩
  | .letter c, w, bb, h => by
    obtain rfl : bb = false := by cases bb <;> simp [kd] at h <;> rfl
    show Calls Try.prog 75 #[.iface 91 (.agg #[.int .u8 c])] w _
    clear h
    go_enter Try.func75, Try.ntmps75
    go_wp2
    go_ret
    exact ⟨rfl, (Below.refl _ _).alloc (Nat.le_refl _) _⟩
  | .any, w, bb, h => by
    obtain rfl : bb = false := by cases bb <;> simp [kd] at h <;> rfl
    show Calls Try.prog 75 #[.iface 102 (.agg #[])] w _
    clear h
    go_enter Try.func75, Try.ntmps75
    go_wp2
    go_ret
    exact ⟨rfl, (Below.refl _ _).alloc (Nat.le_refl _) _⟩
  | .seq a b, w, bb, h => by
    obtain rfl : bb = false := by cases bb <;> simp [kd] at h <;> rfl
    show Calls Try.prog 75 #[.iface 93 (.agg #[sv a, sv b])] w _
    clear h
    go_enter Try.func75, Try.ntmps75
    go_wp2
    go_ret
    exact ⟨rfl, (Below.refl _ _).alloc (Nat.le_refl _) _⟩
  | .alt a b, w, bb, h => by
    obtain rfl : bb = false := by cases bb <;> simp [kd] at h <;> rfl
    show Calls Try.prog 75 #[.iface 96 (.agg #[sv a, sv b])] w _
    clear h
    go_enter Try.func75, Try.ntmps75
    go_wp2
    go_ret
    exact ⟨rfl, (Below.refl _ _).alloc (Nat.le_refl _) _⟩
  | .many a, w, bb, h => by
    obtain rfl : bb = false := by cases bb <;> simp [kd] at h <;> rfl
    show Calls Try.prog 75 #[.iface 98 (.agg #[sv a])] w _
    clear h
    go_enter Try.func75, Try.ntmps75
    go_wp2
    go_ret
    exact ⟨rfl, (Below.refl _ _).alloc (Nat.le_refl _) _⟩
  | .inv a, w, bb, h => by
    obtain rfl : bb = false := by cases bb <;> simp [kd] at h <;> rfl
    show Calls Try.prog 75 #[.iface 99 (.agg #[sv a])] w _
    clear h
    go_enter Try.func75, Try.ntmps75
    go_wp2
    go_ret
    exact ⟨rfl, (Below.refl _ _).alloc (Nat.le_refl _) _⟩
set_option maxRecDepth 100000 in
set_option maxHeartbeats 1000000 in
theorem isEmpty_any : ∀ (x : Sh) (w : World) (bb : Bool), (bb = true ↔ kd x = 2) → Calls Try.prog 76 #[sv x] w fun e w' => e = .returned (.bool bb) ∧ Below w.heap.size w w'
  | .none, w, bb, h => by
    obtain rfl : bb = false := by cases bb <;> simp [kd] at h <;> rfl
    show Calls Try.prog 76 #[.iface 105 (.agg #[])] w _
    clear h
    go_enter Try.func76, Try.ntmps76
    go_wp2
    go_ret
    exact ⟨rfl, (Below.refl _ _).alloc (Nat.le_refl _) _⟩
  | .empty, w, bb, h => by
    obtain rfl : bb = true := by cases bb <;> simp [kd] at h <;> rfl
    show Calls Try.prog 76 #[.iface 101 (.agg #[])] w _
    clear h
    go_enter Try.func76, Try.ntmps76
    go_wp2
    go_ret
    exact ⟨rfl, (Below.refl _ _).alloc (Nat.le_refl _) _⟩
  | .letter c, w, bb, h => by
    obtain rfl : bb = false := by cases bb <;> simp [kd] at h <;> rfl
    show Calls Try.prog 76 #[.iface 91 (.agg #[.int .u8 c])] w _
    clear h
    go_enter Try.func76, Try.ntmps76
    go_wp2
    go_ret
    exact ⟨rfl, (Below.refl _ _).alloc (Nat.le_refl _) _⟩
  | .any, w, bb, h => by
    obtain rfl : bb = false := by cases bb <;> simp [kd] at h <;> rfl
    show Calls Try.prog 76 #[.iface 102 (.agg #[])] w _
    clear h
    go_enter Try.func76, Try.ntmps76
    go_wp2
    go_ret
    exact ⟨rfl, (Below.refl _ _).alloc (Nat.le_refl _) _⟩
  | .seq a b, w, bb, h => by
    obtain rfl : bb = false := by cases bb <;> simp [kd] at h <;> rfl
    show Calls Try.prog 76 #[.iface 93 (.agg #[sv a, sv b])] w _
    clear h
    go_enter Try.func76, Try.ntmps76
    go_wp2
    go_ret
    exact ⟨rfl, (Below.refl _ _).alloc (Nat.le_refl _) _⟩
  | .alt a b, w, bb, h => by
    obtain rfl : bb = false := by cases bb <;> simp [kd] at h <;> rfl
    show Calls Try.prog 76 #[.iface 96 (.agg #[sv a, sv b])] w _
    clear h
    go_enter Try.func76, Try.ntmps76
    go_wp2
    go_ret
    exact ⟨rfl, (Below.refl _ _).alloc (Nat.le_refl _) _⟩
  | .many a, w, bb, h => by
    obtain rfl : bb = false := by cases bb <;> simp [kd] at h <;> rfl
    show Calls Try.prog 76 #[.iface 98 (.agg #[sv a])] w _
    clear h
    go_enter Try.func76, Try.ntmps76
    go_wp2
    go_ret
    exact ⟨rfl, (Below.refl _ _).alloc (Nat.le_refl _) _⟩
  | .inv a, w, bb, h => by
    obtain rfl : bb = false := by cases bb <;> simp [kd] at h <;> rfl
    show Calls Try.prog 76 #[.iface 99 (.agg #[sv a])] w _
    clear h
    go_enter Try.func76, Try.ntmps76
    go_wp2
    go_ret
    exact ⟨rfl, (Below.refl _ _).alloc (Nat.le_refl _) _⟩
theorem ret_val5 {u v : Value} (h : u = v) : Ending.returned u = .returned v := by rw [h]
set_option maxRecDepth 100000 in
set_option maxHeartbeats 2000000 in
theorem oneThen_any (a b : Sh) (w : World) : Calls Try.prog 63 #[sv a, sv b] w fun e w' => e = .returned (sv (oT a b)) ∧ Below w.heap.size w w' := by
  by_cases ha1 : kd a = 1
  · have C1 := hide (fun w => isNone_any a w true (iff_of_true rfl ha1))
    have HR : Hid (oT a b = .none) := hide (by unfold oT; rw [if_pos (.inl ha1)])
    rw [HR.out]
    show Calls Try.prog 63 #[sv a, sv b] w fun e w' => e = .returned (.iface 105 (.agg #[])) ∧ Below w.heap.size w w'
    clear ha1
    go_enter Try.func63, Try.ntmps63
    go_wp2_with fail
    refine (C1.out _).mono ?_
    rintro e w1 ⟨rfl, hb⟩
    have B1 := hide (hb)
    clear hb
    go_wp2
    go_ret
    exact ⟨rfl, B1.out⟩
  have D1 := hide (fun w => isNone_any a w false (iff_of_false (by simp) ha1))
  by_cases hb1 : kd b = 1
  · have C2 := hide (fun w => isNone_any b w true (iff_of_true rfl hb1))
    have HR : Hid (oT a b = .none) := hide (by unfold oT; rw [if_pos (.inr hb1)])
    rw [HR.out]
    show Calls Try.prog 63 #[sv a, sv b] w fun e w' => e = .returned (.iface 105 (.agg #[])) ∧ Below w.heap.size w w'
    clear ha1 hb1
    go_enter Try.func63, Try.ntmps63
    go_wp2_with fail
    refine (D1.out _).mono ?_
    rintro e w1 ⟨rfl, hb⟩
    have B1 := hide (hb)
    clear hb
    go_wp2_with fail
    refine (C2.out _).mono ?_
    rintro e w2 ⟨rfl, hb⟩
    have B2 := hide (B1.out.trans (hb.mono B1.out.size))
    clear hb
    go_wp2
    go_ret
    exact ⟨rfl, B2.out⟩
  have D2 := hide (fun w => isNone_any b w false (iff_of_false (by simp) hb1))
  by_cases ha2 : kd a = 2
  · have C3 := hide (fun w => isEmpty_any a w true (iff_of_true rfl ha2))
    have HR : Hid (oT a b = b) := hide (by unfold oT; rw [if_neg (by omega), if_pos ha2])
    rw [HR.out]
    clear ha1 hb1 ha2
    go_enter Try.func63, Try.ntmps63
    go_wp2_with fail
    refine (D1.out _).mono ?_
    rintro e w1 ⟨rfl, hb⟩
    have B1 := hide (hb)
    clear hb
    go_wp2_with fail
    refine (D2.out _).mono ?_
    rintro e w2 ⟨rfl, hb⟩
    have B2 := hide (B1.out.trans (hb.mono B1.out.size))
    clear hb
    go_wp2_with fail
    refine (C3.out _).mono ?_
    rintro e w3 ⟨rfl, hb⟩
    have B3 := hide (B2.out.trans (hb.mono B2.out.size))
    clear hb
    go_wp2
    go_ret
    exact ⟨rfl, B3.out⟩
  have D3 := hide (fun w => isEmpty_any a w false (iff_of_false (by simp) ha2))
  by_cases hb2 : kd b = 2
  · have C4 := hide (fun w => isEmpty_any b w true (iff_of_true rfl hb2))
    have HR : Hid (oT a b = a) := hide (by unfold oT; rw [if_neg (by omega), if_neg ha2, if_pos hb2])
    rw [HR.out]
    clear ha1 hb1 ha2 hb2
    go_enter Try.func63, Try.ntmps63
    go_wp2_with fail
    refine (D1.out _).mono ?_
    rintro e w1 ⟨rfl, hb⟩
    have B1 := hide (hb)
    clear hb
    go_wp2_with fail
    refine (D2.out _).mono ?_
    rintro e w2 ⟨rfl, hb⟩
    have B2 := hide (B1.out.trans (hb.mono B1.out.size))
    clear hb
    go_wp2_with fail
    refine (D3.out _).mono ?_
    rintro e w3 ⟨rfl, hb⟩
    have B3 := hide (B2.out.trans (hb.mono B2.out.size))
    clear hb
    go_wp2_with fail
    refine (C4.out _).mono ?_
    rintro e w4 ⟨rfl, hb⟩
    have B4 := hide (B3.out.trans (hb.mono B3.out.size))
    clear hb
    go_wp2
    go_ret
    exact ⟨rfl, B4.out⟩
  have D4 := hide (fun w => isEmpty_any b w false (iff_of_false (by simp) hb2))
  have HR : Hid (oT a b = .seq a b) := hide (by unfold oT; rw [if_neg (by omega), if_neg ha2, if_neg hb2])
  rw [HR.out]
  show Calls Try.prog 63 #[sv a, sv b] w fun e w' => e = .returned (.iface 93 (.agg #[sv a, sv b])) ∧ Below w.heap.size w w'
  clear ha1 hb1 ha2 hb2
  go_enter Try.func63, Try.ntmps63
  go_wp2_with fail
  refine (D1.out _).mono ?_
  rintro e w1 ⟨rfl, hb⟩
  have B1 := hide (hb)
  clear hb
  go_wp2_with fail
  refine (D2.out _).mono ?_
  rintro e w2 ⟨rfl, hb⟩
  have B2 := hide (B1.out.trans (hb.mono B1.out.size))
  clear hb
  go_wp2_with fail
  refine (D3.out _).mono ?_
  rintro e w3 ⟨rfl, hb⟩
  have B3 := hide (B2.out.trans (hb.mono B2.out.size))
  clear hb
  go_wp2_with fail
  refine (D4.out _).mono ?_
  rintro e w4 ⟨rfl, hb⟩
  have B4 := hide (B3.out.trans (hb.mono B3.out.size))
  clear hb
  go_wp2
  go_ret
  exact ⟨rfl, B4.out⟩
set_option maxRecDepth 100000 in
set_option maxHeartbeats 2000000 in
theorem oneOr_any (a b : Sh) (w : World) : Calls Try.prog 65 #[sv a, sv b] w fun e w' => e = .returned (sv (oO a b)) ∧ Below w.heap.size w w' := by
  by_cases ha1 : kd a = 1
  · have C1 := hide (fun w => isNone_any a w true (iff_of_true rfl ha1))
    have HR : Hid (oO a b = b) := hide (by unfold oO; rw [if_pos ha1])
    rw [HR.out]
    clear ha1
    go_enter Try.func65, Try.ntmps65
    go_wp2_with fail
    refine (C1.out _).mono ?_
    rintro e w1 ⟨rfl, hb⟩
    have B1 := hide (hb)
    clear hb
    go_wp2
    go_ret
    exact ⟨rfl, B1.out⟩
  have D1 := hide (fun w => isNone_any a w false (iff_of_false (by simp) ha1))
  by_cases hb1 : kd b = 1
  · have C2 := hide (fun w => isNone_any b w true (iff_of_true rfl hb1))
    have HR : Hid (oO a b = a) := hide (by unfold oO; rw [if_neg ha1, if_pos hb1])
    rw [HR.out]
    clear ha1 hb1
    go_enter Try.func65, Try.ntmps65
    go_wp2_with fail
    refine (D1.out _).mono ?_
    rintro e w1 ⟨rfl, hb⟩
    have B1 := hide (hb)
    clear hb
    go_wp2_with fail
    refine (C2.out _).mono ?_
    rintro e w2 ⟨rfl, hb⟩
    have B2 := hide (B1.out.trans (hb.mono B1.out.size))
    clear hb
    go_wp2
    go_ret
    exact ⟨rfl, B2.out⟩
  have D2 := hide (fun w => isNone_any b w false (iff_of_false (by simp) hb1))
  have HR : Hid (oO a b = .alt a b) := hide (by unfold oO; rw [if_neg ha1, if_neg hb1])
  rw [HR.out]
  show Calls Try.prog 65 #[sv a, sv b] w fun e w' => e = .returned (.iface 96 (.agg #[sv a, sv b])) ∧ Below w.heap.size w w'
  clear ha1 hb1
  go_enter Try.func65, Try.ntmps65
  go_wp2_with fail
  refine (D1.out _).mono ?_
  rintro e w1 ⟨rfl, hb⟩
  have B1 := hide (hb)
  clear hb
  go_wp2_with fail
  refine (D2.out _).mono ?_
  rintro e w2 ⟨rfl, hb⟩
  have B2 := hide (B1.out.trans (hb.mono B1.out.size))
  clear hb
  go_wp2
  go_ret
  exact ⟨rfl, B2.out⟩
set_option maxRecDepth 100000 in
set_option maxHeartbeats 8000000 in
theorem leftOf_any (c : Int) : ∀ (x : Sh) (w : World), Calls Try.prog 38 #[sv x, .int .u8 c] w fun e w' => e = .returned (sv (left x c)) ∧ Below w.heap.size w w'
  | .none, w => by
    show Calls Try.prog 38 #[.iface 105 (.agg #[]), .int .u8 c] w fun e w' => e = .returned (.iface 105 (.agg #[])) ∧ Below w.heap.size w w'
    go_enter Try.func38, Try.ntmps38
    go_wp2
    go_ret
    exact ⟨rfl, Below.refl _ _⟩
  | .empty, w => by
    show Calls Try.prog 38 #[.iface 101 (.agg #[]), .int .u8 c] w fun e w' => e = .returned (.iface 105 (.agg #[])) ∧ Below w.heap.size w w'
    go_enter Try.func38, Try.ntmps38
    go_wp2
    go_ret
    exact ⟨rfl, Below.refl _ _⟩
  | .any, w => by
    show Calls Try.prog 38 #[.iface 102 (.agg #[]), .int .u8 c] w fun e w' => e = .returned (.iface 101 (.agg #[])) ∧ Below w.heap.size w w'
    go_enter Try.func38, Try.ntmps38
    go_wp2
    go_ret
    exact ⟨rfl, (Below.refl _ _).alloc (Nat.le_refl _) _⟩
  | .letter d, w => by
    by_cases h : d = c
    · subst h
      have HR : Hid (left (.letter d) d = .empty) := hide (by simp [left])
      rw [HR.out]
      show Calls Try.prog 38 #[.iface 91 (.agg #[.int .u8 d]), .int .u8 d] w fun e w' => e = .returned (.iface 101 (.agg #[])) ∧ Below w.heap.size w w'
      go_enter Try.func38, Try.ntmps38
      go_wp2
      go_ret
      exact ⟨rfl, (Below.refl _ _).alloc (Nat.le_refl _) _⟩
    · have HR : Hid (left (.letter d) c = .none) := hide (by simp [left, h])
      have hne : (d == c) = false := by simpa using h
      rw [HR.out]
      show Calls Try.prog 38 #[.iface 91 (.agg #[.int .u8 d]), .int .u8 c] w fun e w' => e = .returned (.iface 105 (.agg #[])) ∧ Below w.heap.size w w'
      clear h
      go_enter Try.func38, Try.ntmps38
      go_wp2
      go_ret
      exact ⟨rfl, (Below.refl _ _).alloc (Nat.le_refl _) _⟩
  | .seq a b, w => by
    have IA := hide (leftOf_any c a)
    have IB := hide (leftOf_any c b)
    have HR : Hid (left (.seq a b) c = if nul a = true then oO (oT (left a c) b) (left b c) else oT (left a c) b) := hide rfl
    have HR2 := HR.out
    obtain ⟨X, hX⟩ : ∃ X, X = left (.seq a b) c := ⟨_, rfl⟩
    rw [← hX] at HR2 ⊢
    clear hX HR
    obtain ⟨A, hA⟩ : ∃ A, A = left a c := ⟨_, rfl⟩
    obtain ⟨B, hB⟩ : ∃ B, B = left b c := ⟨_, rfl⟩
    simp only [← hA] at IA HR2
    simp only [← hB] at IB HR2
    have IT := hide (oneThen_any A b)
    obtain ⟨Y, hY⟩ : ∃ Y, Y = oT A b := ⟨_, rfl⟩
    simp only [← hY] at IT HR2
    have HE := hide (hasEmpty_any a)
    clear hA hB hY
    show Calls Try.prog 38 #[.iface 93 (.agg #[sv a, sv b]), .int .u8 c] w fun e w' => e = .returned (sv X) ∧ Below w.heap.size w w'
    obtain ⟨W, hW⟩ : ∃ W, W = w.alloc (.cells #[sv a, sv b] 93) := ⟨_, rfl⟩
    have HB0 : Hid (Below w.heap.size w W) := hide (by rw [hW]; exact (Below.refl _ _).alloc (Nat.le_refl _) _)
    have c0 : W.cell? ⟨w.heap.size, 0, none⟩ = some (sv a) := by rw [hW]; simp
    have c1 : W.cell? ⟨w.heap.size, 1, none⟩ = some (sv b) := by rw [hW]; simp
    cases hn : nul a with
    | true =>
      rw [hn, if_pos rfl] at HR2
      have HX := hide HR2
      rw [hn] at HE
      clear HR2 hn
      go_enter Try.func38, Try.ntmps38
      go_wp2
      rw [← hW]
      clear hW
      go_region_held3 (fun wx => (wx.cell? ⟨w.heap.size, 0, none⟩ = some (sv a) ∧ wx.cell? ⟨w.heap.size, 1, none⟩ = some (sv b)) ∧ Below W.heap.size W wx) (first | exact ⟨⟨c0, c1⟩, (Below.refl _ _).drew⟩ | exact keep1T (by assumption) (by assumption) (Nat.le_refl _)) (first | (go_at_call_of 38 (sv a); refine (IA.out _).mono ?_; rintro e w1 ⟨rfl, hb⟩) | (go_at_call 63; refine (IT.out _).mono ?_; rintro e w1 ⟨rfl, hb⟩))
      rename_i hHeld
      have d0 := hHeld.1.1
      have d1 := hHeld.1.2
      have B1 := hide (HB0.out.trans (hHeld.2.mono HB0.out.size))
      have HD := hide (And.intro hHeld.1.2 (blk_lt hHeld.1.2))
      clear hHeld c0 c1 d1
      go_wp2_with fail
      refine (HE.out _).mono ?_
      rintro e w2 ⟨rfl, hb2⟩
      have e1 := (hb2.cell (p := ⟨w.heap.size, 1, none⟩) HD.out.2).trans HD.out.1
      have B2 := hide (B1.out.trans (hb2.mono B1.out.size))
      clear hb2 d0
      go_wp2_with fail
      refine (IB.out _).mono ?_
      rintro e w3 ⟨rfl, hb3⟩
      have B3 := hide (B2.out.trans (hb3.mono B2.out.size))
      clear hb3 e1
      go_wp2_with fail
      refine (oneOr_any Y B _).mono ?_
      rintro e w4 ⟨rfl, hb4⟩
      have B4 := hide (B3.out.trans (hb4.mono B3.out.size))
      clear hb4
      go_wp2
      go_ret
      exact ⟨by rw [HX.out]; rfl, B4.out⟩
    | false =>
      rw [hn, if_neg (by simp)] at HR2
      have HX := hide HR2
      rw [hn] at HE
      clear HR2 hn
      go_enter Try.func38, Try.ntmps38
      go_wp2
      rw [← hW]
      clear hW
      go_region_held3 (fun wx => (wx.cell? ⟨w.heap.size, 0, none⟩ = some (sv a) ∧ wx.cell? ⟨w.heap.size, 1, none⟩ = some (sv b)) ∧ Below W.heap.size W wx) (first | exact ⟨⟨c0, c1⟩, (Below.refl _ _).drew⟩ | exact keep1T (by assumption) (by assumption) (Nat.le_refl _)) (first | (go_at_call_of 38 (sv a); refine (IA.out _).mono ?_; rintro e w1 ⟨rfl, hb⟩) | (go_at_call 63; refine (IT.out _).mono ?_; rintro e w1 ⟨rfl, hb⟩))
      rename_i hHeld
      have d0 := hHeld.1.1
      have B1 := hide (HB0.out.trans (hHeld.2.mono HB0.out.size))
      clear hHeld c0 c1
      go_wp2_with fail
      refine (HE.out _).mono ?_
      rintro e w2 ⟨rfl, hb2⟩
      have B2 := hide (B1.out.trans (hb2.mono B1.out.size))
      clear hb2 d0
      go_wp2
      go_ret
      exact ⟨by rw [HX.out]; rfl, B2.out⟩
  | .alt a b, w => by
    have IA := hide (leftOf_any c a)
    have IB := hide (leftOf_any c b)
    have HR : Hid (left (.alt a b) c = oO (left a c) (left b c)) := hide rfl
    rw [HR.out]
    clear HR
    obtain ⟨A, hA⟩ : ∃ A, A = left a c := ⟨_, rfl⟩
    obtain ⟨B, hB⟩ : ∃ B, B = left b c := ⟨_, rfl⟩
    simp only [← hA] at IA ⊢
    simp only [← hB] at IB ⊢
    have IT := hide (oneOr_any A B)
    obtain ⟨Y, hY⟩ : ∃ Y, Y = oO A B := ⟨_, rfl⟩
    simp only [← hY] at IT ⊢
    clear hA hB hY
    show Calls Try.prog 38 #[.iface 96 (.agg #[sv a, sv b]), .int .u8 c] w fun e w' => e = .returned (sv Y) ∧ Below w.heap.size w w'
    obtain ⟨W, hW⟩ : ∃ W, W = w.alloc (.cells #[sv a, sv b] 96) := ⟨_, rfl⟩
    have HB0 : Hid (Below w.heap.size w W) := hide (by rw [hW]; exact (Below.refl _ _).alloc (Nat.le_refl _) _)
    have c0 : W.cell? ⟨w.heap.size, 0, none⟩ = some (sv a) := by rw [hW]; simp
    have c1 : W.cell? ⟨w.heap.size, 1, none⟩ = some (sv b) := by rw [hW]; simp
    go_enter Try.func38, Try.ntmps38
    go_wp2
    rw [← hW]
    clear hW
    go_region_held3 (fun wx => (wx.cell? ⟨w.heap.size, 0, none⟩ = some (sv a) ∧ wx.cell? ⟨w.heap.size, 1, none⟩ = some (sv b)) ∧ Below W.heap.size W wx) (first | exact ⟨⟨c0, c1⟩, (Below.refl _ _).drew⟩ | exact keep1T (by assumption) (by assumption) (Nat.le_refl _)) (first | (go_at_call_of 38 (sv a); refine (IA.out _).mono ?_; rintro e w1 ⟨rfl, hb⟩) | (go_at_call_of 38 (sv b); refine (IB.out _).mono ?_; rintro e w1 ⟨rfl, hb⟩) | (go_at_call 65; refine (IT.out _).mono ?_; rintro e w1 ⟨rfl, hb⟩))
    rename_i hHeld
    have B1 := hide (HB0.out.trans (hHeld.2.mono HB0.out.size))
    clear hHeld c0 c1
    go_wp2
    go_ret
    exact ⟨rfl, B1.out⟩
  | .many a, w => by
    have IA := hide (leftOf_any c a)
    have HR : Hid (left (.many a) c = oT (left a c) (.many a)) := hide rfl
    rw [HR.out]
    clear HR
    obtain ⟨A, hA⟩ : ∃ A, A = left a c := ⟨_, rfl⟩
    simp only [← hA] at IA ⊢
    have it : ∀ w, Calls Try.prog 63 #[sv A, .iface 98 (.agg #[sv a])] w fun e w' => e = .returned (sv (oT A (.many a))) ∧ Below w.heap.size w w' := oneThen_any A (.many a)
    obtain ⟨Y, hY⟩ : ∃ Y, Y = oT A (.many a) := ⟨_, rfl⟩
    simp only [← hY] at it ⊢
    have IT := hide it
    clear hA hY it
    show Calls Try.prog 38 #[.iface 98 (.agg #[sv a]), .int .u8 c] w fun e w' => e = .returned (sv Y) ∧ Below w.heap.size w w'
    obtain ⟨W, hW⟩ : ∃ W, W = w.alloc (.cells #[sv a] 98) := ⟨_, rfl⟩
    have HB0 : Hid (Below w.heap.size w W) := hide (by rw [hW]; exact (Below.refl _ _).alloc (Nat.le_refl _) _)
    have c0 : W.cell? ⟨w.heap.size, 0, none⟩ = some (sv a) := by rw [hW]; simp
    go_enter Try.func38, Try.ntmps38
    go_wp2
    rw [← hW]
    clear hW
    go_region_held3 (fun wx => (wx.cell? ⟨w.heap.size, 0, none⟩ = some (sv a) ∧ wx.cell? ⟨w.heap.size, 0, none⟩ = some (sv a)) ∧ Below W.heap.size W wx) (first | exact ⟨⟨c0, c0⟩, (Below.refl _ _).drew⟩ | exact keep1T (by assumption) (by assumption) (Nat.le_refl _)) (first | (go_at_call_of 38 (sv a); refine (IA.out _).mono ?_; rintro e w1 ⟨rfl, hb⟩) | (go_at_call 63; refine (IT.out _).mono ?_; rintro e w1 ⟨rfl, hb⟩))
    rename_i hHeld
    have B1 := hide (HB0.out.trans (hHeld.2.mono HB0.out.size))
    clear hHeld c0
    go_wp2
    go_ret
    exact ⟨rfl, B1.out⟩
  | .inv a, w => by
    have IA := hide (leftOf_any c a)
    obtain ⟨A, hA⟩ : ∃ A, A = left a c := ⟨_, rfl⟩
    simp only [← hA] at IA
    have HR : Hid (left (.inv a) c = .inv A) := hide (by rw [hA]; rfl)
    rw [HR.out]
    clear HR hA
    show Calls Try.prog 38 #[.iface 99 (.agg #[sv a]), .int .u8 c] w fun e w' => e = .returned (.iface 99 (.agg #[sv A])) ∧ Below w.heap.size w w'
    have HB0 := hide ((Below.refl w.heap.size w).alloc (Nat.le_refl _) (.cells #[sv a] 99))
    go_enter Try.func38, Try.ntmps38
    go_wp2_with fail
    refine (IA.out _).mono ?_
    rintro e w1 ⟨rfl, hb1⟩
    have B1 := hide (HB0.out.trans (hb1.mono HB0.out.size))
    clear hb1
    go_wp2
    go_ret
    exact ⟨rfl, B1.out⟩
end Go.Proofs.Ytkdiffpbljohkay.L5
