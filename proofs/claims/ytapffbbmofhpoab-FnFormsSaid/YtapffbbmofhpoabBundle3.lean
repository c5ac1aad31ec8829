/-
  Contracts: impl.isNone, impl.isEmpty, impl.oneThen, impl.oneOrOther, impl.leftOf: what is left of a shape by a letter.
  Contract: spec.l5Empty: whether the empty text fits.
  Contracts: spec.l5Then, spec.l5Either, spec.l5Left: what is left of a tree by a letter.
  A list of parts that grows, in memory of the call's own; parts in a box. Nothing of the program's text is proved here but closed facts on its types.
  Contracts: impl.partsOf, impl.partsOfTwo: the parts of a shape behind others.
  Contract: spec.l5Flat: the parts of a tree behind others.
  Contracts: impl.shapeOfPart, impl.shapeOf: the tree of a good form.
  Contracts: impl.namedBy, impl.goodPart: whether a part is good at its place.
-/
import Derived.Test.YtapffbbmofhpoabBundle2
import Derived.Maps.AppendAt
import Derived.Lib.Builder
import Derived.RegionTactic
import Derived.Deep.RegionHeld3
import Derived.Deep.QuietTactic
import Derived.BigQuiet
namespace Go.Proofs.Ytapffbbmofhpoab.L5
open Go.RowKit L1 L4
set_option linter.unusedVariables false
attribute [local go_sem] mk_noText mk_emptyText mk_oneLetter mk_anyLetter mk_thenShape mk_eitherShape mk_manyShape mk_notShape as_noText_noText as_noText_emptyText as_noText_oneLetter as_noText_anyLetter as_noText_thenShape as_noText_eitherShape as_noText_manyShape as_noText_notShape as_emptyText_noText as_emptyText_emptyText as_emptyText_oneLetter as_emptyText_anyLetter as_emptyText_thenShape as_emptyText_eitherShape as_emptyText_manyShape as_emptyText_notShape as_oneLetter_noText as_oneLetter_emptyText as_oneLetter_oneLetter as_oneLetter_anyLetter as_oneLetter_thenShape as_oneLetter_eitherShape as_oneLetter_manyShape as_oneLetter_notShape as_anyLetter_noText as_anyLetter_emptyText as_anyLetter_oneLetter as_anyLetter_anyLetter as_anyLetter_thenShape as_anyLetter_eitherShape as_anyLetter_manyShape as_anyLetter_notShape as_thenShape_noText as_thenShape_emptyText as_thenShape_oneLetter as_thenShape_anyLetter as_thenShape_thenShape as_thenShape_eitherShape as_thenShape_manyShape as_thenShape_notShape as_eitherShape_noText as_eitherShape_emptyText as_eitherShape_oneLetter as_eitherShape_anyLetter as_eitherShape_thenShape as_eitherShape_eitherShape as_eitherShape_manyShape as_eitherShape_notShape as_manyShape_noText as_manyShape_emptyText as_manyShape_oneLetter as_manyShape_anyLetter as_manyShape_thenShape as_manyShape_eitherShape as_manyShape_manyShape as_manyShape_notShape as_notShape_noText as_notShape_emptyText as_notShape_oneLetter as_notShape_anyLetter as_notShape_thenShape as_notShape_eitherShape as_notShape_manyShape as_notShape_notShape
set_option maxRecDepth 100000 in
set_option maxHeartbeats 1000000 in
theorem isNone_any : ∀ (x : Sh) (w : World) (bb : Bool), (bb = true ↔ kd x = 1) → Calls Try.prog 150 #[sv x] w fun e w' => e = .returned (.bool bb) ∧ Below w.heap.size w w'
  | .none, w, bb, h => by
    obtain rfl : bb = true := by cases bb <;> simp [kd] at h <;> rfl
    show Calls Try.prog 150 #[.iface 175 (.agg #[])] w _
    clear h
    go_enter Try.func150, Try.ntmps150
    go_wp2
    go_ret
    exact ⟨rfl, (Below.refl _ _).alloc (Nat.le_refl _) _⟩
  | .empty, w, bb, h => by
    obtain rfl : bb = false := by cases bb <;> simp [kd] at h <;> rfl
    show Calls Try.prog 150 #[.iface 162 (.agg #[])] w _
    clear h
    go_enter Try.func150, Try.ntmps150
    go_wp2
    go_ret
    exact ⟨rfl, (Below.refl _ _).alloc (Nat.le_refl _) _⟩
  | .letter c, w, bb, h => by
    obtain rfl : bb = false := by cases bb <;> simp [kd] at h <;> rfl
    show Calls Try.prog 150 #[.iface 170 (.agg #[.int .u8 c])] w _
    clear h
    go_enter Try.func150, Try.ntmps150
    go_wp2
    go_ret
    exact ⟨rfl, (Below.refl _ _).alloc (Nat.le_refl _) _⟩
  | .any, w, bb, h => by
    obtain rfl : bb = false := by cases bb <;> simp [kd] at h <;> rfl
    show Calls Try.prog 150 #[.iface 173 (.agg #[])] w _
    clear h
    go_enter Try.func150, Try.ntmps150
    go_wp2
    go_ret
    exact ⟨rfl, (Below.refl _ _).alloc (Nat.le_refl _) _⟩
  | .seq a b, w, bb, h => by
    obtain rfl : bb = false := by cases bb <;> simp [kd] at h <;> rfl
    show Calls Try.prog 150 #[.iface 166 (.agg #[sv a, sv b])] w _
    clear h
    go_enter Try.func150, Try.ntmps150
    go_wp2
    go_ret
    exact ⟨rfl, (Below.refl _ _).alloc (Nat.le_refl _) _⟩
  | .alt a b, w, bb, h => by
    obtain rfl : bb = false := by cases bb <;> simp [kd] at h <;> rfl
    show Calls Try.prog 150 #[.iface 167 (.agg #[sv a, sv b])] w _
    clear h
    go_enter Try.func150, Try.ntmps150
    go_wp2
    go_ret
    exact ⟨rfl, (Below.refl _ _).alloc (Nat.le_refl _) _⟩
  | .many a, w, bb, h => by
    obtain rfl : bb = false := by cases bb <;> simp [kd] at h <;> rfl
    show Calls Try.prog 150 #[.iface 164 (.agg #[sv a])] w _
    clear h
    go_enter Try.func150, Try.ntmps150
    go_wp2
    go_ret
    exact ⟨rfl, (Below.refl _ _).alloc (Nat.le_refl _) _⟩
  | .inv a, w, bb, h => by
    obtain rfl : bb = false := by cases bb <;> simp [kd] at h <;> rfl
    show Calls Try.prog 150 #[.iface 168 (.agg #[sv a])] w _
    clear h
    go_enter Try.func150, Try.ntmps150
    go_wp2
    go_ret
    exact ⟨rfl, (Below.refl _ _).alloc (Nat.le_refl _) _⟩
set_option maxRecDepth 100000 in
set_option maxHeartbeats 1000000 in
theorem isEmpty_any : ∀ (x : Sh) (w : World) (bb : Bool), (bb = true ↔ kd x = 2) → Calls Try.prog 151 #[sv x] w fun e w' => e = .returned (.bool bb) ∧ Below w.heap.size w w'
  | .none, w, bb, h => by
    obtain rfl : bb = false := by cases bb <;> simp [kd] at h <;> rfl
    show Calls Try.prog 151 #[.iface 175 (.agg #[])] w _
    clear h
    go_enter Try.func151, Try.ntmps151
    go_wp2
    go_ret
    exact ⟨rfl, (Below.refl _ _).alloc (Nat.le_refl _) _⟩
  | .empty, w, bb, h => by
    obtain rfl : bb = true := by cases bb <;> simp [kd] at h <;> rfl
    show Calls Try.prog 151 #[.iface 162 (.agg #[])] w _
    clear h
    go_enter Try.func151, Try.ntmps151
    go_wp2
    go_ret
    exact ⟨rfl, (Below.refl _ _).alloc (Nat.le_refl _) _⟩
  | .letter c, w, bb, h => by
    obtain rfl : bb = false := by cases bb <;> simp [kd] at h <;> rfl
    show Calls Try.prog 151 #[.iface 170 (.agg #[.int .u8 c])] w _
    clear h
    go_enter Try.func151, Try.ntmps151
    go_wp2
    go_ret
    exact ⟨rfl, (Below.refl _ _).alloc (Nat.le_refl _) _⟩
  | .any, w, bb, h => by
    obtain rfl : bb = false := by cases bb <;> simp [kd] at h <;> rfl
    show Calls Try.prog 151 #[.iface 173 (.agg #[])] w _
    clear h
    go_enter Try.func151, Try.ntmps151
    go_wp2
    go_ret
    exact ⟨rfl, (Below.refl _ _).alloc (Nat.le_refl _) _⟩
  | .seq a b, w, bb, h => by
    obtain rfl : bb = false := by cases bb <;> simp [kd] at h <;> rfl
    show Calls Try.prog 151 #[.iface 166 (.agg #[sv a, sv b])] w _
    clear h
    go_enter Try.func151, Try.ntmps151
    go_wp2
    go_ret
    exact ⟨rfl, (Below.refl _ _).alloc (Nat.le_refl _) _⟩
  | .alt a b, w, bb, h => by
    obtain rfl : bb = false := by cases bb <;> simp [kd] at h <;> rfl
    show Calls Try.prog 151 #[.iface 167 (.agg #[sv a, sv b])] w _
    clear h
    go_enter Try.func151, Try.ntmps151
    go_wp2
    go_ret
    exact ⟨rfl, (Below.refl _ _).alloc (Nat.le_refl _) _⟩
  | .many a, w, bb, h => by
    obtain rfl : bb = false := by cases bb <;> simp [kd] at h <;> rfl
    show Calls Try.prog 151 #[.iface 164 (.agg #[sv a])] w _
    clear h
    go_enter Try.func151, Try.ntmps151
    go_wp2
    go_ret
    exact ⟨rfl, (Below.refl _ _).alloc (Nat.le_refl _) _⟩
  | .inv a, w, bb, h => by
    obtain rfl : bb = false := by cases bb <;> simp [kd] at h <;> rfl
    show Calls Try.prog 151 #[.iface 168 (.agg #[sv a])] w _
    clear h
    go_enter Try.func151, Try.ntmps151
    go_wp2
    go_ret
    exact ⟨rfl, (Below.refl _ _).alloc (Nat.le_refl _) _⟩
theorem ret_val5 {u v : Value} (h : u = v) : Ending.returned u = .returned v := by rw [h]
set_option maxRecDepth 100000 in
set_option maxHeartbeats 2000000 in
theorem oneThen_any (a b : Sh) (w : World) : Calls Try.prog 133 #[sv a, sv b] w fun e w' => e = .returned (sv (oT a b)) ∧ Below w.heap.size w w' := by
  by_cases ha1 : kd a = 1
  · have C1 := hide (fun w => isNone_any a w true (iff_of_true rfl ha1))
    have HR : Hid (oT a b = .none) := hide (by unfold oT; rw [if_pos (.inl ha1)])
    rw [HR.out]
    show Calls Try.prog 133 #[sv a, sv b] w fun e w' => e = .returned (.iface 175 (.agg #[])) ∧ Below w.heap.size w w'
    clear ha1
    go_enter Try.func133, Try.ntmps133
    go_wp2_with fail
    refine (C1.out _).mono ?_
    rintro e w1 ⟨rfl, hb⟩
    have B1 := hide (hb)
    clear hb
    go_wp2
    go_ret
    exact ⟨rfl, B1.out⟩
  have D1 := hide (fun w => isNone_any a w false (iff_of_false (by simp) ha1))
  by_cases hb1 : kd b = 1
  · have C2 := hide (fun w => isNone_any b w true (iff_of_true rfl hb1))
    have HR : Hid (oT a b = .none) := hide (by unfold oT; rw [if_pos (.inr hb1)])
    rw [HR.out]
    show Calls Try.prog 133 #[sv a, sv b] w fun e w' => e = .returned (.iface 175 (.agg #[])) ∧ Below w.heap.size w w'
    clear ha1 hb1
    go_enter Try.func133, Try.ntmps133
    go_wp2_with fail
    refine (D1.out _).mono ?_
    rintro e w1 ⟨rfl, hb⟩
    have B1 := hide (hb)
    clear hb
    go_wp2_with fail
    refine (C2.out _).mono ?_
    rintro e w2 ⟨rfl, hb⟩
    have B2 := hide (B1.out.trans (hb.mono B1.out.size))
    clear hb
    go_wp2
    go_ret
    exact ⟨rfl, B2.out⟩
  have D2 := hide (fun w => isNone_any b w false (iff_of_false (by simp) hb1))
  by_cases ha2 : kd a = 2
  · have C3 := hide (fun w => isEmpty_any a w true (iff_of_true rfl ha2))
    have HR : Hid (oT a b = b) := hide (by unfold oT; rw [if_neg (by omega), if_pos ha2])
    rw [HR.out]
    clear ha1 hb1 ha2
    go_enter Try.func133, Try.ntmps133
    go_wp2_with fail
    refine (D1.out _).mono ?_
    rintro e w1 ⟨rfl, hb⟩
    have B1 := hide (hb)
    clear hb
    go_wp2_with fail
    refine (D2.out _).mono ?_
    rintro e w2 ⟨rfl, hb⟩
    have B2 := hide (B1.out.trans (hb.mono B1.out.size))
    clear hb
    go_wp2_with fail
    refine (C3.out _).mono ?_
    rintro e w3 ⟨rfl, hb⟩
    have B3 := hide (B2.out.trans (hb.mono B2.out.size))
    clear hb
    go_wp2
    go_ret
    exact ⟨rfl, B3.out⟩
  have D3 := hide (fun w => isEmpty_any a w false (iff_of_false (by simp) ha2))
  by_cases hb2 : kd b = 2
  · have C4 := hide (fun w => isEmpty_any b w true (iff_of_true rfl hb2))
    have HR : Hid (oT a b = a) := hide (by unfold oT; rw [if_neg (by omega), if_neg ha2, if_pos hb2])
    rw [HR.out]
    clear ha1 hb1 ha2 hb2
    go_enter Try.func133, Try.ntmps133
    go_wp2_with fail
    refine (D1.out _).mono ?_
    rintro e w1 ⟨rfl, hb⟩
    have B1 := hide (hb)
    clear hb
    go_wp2_with fail
    refine (D2.out _).mono ?_
    rintro e w2 ⟨rfl, hb⟩
    have B2 := hide (B1.out.trans (hb.mono B1.out.size))
    clear hb
    go_wp2_with fail
    refine (D3.out _).mono ?_
    rintro e w3 ⟨rfl, hb⟩
    have B3 := hide (B2.out.trans (hb.mono B2.out.size))
    clear hb
    go_wp2_with fail
    refine (C4.out _).mono ?_
    rintro e w4 ⟨rfl, hb⟩
    have B4 := hide (B3.out.trans (hb.mono B3.out.size))
    clear hb
    go_wp2
    go_ret
    exact ⟨rfl, B4.out⟩
  have D4 := hide (fun w => isEmpty_any b w false (iff_of_false (by simp) hb2))
  have HR : Hid (oT a b = .seq a b) := hide (by unfold oT; rw [if_neg (by omega), if_neg ha2, if_neg hb2])
  rw [HR.out]
  show Calls Try.prog 133 #[sv a, sv b] w fun e w' => e = .returned (.iface 166 (.agg #[sv a, sv b])) ∧ Below w.heap.size w w'
  clear ha1 hb1 ha2 hb2
  go_enter Try.func133, Try.ntmps133
  go_wp2_with fail
  refine (D1.out _).mono ?_
  rintro e w1 ⟨rfl, hb⟩
  have B1 := hide (hb)
  clear hb
  go_wp2_with fail
  refine (D2.out _).mono ?_
  rintro e w2 ⟨rfl, hb⟩
  have B2 := hide (B1.out.trans (hb.mono B1.out.size))
  clear hb
  go_wp2_with fail
  refine (D3.out _).mono ?_
  rintro e w3 ⟨rfl, hb⟩
  have B3 := hide (B2.out.trans (hb.mono B2.out.size))
  clear hb
  go_wp2_with fail
  refine (D4.out _).mono ?_
  rintro e w4 ⟨rfl, hb⟩
  have B4 := hide (B3.out.trans (hb.mono B3.out.size))
  clear hb
  go_wp2
  go_ret
  exact ⟨rfl, B4.out⟩
set_option maxRecDepth 100000 in
set_option maxHeartbeats 2000000 in
theorem oneOr_any (a b : Sh) (w : World) : Calls Try.prog 134 #[sv a, sv b] w fun e w' => e = .returned (sv (oO a b)) ∧ Below w.heap.size w w' := by
  by_cases ha1 : kd a = 1
  · have C1 := hide (fun w => isNone_any a w true (iff_of_true rfl ha1))
    have HR : Hid (oO a b = b) := hide (by unfold oO; rw [if_pos ha1])
    rw [HR.out]
    clear ha1
    go_enter Try.func134, Try.ntmps134
    go_wp2_with fail
    refine (C1.out _).mono ?_
    rintro e w1 ⟨rfl, hb⟩
    have B1 := hide (hb)
    clear hb
    go_wp2
    go_ret
    exact ⟨rfl, B1.out⟩
  have D1 := hide (fun w => isNone_any a w false (iff_of_false (by simp) ha1))
  by_cases hb1 : kd b = 1
  · have C2 := hide (fun w => isNone_any b w true (iff_of_true rfl hb1))
    have HR : Hid (oO a b = a) := hide (by unfold oO; rw [if_neg ha1, if_pos hb1])
    rw [HR.out]
    clear ha1 hb1
    go_enter Try.func134, Try.ntmps134
    go_wp2_with fail
    refine (D1.out _).mono ?_
    rintro e w1 ⟨rfl, hb⟩
    have B1 := hide (hb)
    clear hb
    go_wp2_with fail
    refine (C2.out _).mono ?_
    rintro e w2 ⟨rfl, hb⟩
    have B2 := hide (B1.out.trans (hb.mono B1.out.size))
    clear hb
    go_wp2
    go_ret
    exact ⟨rfl, B2.out⟩
  have D2 := hide (fun w => isNone_any b w false (iff_of_false (by simp) hb1))
  have HR : Hid (oO a b = .alt a b) := hide (by unfold oO; rw [if_neg ha1, if_neg hb1])
  rw [HR.out]
  show Calls Try.prog 134 #[sv a, sv b] w fun e w' => e = .returned (.iface 167 (.agg #[sv a, sv b])) ∧ Below w.heap.size w w'
  clear ha1 hb1
  go_enter Try.func134, Try.ntmps134
  go_wp2_with fail
  refine (D1.out _).mono ?_
  rintro e w1 ⟨rfl, hb⟩
  have B1 := hide (hb)
  clear hb
  go_wp2_with fail
  refine (D2.out _).mono ?_
  rintro e w2 ⟨rfl, hb⟩
  have B2 := hide (B1.out.trans (hb.mono B1.out.size))
  clear hb
  go_wp2
  go_ret
  exact ⟨rfl, B2.out⟩
set_option maxRecDepth 100000 in
set_option maxHeartbeats 8000000 in
theorem leftOf_any (c : Int) : ∀ (x : Sh) (w : World), Calls Try.prog 95 #[sv x, .int .u8 c] w fun e w' => e = .returned (sv (left x c)) ∧ Below w.heap.size w w'
  | .none, w => by
    show Calls Try.prog 95 #[.iface 175 (.agg #[]), .int .u8 c] w fun e w' => e = .returned (.iface 175 (.agg #[])) ∧ Below w.heap.size w w'
    go_enter Try.func95, Try.ntmps95
    go_wp2
    go_ret
    exact ⟨rfl, Below.refl _ _⟩
  | .empty, w => by
    show Calls Try.prog 95 #[.iface 162 (.agg #[]), .int .u8 c] w fun e w' => e = .returned (.iface 175 (.agg #[])) ∧ Below w.heap.size w w'
    go_enter Try.func95, Try.ntmps95
    go_wp2
    go_ret
    exact ⟨rfl, Below.refl _ _⟩
  | .any, w => by
    show Calls Try.prog 95 #[.iface 173 (.agg #[]), .int .u8 c] w fun e w' => e = .returned (.iface 162 (.agg #[])) ∧ Below w.heap.size w w'
    go_enter Try.func95, Try.ntmps95
    go_wp2
    go_ret
    exact ⟨rfl, (Below.refl _ _).alloc (Nat.le_refl _) _⟩
  | .letter d, w => by
    by_cases h : d = c
    · subst h
      have HR : Hid (left (.letter d) d = .empty) := hide (by simp [left])
      rw [HR.out]
      show Calls Try.prog 95 #[.iface 170 (.agg #[.int .u8 d]), .int .u8 d] w fun e w' => e = .returned (.iface 162 (.agg #[])) ∧ Below w.heap.size w w'
      go_enter Try.func95, Try.ntmps95
      go_wp2
      go_ret
      exact ⟨rfl, (Below.refl _ _).alloc (Nat.le_refl _) _⟩
    · have HR : Hid (left (.letter d) c = .none) := hide (by simp [left, h])
      have hne : (d == c) = false := by simpa using h
      rw [HR.out]
      show Calls Try.prog 95 #[.iface 170 (.agg #[.int .u8 d]), .int .u8 c] w fun e w' => e = .returned (.iface 175 (.agg #[])) ∧ Below w.heap.size w w'
      clear h
      go_enter Try.func95, Try.ntmps95
      go_wp2
      go_ret
      exact ⟨rfl, (Below.refl _ _).alloc (Nat.le_refl _) _⟩
  | .seq a b, w => by
    have IA := hide (leftOf_any c a)
    have IB := hide (leftOf_any c b)
    have HR : Hid (left (.seq a b) c = if nul a = true then oO (oT (left a c) b) (left b c) else oT (left a c) b) := hide rfl
    have HR2 := HR.out
    obtain ⟨X, hX⟩ : ∃ X, X = left (.seq a b) c := ⟨_, rfl⟩
    rw [← hX] at HR2 ⊢
    clear hX HR
    obtain ⟨A, hA⟩ : ∃ A, A = left a c := ⟨_, rfl⟩
    obtain ⟨B, hB⟩ : ∃ B, B = left b c := ⟨_, rfl⟩
    simp only [← hA] at IA HR2
    simp only [← hB] at IB HR2
    have IT := hide (oneThen_any A b)
    obtain ⟨Y, hY⟩ : ∃ Y, Y = oT A b := ⟨_, rfl⟩
    simp only [← hY] at IT HR2
    have HE := hide (hasEmpty_any a)
    clear hA hB hY
    show Calls Try.prog 95 #[.iface 166 (.agg #[sv a, sv b]), .int .u8 c] w fun e w' => e = .returned (sv X) ∧ Below w.heap.size w w'
    obtain ⟨W, hW⟩ : ∃ W, W = w.alloc (.cells #[sv a, sv b] 166) := ⟨_, rfl⟩
    have HB0 : Hid (Below w.heap.size w W) := hide (by rw [hW]; exact (Below.refl _ _).alloc (Nat.le_refl _) _)
    have c0 : W.cell? ⟨w.heap.size, 0, none⟩ = some (sv a) := by rw [hW]; simp
    have c1 : W.cell? ⟨w.heap.size, 1, none⟩ = some (sv b) := by rw [hW]; simp
    cases hn : nul a with
    | true =>
      rw [hn, if_pos rfl] at HR2
      have HX := hide HR2
      rw [hn] at HE
      clear HR2 hn
      go_enter Try.func95, Try.ntmps95
      go_wp2
      rw [← hW]
      clear hW
      go_region_held3 (fun wx => (wx.cell? ⟨w.heap.size, 0, none⟩ = some (sv a) ∧ wx.cell? ⟨w.heap.size, 1, none⟩ = some (sv b)) ∧ Below W.heap.size W wx) (first | exact ⟨⟨c0, c1⟩, (Below.refl _ _).drew⟩ | exact keep1T (by assumption) (by assumption) (Nat.le_refl _)) (first | (go_at_call_of 95 (sv a); refine (IA.out _).mono ?_; rintro e w1 ⟨rfl, hb⟩) | (go_at_call 133; refine (IT.out _).mono ?_; rintro e w1 ⟨rfl, hb⟩))
      rename_i hHeld
      have d0 := hHeld.1.1
      have d1 := hHeld.1.2
      have B1 := hide (HB0.out.trans (hHeld.2.mono HB0.out.size))
      have HD := hide (And.intro hHeld.1.2 (blk_lt hHeld.1.2))
      clear hHeld c0 c1 d1
      go_wp2_with fail
      refine (HE.out _).mono ?_
      rintro e w2 ⟨rfl, hb2⟩
      have e1 := (hb2.cell (p := ⟨w.heap.size, 1, none⟩) HD.out.2).trans HD.out.1
      have B2 := hide (B1.out.trans (hb2.mono B1.out.size))
      clear hb2 d0
      go_wp2_with fail
      refine (IB.out _).mono ?_
      rintro e w3 ⟨rfl, hb3⟩
      have B3 := hide (B2.out.trans (hb3.mono B2.out.size))
      clear hb3 e1
      go_wp2_with fail
      refine (oneOr_any Y B _).mono ?_
      rintro e w4 ⟨rfl, hb4⟩
      have B4 := hide (B3.out.trans (hb4.mono B3.out.size))
      clear hb4
      go_wp2
      go_ret
      exact ⟨by rw [HX.out]; rfl, B4.out⟩
    | false =>
      rw [hn, if_neg (by simp)] at HR2
      have HX := hide HR2
      rw [hn] at HE
      clear HR2 hn
      go_enter Try.func95, Try.ntmps95
      go_wp2
      rw [← hW]
      clear hW
      go_region_held3 (fun wx => (wx.cell? ⟨w.heap.size, 0, none⟩ = some (sv a) ∧ wx.cell? ⟨w.heap.size, 1, none⟩ = some (sv b)) ∧ Below W.heap.size W wx) (first | exact ⟨⟨c0, c1⟩, (Below.refl _ _).drew⟩ | exact keep1T (by assumption) (by assumption) (Nat.le_refl _)) (first | (go_at_call_of 95 (sv a); refine (IA.out _).mono ?_; rintro e w1 ⟨rfl, hb⟩) | (go_at_call 133; refine (IT.out _).mono ?_; rintro e w1 ⟨rfl, hb⟩))
      rename_i hHeld
      have d0 := hHeld.1.1
      have B1 := hide (HB0.out.trans (hHeld.2.mono HB0.out.size))
      clear hHeld c0 c1
      go_wp2_with fail
      refine (HE.out _).mono ?_
      rintro e w2 ⟨rfl, hb2⟩
      have B2 := hide (B1.out.trans (hb2.mono B1.out.size))
      clear hb2 d0
      go_wp2
      go_ret
      exact ⟨by rw [HX.out]; rfl, B2.out⟩
  | .alt a b, w => by
    have IA := hide (leftOf_any c a)
    have IB := hide (leftOf_any c b)
    have HR : Hid (left (.alt a b) c = oO (left a c) (left b c)) := hide rfl
    rw [HR.out]
    clear HR
    obtain ⟨A, hA⟩ : ∃ A, A = left a c := ⟨_, rfl⟩
    obtain ⟨B, hB⟩ : ∃ B, B = left b c := ⟨_, rfl⟩
    simp only [← hA] at IA ⊢
    simp only [← hB] at IB ⊢
    have IT := hide (oneOr_any A B)
    obtain ⟨Y, hY⟩ : ∃ Y, Y = oO A B := ⟨_, rfl⟩
    simp only [← hY] at IT ⊢
    clear hA hB hY
    show Calls Try.prog 95 #[.iface 167 (.agg #[sv a, sv b]), .int .u8 c] w fun e w' => e = .returned (sv Y) ∧ Below w.heap.size w w'
    obtain ⟨W, hW⟩ : ∃ W, W = w.alloc (.cells #[sv a, sv b] 167) := ⟨_, rfl⟩
    have HB0 : Hid (Below w.heap.size w W) := hide (by rw [hW]; exact (Below.refl _ _).alloc (Nat.le_refl _) _)
    have c0 : W.cell? ⟨w.heap.size, 0, none⟩ = some (sv a) := by rw [hW]; simp
    have c1 : W.cell? ⟨w.heap.size, 1, none⟩ = some (sv b) := by rw [hW]; simp
    go_enter Try.func95, Try.ntmps95
    go_wp2
    rw [← hW]
    clear hW
    go_region_held3 (fun wx => (wx.cell? ⟨w.heap.size, 0, none⟩ = some (sv a) ∧ wx.cell? ⟨w.heap.size, 1, none⟩ = some (sv b)) ∧ Below W.heap.size W wx) (first | exact ⟨⟨c0, c1⟩, (Below.refl _ _).drew⟩ | exact keep1T (by assumption) (by assumption) (Nat.le_refl _)) (first | (go_at_call_of 95 (sv a); refine (IA.out _).mono ?_; rintro e w1 ⟨rfl, hb⟩) | (go_at_call_of 95 (sv b); refine (IB.out _).mono ?_; rintro e w1 ⟨rfl, hb⟩) | (go_at_call 134; refine (IT.out _).mono ?_; rintro e w1 ⟨rfl, hb⟩))
    rename_i hHeld
    have B1 := hide (HB0.out.trans (hHeld.2.mono HB0.out.size))
    clear hHeld c0 c1
    go_wp2
    go_ret
    exact ⟨rfl, B1.out⟩
  | .many a, w => by
    have IA := hide (leftOf_any c a)
    have HR : Hid (left (.many a) c = oT (left a c) (.many a)) := hide rfl
    rw [HR.out]
    clear HR
    obtain ⟨A, hA⟩ : ∃ A, A = left a c := ⟨_, rfl⟩
    simp only [← hA] at IA ⊢
    have it : ∀ w, Calls Try.prog 133 #[sv A, .iface 164 (.agg #[sv a])] w fun e w' => e = .returned (sv (oT A (.many a))) ∧ Below w.heap.size w w' := oneThen_any A (.many a)
    obtain ⟨Y, hY⟩ : ∃ Y, Y = oT A (.many a) := ⟨_, rfl⟩
    simp only [← hY] at it ⊢
    have IT := hide it
    clear hA hY it
    show Calls Try.prog 95 #[.iface 164 (.agg #[sv a]), .int .u8 c] w fun e w' => e = .returned (sv Y) ∧ Below w.heap.size w w'
    obtain ⟨W, hW⟩ : ∃ W, W = w.alloc (.cells #[sv a] 164) := ⟨_, rfl⟩
    have HB0 : Hid (Below w.heap.size w W) := hide (by rw [hW]; exact (Below.refl _ _).alloc (Nat.le_refl _) _)
    have c0 : W.cell? ⟨w.heap.size, 0, none⟩ = some (sv a) := by rw [hW]; simp
    go_enter Try.func95, Try.ntmps95
    go_wp2
    rw [← hW]
    clear hW
    go_region_held3 (fun wx => (wx.cell? ⟨w.heap.size, 0, none⟩ = some (sv a) ∧ wx.cell? ⟨w.heap.size, 0, none⟩ = some (sv a)) ∧ Below W.heap.size W wx) (first | exact ⟨⟨c0, c0⟩, (Below.refl _ _).drew⟩ | exact keep1T (by assumption) (by assumption) (Nat.le_refl _)) (first | (go_at_call_of 95 (sv a); refine (IA.out _).mono ?_; rintro e w1 ⟨rfl, hb⟩) | (go_at_call 133; refine (IT.out _).mono ?_; rintro e w1 ⟨rfl, hb⟩))
    rename_i hHeld
    have B1 := hide (HB0.out.trans (hHeld.2.mono HB0.out.size))
    clear hHeld c0
    go_wp2
    go_ret
    exact ⟨rfl, B1.out⟩
  | .inv a, w => by
    have IA := hide (leftOf_any c a)
    obtain ⟨A, hA⟩ : ∃ A, A = left a c := ⟨_, rfl⟩
    simp only [← hA] at IA
    have HR : Hid (left (.inv a) c = .inv A) := hide (by rw [hA]; rfl)
    rw [HR.out]
    clear HR hA
    show Calls Try.prog 95 #[.iface 168 (.agg #[sv a]), .int .u8 c] w fun e w' => e = .returned (.iface 168 (.agg #[sv A])) ∧ Below w.heap.size w w'
    have HB0 := hide ((Below.refl w.heap.size w).alloc (Nat.le_refl _) (.cells #[sv a] 168))
    go_enter Try.func95, Try.ntmps95
    go_wp2_with fail
    refine (IA.out _).mono ?_
    rintro e w1 ⟨rfl, hb1⟩
    have B1 := hide (HB0.out.trans (hb1.mono HB0.out.size))
    clear hb1
    go_wp2
    go_ret
    exact ⟨rfl, B1.out⟩
end Go.Proofs.Ytapffbbmofhpoab.L5

namespace Go.Proofs.Ytapffbbmofhpoab.L5
open Go.RowKit L1 L4
set_option linter.unusedVariables false

set_option maxRecDepth 100000 in
set_option maxHeartbeats 4000000 in
theorem l5Empty_any (S : Nat → Prop) : ∀ (x : Sh) (p : Option Addr) (w : World), Tr w S p x → Calls Try.prog 90 #[.pointer p] w fun e w' => e = .returned (.bool (nul x)) ∧ w = w'
  | .none, p, w, ⟨g, pa, pb, e, _, hf⟩ => by
    subst e
    have c0 := hf.k
    have c2 := hf.a
    have c3 := hf.b
    clear hf
    go_enter Try.func90, Try.ntmps90
    go_wp2
    go_ret
    exact ⟨rfl, rfl⟩
  | .empty, p, w, ⟨g, pa, pb, e, _, hf⟩ => by
    subst e
    have c0 := hf.k
    have c2 := hf.a
    have c3 := hf.b
    clear hf
    go_enter Try.func90, Try.ntmps90
    go_wp2
    go_ret
    exact ⟨rfl, rfl⟩
  | .letter c, p, w, ⟨g, pa, pb, e, _, hf⟩ => by
    subst e
    have c0 := hf.k
    have c2 := hf.a
    have c3 := hf.b
    clear hf
    go_enter Try.func90, Try.ntmps90
    go_wp2
    go_ret
    exact ⟨rfl, rfl⟩
  | .any, p, w, ⟨g, pa, pb, e, _, hf⟩ => by
    subst e
    have c0 := hf.k
    have c2 := hf.a
    have c3 := hf.b
    clear hf
    go_enter Try.func90, Try.ntmps90
    go_wp2
    go_ret
    exact ⟨rfl, rfl⟩
  | .seq a b, p, w, ⟨g, pa, pb, e, _, hf, ha, hb⟩ => by
    subst e
    have c0 := hf.k
    have c2 := hf.a
    have c3 := hf.b
    have IA := hide (l5Empty_any S a pa w ha)
    have IB := hide (l5Empty_any S b pb w hb)
    clear hf ha hb
    cases hn : nul a with
    | true =>
      have HA := hide hn
      clear hn
      go_enter Try.func90, Try.ntmps90
      go_wp2_with fail
      refine IA.out.mono ?_
      rintro e w1 ⟨rfl, rfl⟩
      rw [HA.out]
      go_wp2_with fail
      refine IB.out.mono ?_
      rintro e w2 ⟨rfl, rfl⟩
      go_wp2
      go_ret
      exact ⟨ret_boolE (by simp [nul, HA.out]), rfl⟩
    | false =>
      have HA := hide hn
      clear hn
      go_enter Try.func90, Try.ntmps90
      go_wp2_with fail
      refine IA.out.mono ?_
      rintro e w1 ⟨rfl, rfl⟩
      rw [HA.out]
      go_wp2
      go_ret
      exact ⟨ret_boolE (by simp [nul, HA.out]), rfl⟩
  | .alt a b, p, w, ⟨g, pa, pb, e, _, hf, ha, hb⟩ => by
    subst e
    have c0 := hf.k
    have c2 := hf.a
    have c3 := hf.b
    have IA := hide (l5Empty_any S a pa w ha)
    have IB := hide (l5Empty_any S b pb w hb)
    clear hf ha hb
    cases hn : nul a with
    | false =>
      have HA := hide hn
      clear hn
      go_enter Try.func90, Try.ntmps90
      go_wp2_with fail
      refine IA.out.mono ?_
      rintro e w1 ⟨rfl, rfl⟩
      rw [HA.out]
      go_wp2_with fail
      refine IB.out.mono ?_
      rintro e w2 ⟨rfl, rfl⟩
      go_wp2
      go_ret
      exact ⟨ret_boolE (by simp [nul, HA.out]), rfl⟩
    | true =>
      have HA := hide hn
      clear hn
      go_enter Try.func90, Try.ntmps90
      go_wp2_with fail
      refine IA.out.mono ?_
      rintro e w1 ⟨rfl, rfl⟩
      rw [HA.out]
      go_wp2
      go_ret
      exact ⟨ret_boolE (by simp [nul, HA.out]), rfl⟩
  | .many a, p, w, ⟨g, pa, pb, e, _, hf, ha⟩ => by
    subst e
    have c0 := hf.k
    have c2 := hf.a
    have c3 := hf.b
    clear hf
    go_enter Try.func90, Try.ntmps90
    go_wp2
    go_ret
    exact ⟨rfl, rfl⟩
  | .inv a, p, w, ⟨g, pa, pb, e, _, hf, ha⟩ => by
    subst e
    have c0 := hf.k
    have c2 := hf.a
    have c3 := hf.b
    have IA := hide (l5Empty_any S a pa w ha)
    clear hf ha
    go_enter Try.func90, Try.ntmps90
    go_wp2_with fail
    refine IA.out.mono ?_
    rintro e w1 ⟨rfl, rfl⟩
    go_wp2
    go_ret
    exact ⟨rfl, rfl⟩
end Go.Proofs.Ytapffbbmofhpoab.L5

namespace Go.Proofs.Ytapffbbmofhpoab.L5
open Go.RowKit L1 L4
set_option linter.unusedVariables false

abbrev Any : Nat → Prop := fun _ => True
theorem Tr.any {w : World} {S : Nat → Prop} {x : Sh} {p : Option Addr} (h : Tr w S p x) : Tr w Any p x := h.mono (fun _ _ => trivial)
set_option maxRecDepth 100000 in
set_option maxHeartbeats 2000000 in
theorem l5Then_any (a b : Sh) (pa pb : Option Addr) (w : World) (ta : Tr w Any pa a) (tb : Tr w Any pb b) : Calls Try.prog 135 #[.pointer pa, .pointer pb] w fun e w' => RetU w (oT a b) e w' := by
  obtain ⟨ga, xa, ya, rfl, _, na⟩ := ta.node
  obtain ⟨gb, xb, yb, rfl, _, nb⟩ := tb.node
  have ca := na.k
  have cb := nb.k
  have TA := hide ta
  have TB := hide tb
  clear na nb ta tb
  obtain ⟨X, hX⟩ : ∃ X, X = oT a b := ⟨_, rfl⟩
  unfold oT at hX
  rw [show oT a b = X from by rw [hX]; rfl]
  obtain ⟨ka, hka⟩ : ∃ k, k = kd a := ⟨_, rfl⟩
  obtain ⟨kb, hkb⟩ : ∃ k, k = kd b := ⟨_, rfl⟩
  rw [← hka] at hX ca
  rw [← hkb] at hX cb
  clear hka hkb
  have HX := hide hX
  clear hX
  by_cases ha1 : ka = 1
  · subst ha1
    have HX2 : Hid (X = .none) := hide (by rw [HX.out, if_pos (.inl rfl)])
    go_enter Try.func135, Try.ntmps135
    go_wp2
    go_ret
    exact ⟨_, rfl, by rw [HX2.out]; exact ⟨_, _, _, rfl, trivial, (FB.new _ _ _ _ _).at⟩, (Below.refl _ _).alloc (Nat.le_refl _) _⟩
  have ea1 : (ka == 1) = false := by simpa using ha1
  by_cases hb1 : kb = 1
  · subst hb1
    have HX2 : Hid (X = .none) := hide (by rw [HX.out, if_pos (.inr rfl)])
    go_enter Try.func135, Try.ntmps135
    go_wp2
    go_ret
    exact ⟨_, rfl, by rw [HX2.out]; exact ⟨_, _, _, rfl, trivial, (FB.new _ _ _ _ _).at⟩, (Below.refl _ _).alloc (Nat.le_refl _) _⟩
  have eb1 : (kb == 1) = false := by simpa using hb1
  by_cases ha2 : ka = 2
  · subst ha2
    have HX2 : Hid (X = b) := hide (by rw [HX.out, if_neg (by omega), if_pos rfl])
    clear ha1 hb1
    go_enter Try.func135, Try.ntmps135
    go_wp2
    go_ret
    exact ⟨_, rfl, by rw [HX2.out]; exact TB.out, Below.refl _ _⟩
  have ea2 : (ka == 2) = false := by simpa using ha2
  by_cases hb2 : kb = 2
  · subst hb2
    have HX2 : Hid (X = a) := hide (by rw [HX.out, if_neg (by omega), if_neg ha2, if_pos rfl])
    clear ha1 hb1 ha2
    go_enter Try.func135, Try.ntmps135
    go_wp2
    go_ret
    exact ⟨_, rfl, by rw [HX2.out]; exact TA.out, Below.refl _ _⟩
  have eb2 : (kb == 2) = false := by simpa using hb2
  have HX2 : Hid (X = .seq a b) := hide (by rw [HX.out, if_neg (by omega), if_neg ha2, if_neg hb2])
  clear ha1 hb1 ha2 hb2
  go_enter Try.func135, Try.ntmps135
  go_wp2
  go_ret
  exact ⟨_, rfl, by rw [HX2.out]; exact ⟨_, _, _, rfl, trivial, (FB.new _ _ _ _ _).at, TA.out.below ((Below.refl _ _).alloc (Nat.le_refl _) _), TB.out.below ((Below.refl _ _).alloc (Nat.le_refl _) _)⟩, (Below.refl _ _).alloc (Nat.le_refl _) _⟩
set_option maxRecDepth 100000 in
set_option maxHeartbeats 2000000 in
theorem l5Either_any (a b : Sh) (pa pb : Option Addr) (w : World) (ta : Tr w Any pa a) (tb : Tr w Any pb b) : Calls Try.prog 136 #[.pointer pa, .pointer pb] w fun e w' => RetU w (oO a b) e w' := by
  obtain ⟨ga, xa, ya, rfl, _, na⟩ := ta.node
  obtain ⟨gb, xb, yb, rfl, _, nb⟩ := tb.node
  have ca := na.k
  have cb := nb.k
  have TA := hide ta
  have TB := hide tb
  clear na nb ta tb
  obtain ⟨X, hX⟩ : ∃ X, X = oO a b := ⟨_, rfl⟩
  unfold oO at hX
  rw [show oO a b = X from by rw [hX]; rfl]
  obtain ⟨ka, hka⟩ : ∃ k, k = kd a := ⟨_, rfl⟩
  obtain ⟨kb, hkb⟩ : ∃ k, k = kd b := ⟨_, rfl⟩
  rw [← hka] at hX ca
  rw [← hkb] at hX cb
  clear hka hkb
  have HX := hide hX
  clear hX
  by_cases ha1 : ka = 1
  · subst ha1
    have HX2 : Hid (X = b) := hide (by rw [HX.out, if_pos rfl])
    go_enter Try.func136, Try.ntmps136
    go_wp2
    go_ret
    exact ⟨_, rfl, by rw [HX2.out]; exact TB.out, Below.refl _ _⟩
  have ea1 : (ka == 1) = false := by simpa using ha1
  by_cases hb1 : kb = 1
  · subst hb1
    have HX2 : Hid (X = a) := hide (by rw [HX.out, if_neg ha1, if_pos rfl])
    clear ha1
    go_enter Try.func136, Try.ntmps136
    go_wp2
    go_ret
    exact ⟨_, rfl, by rw [HX2.out]; exact TA.out, Below.refl _ _⟩
  have eb1 : (kb == 1) = false := by simpa using hb1
  have HX2 : Hid (X = .alt a b) := hide (by rw [HX.out, if_neg ha1, if_neg hb1])
  clear ha1 hb1
  go_enter Try.func136, Try.ntmps136
  go_wp2
  go_ret
  exact ⟨_, rfl, by rw [HX2.out]; exact ⟨_, _, _, rfl, trivial, (FB.new _ _ _ _ _).at, TA.out.below ((Below.refl _ _).alloc (Nat.le_refl _) _), TB.out.below ((Below.refl _ _).alloc (Nat.le_refl _) _)⟩, (Below.refl _ _).alloc (Nat.le_refl _) _⟩
set_option maxRecDepth 100000 in
set_option maxHeartbeats 8000000 in
theorem l5Left_any (c : Int) : ∀ (x : Sh) (p : Option Addr) (w : World), okS x → Tr w Any p x → Calls Try.prog 98 #[.pointer p, .int .u8 c] w fun e w' => RetU w (left x c) e w'
  | .none, p, w, _, ⟨g, pa, pb, e, _, hf⟩ => by
    subst e
    have c0 := hf.k
    clear hf
    go_enter Try.func98, Try.ntmps98
    go_wp2
    go_ret
    exact ⟨_, rfl, ⟨_, _, _, rfl, trivial, (FB.new _ _ _ _ _).at⟩, (Below.refl _ _).alloc (Nat.le_refl _) _⟩
  | .empty, p, w, _, ⟨g, pa, pb, e, _, hf⟩ => by
    subst e
    have c0 := hf.k
    clear hf
    go_enter Try.func98, Try.ntmps98
    go_wp2
    go_ret
    exact ⟨_, rfl, ⟨_, _, _, rfl, trivial, (FB.new _ _ _ _ _).at⟩, (Below.refl _ _).alloc (Nat.le_refl _) _⟩
  | .any, p, w, _, ⟨g, pa, pb, e, _, hf⟩ => by
    subst e
    have c0 := hf.k
    clear hf
    go_enter Try.func98, Try.ntmps98
    go_wp2
    go_ret
    exact ⟨_, rfl, ⟨_, _, _, rfl, trivial, (FB.new _ _ _ _ _).at⟩, (Below.refl _ _).alloc (Nat.le_refl _) _⟩
  | .letter d, p, w, hd, ⟨g, pa, pb, e, _, hf⟩ => by
    subst e
    have c0 := hf.k
    have c1 := hf.t
    have h0 : (0 : Int) < ((one d).size : Int) := by rw [one_size]; decide
    have hb : (((one d)[0]'(by rw [one_size]; decide)).toNat : Int) = d := by
      have := bts_at (one d) 0 (by rw [one_size]; decide)
      rw [← this]
      exact ltr_one hd
    clear hf
    by_cases h : d = c
    · have HR : Hid (left (.letter d) c = .empty) := hide (by simp [left, h])
      have hcd : (d == c) = true := by simpa using h
      rw [HR.out]
      clear h
      go_enter Try.func98, Try.ntmps98
      go_wp2
      go_ret
      exact ⟨_, rfl, ⟨_, _, _, rfl, trivial, (FB.new _ _ _ _ _).at⟩, (Below.refl _ _).alloc (Nat.le_refl _) _⟩
    · have HR : Hid (left (.letter d) c = .none) := hide (by simp [left, h])
      have hne : (d == c) = false := by simpa using h
      rw [HR.out]
      clear h
      go_enter Try.func98, Try.ntmps98
      go_wp2
      go_ret
      exact ⟨_, rfl, ⟨_, _, _, rfl, trivial, (FB.new _ _ _ _ _).at⟩, (Below.refl _ _).alloc (Nat.le_refl _) _⟩
  | .seq a b, p, w, hok, ⟨g, pa, pb, e, _, hf, ta, tb⟩ => by
    subst e
    have IA := hide (fun w h => l5Left_any c a pa w hok.1 h)
    have IB := hide (fun w h => l5Left_any c b pb w hok.2 h)
    have TA := hide ta
    have TB := hide tb
    have c0 := hf.k
    have c2 := hf.a
    have c3 := hf.b
    have HR2 : left (.seq a b) c = if nul a = true then oO (oT (left a c) b) (left b c) else oT (left a c) b := rfl
    obtain ⟨X, hX⟩ : ∃ X, X = left (.seq a b) c := ⟨_, rfl⟩
    rw [← hX] at HR2 ⊢
    clear hX
    obtain ⟨A, hA⟩ : ∃ A, A = left a c := ⟨_, rfl⟩
    obtain ⟨B, hB⟩ : ∃ B, B = left b c := ⟨_, rfl⟩
    simp only [← hA] at IA HR2
    simp only [← hB] at IB HR2
    have HN := hide hf
    clear hA hB hf ta tb hok
    cases hn : nul a with
    | true =>
      rw [hn, if_pos rfl] at HR2
      have HX := hide HR2
      have HNA := hide hn
      clear HR2 hn
      go_enter Try.func98, Try.ntmps98
      go_wp2
      go_region_held3 (fun wx => (wx.cell? ⟨g, 2, none⟩ = some (.pointer pa) ∧ wx.cell? ⟨g, 3, none⟩ = some (.pointer pb)) ∧ Below w.heap.size w wx) (first | exact ⟨⟨c2, c3⟩, (Below.refl _ _).drew⟩ | exact keep1T (by assumption) (by assumption) (Nat.le_refl _)) (first | (go_at_call_of 98 (Value.pointer pa); refine (IA.out _ (TA.out.below (show (_ ∧ _) ∧ Below w.heap.size w _ by assumption).2)).mono ?_; rintro e w1 ⟨r1, rfl, t1, hb⟩) | (go_at_call 135; refine (l5Then_any A b _ _ _ (by assumption) (TB.out.below (show (_ ∧ _) ∧ Below w.heap.size w _ by assumption).2)).mono ?_; rintro e w1 ⟨r2, rfl, t2, hb⟩))
      rename_i hHeld
      have d2 := hHeld.1.1
      have d3 := hHeld.1.2
      have B1 := hide hHeld.2
      have T2 := hide (show Tr _ Any _ (oT A b) by assumption)
      clear hHeld
      go_wp2_with fail
      refine (l5Empty_any Any a pa _ (TA.out.below B1.out)).mono ?_
      rintro e w2 ⟨rfl, rfl⟩
      rw [HNA.out]
      go_wp2_with fail
      refine (IB.out _ (TB.out.below B1.out)).mono ?_
      rintro e w3 ⟨r3, rfl, t3, b3⟩
      have B3 := hide (B1.out.trans (b3.mono B1.out.size))
      have T3 := hide (T2.out.below b3)
      have U3 := hide t3
      clear t3 b3
      go_wp2_with fail
      refine (l5Either_any _ _ _ _ _ T3.out U3.out).mono ?_
      rintro e w4 ⟨r4, rfl, t4, b4⟩
      have B4 := hide (B3.out.trans (b4.mono B3.out.size))
      have T4 := hide t4
      clear t4 b4
      go_wp2
      go_ret
      exact ⟨_, rfl, by rw [HX.out]; exact T4.out, B4.out⟩
    | false =>
      rw [hn, if_neg (by simp)] at HR2
      have HX := hide HR2
      have HNA := hide hn
      clear HR2 hn
      go_enter Try.func98, Try.ntmps98
      go_wp2
      go_region_held3 (fun wx => (wx.cell? ⟨g, 2, none⟩ = some (.pointer pa) ∧ wx.cell? ⟨g, 3, none⟩ = some (.pointer pb)) ∧ Below w.heap.size w wx) (first | exact ⟨⟨c2, c3⟩, (Below.refl _ _).drew⟩ | exact keep1T (by assumption) (by assumption) (Nat.le_refl _)) (first | (go_at_call_of 98 (Value.pointer pa); refine (IA.out _ (TA.out.below (show (_ ∧ _) ∧ Below w.heap.size w _ by assumption).2)).mono ?_; rintro e w1 ⟨r1, rfl, t1, hb⟩) | (go_at_call 135; refine (l5Then_any A b _ _ _ (by assumption) (TB.out.below (show (_ ∧ _) ∧ Below w.heap.size w _ by assumption).2)).mono ?_; rintro e w1 ⟨r2, rfl, t2, hb⟩))
      rename_i hHeld
      have d2 := hHeld.1.1
      have d3 := hHeld.1.2
      have B1 := hide hHeld.2
      have T2 := hide (show Tr _ Any _ (oT A b) by assumption)
      clear hHeld
      go_wp2_with fail
      refine (l5Empty_any Any a pa _ (TA.out.below B1.out)).mono ?_
      rintro e w2 ⟨rfl, rfl⟩
      rw [HNA.out]
      go_wp2
      go_ret
      exact ⟨_, rfl, by rw [HX.out]; exact T2.out, B1.out⟩
  | .alt a b, p, w, hok, ⟨g, pa, pb, e, _, hf, ta, tb⟩ => by
    subst e
    have IA := hide (fun w h => l5Left_any c a pa w hok.1 h)
    have IB := hide (fun w h => l5Left_any c b pb w hok.2 h)
    have TA := hide ta
    have TB := hide tb
    have c0 := hf.k
    have c2 := hf.a
    have c3 := hf.b
    have HR2 : left (.alt a b) c = oO (left a c) (left b c) := rfl
    rw [HR2]
    obtain ⟨A, hA⟩ : ∃ A, A = left a c := ⟨_, rfl⟩
    obtain ⟨B, hB⟩ : ∃ B, B = left b c := ⟨_, rfl⟩
    simp only [← hA] at IA ⊢
    simp only [← hB] at IB ⊢
    clear hA hB hf ta tb hok HR2
    go_enter Try.func98, Try.ntmps98
    go_wp2
    go_region_held3 (fun wx => (wx.cell? ⟨g, 2, none⟩ = some (.pointer pa) ∧ wx.cell? ⟨g, 3, none⟩ = some (.pointer pb)) ∧ Below w.heap.size w wx) (first | exact ⟨⟨c2, c3⟩, (Below.refl _ _).drew⟩ | exact keep1T (by assumption) (by assumption) (Nat.le_refl _)) (first | (go_at_call_of 98 (Value.pointer pa); refine (IA.out _ (TA.out.below (show (_ ∧ _) ∧ Below w.heap.size w _ by assumption).2)).mono ?_; rintro e w1 ⟨r1, rfl, t1, hb⟩) | (go_at_call_of 98 (Value.pointer pb); refine (IB.out _ (TB.out.below (show (_ ∧ _) ∧ Below w.heap.size w _ by assumption).2)).mono ?_; rintro e w1 ⟨r2, rfl, t2, hb⟩) | (go_at_call 136; refine (l5Either_any A B _ _ _ (Tr.below (show Tr _ Any _ A by assumption) (by assumption)) (by assumption)).mono ?_; rintro e w1 ⟨r3, rfl, t3, hb⟩))
    rename_i hHeld
    have B1 := hide hHeld.2
    have T2 := hide (show Tr _ Any _ (oO A B) by assumption)
    clear hHeld
    go_wp2
    go_ret
    exact ⟨_, rfl, T2.out, B1.out⟩
  | .many a, p, w, hok, ⟨g, pa, pb, e, hS, hf, ta⟩ => by
    subst e
    have IA := hide (l5Left_any c a pa w hok ta)
    have TT : Hid (Tr w Any (some ⟨g, 0, none⟩) (.many a)) := hide ⟨g, pa, pb, rfl, hS, hf, ta⟩
    have c0 := hf.k
    have c2 := hf.a
    have HR2 : left (.many a) c = oT (left a c) (.many a) := rfl
    rw [HR2]
    obtain ⟨A, hA⟩ : ∃ A, A = left a c := ⟨_, rfl⟩
    simp only [← hA] at IA ⊢
    clear hA hf ta hok HR2
    go_enter Try.func98, Try.ntmps98
    go_wp2_with fail
    refine IA.out.mono ?_
    rintro e w1 ⟨r1, rfl, t1, b1⟩
    have B1 := hide b1
    have T1 := hide t1
    clear b1 t1
    go_wp2_with fail
    refine (l5Then_any A (.many a) _ _ _ T1.out (TT.out.below B1.out)).mono ?_
    rintro e w2 ⟨r2, rfl, t2, b2⟩
    have B2 := hide (B1.out.trans (b2.mono B1.out.size))
    have T2 := hide t2
    clear t2 b2
    go_wp2
    go_ret
    exact ⟨_, rfl, T2.out, B2.out⟩
  | .inv a, p, w, hok, ⟨g, pa, pb, e, _, hf, ta⟩ => by
    subst e
    have IA := hide (l5Left_any c a pa w hok ta)
    have c0 := hf.k
    have c2 := hf.a
    have HR2 : left (.inv a) c = .inv (left a c) := rfl
    rw [HR2]
    obtain ⟨A, hA⟩ : ∃ A, A = left a c := ⟨_, rfl⟩
    simp only [← hA] at IA ⊢
    clear hA hf ta hok HR2
    go_enter Try.func98, Try.ntmps98
    go_wp2_with fail
    refine IA.out.mono ?_
    rintro e w1 ⟨r1, rfl, t1, b1⟩
    have B1 := hide b1
    have T1 := hide t1
    clear b1 t1
    go_wp2
    go_ret
    exact ⟨_, rfl, ⟨_, _, _, rfl, trivial, (FB.new _ _ _ _ _).at, T1.out.below ((Below.refl _ _).alloc (Nat.le_refl _) _)⟩, B1.out.alloc B1.out.size _⟩
end Go.Proofs.Ytapffbbmofhpoab.L5

namespace Go.Proofs.Ytapffbbmofhpoab.L5
open Go.RowKit L1 L4
set_option linter.unusedVariables false

theorem grown_trans {a b c : World} {r s : Option Nat} (h : a.grownBy b r) (k : b.grownBy c s) (hs : ∀ g, s = some g → r = some g ∨ a.heap.size ≤ g) : a.grownBy c r :=
  ⟨k.os.trans h.os, k.tape.trans h.tape, k.output.trans h.output, Nat.le_trans h.size k.size, fun i hi hne => by
    have h1 := h.block i hi hne
    have h2 := k.block i (Nat.lt_of_lt_of_le hi h.size) (fun e => by
      rcases hs i e.symm with h3 | h3
      · exact hne h3.symm
      · omega)
    exact h2.trans h1⟩
theorem grown_below0 {w w' : World} (h : Below w.heap.size w w') (row : Option Nat) : w.grownBy w' row := ⟨h.os, h.tape, h.output, h.size, fun k hk _ => h.block k hk⟩
/-- A part in a box of its own. -/
def PX (w : World) (g : Nat) (p : Pr) : Prop := w.heap[g]? = some (.cells #[.int .i64 p.k, .string p.t, .int .i64 p.a, .int .i64 p.b] 116 (0, 0))
theorem PX.newAt (w : World) (g : Nat) (p : Pr) (hg : w.heap.size = g) : PX (w.alloc (.cells #[.int .i64 p.k, .string p.t, .int .i64 p.a, .int .i64 p.b] 116)) g p := by
  subst hg
  unfold PX
  show (w.heap.push _)[w.heap.size]? = _
  exact Array.getElem?_push_size
theorem PX.lt {w : World} {g : Nat} {p : Pr} (h : PX w g p) : g < w.heap.size := (Array.getElem?_eq_some_iff.1 h).1
theorem PX.at {w : World} {g : Nat} {p : Pr} (h : PX w g p) : AtP w g 0 p := ⟨Lib.cell_of_heap h 0, Lib.cell_of_heap h 1, Lib.cell_of_heap h 2, Lib.cell_of_heap h 3⟩
theorem PX.frozen {w : World} {g : Nat} {p : Pr} (h : PX w g p) (j : Nat) : w.frozen? ⟨g, j, none⟩ = false := Lib.frozen_of_heap h j
theorem PX.below {w w' : World} {g : Nat} {p : Pr} (h : PX w g p) (hb : Below w.heap.size w w') : PX w' g p := (hb.block g h.lt).trans h
theorem PX.grown {w w' : World} {g : Nat} {p : Pr} {r : Option Nat} (h : PX w g p) (hb : w.grownBy w' r) (hne : r ≠ some g) : PX w' g p := (hb.block g h.lt (fun e => hne e.symm)).trans h
theorem PX.setT {w : World} {g : Nat} {p : Pr} (h : PX w g p) (y : ByteArray) : PX (w.setCell ⟨g, 1, none⟩ (.string y)) g { p with t := y } := by
  have h1 := heap_setCell_same w g 1 _ _ (.string y) h
  unfold PX
  rw [h1]
  rfl
theorem PX.setA {w : World} {g : Nat} {p : Pr} (h : PX w g p) (y : Int) : PX (w.setCell ⟨g, 2, none⟩ (.int .i64 y)) g { p with a := y } := by
  have h1 := heap_setCell_same w g 2 _ _ (.int .i64 y) h
  unfold PX
  rw [h1]
  rfl
theorem PX.setB {w : World} {g : Nat} {p : Pr} (h : PX w g p) (y : Int) : PX (w.setCell ⟨g, 3, none⟩ (.int .i64 y)) g { p with b := y } := by
  have h1 := heap_setCell_same w g 3 _ _ (.int .i64 y) h
  unfold PX
  rw [h1]
  rfl
/-- A list of parts of the call's own. -/
abbrev OwP (w : World) (base : Nat) (v : Value) (l : List Pr) : Prop := w.ownsRow base 116 4 v l.length (flatP l)
/-- A list of parts that a call hands back: what it was handed, and more; nothing else has turned. -/
def RetF (w : World) (base : Nat) (v : Value) (l : List Pr) (e : Ending) (w' : World) : Prop :=
  ∃ v', e = .returned v' ∧ OwP w' base v' l ∧ w.grownBy w' v.ownBlock ∧ ∀ g, v'.ownBlock = some g → v.ownBlock = some g ∨ w.heap.size ≤ g
theorem OwP.grown {w w' : World} {base : Nat} {v : Value} {l : List Pr} {r : Option Nat} (h : OwP w base v l) (hg : w.grownBy w' r) (hne : ∀ g, v.ownBlock = some g → r ≠ some g) : OwP w' base v l := by
  refine ⟨h.1, ?_⟩
  rcases h.2 with h0 | ⟨g, cap, cur, hv, hb, hh, rest⟩
  · exact .inl h0
  · refine .inr ⟨g, cap, cur, hv, hb, ?_, rest⟩
    rw [hg.block g (Array.getElem?_eq_some_iff.1 hh).1 (fun e => hne g (by rw [hv]; rfl) e.symm)]
    exact hh
theorem cell_four_newP (w : World) (g : Nat) (hg : w.heap.size = g) (a b c d : Value) (t : TypeId) : ∀ j u, [a, b, c, d][j]? = some u → (w.alloc (.cells #[a, b, c, d] t)).cell? ((⟨g, 0, none⟩ : Addr).add j) = some u := by
  subst hg
  intro j u h
  rw [addr_add]
  match j, h with
  | 0, h => simp at h; subst h; simp
  | 1, h => simp at h; subst h; simp
  | 2, h => simp at h; subst h; simp
  | 3, h => simp at h; subst h; simp
  | j + 4, h => simp at h
theorem four_one (a : Int) (b : ByteArray) (c d : Int) : ∀ u ∈ ([.int .i64 a, .string b, .int .i64 c, .int .i64 d] : List Value), u.oneCell' = true := by
  intro u hu
  simp at hu
  rcases hu with rfl | rfl | rfl | rfl <;> rfl
theorem own_at_lt {w : World} {base n g : Nat} {v : Value} {xs : List Value} (h : w.ownsRow base 116 4 v n xs) (hg : v.ownBlock = some g) : g < w.heap.size := (h.lt g hg).2
theorem grown_set (w : World) (g j : Nat) (u : Value) : w.grownBy (w.setCell ⟨g, j, none⟩ u) (some g) :=
  ⟨rfl, rfl, rfl, by simp [World.setCell], fun k _ hk => Below.heap_setCell w ⟨g, j, none⟩ u k (fun e => hk (by rw [e]))⟩
theorem grown_alloc (w : World) (o : Obj) (r : Option Nat) : w.grownBy (w.alloc o) r := grown_below0 ((Below.refl _ _).alloc (Nat.le_refl _) _) r
/-- The end of such a call: one part more. -/
theorem fin_ret {w w5 w6 : World} {base : Nat} {v v5 v6 : Value} {l' : List Pr} {p : Pr} {o : Obj} (G5 : w.grownBy w5 v.ownBlock) (K5 : ∀ g, v5.ownBlock = some g → v.ownBlock = some g ∨ w.heap.size ≤ g)
    (h6 : w6.ownsRow base 116 4 v6 (l'.length + 1) (flatP l' ++ [.int .i64 p.k, .string p.t, .int .i64 p.a, .int .i64 p.b])) (g6 : (w5.alloc o).grownBy w6 v5.ownBlock) (hat : v6.ownBlock = v5.ownBlock ∨ ∃ q, v6.ownBlock = some q ∧ w5.heap.size ≤ q) :
    RetF w base v (l' ++ [p]) (.returned v6) w6 := by
  have ha : (w5.alloc o).heap.size = w5.heap.size + 1 := by simp
  refine ⟨v6, rfl, ?_, ?_, ?_⟩
  · unfold OwP
    rw [flatP_append, List.length_append]
    exact h6
  · exact grown_trans G5 (grown_trans (grown_alloc w5 o v5.ownBlock) g6 (fun g hg => .inl hg)) K5
  · intro g hg
    have := G5.size
    rcases hat with e | e
    · exact K5 g (by rw [← e]; exact hg)
    · obtain ⟨q, e, hq⟩ := e
      rw [e] at hg
      cases hg
      exact .inr (by omega)
end Go.Proofs.Ytapffbbmofhpoab.L5

namespace Go.Proofs.Ytapffbbmofhpoab.L5
open Go.RowKit L1 L4
set_option linter.unusedVariables false
theorem kind_noText (v : Value) (w : World) : (callMethod (.iface 175 v) "loop.example/g00522/impl.kind" #[]).run Try.prog w = .ok (.enter 180 #[v]) w := by kernel_rfl
theorem kind_emptyText (v : Value) (w : World) : (callMethod (.iface 162 v) "loop.example/g00522/impl.kind" #[]).run Try.prog w = .ok (.enter 173 #[v]) w := by kernel_rfl
theorem kind_oneLetter (v : Value) (w : World) : (callMethod (.iface 170 v) "loop.example/g00522/impl.kind" #[]).run Try.prog w = .ok (.enter 178 #[v]) w := by kernel_rfl
theorem kind_anyLetter (v : Value) (w : World) : (callMethod (.iface 173 v) "loop.example/g00522/impl.kind" #[]).run Try.prog w = .ok (.enter 179 #[v]) w := by kernel_rfl
theorem kind_thenShape (v : Value) (w : World) : (callMethod (.iface 166 v) "loop.example/g00522/impl.kind" #[]).run Try.prog w = .ok (.enter 175 #[v]) w := by kernel_rfl
theorem kind_eitherShape (v : Value) (w : World) : (callMethod (.iface 167 v) "loop.example/g00522/impl.kind" #[]).run Try.prog w = .ok (.enter 176 #[v]) w := by kernel_rfl
theorem kind_manyShape (v : Value) (w : World) : (callMethod (.iface 164 v) "loop.example/g00522/impl.kind" #[]).run Try.prog w = .ok (.enter 174 #[v]) w := by kernel_rfl
theorem kind_notShape (v : Value) (w : World) : (callMethod (.iface 168 v) "loop.example/g00522/impl.kind" #[]).run Try.prog w = .ok (.enter 177 #[v]) w := by kernel_rfl
attribute [local go_sem] mk_noText mk_emptyText mk_oneLetter mk_anyLetter mk_thenShape mk_eitherShape mk_manyShape mk_notShape as_noText_noText as_noText_emptyText as_noText_oneLetter as_noText_anyLetter as_noText_thenShape as_noText_eitherShape as_noText_manyShape as_noText_notShape as_emptyText_noText as_emptyText_emptyText as_emptyText_oneLetter as_emptyText_anyLetter as_emptyText_thenShape as_emptyText_eitherShape as_emptyText_manyShape as_emptyText_notShape as_oneLetter_noText as_oneLetter_emptyText as_oneLetter_oneLetter as_oneLetter_anyLetter as_oneLetter_thenShape as_oneLetter_eitherShape as_oneLetter_manyShape as_oneLetter_notShape as_anyLetter_noText as_anyLetter_emptyText as_anyLetter_oneLetter as_anyLetter_anyLetter as_anyLetter_thenShape as_anyLetter_eitherShape as_anyLetter_manyShape as_anyLetter_notShape as_thenShape_noText as_thenShape_emptyText as_thenShape_oneLetter as_thenShape_anyLetter as_thenShape_thenShape as_thenShape_eitherShape as_thenShape_manyShape as_thenShape_notShape as_eitherShape_noText as_eitherShape_emptyText as_eitherShape_oneLetter as_eitherShape_anyLetter as_eitherShape_thenShape as_eitherShape_eitherShape as_eitherShape_manyShape as_eitherShape_notShape as_manyShape_noText as_manyShape_emptyText as_manyShape_oneLetter as_manyShape_anyLetter as_manyShape_thenShape as_manyShape_eitherShape as_manyShape_manyShape as_manyShape_notShape as_notShape_noText as_notShape_emptyText as_notShape_oneLetter as_notShape_anyLetter as_notShape_thenShape as_notShape_eitherShape as_notShape_manyShape as_notShape_notShape kind_noText kind_emptyText kind_oneLetter kind_anyLetter kind_thenShape kind_eitherShape kind_manyShape kind_notShape
set_option maxRecDepth 100000 in
theorem kindc_noText (cs : Array Value) (w : World) : Calls Try.prog 180 #[.agg cs] w fun e w' => e = .returned (.int .i64 1) ∧ Below w.heap.size w w' := by
  go_enter Try.func180, Try.ntmps180
  go_wp2
  go_ret
  exact ⟨rfl, (Below.refl _ _).alloc (Nat.le_refl _) _⟩
set_option maxRecDepth 100000 in
theorem kindc_emptyText (cs : Array Value) (w : World) : Calls Try.prog 173 #[.agg cs] w fun e w' => e = .returned (.int .i64 2) ∧ Below w.heap.size w w' := by
  go_enter Try.func173, Try.ntmps173
  go_wp2
  go_ret
  exact ⟨rfl, (Below.refl _ _).alloc (Nat.le_refl _) _⟩
set_option maxRecDepth 100000 in
theorem kindc_oneLetter (cs : Array Value) (w : World) : Calls Try.prog 178 #[.agg cs] w fun e w' => e = .returned (.int .i64 3) ∧ Below w.heap.size w w' := by
  go_enter Try.func178, Try.ntmps178
  go_wp2
  go_ret
  exact ⟨rfl, (Below.refl _ _).alloc (Nat.le_refl _) _⟩
set_option maxRecDepth 100000 in
theorem kindc_anyLetter (cs : Array Value) (w : World) : Calls Try.prog 179 #[.agg cs] w fun e w' => e = .returned (.int .i64 4) ∧ Below w.heap.size w w' := by
  go_enter Try.func179, Try.ntmps179
  go_wp2
  go_ret
  exact ⟨rfl, (Below.refl _ _).alloc (Nat.le_refl _) _⟩
set_option maxRecDepth 100000 in
theorem kindc_thenShape (cs : Array Value) (w : World) : Calls Try.prog 175 #[.agg cs] w fun e w' => e = .returned (.int .i64 5) ∧ Below w.heap.size w w' := by
  go_enter Try.func175, Try.ntmps175
  go_wp2
  go_ret
  exact ⟨rfl, (Below.refl _ _).alloc (Nat.le_refl _) _⟩
set_option maxRecDepth 100000 in
theorem kindc_eitherShape (cs : Array Value) (w : World) : Calls Try.prog 176 #[.agg cs] w fun e w' => e = .returned (.int .i64 6) ∧ Below w.heap.size w w' := by
  go_enter Try.func176, Try.ntmps176
  go_wp2
  go_ret
  exact ⟨rfl, (Below.refl _ _).alloc (Nat.le_refl _) _⟩
set_option maxRecDepth 100000 in
theorem kindc_manyShape (cs : Array Value) (w : World) : Calls Try.prog 174 #[.agg cs] w fun e w' => e = .returned (.int .i64 7) ∧ Below w.heap.size w w' := by
  go_enter Try.func174, Try.ntmps174
  go_wp2
  go_ret
  exact ⟨rfl, (Below.refl _ _).alloc (Nat.le_refl _) _⟩
set_option maxRecDepth 100000 in
theorem kindc_notShape (cs : Array Value) (w : World) : Calls Try.prog 177 #[.agg cs] w fun e w' => e = .returned (.int .i64 8) ∧ Below w.heap.size w w' := by
  go_enter Try.func177, Try.ntmps177
  go_wp2
  go_ret
  exact ⟨rfl, (Below.refl _ _).alloc (Nat.le_refl _) _⟩
/-- What the call does at a shape. -/
def PC (x : Sh) : Prop := ∀ (base : Nat) (v : Value) (l : List Pr) (w : World), OwP w base v l → base ≤ w.heap.size → l.length + sz x ≤ 100000000 → Calls Try.prog 94 #[sv x, v] w fun e w' => RetF w base v (flat x l) e w'
set_option maxRecDepth 100000 in
set_option maxHeartbeats 4000000 in
theorem partsOf_none : PC .none := by
  intro base v l w ho hb hl
  obtain ⟨i1, hi1, hy0, hy1, hy2⟩ := info_parts info_part
  obtain ⟨a, cap, rfl⟩ := own_shapeT ho
  simp only [sz] at hl
  have HO := hide ho
  clear ho
  show Calls Try.prog 94 #[.iface 175 (.agg #[]), .slice a l.length cap] w _
  go_enter Try.func94, Try.ntmps94
  go_wp2_with fail
  refine (kindc_noText _ _).mono ?_
  rintro e w1 ⟨rfl, hb1⟩
  have hz1 : base ≤ w1.heap.size := Nat.le_trans hb hb1.size
  have O1 := hide (own_belowT HO.out hb1)
  have G1 := hide (grown_below0 hb1 (Value.slice a l.length cap).ownBlock)
  have HLT : Hid (∀ g, (Value.slice a l.length cap).ownBlock = some g → g < w.heap.size) := hide (fun g hg => own_at_lt HO.out hg)
  have HSZ := hide hb1.size
  clear hb1
  have O2 := hide (O1.out.alloc (.cells #[.int .i64 1, .string ByteArray.empty, .int .i64 0, .int .i64 0] 116))
  have G2 := hide (grown_trans G1.out (grown_alloc w1 (.cells #[.int .i64 1, .string ByteArray.empty, .int .i64 0, .int .i64 0] 116) (Value.slice a l.length cap).ownBlock) (fun g hg => .inl hg))
  go_wp2_with (first
    | (at_builtin; refine wpList_append_own_at _ rfl _ _ 52 rfl base 116 i1 (.agg #[.int .i64 0, .string ByteArray.empty, .int .i64 0, .int .i64 0]) 4 40 Try.underlying52 hi1 hy0 hy1 hy2 rfl (by decide) _ _ _ rfl (O2.out.alloc _) ⟨w1.heap.size + 1, 0, none⟩ 1 1 [.int .i64 1, .string ByteArray.empty, .int .i64 0, .int .i64 0] rfl rfl (cell_four_newP _ _ (by first | rfl | simp) _ _ _ _ _) (four_one _ _ _ _) (by unfold maxLen; omega) (by omega) (by simp; omega) ?_)
    | go_in)
  intro v6 w6 h6 g6 _ hat
  have HR := hide (fin_ret (p := ⟨1, ByteArray.empty, 0, 0⟩) G2.out (fun g hg => .inl hg) h6 g6 (hat.imp id (fun h => ⟨_, h, by first | exact Nat.le_refl _ | (simp; done) | (simp; omega)⟩)))
  obtain ⟨a6, c6, rfl⟩ := own_shapeT h6
  clear h6 g6 hat
  go_wp2
  go_ret
  exact HR.out
set_option maxRecDepth 100000 in
set_option maxHeartbeats 4000000 in
theorem partsOf_empty : PC .empty := by
  intro base v l w ho hb hl
  obtain ⟨i1, hi1, hy0, hy1, hy2⟩ := info_parts info_part
  obtain ⟨a, cap, rfl⟩ := own_shapeT ho
  simp only [sz] at hl
  have HO := hide ho
  clear ho
  show Calls Try.prog 94 #[.iface 162 (.agg #[]), .slice a l.length cap] w _
  go_enter Try.func94, Try.ntmps94
  go_wp2_with fail
  refine (kindc_emptyText _ _).mono ?_
  rintro e w1 ⟨rfl, hb1⟩
  have hz1 : base ≤ w1.heap.size := Nat.le_trans hb hb1.size
  have O1 := hide (own_belowT HO.out hb1)
  have G1 := hide (grown_below0 hb1 (Value.slice a l.length cap).ownBlock)
  have HLT : Hid (∀ g, (Value.slice a l.length cap).ownBlock = some g → g < w.heap.size) := hide (fun g hg => own_at_lt HO.out hg)
  have HSZ := hide hb1.size
  clear hb1
  have O2 := hide (O1.out.alloc (.cells #[.int .i64 2, .string ByteArray.empty, .int .i64 0, .int .i64 0] 116))
  have G2 := hide (grown_trans G1.out (grown_alloc w1 (.cells #[.int .i64 2, .string ByteArray.empty, .int .i64 0, .int .i64 0] 116) (Value.slice a l.length cap).ownBlock) (fun g hg => .inl hg))
  go_wp2_with (first
    | (at_builtin; refine wpList_append_own_at _ rfl _ _ 52 rfl base 116 i1 (.agg #[.int .i64 0, .string ByteArray.empty, .int .i64 0, .int .i64 0]) 4 40 Try.underlying52 hi1 hy0 hy1 hy2 rfl (by decide) _ _ _ rfl (O2.out.alloc _) ⟨w1.heap.size + 1, 0, none⟩ 1 1 [.int .i64 2, .string ByteArray.empty, .int .i64 0, .int .i64 0] rfl rfl (cell_four_newP _ _ (by first | rfl | simp) _ _ _ _ _) (four_one _ _ _ _) (by unfold maxLen; omega) (by omega) (by simp; omega) ?_)
    | go_in)
  intro v6 w6 h6 g6 _ hat
  have HR := hide (fin_ret (p := ⟨2, ByteArray.empty, 0, 0⟩) G2.out (fun g hg => .inl hg) h6 g6 (hat.imp id (fun h => ⟨_, h, by first | exact Nat.le_refl _ | (simp; done) | (simp; omega)⟩)))
  obtain ⟨a6, c6, rfl⟩ := own_shapeT h6
  clear h6 g6 hat
  go_wp2
  go_ret
  exact HR.out
set_option maxRecDepth 100000 in
set_option maxHeartbeats 4000000 in
theorem partsOf_letter (c : Int) (hc : 97 ≤ c ∧ c ≤ 122) : PC (.letter c) := by
  intro base v l w ho hb hl
  obtain ⟨i1, hi1, hy0, hy1, hy2⟩ := info_parts info_part
  obtain ⟨a, cap, rfl⟩ := own_shapeT ho
  simp only [sz] at hl
  have HE := hide (enc_letter hc)
  obtain ⟨h1, h2⟩ := hc
  have HO := hide ho
  clear ho
  show Calls Try.prog 94 #[.iface 170 (.agg #[.int .u8 c]), .slice a l.length cap] w _
  go_enter Try.func94, Try.ntmps94
  go_wp2_with fail
  refine (kindc_oneLetter _ _).mono ?_
  rintro e w1 ⟨rfl, hb1⟩
  have hz1 : base ≤ w1.heap.size := Nat.le_trans hb hb1.size
  have O1 := hide (own_belowT HO.out hb1)
  have G1 := hide (grown_below0 hb1 (Value.slice a l.length cap).ownBlock)
  have HLT : Hid (∀ g, (Value.slice a l.length cap).ownBlock = some g → g < w.heap.size) := hide (fun g hg => own_at_lt HO.out hg)
  have HSZ := hide hb1.size
  clear hb1
  have O2 := hide ((O1.out.alloc (.cells #[.int .i64 3, .string (Utf8.encode c), .int .i64 0, .int .i64 0] 116)).alloc (.cells #[.int .u8 c] 170))
  have G2 := hide (grown_trans (grown_trans G1.out (grown_alloc w1 (.cells #[.int .i64 3, .string (Utf8.encode c), .int .i64 0, .int .i64 0] 116) (Value.slice a l.length cap).ownBlock) (fun g hg => .inl hg)) (grown_alloc _ (.cells #[.int .u8 c] 170) (Value.slice a l.length cap).ownBlock) (fun g hg => .inl hg))
  go_wp2_with (first
    | (at_builtin; refine wpList_append_own_at _ rfl _ _ 52 rfl base 116 i1 (.agg #[.int .i64 0, .string ByteArray.empty, .int .i64 0, .int .i64 0]) 4 40 Try.underlying52 hi1 hy0 hy1 hy2 rfl (by decide) _ _ _ rfl (O2.out.alloc _) ⟨w1.heap.size + 1 + 1, 0, none⟩ 1 1 [.int .i64 3, .string ((Utf8.encode c)), .int .i64 0, .int .i64 0] rfl rfl (cell_four_newP _ _ (by first | rfl | simp) _ _ _ _ _) (four_one _ _ _ _) (by unfold maxLen; omega) (by omega) (by simp; omega) ?_)
    | go_in)
  intro v6 w6 h6 g6 _ hat
  have HR := hide (fin_ret (p := ⟨3, (Utf8.encode c), 0, 0⟩) G2.out (fun g hg => .inl hg) h6 g6 (hat.imp id (fun h => ⟨_, h, by first | exact Nat.le_refl _ | (simp; done) | (simp; omega)⟩)))
  obtain ⟨a6, c6, rfl⟩ := own_shapeT h6
  clear h6 g6 hat
  go_wp2
  go_ret
  have h9 := HR.out
  rw [HE.out] at h9
  exact h9
set_option maxRecDepth 100000 in
set_option maxHeartbeats 4000000 in
theorem partsOf_any' : PC .any := by
  intro base v l w ho hb hl
  obtain ⟨i1, hi1, hy0, hy1, hy2⟩ := info_parts info_part
  obtain ⟨a, cap, rfl⟩ := own_shapeT ho
  simp only [sz] at hl
  have HO := hide ho
  clear ho
  show Calls Try.prog 94 #[.iface 173 (.agg #[]), .slice a l.length cap] w _
  go_enter Try.func94, Try.ntmps94
  go_wp2_with fail
  refine (kindc_anyLetter _ _).mono ?_
  rintro e w1 ⟨rfl, hb1⟩
  have hz1 : base ≤ w1.heap.size := Nat.le_trans hb hb1.size
  have O1 := hide (own_belowT HO.out hb1)
  have G1 := hide (grown_below0 hb1 (Value.slice a l.length cap).ownBlock)
  have HLT : Hid (∀ g, (Value.slice a l.length cap).ownBlock = some g → g < w.heap.size) := hide (fun g hg => own_at_lt HO.out hg)
  have HSZ := hide hb1.size
  clear hb1
  have O2 := hide (O1.out.alloc (.cells #[.int .i64 4, .string ByteArray.empty, .int .i64 0, .int .i64 0] 116))
  have G2 := hide (grown_trans G1.out (grown_alloc w1 (.cells #[.int .i64 4, .string ByteArray.empty, .int .i64 0, .int .i64 0] 116) (Value.slice a l.length cap).ownBlock) (fun g hg => .inl hg))
  go_wp2_with (first
    | (at_builtin; refine wpList_append_own_at _ rfl _ _ 52 rfl base 116 i1 (.agg #[.int .i64 0, .string ByteArray.empty, .int .i64 0, .int .i64 0]) 4 40 Try.underlying52 hi1 hy0 hy1 hy2 rfl (by decide) _ _ _ rfl (O2.out.alloc _) ⟨w1.heap.size + 1, 0, none⟩ 1 1 [.int .i64 4, .string ByteArray.empty, .int .i64 0, .int .i64 0] rfl rfl (cell_four_newP _ _ (by first | rfl | simp) _ _ _ _ _) (four_one _ _ _ _) (by unfold maxLen; omega) (by omega) (by simp; omega) ?_)
    | go_in)
  intro v6 w6 h6 g6 _ hat
  have HR := hide (fin_ret (p := ⟨4, ByteArray.empty, 0, 0⟩) G2.out (fun g hg => .inl hg) h6 g6 (hat.imp id (fun h => ⟨_, h, by first | exact Nat.le_refl _ | (simp; done) | (simp; omega)⟩)))
  obtain ⟨a6, c6, rfl⟩ := own_shapeT h6
  clear h6 g6 hat
  go_wp2
  go_ret
  exact HR.out
/-- What the call on two shapes does. -/
def RetF2 (w : World) (base : Nat) (v : Value) (a b : Sh) (l : List Pr) (e : Ending) (w' : World) : Prop :=
  ∃ v', e = .returned (.tuple #[v', .int .i64 (((flat a l).length : Int) - 1), .int .i64 (((flat b (flat a l)).length : Int) - 1)]) ∧ OwP w' base v' (flat b (flat a l)) ∧ w.grownBy w' v.ownBlock ∧ ∀ g, v'.ownBlock = some g → v.ownBlock = some g ∨ w.heap.size ≤ g
set_option maxRecDepth 100000 in
set_option maxHeartbeats 4000000 in
theorem partsOfTwo_any (a b : Sh) (IA : PC a) (IB : PC b) (base : Nat) (v : Value) (l : List Pr) (w : World) (ho : OwP w base v l) (hb : base ≤ w.heap.size) (hl : l.length + sz a + sz b ≤ 100000000) :
    Calls Try.prog 132 #[sv a, sv b, v] w fun e w' => RetF2 w base v a b l e w' := by
  have la := flat_len a l
  have lb := flat_len b (flat a l)
  have pa := sz_pos a
  have pb := sz_pos b
  have C1 := hide (IA base v l w ho hb (by omega))
  have C2 := hide (fun v w ho hb => IB base v (flat a l) w ho hb (by omega))
  have HL1 : Hid (0 ≤ ((flat a l).length : Int) - 1 ∧ ((flat a l).length : Int) ≤ 100000000) := hide (by omega)
  have HL2 : Hid (0 ≤ ((flat b (flat a l)).length : Int) - 1 ∧ ((flat b (flat a l)).length : Int) ≤ 100000000) := hide (by omega)
  clear la lb pa pb IA IB hl
  obtain ⟨x, cap, rfl⟩ := own_shapeT ho
  clear ho
  go_enter Try.func132, Try.ntmps132
  go_wp2_with fail
  refine C1.out.mono ?_
  rintro e w1 ⟨v1, rfl, o1, g1, k1⟩
  have O1 := hide o1
  have G1 := hide g1
  have K1 := hide k1
  obtain ⟨x1, c1, rfl⟩ := own_shapeT o1
  clear o1 g1 k1
  go_wp2_with fail
  refine (C2.out _ _ O1.out (Nat.le_trans hb G1.out.size)).mono ?_
  rintro e w2 ⟨v2, rfl, o2, g2, k2⟩
  have O2 := hide o2
  have G2 := hide (grown_trans G1.out g2 K1.out)
  have K2 : Hid (∀ g, v2.ownBlock = some g → (Value.slice x l.length cap).ownBlock = some g ∨ w.heap.size ≤ g) := hide (fun g hg => by
    rcases k2 g hg with h | h
    · exact K1.out g h
    · exact .inr (Nat.le_trans G1.out.size h))
  obtain ⟨x2, c2, rfl⟩ := own_shapeT o2
  clear o2 g2 k2
  obtain ⟨h10, h11⟩ := HL1.out
  obtain ⟨h20, h21⟩ := HL2.out
  go_wp2
  go_ret3
  exact ⟨_, rfl, O2.out, G2.out, K2.out⟩
set_option maxRecDepth 100000 in
set_option maxHeartbeats 4000000 in
theorem partsOf_seq (A B : Sh) (IA : PC A) (IB : PC B) : PC (.seq A B) := by
  intro base v l w ho hb hl
  obtain ⟨i1, hi1, hy0, hy1, hy2⟩ := info_parts info_part
  obtain ⟨a, cap, rfl⟩ := own_shapeT ho
  simp only [sz] at hl
  have HO := hide ho
  clear ho
  show Calls Try.prog 94 #[.iface 166 (.agg #[sv A, sv B]), .slice a l.length cap] w _
  go_enter Try.func94, Try.ntmps94
  go_wp2_with fail
  refine (kindc_thenShape _ _).mono ?_
  rintro e w1 ⟨rfl, hb1⟩
  have hz1 : base ≤ w1.heap.size := Nat.le_trans hb hb1.size
  have O1 := hide (own_belowT HO.out hb1)
  have G1 := hide (grown_below0 hb1 (Value.slice a l.length cap).ownBlock)
  have HLT : Hid (∀ g, (Value.slice a l.length cap).ownBlock = some g → g < w.heap.size) := hide (fun g hg => own_at_lt HO.out hg)
  have HSZ := hide hb1.size
  clear hb1
  have la := flat_len A l
  have lb := flat_len B (flat A l)
  have pA := sz_pos A
  have pB := sz_pos B
  have HX2 : Hid (PX ((w1.alloc (.cells #[.int .i64 5, .string ByteArray.empty, .int .i64 0, .int .i64 0] 116)).alloc (.cells #[sv A, sv B] 166)) w1.heap.size ⟨5, ByteArray.empty, 0, 0⟩) := hide ((PX.newAt _ _ ⟨5, ByteArray.empty, 0, 0⟩ rfl).below ((Below.refl _ _).alloc (Nat.le_refl _) _))
  have O2 := hide ((O1.out.alloc (.cells #[.int .i64 5, .string ByteArray.empty, .int .i64 0, .int .i64 0] 116)).alloc (.cells #[sv A, sv B] 166))
  have G2 := hide (grown_trans (grown_trans G1.out (grown_alloc w1 (.cells #[.int .i64 5, .string ByteArray.empty, .int .i64 0, .int .i64 0] 116) (Value.slice a l.length cap).ownBlock) (fun g hg => .inl hg)) (grown_alloc _ (.cells #[sv A, sv B] 166) (Value.slice a l.length cap).ownBlock) (fun g hg => .inl hg))
  have HZ2 : Hid (((w1.alloc (.cells #[.int .i64 5, .string ByteArray.empty, .int .i64 0, .int .i64 0] 116)).alloc (.cells #[sv A, sv B] 166)).heap.size = w1.heap.size + 2) := by refine hide ?_; simp
  have C2 := hide (partsOfTwo_any A B IA IB base _ l _ O2.out (by have := HZ2.out; omega) (by omega))
  have hBlen : (flat B (flat A l)).length + 1 ≤ 100000000 := by omega
  have HLA := hide la
  have HLB := hide lb
  clear la lb pA pB IA IB
  go_wp2_with fail
  refine C2.out.mono ?_
  rintro e w3 ⟨v3, rfl, o3, g3, k3⟩
  have hx3 := HX2.out.grown g3 (fun e => by have h1 := HLT.out _ e; have h2 := HSZ.out; omega)
  have K3 : Hid (∀ g, v3.ownBlock = some g → ((Value.slice a l.length cap).ownBlock = some g ∨ w.heap.size ≤ g) ∧ g ≠ w1.heap.size) := hide (fun g hg => by
    have h2 := HSZ.out
    have h3 := HZ2.out
    rcases k3 g hg with h | h
    · have h1 := HLT.out g h
      exact ⟨.inl h, by omega⟩
    · exact ⟨.inr (by omega), by omega⟩)
  have G3 := hide (grown_trans G2.out g3 (fun g hg => .inl hg))
  obtain ⟨x3, c3, rfl⟩ := own_shapeT o3
  obtain ⟨qa, hqa⟩ : ∃ q : Int, q = ((flat A l).length : Int) - 1 := ⟨_, rfl⟩
  obtain ⟨qb, hqb⟩ : ∃ q : Int, q = ((flat B (flat A l)).length : Int) - 1 := ⟨_, rfl⟩
  rw [← hqa, ← hqb]
  have ca := hx3.at.a
  have cb := hx3.at.b
  have fa := hx3.frozen 2
  have hx4 := hx3.setA qa
  have cb4 := hx4.at.b
  have fb4 := hx4.frozen 3
  have hx5 := hx4.setB qb
  have d0 := hx5.at.k
  have d1 := hx5.at.t
  have d2 := hx5.at.a
  have d3 := hx5.at.b
  simp only [Nat.zero_add] at ca cb cb4 d1 d2 d3
  have G5 := hide (grown_trans (grown_trans G3.out (grown_set w3 w1.heap.size 2 (.int .i64 qa)) (fun g hg => by cases hg; exact .inr HSZ.out)) (grown_set _ w1.heap.size 3 (.int .i64 qb)) (fun g hg => by cases hg; exact .inr HSZ.out))
  have O5 : Hid (OwP ((w3.setCell ⟨w1.heap.size, 2, none⟩ (.int .i64 qa)).setCell ⟨w1.heap.size, 3, none⟩ (.int .i64 qb)) base (.slice x3 (flat B (flat A l)).length c3) (flat B (flat A l))) := hide
    (OwP.grown (OwP.grown o3 (grown_set w3 w1.heap.size 2 (.int .i64 qa)) (fun g hg e => by cases e; exact (K3.out _ hg).2 rfl)) (grown_set _ w1.heap.size 3 (.int .i64 qb)) (fun g hg e => by cases e; exact (K3.out _ hg).2 rfl))
  have HQ : Hid (qa = ((flat A l).length : Int) - 1 ∧ qb = ((flat B (flat A l)).length : Int) - 1) := hide ⟨hqa, hqb⟩
  have hbz : base ≤ w3.heap.size := by have := g3.size; have := HZ2.out; omega
  clear hx3 hx4 hx5 g3 k3 o3 hqa hqb
  go_wp2_with (first
    | (at_builtin; refine wpList_append_own_at _ rfl _ _ 52 rfl base 116 i1 (.agg #[.int .i64 0, .string ByteArray.empty, .int .i64 0, .int .i64 0]) 4 40 Try.underlying52 hi1 hy0 hy1 hy2 rfl (by decide) _ _ _ rfl (O5.out.alloc _) ⟨w3.heap.size, 0, none⟩ 1 1 [.int .i64 5, .string ByteArray.empty, .int .i64 qa, .int .i64 qb] rfl rfl (cell_four_newP _ _ (by first | rfl | simp) _ _ _ _ _) (four_one _ _ _ _) (by unfold maxLen; omega) (by omega) (by simp; omega) ?_)
    | go_in)
  intro v6 w6 h6 g6 _ hat
  have HR := hide (fin_ret (p := ⟨5, ByteArray.empty, qa, qb⟩) G5.out (fun g hg => (K3.out g hg).1) h6 g6 (hat.imp id (fun h => ⟨_, h, by first | exact Nat.le_refl _ | (simp; done) | (simp; omega)⟩)))
  obtain ⟨a6, c6, rfl⟩ := own_shapeT h6
  clear h6 g6 hat
  go_wp2
  go_ret
  have h9 := HR.out
  rw [HQ.out.1, HQ.out.2] at h9
  exact h9
set_option maxRecDepth 100000 in
set_option maxHeartbeats 4000000 in
theorem partsOf_alt (A B : Sh) (IA : PC A) (IB : PC B) : PC (.alt A B) := by
  intro base v l w ho hb hl
  obtain ⟨i1, hi1, hy0, hy1, hy2⟩ := info_parts info_part
  obtain ⟨a, cap, rfl⟩ := own_shapeT ho
  simp only [sz] at hl
  have HO := hide ho
  clear ho
  show Calls Try.prog 94 #[.iface 167 (.agg #[sv A, sv B]), .slice a l.length cap] w _
  go_enter Try.func94, Try.ntmps94
  go_wp2_with fail
  refine (kindc_eitherShape _ _).mono ?_
  rintro e w1 ⟨rfl, hb1⟩
  have hz1 : base ≤ w1.heap.size := Nat.le_trans hb hb1.size
  have O1 := hide (own_belowT HO.out hb1)
  have G1 := hide (grown_below0 hb1 (Value.slice a l.length cap).ownBlock)
  have HLT : Hid (∀ g, (Value.slice a l.length cap).ownBlock = some g → g < w.heap.size) := hide (fun g hg => own_at_lt HO.out hg)
  have HSZ := hide hb1.size
  clear hb1
  have la := flat_len A l
  have lb := flat_len B (flat A l)
  have pA := sz_pos A
  have pB := sz_pos B
  have HX2 : Hid (PX ((w1.alloc (.cells #[.int .i64 6, .string ByteArray.empty, .int .i64 0, .int .i64 0] 116)).alloc (.cells #[sv A, sv B] 167)) w1.heap.size ⟨6, ByteArray.empty, 0, 0⟩) := hide ((PX.newAt _ _ ⟨6, ByteArray.empty, 0, 0⟩ rfl).below ((Below.refl _ _).alloc (Nat.le_refl _) _))
  have O2 := hide ((O1.out.alloc (.cells #[.int .i64 6, .string ByteArray.empty, .int .i64 0, .int .i64 0] 116)).alloc (.cells #[sv A, sv B] 167))
  have G2 := hide (grown_trans (grown_trans G1.out (grown_alloc w1 (.cells #[.int .i64 6, .string ByteArray.empty, .int .i64 0, .int .i64 0] 116) (Value.slice a l.length cap).ownBlock) (fun g hg => .inl hg)) (grown_alloc _ (.cells #[sv A, sv B] 167) (Value.slice a l.length cap).ownBlock) (fun g hg => .inl hg))
  have HZ2 : Hid (((w1.alloc (.cells #[.int .i64 6, .string ByteArray.empty, .int .i64 0, .int .i64 0] 116)).alloc (.cells #[sv A, sv B] 167)).heap.size = w1.heap.size + 2) := by refine hide ?_; simp
  have C2 := hide (partsOfTwo_any A B IA IB base _ l _ O2.out (by have := HZ2.out; omega) (by omega))
  have hBlen : (flat B (flat A l)).length + 1 ≤ 100000000 := by omega
  have HLA := hide la
  have HLB := hide lb
  clear la lb pA pB IA IB
  go_wp2_with fail
  refine C2.out.mono ?_
  rintro e w3 ⟨v3, rfl, o3, g3, k3⟩
  have hx3 := HX2.out.grown g3 (fun e => by have h1 := HLT.out _ e; have h2 := HSZ.out; omega)
  have K3 : Hid (∀ g, v3.ownBlock = some g → ((Value.slice a l.length cap).ownBlock = some g ∨ w.heap.size ≤ g) ∧ g ≠ w1.heap.size) := hide (fun g hg => by
    have h2 := HSZ.out
    have h3 := HZ2.out
    rcases k3 g hg with h | h
    · have h1 := HLT.out g h
      exact ⟨.inl h, by omega⟩
    · exact ⟨.inr (by omega), by omega⟩)
  have G3 := hide (grown_trans G2.out g3 (fun g hg => .inl hg))
  obtain ⟨x3, c3, rfl⟩ := own_shapeT o3
  obtain ⟨qa, hqa⟩ : ∃ q : Int, q = ((flat A l).length : Int) - 1 := ⟨_, rfl⟩
  obtain ⟨qb, hqb⟩ : ∃ q : Int, q = ((flat B (flat A l)).length : Int) - 1 := ⟨_, rfl⟩
  rw [← hqa, ← hqb]
  have ca := hx3.at.a
  have cb := hx3.at.b
  have fa := hx3.frozen 2
  have hx4 := hx3.setA qa
  have cb4 := hx4.at.b
  have fb4 := hx4.frozen 3
  have hx5 := hx4.setB qb
  have d0 := hx5.at.k
  have d1 := hx5.at.t
  have d2 := hx5.at.a
  have d3 := hx5.at.b
  simp only [Nat.zero_add] at ca cb cb4 d1 d2 d3
  have G5 := hide (grown_trans (grown_trans G3.out (grown_set w3 w1.heap.size 2 (.int .i64 qa)) (fun g hg => by cases hg; exact .inr HSZ.out)) (grown_set _ w1.heap.size 3 (.int .i64 qb)) (fun g hg => by cases hg; exact .inr HSZ.out))
  have O5 : Hid (OwP ((w3.setCell ⟨w1.heap.size, 2, none⟩ (.int .i64 qa)).setCell ⟨w1.heap.size, 3, none⟩ (.int .i64 qb)) base (.slice x3 (flat B (flat A l)).length c3) (flat B (flat A l))) := hide
    (OwP.grown (OwP.grown o3 (grown_set w3 w1.heap.size 2 (.int .i64 qa)) (fun g hg e => by cases e; exact (K3.out _ hg).2 rfl)) (grown_set _ w1.heap.size 3 (.int .i64 qb)) (fun g hg e => by cases e; exact (K3.out _ hg).2 rfl))
  have HQ : Hid (qa = ((flat A l).length : Int) - 1 ∧ qb = ((flat B (flat A l)).length : Int) - 1) := hide ⟨hqa, hqb⟩
  have hbz : base ≤ w3.heap.size := by have := g3.size; have := HZ2.out; omega
  clear hx3 hx4 hx5 g3 k3 o3 hqa hqb
  go_wp2_with (first
    | (at_builtin; refine wpList_append_own_at _ rfl _ _ 52 rfl base 116 i1 (.agg #[.int .i64 0, .string ByteArray.empty, .int .i64 0, .int .i64 0]) 4 40 Try.underlying52 hi1 hy0 hy1 hy2 rfl (by decide) _ _ _ rfl (O5.out.alloc _) ⟨w3.heap.size, 0, none⟩ 1 1 [.int .i64 6, .string ByteArray.empty, .int .i64 qa, .int .i64 qb] rfl rfl (cell_four_newP _ _ (by first | rfl | simp) _ _ _ _ _) (four_one _ _ _ _) (by unfold maxLen; omega) (by omega) (by simp; omega) ?_)
    | go_in)
  intro v6 w6 h6 g6 _ hat
  have HR := hide (fin_ret (p := ⟨6, ByteArray.empty, qa, qb⟩) G5.out (fun g hg => (K3.out g hg).1) h6 g6 (hat.imp id (fun h => ⟨_, h, by first | exact Nat.le_refl _ | (simp; done) | (simp; omega)⟩)))
  obtain ⟨a6, c6, rfl⟩ := own_shapeT h6
  clear h6 g6 hat
  go_wp2
  go_ret
  have h9 := HR.out
  rw [HQ.out.1, HQ.out.2] at h9
  exact h9
set_option maxRecDepth 100000 in
set_option maxHeartbeats 4000000 in
theorem partsOf_many (A : Sh) (IA : PC A) : PC (.many A) := by
  intro base v l w ho hb hl
  obtain ⟨i1, hi1, hy0, hy1, hy2⟩ := info_parts info_part
  obtain ⟨a, cap, rfl⟩ := own_shapeT ho
  simp only [sz] at hl
  have HO := hide ho
  clear ho
  show Calls Try.prog 94 #[.iface 164 (.agg #[sv A]), .slice a l.length cap] w _
  go_enter Try.func94, Try.ntmps94
  go_wp2_with fail
  refine (kindc_manyShape _ _).mono ?_
  rintro e w1 ⟨rfl, hb1⟩
  have hz1 : base ≤ w1.heap.size := Nat.le_trans hb hb1.size
  have O1 := hide (own_belowT HO.out hb1)
  have G1 := hide (grown_below0 hb1 (Value.slice a l.length cap).ownBlock)
  have HLT : Hid (∀ g, (Value.slice a l.length cap).ownBlock = some g → g < w.heap.size) := hide (fun g hg => own_at_lt HO.out hg)
  have HSZ := hide hb1.size
  clear hb1
  have la := flat_len A l
  have pA := sz_pos A
  have HX2 : Hid (PX ((w1.alloc (.cells #[.int .i64 7, .string ByteArray.empty, .int .i64 0, .int .i64 0] 116)).alloc (.cells #[sv A] 164)) w1.heap.size ⟨7, ByteArray.empty, 0, 0⟩) := hide ((PX.newAt _ _ ⟨7, ByteArray.empty, 0, 0⟩ rfl).below ((Below.refl _ _).alloc (Nat.le_refl _) _))
  have O2 := hide ((O1.out.alloc (.cells #[.int .i64 7, .string ByteArray.empty, .int .i64 0, .int .i64 0] 116)).alloc (.cells #[sv A] 164))
  have G2 := hide (grown_trans (grown_trans G1.out (grown_alloc w1 (.cells #[.int .i64 7, .string ByteArray.empty, .int .i64 0, .int .i64 0] 116) (Value.slice a l.length cap).ownBlock) (fun g hg => .inl hg)) (grown_alloc _ (.cells #[sv A] 164) (Value.slice a l.length cap).ownBlock) (fun g hg => .inl hg))
  have HZ2 : Hid (((w1.alloc (.cells #[.int .i64 7, .string ByteArray.empty, .int .i64 0, .int .i64 0] 116)).alloc (.cells #[sv A] 164)).heap.size = w1.heap.size + 2) := by refine hide ?_; simp
  have C2 := hide (IA base _ l _ O2.out (by have := HZ2.out; omega) (by omega))
  have hBlen : (flat A l).length + 1 ≤ 100000000 := by omega
  have hA1 : 1 ≤ ((flat A l).length : Int) := by omega
  have hA2 : ((flat A l).length : Int) ≤ 100000000 := by omega
  clear la pA IA
  go_wp2_with fail
  refine C2.out.mono ?_
  rintro e w3 ⟨v3, rfl, o3, g3, k3⟩
  have hx3 := HX2.out.grown g3 (fun e => by have h1 := HLT.out _ e; have h2 := HSZ.out; omega)
  have K3 : Hid (∀ g, v3.ownBlock = some g → ((Value.slice a l.length cap).ownBlock = some g ∨ w.heap.size ≤ g) ∧ g ≠ w1.heap.size) := hide (fun g hg => by
    have h2 := HSZ.out
    have h3 := HZ2.out
    rcases k3 g hg with h | h
    · have h1 := HLT.out g h
      exact ⟨.inl h, by omega⟩
    · exact ⟨.inr (by omega), by omega⟩)
  have G3 := hide (grown_trans G2.out g3 (fun g hg => .inl hg))
  obtain ⟨x3, c3, rfl⟩ := own_shapeT o3
  have ca := hx3.at.a
  have fa := hx3.frozen 2
  have hx4 := hx3.setA (((flat A l).length : Int) - 1)
  have d0 := hx4.at.k
  have d1 := hx4.at.t
  have d2 := hx4.at.a
  have d3 := hx4.at.b
  simp only [Nat.zero_add] at ca d1 d2 d3
  have G5 := hide (grown_trans G3.out (grown_set w3 w1.heap.size 2 (.int .i64 (((flat A l).length : Int) - 1))) (fun g hg => by cases hg; exact .inr HSZ.out))
  have O5 : Hid (OwP (w3.setCell ⟨w1.heap.size, 2, none⟩ (.int .i64 (((flat A l).length : Int) - 1))) base (.slice x3 (flat A l).length c3) (flat A l)) := hide
    (OwP.grown o3 (grown_set w3 w1.heap.size 2 (.int .i64 (((flat A l).length : Int) - 1))) (fun g hg e => by cases e; exact (K3.out _ hg).2 rfl))
  have hbz : base ≤ w3.heap.size := by have := g3.size; have := HZ2.out; omega
  clear hx3 hx4 g3 k3 o3
  go_wp2_with (first
    | (at_builtin; refine wpList_append_own_at _ rfl _ _ 52 rfl base 116 i1 (.agg #[.int .i64 0, .string ByteArray.empty, .int .i64 0, .int .i64 0]) 4 40 Try.underlying52 hi1 hy0 hy1 hy2 rfl (by decide) _ _ _ rfl (O5.out.alloc _) ⟨w3.heap.size, 0, none⟩ 1 1 [.int .i64 7, .string ByteArray.empty, .int .i64 (((flat A l).length : Int) - 1), .int .i64 0] rfl rfl (cell_four_newP _ _ (by first | rfl | simp) _ _ _ _ _) (four_one _ _ _ _) (by unfold maxLen; omega) (by omega) (by simp; omega) ?_)
    | go_in)
  intro v6 w6 h6 g6 _ hat
  have HR := hide (fin_ret (p := ⟨7, ByteArray.empty, ((flat A l).length : Int) - 1, 0⟩) G5.out (fun g hg => (K3.out g hg).1) h6 g6 (hat.imp id (fun h => ⟨_, h, by first | exact Nat.le_refl _ | (simp; done) | (simp; omega)⟩)))
  obtain ⟨a6, c6, rfl⟩ := own_shapeT h6
  clear h6 g6 hat
  go_wp2
  go_ret
  exact HR.out
set_option maxRecDepth 100000 in
set_option maxHeartbeats 4000000 in
theorem partsOf_inv (A : Sh) (IA : PC A) : PC (.inv A) := by
  intro base v l w ho hb hl
  obtain ⟨i1, hi1, hy0, hy1, hy2⟩ := info_parts info_part
  obtain ⟨a, cap, rfl⟩ := own_shapeT ho
  simp only [sz] at hl
  have HO := hide ho
  clear ho
  show Calls Try.prog 94 #[.iface 168 (.agg #[sv A]), .slice a l.length cap] w _
  go_enter Try.func94, Try.ntmps94
  go_wp2_with fail
  refine (kindc_notShape _ _).mono ?_
  rintro e w1 ⟨rfl, hb1⟩
  have hz1 : base ≤ w1.heap.size := Nat.le_trans hb hb1.size
  have O1 := hide (own_belowT HO.out hb1)
  have G1 := hide (grown_below0 hb1 (Value.slice a l.length cap).ownBlock)
  have HLT : Hid (∀ g, (Value.slice a l.length cap).ownBlock = some g → g < w.heap.size) := hide (fun g hg => own_at_lt HO.out hg)
  have HSZ := hide hb1.size
  clear hb1
  have la := flat_len A l
  have pA := sz_pos A
  have HX2 : Hid (PX ((w1.alloc (.cells #[.int .i64 8, .string ByteArray.empty, .int .i64 0, .int .i64 0] 116)).alloc (.cells #[sv A] 168)) w1.heap.size ⟨8, ByteArray.empty, 0, 0⟩) := hide ((PX.newAt _ _ ⟨8, ByteArray.empty, 0, 0⟩ rfl).below ((Below.refl _ _).alloc (Nat.le_refl _) _))
  have O2 := hide ((O1.out.alloc (.cells #[.int .i64 8, .string ByteArray.empty, .int .i64 0, .int .i64 0] 116)).alloc (.cells #[sv A] 168))
  have G2 := hide (grown_trans (grown_trans G1.out (grown_alloc w1 (.cells #[.int .i64 8, .string ByteArray.empty, .int .i64 0, .int .i64 0] 116) (Value.slice a l.length cap).ownBlock) (fun g hg => .inl hg)) (grown_alloc _ (.cells #[sv A] 168) (Value.slice a l.length cap).ownBlock) (fun g hg => .inl hg))
  have HZ2 : Hid (((w1.alloc (.cells #[.int .i64 8, .string ByteArray.empty, .int .i64 0, .int .i64 0] 116)).alloc (.cells #[sv A] 168)).heap.size = w1.heap.size + 2) := by refine hide ?_; simp
  have C2 := hide (IA base _ l _ O2.out (by have := HZ2.out; omega) (by omega))
  have hBlen : (flat A l).length + 1 ≤ 100000000 := by omega
  have hA1 : 1 ≤ ((flat A l).length : Int) := by omega
  have hA2 : ((flat A l).length : Int) ≤ 100000000 := by omega
  clear la pA IA
  go_wp2_with fail
  refine C2.out.mono ?_
  rintro e w3 ⟨v3, rfl, o3, g3, k3⟩
  have hx3 := HX2.out.grown g3 (fun e => by have h1 := HLT.out _ e; have h2 := HSZ.out; omega)
  have K3 : Hid (∀ g, v3.ownBlock = some g → ((Value.slice a l.length cap).ownBlock = some g ∨ w.heap.size ≤ g) ∧ g ≠ w1.heap.size) := hide (fun g hg => by
    have h2 := HSZ.out
    have h3 := HZ2.out
    rcases k3 g hg with h | h
    · have h1 := HLT.out g h
      exact ⟨.inl h, by omega⟩
    · exact ⟨.inr (by omega), by omega⟩)
  have G3 := hide (grown_trans G2.out g3 (fun g hg => .inl hg))
  obtain ⟨x3, c3, rfl⟩ := own_shapeT o3
  have ca := hx3.at.a
  have fa := hx3.frozen 2
  have hx4 := hx3.setA (((flat A l).length : Int) - 1)
  have d0 := hx4.at.k
  have d1 := hx4.at.t
  have d2 := hx4.at.a
  have d3 := hx4.at.b
  simp only [Nat.zero_add] at ca d1 d2 d3
  have G5 := hide (grown_trans G3.out (grown_set w3 w1.heap.size 2 (.int .i64 (((flat A l).length : Int) - 1))) (fun g hg => by cases hg; exact .inr HSZ.out))
  have O5 : Hid (OwP (w3.setCell ⟨w1.heap.size, 2, none⟩ (.int .i64 (((flat A l).length : Int) - 1))) base (.slice x3 (flat A l).length c3) (flat A l)) := hide
    (OwP.grown o3 (grown_set w3 w1.heap.size 2 (.int .i64 (((flat A l).length : Int) - 1))) (fun g hg e => by cases e; exact (K3.out _ hg).2 rfl))
  have hbz : base ≤ w3.heap.size := by have := g3.size; have := HZ2.out; omega
  clear hx3 hx4 g3 k3 o3
  go_wp2_with (first
    | (at_builtin; refine wpList_append_own_at _ rfl _ _ 52 rfl base 116 i1 (.agg #[.int .i64 0, .string ByteArray.empty, .int .i64 0, .int .i64 0]) 4 40 Try.underlying52 hi1 hy0 hy1 hy2 rfl (by decide) _ _ _ rfl (O5.out.alloc _) ⟨w3.heap.size, 0, none⟩ 1 1 [.int .i64 8, .string ByteArray.empty, .int .i64 (((flat A l).length : Int) - 1), .int .i64 0] rfl rfl (cell_four_newP _ _ (by first | rfl | simp) _ _ _ _ _) (four_one _ _ _ _) (by unfold maxLen; omega) (by omega) (by simp; omega) ?_)
    | go_in)
  intro v6 w6 h6 g6 _ hat
  have HR := hide (fin_ret (p := ⟨8, ByteArray.empty, ((flat A l).length : Int) - 1, 0⟩) G5.out (fun g hg => (K3.out g hg).1) h6 g6 (hat.imp id (fun h => ⟨_, h, by first | exact Nat.le_refl _ | (simp; done) | (simp; omega)⟩)))
  obtain ⟨a6, c6, rfl⟩ := own_shapeT h6
  clear h6 g6 hat
  go_wp2
  go_ret
  exact HR.out
theorem partsOf_any : ∀ x, okS x → PC x
  | .none, _ => partsOf_none
  | .empty, _ => partsOf_empty
  | .letter c, h => partsOf_letter c h
  | .any, _ => partsOf_any'
  | .seq a b, h => partsOf_seq a b (partsOf_any a h.1) (partsOf_any b h.2)
  | .alt a b, h => partsOf_alt a b (partsOf_any a h.1) (partsOf_any b h.2)
  | .many a, h => partsOf_many a (partsOf_any a h)
  | .inv a, h => partsOf_inv a (partsOf_any a h)
end Go.Proofs.Ytapffbbmofhpoab.L5

namespace Go.Proofs.Ytapffbbmofhpoab.L5
open Go.RowKit L1 L4
set_option linter.unusedVariables false

theorem Tr.grown {w w' : World} {S : Nat → Prop} {x : Sh} {p : Option Addr} {r : Option Nat} (h : Tr w S p x) (hg : w.grownBy w' r) (hne : ∀ g, S g → r ≠ some g) : Tr w' S p x :=
  Tr.keep (fun g k t pa pb hs h => ⟨hs, by
    have e : ∀ j, w'.cell? ⟨g, j, none⟩ = w.cell? ⟨g, j, none⟩ := fun j => World.cell?_of_block (w := w) (hg.block g (blk_lt h.k) (fun e => hne g hs e.symm))
    exact ⟨(e 0).trans h.k, (e 1).trans h.t, (e 2).trans h.a, (e 3).trans h.b⟩⟩) x p h
theorem AtF.grown {w w' : World} {g : Nat} {k : Int} {t : ByteArray} {pa pb : Option Addr} {r : Option Nat} (h : AtF w g k t pa pb) (hg : w.grownBy w' r) (hne : r ≠ some g) : AtF w' g k t pa pb := by
  have e : ∀ j, w'.cell? ⟨g, j, none⟩ = w.cell? ⟨g, j, none⟩ := fun j => World.cell?_of_block (w := w) (hg.block g (blk_lt h.k) (fun e => hne e.symm))
  exact ⟨(e 0).trans h.k, (e 1).trans h.t, (e 2).trans h.a, (e 3).trans h.b⟩
/-- What the call does at a tree. -/
def SC (x : Sh) : Prop := ∀ (S : Nat → Prop) (p : Option Addr) (base : Nat) (v : Value) (l : List Pr) (w : World), Tr w S p x → (∀ g, S g → v.ownBlock ≠ some g) → OwP w base v l → base ≤ w.heap.size → l.length + sz x ≤ 100000000 → Calls Try.prog 97 #[.pointer p, v] w fun e w' => RetF w base v (flat x l) e w'
set_option maxRecDepth 100000 in
set_option maxHeartbeats 4000000 in
theorem l5Flat_leaf (x : Sh) (k : Int) (t : ByteArray) (hk : ¬ (k = 5 ∨ k = 6) ∧ ¬ (k = 7 ∨ k = 8)) (hx : ∀ w S p, Tr w S p x → ∃ g pa pb, p = some ⟨g, 0, none⟩ ∧ S g ∧ AtF w g k t pa pb) (hfl : ∀ l, flat x l = l ++ [⟨k, t, 0, 0⟩]) (hsz : sz x = 1) : SC x := by
  intro S p base v l w ht hS ho hb hl
  obtain ⟨i1, hi1, hy0, hy1, hy2⟩ := info_parts info_part
  obtain ⟨a, cap, rfl⟩ := own_shapeT ho
  obtain ⟨g, pa, pb, rfl, hSg, hf⟩ := hx w S p ht
  rw [hfl]
  rw [hsz] at hl
  have c0 := hf.k
  have c1 := hf.t
  have hgl : g < w.heap.size := blk_lt hf.k
  have c0a : (w.alloc (.cells #[.int .i64 0, .string ⟨#[]⟩, .int .i64 0, .int .i64 0] 116)).cell? ⟨g, 0, none⟩ = some (.int .i64 k) := (((Below.refl _ _).alloc (Nat.le_refl _) _).cell (p := ⟨g, 0, none⟩) hgl).trans c0
  have c1a : (w.alloc (.cells #[.int .i64 0, .string ⟨#[]⟩, .int .i64 0, .int .i64 0] 116)).cell? ⟨g, 1, none⟩ = some (.string t) := (((Below.refl _ _).alloc (Nat.le_refl _) _).cell (p := ⟨g, 1, none⟩) hgl).trans c1
  obtain ⟨W, hW⟩ : ∃ W, W = (w.alloc (.cells #[.int .i64 k, .string t, .int .i64 0, .int .i64 0] 116)).drew := ⟨_, rfl⟩
  have bW : Below w.heap.size w W := by rw [hW]; exact ((Below.refl _ _).alloc (Nat.le_refl _) _).drew
  have HX : Hid (PX W w.heap.size ⟨k, t, 0, 0⟩) := hide (by rw [hW]; exact PX.newAt w _ ⟨k, t, 0, 0⟩ rfl)
  have OW := hide (own_belowT ho bW)
  have GW := hide (grown_below0 bW (Value.slice a l.length cap).ownBlock)
  have AW := hide (hf.base bW hgl)
  have HWZ : Hid (W.heap.size = w.heap.size + 1) := hide (by rw [hW]; simp [World.drew])
  have HLT : Hid (∀ g, (Value.slice a l.length cap).ownBlock = some g → g < w.heap.size) := hide (fun g hg => own_at_lt ho hg)
  have hbW : base ≤ W.heap.size := by have := bW.size; omega
  have C5 := hide (fun w => l5Two_any k w false (iff_of_false (by simp) hk.1))
  have C7 := hide (fun w => l5One_any k w false (iff_of_false (by simp) hk.2))
  have x0 := HX.out.at.k
  have x1 := HX.out.at.t
  have x2 := HX.out.at.a
  have x3 := HX.out.at.b
  simp only [Nat.zero_add] at x1 x2 x3
  clear ho hf ht hx hfl hsz hk hS bW
  go_enter Try.func97, Try.ntmps97
  go_wp2
  go_region
  rw [← hW]
  clear hW c0 c1 c0a c1a
  have d0 := AW.out.k
  go_wp2_with fail
  refine (C5.out _).mono ?_
  rintro e w1 ⟨rfl, rfl⟩
  go_wp2_with fail
  refine (C7.out _).mono ?_
  rintro e w1 ⟨rfl, rfl⟩
  go_wp2_with fail
  refine (C5.out _).mono ?_
  rintro e w1 ⟨rfl, rfl⟩
  go_wp2_with (first
    | (at_builtin; refine wpList_append_own_at _ rfl _ _ 52 rfl base 116 i1 (.agg #[.int .i64 0, .string ByteArray.empty, .int .i64 0, .int .i64 0]) 4 40 Try.underlying52 hi1 hy0 hy1 hy2 rfl (by decide) _ _ _ rfl (OW.out.alloc _) ⟨W.heap.size, 0, none⟩ 1 1 [.int .i64 k, .string t, .int .i64 0, .int .i64 0] rfl rfl (cell_four_newP _ _ (by first | rfl | simp) _ _ _ _ _) (four_one _ _ _ _) (by unfold maxLen; omega) (by omega) (by simp; omega) ?_)
    | go_in)
  intro v6 w6 h6 g6 _ hat
  have HR := hide (fin_ret (p := ⟨k, t, 0, 0⟩) GW.out (fun g hg => .inl hg) h6 g6 (hat.imp id (fun h => ⟨_, h, by first | exact Nat.le_refl _ | (simp; done) | (simp; omega)⟩)))
  obtain ⟨a6, c6, rfl⟩ := own_shapeT h6
  clear h6 g6 hat
  go_wp2
  go_ret
  exact HR.out
set_option maxRecDepth 100000 in
set_option maxHeartbeats 8000000 in
theorem l5Flat_two (x A B : Sh) (k : Int) (hk : k = 5 ∨ k = 6) (hx : ∀ w S p, Tr w S p x → ∃ g pa pb, p = some ⟨g, 0, none⟩ ∧ S g ∧ AtF w g k ByteArray.empty pa pb ∧ Tr w S pa A ∧ Tr w S pb B) (hfl : ∀ l, flat x l = flat B (flat A l) ++ [⟨k, ByteArray.empty, ((flat A l).length : Int) - 1, ((flat B (flat A l)).length : Int) - 1⟩]) (hsz : sz x = sz A + sz B + 1) (IA : SC A) (IB : SC B) : SC x := by
  intro S p base v l w ht hS ho hb hl
  obtain ⟨i1, hi1, hy0, hy1, hy2⟩ := info_parts info_part
  obtain ⟨a, cap, rfl⟩ := own_shapeT ho
  obtain ⟨g, pa, pb, rfl, hSg, hf, ta, tb⟩ := hx w S p ht
  rw [hfl]
  rw [hsz] at hl
  have la := flat_len A l
  have lb := flat_len B (flat A l)
  have pA := sz_pos A
  have pB := sz_pos B
  have c0 := hf.k
  have c1 := hf.t
  have hgl : g < w.heap.size := blk_lt hf.k
  have c0a : (w.alloc (.cells #[.int .i64 0, .string ⟨#[]⟩, .int .i64 0, .int .i64 0] 116)).cell? ⟨g, 0, none⟩ = some (.int .i64 k) := (((Below.refl _ _).alloc (Nat.le_refl _) _).cell (p := ⟨g, 0, none⟩) hgl).trans c0
  have c1a : (w.alloc (.cells #[.int .i64 0, .string ⟨#[]⟩, .int .i64 0, .int .i64 0] 116)).cell? ⟨g, 1, none⟩ = some (.string ByteArray.empty) := (((Below.refl _ _).alloc (Nat.le_refl _) _).cell (p := ⟨g, 1, none⟩) hgl).trans c1
  obtain ⟨W, hW⟩ : ∃ W, W = (w.alloc (.cells #[.int .i64 k, .string ByteArray.empty, .int .i64 0, .int .i64 0] 116)).drew := ⟨_, rfl⟩
  have bW : Below w.heap.size w W := by rw [hW]; exact ((Below.refl _ _).alloc (Nat.le_refl _) _).drew
  have HX : Hid (PX W w.heap.size ⟨k, ByteArray.empty, 0, 0⟩) := hide (by rw [hW]; exact PX.newAt w _ ⟨k, ByteArray.empty, 0, 0⟩ rfl)
  have OW := hide (own_belowT ho bW)
  have GW := hide (grown_below0 bW (Value.slice a l.length cap).ownBlock)
  have AW := hide (hf.base bW hgl)
  have HWZ : Hid (W.heap.size = w.heap.size + 1) := hide (by rw [hW]; simp [World.drew])
  have HLT : Hid (∀ g, (Value.slice a l.length cap).ownBlock = some g → g < w.heap.size) := hide (fun g hg => own_at_lt ho hg)
  have hbW : base ≤ W.heap.size := by have := bW.size; omega
  have C5 := hide (fun w => l5Two_any k w true (iff_of_true rfl hk))
  have TA := hide (ta.lt.below bW)
  have TB := hide (tb.lt.below bW)
  have HSg := hide (And.intro hSg hgl)
  have HS := hide hS
  have CA := hide (IA _ pa base _ l W TA.out (fun g hg => hS g hg.1) OW.out hbW (by omega))
  obtain ⟨N, hN⟩ : ∃ N, N = w.heap.size := ⟨_, rfl⟩
  have CB := hide (fun v w t d o b => IB (fun h => S h ∧ h < N) pb base v (flat A l) w t d o b (by omega))
  rw [hN] at CB
  clear hN
  have hA1 : 1 ≤ ((flat A l).length : Int) := by omega
  have hA2 : ((flat A l).length : Int) ≤ 100000000 := by omega
  have hB1 : 1 ≤ ((flat B (flat A l)).length : Int) := by omega
  have hB2 : ((flat B (flat A l)).length : Int) ≤ 100000000 := by omega
  have hB3 : (flat B (flat A l)).length + 1 ≤ 100000000 := by omega
  have d2 := AW.out.a
  clear ho hf ht hx hfl hsz hk hS bW ta tb la lb pA pB IA IB hSg
  go_enter Try.func97, Try.ntmps97
  go_wp2
  go_region
  rw [← hW]
  clear hW c0 c1 c0a c1a
  have d0 := AW.out.k
  go_wp2_with fail
  refine (C5.out _).mono ?_
  rintro e w1 ⟨rfl, rfl⟩
  go_wp2_with fail
  refine CA.out.mono ?_
  rintro e w3 ⟨v3, rfl, o3, g3, k3⟩
  have hx3 := HX.out.grown g3 (fun e => by have h1 := HLT.out _ e; omega)
  have K3 : Hid (∀ g, v3.ownBlock = some g → ((Value.slice a l.length cap).ownBlock = some g ∨ w.heap.size ≤ g) ∧ g ≠ w.heap.size ∧ ∀ h, S h ∧ h < w.heap.size → h ≠ g) := hide (fun g hg => by
    have h3 := HWZ.out
    rcases k3 g hg with h | h
    · have h1 := HLT.out g h
      exact ⟨.inl h, by omega, fun q hq e => HS.out q hq.1 (by rw [e]; exact h)⟩
    · exact ⟨.inr (by omega), by omega, fun q hq e => by omega⟩)
  have G3 := hide (grown_trans GW.out g3 (fun g hg => .inl hg))
  have T3 := hide (TB.out.grown g3 (fun g hg => HS.out g hg.1))
  have A3 := hide (AW.out.grown g3 (HS.out _ HSg.out.1))
  have Z3 := hide g3.size
  obtain ⟨x3, c3, rfl⟩ := own_shapeT o3
  have ca := hx3.at.a
  have fa := hx3.frozen 2
  have hx4 := hx3.setA (((flat A l).length : Int) - 1)
  simp only [Nat.zero_add] at ca
  have gs := grown_set w3 w.heap.size 2 (.int .i64 (((flat A l).length : Int) - 1))
  have X4 := hide hx4
  have G4 := hide (grown_trans G3.out gs (fun g hg => by cases hg; exact .inr (Nat.le_refl _)))
  have O4 := hide (OwP.grown o3 gs (fun g hg e => by cases e; exact (K3.out _ hg).2.1 rfl))
  have T4 := hide (T3.out.grown gs (fun g hg e => by cases e; have := hg.2; omega))
  have a4 := A3.out.grown gs (fun e => by cases e; have := HSg.out.2; omega)
  have Z4 := hide gs.size
  have A4 := hide a4
  have e0 := a4.k
  clear hx3 hx4 g3 k3 o3 gs d0 d2 a4
  go_wp2_with fail
  refine (C5.out _).mono ?_
  rintro e w5 ⟨rfl, hw5⟩
  obtain ⟨w4, hw4⟩ : ∃ w4, w4 = w3.setCell ⟨w.heap.size, 2, none⟩ (.int .i64 (((flat A l).length : Int) - 1)) := ⟨_, rfl⟩
  rw [← hw4] at X4 G4 O4 T4 A4 Z4 hw5
  subst hw5
  clear hw4 e0 ca fa
  have HB4 : Hid (base ≤ w4.heap.size) := hide (by have h1 := Z3.out; have h2 := Z4.out; omega)
  have CB2 := hide (CB.out _ w4 T4.out (fun h hh e => (K3.out _ e).2.2 h hh rfl) O4.out HB4.out)
  have e3 := A4.out.b
  go_wp2_with fail
  refine CB2.out.mono ?_
  rintro e w6 ⟨v6, rfl, o6, g6, k6⟩
  have HZ6 : Hid (w.heap.size < w4.heap.size) := hide (by have h1 := Z3.out; have h2 := Z4.out; have h3 := HWZ.out; omega)
  have hx6 := X4.out.grown g6 (fun e => (K3.out _ e).2.1 rfl)
  have K6 : Hid (∀ g, v6.ownBlock = some g → ((Value.slice a l.length cap).ownBlock = some g ∨ w.heap.size ≤ g) ∧ g ≠ w.heap.size) := hide (fun g hg => by
    have h3 := HZ6.out
    rcases k6 g hg with h | h
    · exact ⟨(K3.out g h).1, (K3.out g h).2.1⟩
    · exact ⟨.inr (by omega), by omega⟩)
  have G6 := hide (grown_trans G4.out g6 (fun g hg => (K3.out g hg).1))
  have hb6 : base ≤ w6.heap.size := by have h1 := HB4.out; have h2 := g6.size; omega
  obtain ⟨x6, c6', rfl⟩ := own_shapeT o6
  have cb := hx6.at.b
  have fb := hx6.frozen 3
  have hx7 := hx6.setB (((flat B (flat A l)).length : Int) - 1)
  have y0 := hx7.at.k
  have y1 := hx7.at.t
  have y2 := hx7.at.a
  have y3 := hx7.at.b
  simp only [Nat.zero_add] at cb y1 y2 y3
  have gs := grown_set w6 w.heap.size 3 (.int .i64 (((flat B (flat A l)).length : Int) - 1))
  have G7 := hide (grown_trans G6.out gs (fun g hg => by cases hg; exact .inr (Nat.le_refl _)))
  have O7 := hide (OwP.grown o6 gs (fun g hg e => by cases e; exact (K6.out _ hg).2 rfl))
  clear hx6 hx7 g6 k6 o6 gs e3
  go_wp2_with (first
    | (at_builtin; refine wpList_append_own_at _ rfl _ _ 52 rfl base 116 i1 (.agg #[.int .i64 0, .string ByteArray.empty, .int .i64 0, .int .i64 0]) 4 40 Try.underlying52 hi1 hy0 hy1 hy2 rfl (by decide) _ _ _ rfl (O7.out.alloc _) ⟨w6.heap.size, 0, none⟩ 1 1 [.int .i64 k, .string ByteArray.empty, .int .i64 (((flat A l).length : Int) - 1), .int .i64 (((flat B (flat A l)).length : Int) - 1)] rfl rfl (cell_four_newP _ _ (by first | rfl | simp) _ _ _ _ _) (four_one _ _ _ _) (by unfold maxLen; omega) (by omega) (by simp; omega) ?_)
    | go_in)
  intro v8 w8 h8 g8 _ hat
  have HR := hide (fin_ret (p := ⟨k, ByteArray.empty, ((flat A l).length : Int) - 1, ((flat B (flat A l)).length : Int) - 1⟩) G7.out (fun g hg => (K6.out g hg).1) h8 g8 (hat.imp id (fun h => ⟨_, h, by first | exact Nat.le_refl _ | (simp; done) | (simp; omega)⟩)))
  obtain ⟨a6, c6, rfl⟩ := own_shapeT h8
  clear h8 g8 hat
  go_wp2
  go_ret
  exact HR.out
set_option maxRecDepth 100000 in
set_option maxHeartbeats 8000000 in
theorem l5Flat_one (x A : Sh) (k : Int) (hk : k = 7 ∨ k = 8) (hx : ∀ w S p, Tr w S p x → ∃ g pa pb, p = some ⟨g, 0, none⟩ ∧ S g ∧ AtF w g k ByteArray.empty pa pb ∧ Tr w S pa A) (hfl : ∀ l, flat x l = flat A l ++ [⟨k, ByteArray.empty, ((flat A l).length : Int) - 1, 0⟩]) (hsz : sz x = sz A + 1) (IA : SC A) : SC x := by
  intro S p base v l w ht hS ho hb hl
  obtain ⟨i1, hi1, hy0, hy1, hy2⟩ := info_parts info_part
  obtain ⟨a, cap, rfl⟩ := own_shapeT ho
  obtain ⟨g, pa, pb, rfl, hSg, hf, ta⟩ := hx w S p ht
  rw [hfl]
  rw [hsz] at hl
  have la := flat_len A l
  have pA := sz_pos A
  have c0 := hf.k
  have c1 := hf.t
  have hgl : g < w.heap.size := blk_lt hf.k
  have c0a : (w.alloc (.cells #[.int .i64 0, .string ⟨#[]⟩, .int .i64 0, .int .i64 0] 116)).cell? ⟨g, 0, none⟩ = some (.int .i64 k) := (((Below.refl _ _).alloc (Nat.le_refl _) _).cell (p := ⟨g, 0, none⟩) hgl).trans c0
  have c1a : (w.alloc (.cells #[.int .i64 0, .string ⟨#[]⟩, .int .i64 0, .int .i64 0] 116)).cell? ⟨g, 1, none⟩ = some (.string ByteArray.empty) := (((Below.refl _ _).alloc (Nat.le_refl _) _).cell (p := ⟨g, 1, none⟩) hgl).trans c1
  obtain ⟨W, hW⟩ : ∃ W, W = (w.alloc (.cells #[.int .i64 k, .string ByteArray.empty, .int .i64 0, .int .i64 0] 116)).drew := ⟨_, rfl⟩
  have bW : Below w.heap.size w W := by rw [hW]; exact ((Below.refl _ _).alloc (Nat.le_refl _) _).drew
  have HX : Hid (PX W w.heap.size ⟨k, ByteArray.empty, 0, 0⟩) := hide (by rw [hW]; exact PX.newAt w _ ⟨k, ByteArray.empty, 0, 0⟩ rfl)
  have OW := hide (own_belowT ho bW)
  have GW := hide (grown_below0 bW (Value.slice a l.length cap).ownBlock)
  have AW := hide (hf.base bW hgl)
  have HWZ : Hid (W.heap.size = w.heap.size + 1) := hide (by rw [hW]; simp [World.drew])
  have HLT : Hid (∀ g, (Value.slice a l.length cap).ownBlock = some g → g < w.heap.size) := hide (fun g hg => own_at_lt ho hg)
  have hbW : base ≤ W.heap.size := by have := bW.size; omega
  have C5 := hide (fun w => l5Two_any k w false (iff_of_false (by simp) (by omega)))
  have C7 := hide (fun w => l5One_any k w true (iff_of_true rfl hk))
  have TA := hide (ta.lt.below bW)
  have HSg := hide (And.intro hSg hgl)
  have HS := hide hS
  have CA := hide (IA _ pa base _ l W TA.out (fun g hg => hS g hg.1) OW.out hbW (by omega))
  have hA1 : 1 ≤ ((flat A l).length : Int) := by omega
  have hA2 : ((flat A l).length : Int) ≤ 100000000 := by omega
  have hB3 : (flat A l).length + 1 ≤ 100000000 := by omega
  have d2 := AW.out.a
  clear ho hf ht hx hfl hsz hk hS bW ta la pA IA hSg
  go_enter Try.func97, Try.ntmps97
  go_wp2
  go_region
  rw [← hW]
  clear hW c0 c1 c0a c1a
  have d0 := AW.out.k
  go_wp2_with fail
  refine (C5.out _).mono ?_
  rintro e w1 ⟨rfl, rfl⟩
  go_wp2_with fail
  refine (C7.out _).mono ?_
  rintro e w1 ⟨rfl, rfl⟩
  go_wp2_with fail
  refine CA.out.mono ?_
  rintro e w3 ⟨v3, rfl, o3, g3, k3⟩
  have hx3 := HX.out.grown g3 (fun e => by have h1 := HLT.out _ e; omega)
  have K3 : Hid (∀ g, v3.ownBlock = some g → ((Value.slice a l.length cap).ownBlock = some g ∨ w.heap.size ≤ g) ∧ g ≠ w.heap.size ∧ ∀ h, S h ∧ h < w.heap.size → h ≠ g) := hide (fun g hg => by
    have h3 := HWZ.out
    rcases k3 g hg with h | h
    · have h1 := HLT.out g h
      exact ⟨.inl h, by omega, fun q hq e => HS.out q hq.1 (by rw [e]; exact h)⟩
    · exact ⟨.inr (by omega), by omega, fun q hq e => by omega⟩)
  have G3 := hide (grown_trans GW.out g3 (fun g hg => .inl hg))
  have A3 := hide (AW.out.grown g3 (HS.out _ HSg.out.1))
  have Z3 := hide g3.size
  obtain ⟨x3, c3, rfl⟩ := own_shapeT o3
  have ca := hx3.at.a
  have fa := hx3.frozen 2
  have hx4 := hx3.setA (((flat A l).length : Int) - 1)
  simp only [Nat.zero_add] at ca
  have gs := grown_set w3 w.heap.size 2 (.int .i64 (((flat A l).length : Int) - 1))
  have y0 := hx4.at.k
  have y1 := hx4.at.t
  have y2 := hx4.at.a
  have y3 := hx4.at.b
  simp only [Nat.zero_add] at y1 y2 y3
  have G4 := hide (grown_trans G3.out gs (fun g hg => by cases hg; exact .inr (Nat.le_refl _)))
  have O4 := hide (OwP.grown o3 gs (fun g hg e => by cases e; exact (K3.out _ hg).2.1 rfl))
  have a4 := A3.out.grown gs (fun e => by cases e; have := HSg.out.2; omega)
  have e0 := a4.k
  have hb3 : base ≤ w3.heap.size := by have h1 := Z3.out; omega
  clear hx3 hx4 g3 k3 o3 gs d0 d2 a4
  go_wp2_with fail
  refine (C5.out _).mono ?_
  rintro e w5 ⟨rfl, rfl⟩
  go_wp2_with (first
    | (at_builtin; refine wpList_append_own_at _ rfl _ _ 52 rfl base 116 i1 (.agg #[.int .i64 0, .string ByteArray.empty, .int .i64 0, .int .i64 0]) 4 40 Try.underlying52 hi1 hy0 hy1 hy2 rfl (by decide) _ _ _ rfl (O4.out.alloc _) ⟨w3.heap.size, 0, none⟩ 1 1 [.int .i64 k, .string ByteArray.empty, .int .i64 (((flat A l).length : Int) - 1), .int .i64 0] rfl rfl (cell_four_newP _ _ (by first | rfl | simp) _ _ _ _ _) (four_one _ _ _ _) (by unfold maxLen; omega) (by omega) (by simp; omega) ?_)
    | go_in)
  intro v6 w6 h6 g6 _ hat
  have HR := hide (fin_ret (p := ⟨k, ByteArray.empty, ((flat A l).length : Int) - 1, 0⟩) G4.out (fun g hg => (K3.out g hg).1) h6 g6 (hat.imp id (fun h => ⟨_, h, by first | exact Nat.le_refl _ | (simp; done) | (simp; omega)⟩)))
  obtain ⟨a6, c6, rfl⟩ := own_shapeT h6
  clear h6 g6 hat
  go_wp2
  go_ret
  exact HR.out
theorem l5Flat_any : ∀ x, SC x
  | .none => l5Flat_leaf _ 1 ByteArray.empty (by omega) (fun w S p h => h) (fun l => rfl) rfl
  | .empty => l5Flat_leaf _ 2 ByteArray.empty (by omega) (fun w S p h => h) (fun l => rfl) rfl
  | .letter c => l5Flat_leaf _ 3 (one c) (by omega) (fun w S p h => h) (fun l => rfl) rfl
  | .any => l5Flat_leaf _ 4 ByteArray.empty (by omega) (fun w S p h => h) (fun l => rfl) rfl
  | .seq a b => l5Flat_two _ a b 5 (by omega) (fun w S p h => h) (fun l => rfl) rfl (l5Flat_any a) (l5Flat_any b)
  | .alt a b => l5Flat_two _ a b 6 (by omega) (fun w S p h => h) (fun l => rfl) rfl (l5Flat_any a) (l5Flat_any b)
  | .many a => l5Flat_one _ a 7 (by omega) (fun w S p h => h) (fun l => rfl) rfl (l5Flat_any a)
  | .inv a => l5Flat_one _ a 8 (by omega) (fun w S p h => h) (fun l => rfl) rfl (l5Flat_any a)
end Go.Proofs.Ytapffbbmofhpoab.L5

namespace Go.Proofs.Ytapffbbmofhpoab.L5
open Go.RowKit L1 L4
set_option linter.unusedVariables false
attribute [local go_sem] mk_noText mk_emptyText mk_oneLetter mk_anyLetter mk_thenShape mk_eitherShape mk_manyShape mk_notShape as_noText_noText as_noText_emptyText as_noText_oneLetter as_noText_anyLetter as_noText_thenShape as_noText_eitherShape as_noText_manyShape as_noText_notShape as_emptyText_noText as_emptyText_emptyText as_emptyText_oneLetter as_emptyText_anyLetter as_emptyText_thenShape as_emptyText_eitherShape as_emptyText_manyShape as_emptyText_notShape as_oneLetter_noText as_oneLetter_emptyText as_oneLetter_oneLetter as_oneLetter_anyLetter as_oneLetter_thenShape as_oneLetter_eitherShape as_oneLetter_manyShape as_oneLetter_notShape as_anyLetter_noText as_anyLetter_emptyText as_anyLetter_oneLetter as_anyLetter_anyLetter as_anyLetter_thenShape as_anyLetter_eitherShape as_anyLetter_manyShape as_anyLetter_notShape as_thenShape_noText as_thenShape_emptyText as_thenShape_oneLetter as_thenShape_anyLetter as_thenShape_thenShape as_thenShape_eitherShape as_thenShape_manyShape as_thenShape_notShape as_eitherShape_noText as_eitherShape_emptyText as_eitherShape_oneLetter as_eitherShape_anyLetter as_eitherShape_thenShape as_eitherShape_eitherShape as_eitherShape_manyShape as_eitherShape_notShape as_manyShape_noText as_manyShape_emptyText as_manyShape_oneLetter as_manyShape_anyLetter as_manyShape_thenShape as_manyShape_eitherShape as_manyShape_manyShape as_manyShape_notShape as_notShape_noText as_notShape_emptyText as_notShape_oneLetter as_notShape_anyLetter as_notShape_thenShape as_notShape_eitherShape as_notShape_manyShape as_notShape_notShape
/-- A list of shapes lies in memory. -/
def SlS (w : World) (a : Option Addr) (m : List Sh) : Prop := ∀ i, i < m.length → ∃ b off, a = some ⟨b, off, none⟩ ∧ w.cell? ⟨b, off + i, none⟩ = some (sv (m.getD i .none))
theorem SlS.below {w w' : World} {a : Option Addr} {xs : List Sh} (h : SlS w a xs) (hb : Below w.heap.size w w') : SlS w' a xs := fun i hi => by
  obtain ⟨b, off, ha, hc⟩ := h i hi
  exact ⟨b, off, ha, (hb.cell (p := ⟨b, off + i, none⟩) (blk_lt hc)).trans hc⟩
theorem sv_get (m : List Sh) (i : Nat) (h : i < m.length) : (m.map sv)[i]? = some (sv (m.getD i .none)) := by
  rw [List.getElem?_map, List.getElem?_eq_getElem h]
  simp [List.getD, List.getElem?_eq_getElem h]
theorem own_slS {w : World} {base n cap : Nat} {a : Option Addr} {m : List Sh} (h : w.ownsRow base 107 1 (.slice a n cap) n (m.map sv)) : SlS w a m := fun i hi => by
  have hl := h.1
  simp at hl
  rcases h.2 with ⟨hv, h0⟩ | ⟨g, c, cur, hv, _⟩
  · omega
  · cases hv
    have := h.cells (g := g) rfl i _ (sv_get m i hi)
    rw [addr_add] at this
    exact ⟨g, 0, rfl, by simpa using this⟩
theorem info_shape : (Try.prog.info? 107).map (fun i => (i.zero, i.size, i.bytes)) = some (some .nilIface, 1, 16) := by kernel_rfl
theorem below_drewS {B : Nat} {a w : World} (h : Below B a w) (n : Nat) : Below B a (w.drewN n) := h.trans ⟨rfl, rfl, rfl, Nat.le_refl _, fun _ _ => rfl⟩
theorem ret_val {u v : Value} (h : u = v) : Ending.returned u = .returned v := by rw [h]
set_option maxRecDepth 100000 in
set_option maxHeartbeats 2000000 in
theorem sop_1 (t : ByteArray) (a b : Int) (x : Option Addr) (n cap : Nat) (w : World) :
    Calls Try.prog 127 #[.agg #[.int .i64 1, .string t, .int .i64 a, .int .i64 b], .slice x n cap] w fun e w' => e = .returned (.iface 175 (.agg #[])) ∧ Below w.heap.size w w' := by
  go_enter Try.func127, Try.ntmps127
  go_wp2
  go_ret
  exact ⟨rfl, (Below.refl _ _).alloc (Nat.le_refl _) _⟩
set_option maxRecDepth 100000 in
set_option maxHeartbeats 2000000 in
theorem sop_2 (t : ByteArray) (a b : Int) (x : Option Addr) (n cap : Nat) (w : World) :
    Calls Try.prog 127 #[.agg #[.int .i64 2, .string t, .int .i64 a, .int .i64 b], .slice x n cap] w fun e w' => e = .returned (.iface 162 (.agg #[])) ∧ Below w.heap.size w w' := by
  go_enter Try.func127, Try.ntmps127
  go_wp2
  go_ret
  exact ⟨rfl, (Below.refl _ _).alloc (Nat.le_refl _) _⟩
set_option maxRecDepth 100000 in
set_option maxHeartbeats 2000000 in
theorem sop_4 (t : ByteArray) (a b : Int) (x : Option Addr) (n cap : Nat) (w : World) :
    Calls Try.prog 127 #[.agg #[.int .i64 4, .string t, .int .i64 a, .int .i64 b], .slice x n cap] w fun e w' => e = .returned (.iface 173 (.agg #[])) ∧ Below w.heap.size w w' := by
  go_enter Try.func127, Try.ntmps127
  go_wp2
  go_ret
  exact ⟨rfl, (Below.refl _ _).alloc (Nat.le_refl _) _⟩
set_option maxRecDepth 100000 in
set_option maxHeartbeats 2000000 in
theorem sop_3 (t : ByteArray) (c : Int) (hc : c = ltr t) (ht : t.size = 1) (a b : Int) (x : Option Addr) (n cap : Nat) (w : World) :
    Calls Try.prog 127 #[.agg #[.int .i64 3, .string t, .int .i64 a, .int .i64 b], .slice x n cap] w fun e w' => e = .returned (.iface 170 (.agg #[.int .u8 c])) ∧ Below w.heap.size w w' := by
  have h0 : (0 : Int) < (t.size : Int) := by omega
  have hb : ((t[0]'(by omega)).toNat : Int) = c := by rw [hc]; exact (bts_at t 0 (by omega)).symm
  clear hc
  go_enter Try.func127, Try.ntmps127
  go_wp2
  go_ret
  exact ⟨rfl, (Below.refl _ _).alloc (Nat.le_refl _) _⟩
set_option maxRecDepth 100000 in
set_option maxHeartbeats 2000000 in
theorem sop_5 (t : ByteArray) (a b : Nat) (g off n cap : Nat) (w : World) (X Y : Sh) (ha : a < n) (hb : b < n) (hg : g < w.heap.size) (h1 : w.cell? ⟨g, off + a, none⟩ = some (sv X)) (h2 : w.cell? ⟨g, off + b, none⟩ = some (sv Y)) :
    Calls Try.prog 127 #[.agg #[.int .i64 5, .string t, .int .i64 (a : Int), .int .i64 (b : Int)], .slice (some ⟨g, off, none⟩) n cap] w fun e w' => e = .returned (.iface 166 (.agg #[sv X, sv Y])) ∧ Below w.heap.size w w' := by
  have ha2 : (a : Int) < (n : Int) := by omega
  have hb2 : (b : Int) < (n : Int) := by omega
  go_enter Try.func127, Try.ntmps127
  go_wp2
  go_quiet (fail)
  go_wp2
  go_ret
  exact ⟨rfl, below_drewS ((Below.refl _ _).alloc (Nat.le_refl _) _) _⟩
set_option maxRecDepth 100000 in
set_option maxHeartbeats 2000000 in
theorem sop_6 (t : ByteArray) (a b : Nat) (g off n cap : Nat) (w : World) (X Y : Sh) (ha : a < n) (hb : b < n) (hg : g < w.heap.size) (h1 : w.cell? ⟨g, off + a, none⟩ = some (sv X)) (h2 : w.cell? ⟨g, off + b, none⟩ = some (sv Y)) :
    Calls Try.prog 127 #[.agg #[.int .i64 6, .string t, .int .i64 (a : Int), .int .i64 (b : Int)], .slice (some ⟨g, off, none⟩) n cap] w fun e w' => e = .returned (.iface 167 (.agg #[sv X, sv Y])) ∧ Below w.heap.size w w' := by
  have ha2 : (a : Int) < (n : Int) := by omega
  have hb2 : (b : Int) < (n : Int) := by omega
  go_enter Try.func127, Try.ntmps127
  go_wp2
  go_quiet (fail)
  go_wp2
  go_ret
  exact ⟨rfl, below_drewS ((Below.refl _ _).alloc (Nat.le_refl _) _) _⟩
set_option maxRecDepth 100000 in
set_option maxHeartbeats 2000000 in
theorem sop_7 (t : ByteArray) (a : Nat) (b : Int) (g off n cap : Nat) (w : World) (X : Sh) (ha : a < n) (hg : g < w.heap.size) (h1 : w.cell? ⟨g, off + a, none⟩ = some (sv X)) :
    Calls Try.prog 127 #[.agg #[.int .i64 7, .string t, .int .i64 (a : Int), .int .i64 b], .slice (some ⟨g, off, none⟩) n cap] w fun e w' => e = .returned (.iface 164 (.agg #[sv X])) ∧ Below w.heap.size w w' := by
  have ha2 : (a : Int) < (n : Int) := by omega
  go_enter Try.func127, Try.ntmps127
  go_wp2
  go_ret
  exact ⟨rfl, (Below.refl _ _).alloc (Nat.le_refl _) _⟩
set_option maxRecDepth 100000 in
set_option maxHeartbeats 2000000 in
theorem sop_8 (t : ByteArray) (a : Nat) (b : Int) (g off n cap : Nat) (w : World) (X : Sh) (ha : a < n) (hg : g < w.heap.size) (h1 : w.cell? ⟨g, off + a, none⟩ = some (sv X)) :
    Calls Try.prog 127 #[.agg #[.int .i64 8, .string t, .int .i64 (a : Int), .int .i64 b], .slice (some ⟨g, off, none⟩) n cap] w fun e w' => e = .returned (.iface 168 (.agg #[sv X])) ∧ Below w.heap.size w w' := by
  have ha2 : (a : Int) < (n : Int) := by omega
  go_enter Try.func127, Try.ntmps127
  go_wp2
  go_ret
  exact ⟨rfl, (Below.refl _ _).alloc (Nat.le_refl _) _⟩
theorem shapeOfPart_any (p : Pr) (i : Nat) (x : Option Addr) (cap : Nat) (m : List Sh) (w : World) (hok : okP i p) (hm : m.length = i) (hs : SlS w x m) :
    Calls Try.prog 127 #[svP p, .slice x i cap] w fun e w' => e = .returned (sv (shp p m)) ∧ Below w.heap.size w w' := by
  obtain ⟨k, t, a, b⟩ := p
  rcases hok with o | o | o | o
  · simp only at o
    rcases o.1 with rfl | rfl | rfl
    · rw [shp_1 rfl]; exact sop_1 t a b x i cap w
    · rw [shp_2 rfl]; exact sop_2 t a b x i cap w
    · rw [shp_4 rfl]; exact sop_4 t a b x i cap w
  · simp only at o
    obtain ⟨rfl, ht, _⟩ := o
    rw [shp_3 rfl]; exact sop_3 t (ltr t) rfl ht.1 a b x i cap w
  · simp only at o
    obtain ⟨ok, _, oa, ob⟩ := o
    obtain ⟨qa, rfl⟩ : ∃ q : Nat, a = (q : Int) := ⟨a.toNat, by omega⟩
    obtain ⟨qb, rfl⟩ : ∃ q : Nat, b = (q : Int) := ⟨b.toNat, by omega⟩
    obtain ⟨g, off, rfl, h1⟩ := hs qa (by omega)
    obtain ⟨g', off', e, h2⟩ := hs qb (by omega)
    cases e
    rcases ok with rfl | rfl
    · rw [shp_5 rfl]; exact sop_5 t qa qb g off i cap w _ _ (by omega) (by omega) (blk_lt h1) h1 h2
    · rw [shp_6 rfl]; exact sop_6 t qa qb g off i cap w _ _ (by omega) (by omega) (blk_lt h1) h1 h2
  · simp only at o
    obtain ⟨ok, _, oa, ob⟩ := o
    obtain ⟨qa, rfl⟩ : ∃ q : Nat, a = (q : Int) := ⟨a.toNat, by omega⟩
    obtain ⟨g, off, rfl, h1⟩ := hs qa (by omega)
    rcases ok with rfl | rfl
    · rw [shp_7 rfl]; exact sop_7 t qa b g off i cap w _ (by omega) (blk_lt h1) h1
    · rw [shp_8 rfl]; exact sop_8 t qa b g off i cap w _ (by omega) (blk_lt h1) h1
theorem sv_one (m : List Sh) : ∀ u ∈ m.map sv, u.oneCell' = true := fun u hu => by
  obtain ⟨x, _, rfl⟩ := List.mem_map.1 hu
  rfl
theorem cell_one_newS (w : World) (p : Value) (t : TypeId) : ∀ j u, [p][j]? = some u → (w.alloc (.cells #[p] t)).cell? ((⟨w.heap.size, 0, none⟩ : Addr).add j) = some u := by
  intro j u h
  rw [addr_add]
  match j, h with
  | 0, h => simp at h; subst h; simp
  | j + 1, h => simp at h
set_option maxRecDepth 100000 in
set_option maxHeartbeats 4000000 in
theorem shapeOf_any (a : Option Addr) (l : List Pr) (n cap : Nat) (w : World) (hn : l.length = n) (hs : SlP w a l) (hg : GoodF l) :
    Calls Try.prog 84 #[.slice a n cap] w fun e w' => e = .returned (sv (whole l)) ∧ Below w.heap.size w w' := by
  obtain ⟨i1, hi1, hy0, hy1, hy2⟩ := info_parts info_shape
  have hn24 : n ≤ 24 := by have := hg.1; omega
  have hn1 : 1 ≤ n := by have := hg.1; omega
  have HG := hide hg
  have HS := hide hs
  have HN := hide hn
  have HW : Hid (whole l = (made l).getD (n - 1) .none) := hide (by unfold whole T; rw [hn])
  clear hg hs hn
  go_enter Try.func84, Try.ntmps84
  go_wp2
  go_loopw [3, 8] (fun v i wr => ∃ k : Nat, k ≤ n ∧ i = .int .i64 k ∧ Hid (wr.ownsRow w.heap.size 107 1 v k ((made (l.take k)).map sv)) ∧ Hid (Below w.heap.size w wr)) (fun _ i _ => n - (intOf i).toNat)
  case atStart => exact ⟨0, Nat.zero_le _, rfl, World.ownsRow_nil _ _ _ _, Below.refl _ _⟩
  case round =>
    obtain ⟨k, hk, rfl, HO, HB⟩ := hrel
    obtain ⟨a3, c3, rfl⟩ := own_shapeT HO.out
    by_cases hlt : k < n
    · obtain ⟨b, off, rfl, hA0⟩ := HS.out k (by rw [HN.out]; exact hlt)
      have hA := hA0.base HB.out (blk_lt hA0.k)
      have hok := HG.out.2.1 k (by rw [HN.out]; exact hlt)
      have hml : (made (l.take k)).length = k := by rw [made_len, List.length_take, HN.out]; omega
      have hsn : made (l.take (k + 1)) = made (l.take k) ++ [shp (l.getD k eP) (made (l.take k))] := by rw [take_snoc l k (by rw [HN.out]; exact hlt), made_snoc]
      obtain ⟨p, hp⟩ : ∃ p, p = l.getD k eP := ⟨_, rfl⟩
      rw [← hp] at hA hok hsn
      have hc0 := hA.k
      have hc1 := hA.t
      have hc2 := hA.a
      have hc3 := hA.b
      have hltI : (k : Int) < (n : Int) := by omega
      obtain ⟨m, hm⟩ : ∃ m, m = made (l.take k) := ⟨_, rfl⟩
      rw [← hm] at hml hsn HO
      have HSN := hide hsn
      have S0 := hide (own_slS HO.out)
      have B1 := hide (HB.out.alloc HB.out.size (.cells #[.int .i64 p.k, .string p.t, .int .i64 p.a, .int .i64 p.b] 116))
      have A1 := hide ((Below.refl wr.heap.size wr).alloc (Nat.le_refl _) (.cells #[.int .i64 p.k, .string p.t, .int .i64 p.a, .int .i64 p.b] 116))
      have O1 := hide (HO.out.alloc (.cells #[.int .i64 p.k, .string p.t, .int .i64 p.a, .int .i64 p.b] 116))
      have HOK := hide hok
      have HML := hide hml
      clear hA0 hA hp hsn hok hm hml
      go_wp2_with fail
      refine (shapeOfPart_any p k a3 c3 m _ HOK.out HML.out (S0.out.below A1.out)).mono ?_
      rintro e w1 ⟨rfl, hb1⟩
      have B2 := hide (B1.out.trans (hb1.mono B1.out.size))
      have O2 := hide (own_belowT O1.out hb1)
      have hz2 := B2.out.size
      obtain ⟨X, hX⟩ : ∃ X, X = shp p m := ⟨_, rfl⟩
      rw [← hX] at HSN ⊢
      clear hb1 hX
      go_wp2_with (first
        | (at_builtin; refine wpList_append_own _ rfl _ _ 157 rfl w.heap.size 107 i1 .nilIface 1 16 Try.underlying157 hi1 hy0 hy1 hy2 rfl (by decide) _ _ _ rfl (O2.out.alloc _) ⟨w1.heap.size, 0, none⟩ 1 1 [sv X] rfl rfl (cell_one_newS _ _ _) (by intro u hu; simp at hu; subst hu; rfl) (by unfold maxLen; omega) (by omega) (by simp; omega) ?_)
        | go_in)
      intro v3 w3 hown3 hgrow3 _
      have hb3 := B2.out.trans (((Below.refl _ _).alloc hz2 _).grown hgrow3 (by simp; omega) (fun g hg => (O2.out.lt g hg).1))
      obtain ⟨a4, c4, rfl⟩ := own_shapeT hown3
      have O3 : Hid (w3.ownsRow w.heap.size 107 1 (.slice a4 (k + 1) c4) (k + 1) ((made (l.take (k + 1))).map sv)) := hide (by rw [HSN.out, List.map_append]; exact hown3)
      have B3 := hide hb3
      clear hown3 hgrow3 hb3
      go_wp2
      go_roundw
      case rel => exact ⟨k + 1, by omega, by go_num, O3, B3⟩
      case measure => simp [intOf]; omega
    · obtain rfl : k = n := by omega
      have hltI : ¬ (k : Int) < (k : Int) := by omega
      have e1 : l.take k = l := List.take_of_length_le (by rw [HN.out]; exact Nat.le_refl _)
      rw [e1] at HO
      obtain ⟨b, off, rfl, hc⟩ := own_slS HO.out (k - 1) (by rw [made_len, HN.out]; omega)
      rw [← HW.out] at hc
      obtain ⟨q, hq⟩ : ∃ q : Nat, k = q + 1 := ⟨k - 1, by omega⟩
      subst hq
      have hqs : q + 1 - 1 = q := by omega
      rw [hqs] at hc
      have hq1 : ((q + 1 : Nat) : Int) - 1 = (q : Int) := by omega
      have hq2 : (q : Int) < ((q + 1 : Nat) : Int) := by omega
      obtain ⟨X, hX⟩ : ∃ X, X = whole l := ⟨_, rfl⟩
      rw [← hX] at hc
      have HX := hide hX
      clear hX e1 hqs
      go_wp2
      go_ret
      exact ⟨by rw [← HX.out]; rfl, HB.out⟩
end Go.Proofs.Ytapffbbmofhpoab.L5

namespace Go.Proofs.Ytapffbbmofhpoab.L5
open Go.RowKit L1 L4
set_option linter.unusedVariables false

/-- The numbers that a part names. -/
def nb (p : Pr) : List Int := if p.k = 5 ∨ p.k = 6 then [p.a, p.b] else if p.k = 7 ∨ p.k = 8 then [p.a] else []
theorem nb_len (p : Pr) : (nb p).length ≤ 2 := by unfold nb; split <;> (try split) <;> simp
theorem ok1 {i : Nat} {t : ByteArray} {k a b : Int} (hk : k = 1 ∨ k = 2 ∨ k = 4) : okP i ⟨k, t, a, b⟩ ↔ t.toList = [] ∧ a = 0 ∧ b = 0 := by
  rcases hk with rfl | rfl | rfl <;> simp [okP, ba_nil]
theorem ok3 {i : Nat} {t : ByteArray} {a b : Int} : okP i ⟨3, t, a, b⟩ ↔ (t.size = 1 ∧ okc (ltr t)) ∧ a = 0 ∧ b = 0 := by simp [okP, okc]
theorem ok5 {i : Nat} {t : ByteArray} {k a b : Int} (hk : k = 5 ∨ k = 6) : okP i ⟨k, t, a, b⟩ ↔ t.toList = [] ∧ (0 ≤ a ∧ a < (i : Int)) ∧ (0 ≤ b ∧ b < (i : Int)) := by
  rcases hk with rfl | rfl <;> simp [okP, ba_nil]
theorem ok7 {i : Nat} {t : ByteArray} {k a b : Int} (hk : k = 7 ∨ k = 8) : okP i ⟨k, t, a, b⟩ ↔ t.toList = [] ∧ (0 ≤ a ∧ a < (i : Int)) ∧ b = 0 := by
  rcases hk with rfl | rfl <;> simp [okP, ba_nil]
theorem ok_nb {i : Nat} {p : Pr} (h : okP i p) : ∀ j, j < (nb p).length → 0 ≤ (nb p).getD j 0 ∧ (nb p).getD j 0 < (i : Int) := by
  intro j hj
  have h2 := nb_len p
  unfold nb at hj ⊢
  rcases h with o | o | o | o
  · rw [if_neg (by omega), if_neg (by omega)] at hj; simp at hj
  · rw [if_neg (by omega), if_neg (by omega)] at hj; simp at hj
  · rw [if_pos (by omega)] at hj ⊢
    match j, hj with
    | 0, _ => exact o.2.2.1
    | 1, _ => exact o.2.2.2
  · rw [if_neg (by omega), if_pos (by omega)] at hj ⊢
    match j, hj with
    | 0, _ => exact o.2.2.1
theorem let_one {t : ByteArray} (h : t.size = 1) : Let t ↔ okc (ltr t) := by
  constructor
  · intro hl; exact hl 0 (by omega)
  · intro h0 k hk
    obtain rfl : k = 0 := by omega
    exact h0
set_option maxRecDepth 100000 in
set_option maxHeartbeats 400000 in
theorem namedBy_two (k : Int) (hk : k = 5 ∨ k = 6) (t : ByteArray) (a b : Int) (w : World) :
    Calls Try.prog 92 #[.agg #[.int .i64 k, .string t, .int .i64 a, .int .i64 b]] w fun e w' => ∃ x n cap, e = .returned (.slice x n cap) ∧ Sl w' x [a, b] ∧ n = 2 ∧ Below w.heap.size w w' ∧ ∀ y, x = some y → w.heap.size ≤ y.block := by
  rcases hk with rfl | rfl
  · go_enter Try.func92, Try.ntmps92
    go_wp2
    go_ret
    refine ⟨_, _, _, rfl, fun i hi => ⟨_, _, rfl, ?_⟩, rfl, ((Below.refl _ _).alloc (Nat.le_refl _) _).alloc (by simp) _, fun y hy => by cases hy; simp⟩
    match i, hi with
    | 0, _ => simp
    | 1, _ => simp
  · go_enter Try.func92, Try.ntmps92
    go_wp2
    go_ret
    refine ⟨_, _, _, rfl, fun i hi => ⟨_, _, rfl, ?_⟩, rfl, ((Below.refl _ _).alloc (Nat.le_refl _) _).alloc (by simp) _, fun y hy => by cases hy; simp⟩
    match i, hi with
    | 0, _ => simp
    | 1, _ => simp
set_option maxRecDepth 100000 in
set_option maxHeartbeats 400000 in
theorem namedBy_one (k : Int) (hk : k = 7 ∨ k = 8) (t : ByteArray) (a b : Int) (w : World) :
    Calls Try.prog 92 #[.agg #[.int .i64 k, .string t, .int .i64 a, .int .i64 b]] w fun e w' => ∃ x n cap, e = .returned (.slice x n cap) ∧ Sl w' x [a] ∧ n = 1 ∧ Below w.heap.size w w' ∧ ∀ y, x = some y → w.heap.size ≤ y.block := by
  rcases hk with rfl | rfl
  · go_enter Try.func92, Try.ntmps92
    go_wp2
    go_ret
    refine ⟨_, _, _, rfl, fun i hi => ⟨_, _, rfl, ?_⟩, rfl, ((Below.refl _ _).alloc (Nat.le_refl _) _).alloc (by simp) _, fun y hy => by cases hy; simp⟩
    match i, hi with
    | 0, _ => simp
  · go_enter Try.func92, Try.ntmps92
    go_wp2
    go_ret
    refine ⟨_, _, _, rfl, fun i hi => ⟨_, _, rfl, ?_⟩, rfl, ((Below.refl _ _).alloc (Nat.le_refl _) _).alloc (by simp) _, fun y hy => by cases hy; simp⟩
    match i, hi with
    | 0, _ => simp
set_option maxRecDepth 100000 in
set_option maxHeartbeats 400000 in
theorem namedBy_no (k : Int) (h5 : (k == 5) = false) (h6 : (k == 6) = false) (h7 : (k == 7) = false) (h8 : (k == 8) = false) (t : ByteArray) (a b : Int) (w : World) :
    Calls Try.prog 92 #[.agg #[.int .i64 k, .string t, .int .i64 a, .int .i64 b]] w fun e w' => ∃ x n cap, e = .returned (.slice x n cap) ∧ Sl w' x [] ∧ n = 0 ∧ Below w.heap.size w w' ∧ ∀ y, x = some y → w.heap.size ≤ y.block := by
  go_enter Try.func92, Try.ntmps92
  go_wp2
  go_ret
  exact ⟨_, _, _, rfl, fun i hi => by simp at hi, rfl, (Below.refl _ _).alloc (Nat.le_refl _) _, fun y hy => by cases hy⟩
theorem namedBy_any (p : Pr) (w : World) :
    Calls Try.prog 92 #[svP p] w fun e w' => ∃ x n cap, e = .returned (.slice x n cap) ∧ Sl w' x (nb p) ∧ n = (nb p).length ∧ Below w.heap.size w w' ∧ ∀ y, x = some y → w.heap.size ≤ y.block := by
  obtain ⟨k, t, a, b⟩ := p
  unfold nb
  by_cases h5 : k = 5 ∨ k = 6
  · rw [if_pos h5]
    exact namedBy_two k h5 t a b w
  · rw [if_neg h5]
    by_cases h7 : k = 7 ∨ k = 8
    · rw [if_pos h7]
      exact namedBy_one k h7 t a b w
    · rw [if_neg h7]
      exact namedBy_no k (by simp; omega) (by simp; omega) (by simp; omega) (by simp; omega) t a b w
theorem three_true {bb : Bool} {p q r : Prop} (h : bb = true ↔ p ∧ q ∧ r) (h1 : p) (h2 : q) (h3 : r) : true = bb := (h.2 ⟨h1, h2, h3⟩).symm
theorem three_f1 {bb : Bool} {p q r : Prop} (h : bb = true ↔ p ∧ q ∧ r) (h1 : ¬ p) : false = bb := (bool_noT h (fun x => h1 x.1)).symm
theorem three_f2 {bb : Bool} {p q r : Prop} (h : bb = true ↔ p ∧ q ∧ r) (h1 : ¬ q) : false = bb := (bool_noT h (fun x => h1 x.2.1)).symm
theorem three_f3 {bb : Bool} {p q r : Prop} (h : bb = true ↔ p ∧ q ∧ r) (h1 : ¬ r) : false = bb := (bool_noT h (fun x => h1 x.2.2)).symm
set_option maxRecDepth 100000 in
set_option maxHeartbeats 4000000 in
theorem goodPart_any (p : Pr) (i : Nat) (w : World) (hx : p.t.size ≤ 9223372036854775807) (bb : Bool) (hbb : bb = true ↔ okP i p) :
    Calls Try.prog 91 #[svP p, .int .i64 (i : Int)] w fun e w' => e = .returned (.bool bb) ∧ Below w.heap.size w w' := by
  have HBB := hide hbb
  have C := hide (fun w => namedBy_any p w)
  have HB0 : Hid (Below w.heap.size w (w.alloc (.cells #[.int .i64 p.k, .string p.t, .int .i64 p.a, .int .i64 p.b] 116))) := hide ((Below.refl _ _).alloc (Nat.le_refl _) _)
  have HLT : Hid (w.heap.size < (w.alloc (.cells #[.int .i64 p.k, .string p.t, .int .i64 p.a, .int .i64 p.b] 116)).heap.size) := by refine hide ?_; simp
  have HC : Hid (AtP (w.alloc (.cells #[.int .i64 p.k, .string p.t, .int .i64 p.a, .int .i64 p.b] 116)) w.heap.size 0 p) := by
    refine hide ⟨?_, ?_, ?_, ?_⟩ <;> simp
  clear hbb
  go_enter Try.func91, Try.ntmps91
  go_wp2_with fail
  refine (C.out _).mono ?_
  rintro e w1 ⟨x, n, cap, rfl, hs, hn, hb1, _⟩
  have HP1 := hide (HC.out.base hb1 HLT.out)
  have B1 := hide (HB0.out.trans (hb1.mono HB0.out.size))
  have HS := hide hs
  have HN := hide hn
  have hn2 : n ≤ 2 := by rw [hn]; exact nb_len p
  have hsz1 : w.heap.size < w1.heap.size := Nat.lt_of_lt_of_le HLT.out hb1.size
  have HZ := hide hsz1
  clear hs hn hb1 hsz1 C
  go_wp2
  go_loopw [10] (fun i' wr => ∃ k : Nat, k ≤ n ∧ i' = .int .i64 k ∧ wr = w1 ∧ Hid (∀ j, j < k → 0 ≤ (nb p).getD j 0 ∧ (nb p).getD j 0 < (i : Int))) (fun i' _ => n - (intOf i').toNat)
  case atStart => exact ⟨0, Nat.zero_le _, rfl, by first | rfl | trivial, fun j hj => absurd hj (Nat.not_lt_zero _)⟩
  case round =>
    obtain ⟨k, hk, rfl, rfl, HJ⟩ := hrel
    by_cases hlt : k < n
    · obtain ⟨b, off, rfl, hc⟩ := HS.out k (by rw [← HN.out]; exact hlt)
      have hltI : (k : Int) < (n : Int) := by omega
      obtain ⟨v, hv⟩ : ∃ v, v = (nb p).getD k 0 := ⟨_, rfl⟩
      rw [← hv] at hc
      have HV := hide hv
      clear hv
      by_cases hok : 0 ≤ v ∧ v < (i : Int)
      · have C2 := hide (fun w => isAhead_any v i w true (iff_of_true rfl hok))
        have HOK := hide hok
        clear hok
        go_wp2_with fail
        refine (C2.out _).mono ?_
        rintro e w2 ⟨rfl, rfl⟩
        go_wp2
        go_roundw
        case rel =>
          refine ⟨k + 1, by omega, by go_num, by first | rfl | trivial, ?_⟩
          intro j hj
          by_cases e : j = k
          · subst e; rw [← HV.out]; exact HOK.out
          · exact HJ.out j (by omega)
        case measure => simp [intOf]; omega
      · have C2 := hide (fun w => isAhead_any v i w false (iff_of_false (by simp) hok))
        have E := hide (bool_noT HBB.out (fun h => hok (by rw [HV.out]; exact ok_nb h k (by rw [← HN.out]; exact hlt))))
        clear hok
        go_wp2_with fail
        refine (C2.out _).mono ?_
        rintro e w2 ⟨rfl, rfl⟩
        go_wp2
        go_ret
        exact ⟨by rw [E.out]; rfl, B1.out⟩
    · obtain rfl : k = n := by omega
      have hltI : ¬ (k : Int) < (k : Int) := by omega
      have d0 := HP1.out.k
      have d1 := HP1.out.t
      have d2 := HP1.out.a
      have d3 := HP1.out.b
      simp only [Nat.zero_add] at d0 d1 d2 d3
      obtain ⟨pk, pt, pa, pb⟩ := p
      simp only at d0 d1 d2 d3 hx
      have HNB : Hid (∀ j, j < (nb ⟨pk, pt, pa, pb⟩).length → 0 ≤ (nb ⟨pk, pt, pa, pb⟩).getD j 0 ∧ (nb ⟨pk, pt, pa, pb⟩).getD j 0 < (i : Int)) := hide (fun j hj => HJ.out j (by rw [HN.out]; exact hj))
      by_cases hk1 : pk = 1
      · subst hk1
        have HQ := hide (HBB.out.trans (ok1 (.inl rfl)))
        go_wp2
        all_goals
          go_ret
          refine ⟨ret_bool ?_, B1.out⟩
          first
          | exact three_true HQ.out (by assumption) (by first | assumption | trivial) (by first | assumption | trivial)
          | exact three_f1 HQ.out (by assumption)
          | exact three_f2 HQ.out (by assumption)
          | exact three_f3 HQ.out (by assumption)
      by_cases hk2 : pk = 2
      · subst hk2
        have HQ := hide (HBB.out.trans (ok1 (.inr (.inl rfl))))
        go_wp2
        all_goals
          go_ret
          refine ⟨ret_bool ?_, B1.out⟩
          first
          | exact three_true HQ.out (by assumption) (by first | assumption | trivial) (by first | assumption | trivial)
          | exact three_f1 HQ.out (by assumption)
          | exact three_f2 HQ.out (by assumption)
          | exact three_f3 HQ.out (by assumption)
      by_cases hk4 : pk = 4
      · subst hk4
        have HQ := hide (HBB.out.trans (ok1 (.inr (.inr rfl))))
        go_wp2
        all_goals
          go_ret
          refine ⟨ret_bool ?_, B1.out⟩
          first
          | exact three_true HQ.out (by assumption) (by first | assumption | trivial) (by first | assumption | trivial)
          | exact three_f1 HQ.out (by assumption)
          | exact three_f2 HQ.out (by assumption)
          | exact three_f3 HQ.out (by assumption)
      by_cases hk5 : pk = 5 ∨ pk = 6
      · have hnb : nb ⟨pk, pt, pa, pb⟩ = [pa, pb] := by unfold nb; rw [if_pos hk5]
        have HA : Hid (0 ≤ pa ∧ pa < (i : Int)) := hide (by have := HNB.out 0; rw [hnb] at this; exact this (by simp))
        have HB : Hid (0 ≤ pb ∧ pb < (i : Int)) := hide (by have := HNB.out 1; rw [hnb] at this; exact this (by simp))
        have HQ := hide (HBB.out.trans (ok5 hk5))
        clear hnb
        rcases hk5 with rfl | rfl
        · go_wp2
          all_goals
            go_ret
            refine ⟨ret_bool ?_, B1.out⟩
            first
            | exact three_true HQ.out (by assumption) HA.out HB.out
            | exact three_f1 HQ.out (by assumption)
        · go_wp2
          all_goals
            go_ret
            refine ⟨ret_bool ?_, B1.out⟩
            first
            | exact three_true HQ.out (by assumption) HA.out HB.out
            | exact three_f1 HQ.out (by assumption)
      by_cases hk7 : pk = 7 ∨ pk = 8
      · have hnb : nb ⟨pk, pt, pa, pb⟩ = [pa] := by unfold nb; rw [if_neg (by simp only; omega), if_pos hk7]
        have HA : Hid (0 ≤ pa ∧ pa < (i : Int)) := hide (by have := HNB.out 0; rw [hnb] at this; exact this (by simp))
        have HQ := hide (HBB.out.trans (ok7 hk7))
        clear hnb
        rcases hk7 with rfl | rfl
        · go_wp2
          all_goals
            go_ret
            refine ⟨ret_bool ?_, B1.out⟩
            first
            | exact three_true HQ.out (by assumption) HA.out (by first | assumption | trivial)
            | exact three_f1 HQ.out (by assumption)
            | exact three_f3 HQ.out (by assumption)
        · go_wp2
          all_goals
            go_ret
            refine ⟨ret_bool ?_, B1.out⟩
            first
            | exact three_true HQ.out (by assumption) HA.out (by first | assumption | trivial)
            | exact three_f1 HQ.out (by assumption)
            | exact three_f3 HQ.out (by assumption)
      by_cases hk3 : pk = 3
      · subst hk3
        have HQ := hide (HBB.out.trans ok3)
        clear hk1 hk2 hk4 hk5 hk7
        by_cases h1 : (pt.size : Int) = 1
        · have hs1 : pt.size = 1 := by omega
          by_cases hl : okc (ltr pt)
          · have C3 := hide (fun w => isFitted_any pt w hx true (iff_of_true rfl ⟨by omega, (let_one hs1).2 hl⟩))
            have HL := hide (And.intro hs1 hl)
            have hnn : (pt.toList == pt.toList) = true := by simp
            clear hl hs1
            go_wp2_with fail
            refine (C3.out _).mono ?_
            rintro e w2 ⟨rfl, hb2⟩
            have A2 := HP1.out.base hb2 HZ.out
            have f0 := A2.k
            have f1 := A2.t
            have f2 := A2.a
            have f3 := A2.b
            simp only [Nat.zero_add] at f0 f1 f2 f3
            have B2 := hide (B1.out.trans (hb2.mono B1.out.size))
            clear hb2 A2
            go_wp2
            all_goals
              go_ret
              refine ⟨ret_bool ?_, B2.out⟩
              first
              | exact three_true HQ.out HL.out (by first | assumption | trivial) (by first | assumption | trivial)
              | exact three_f2 HQ.out (by assumption)
              | exact three_f3 HQ.out (by assumption)
          · have C3 := hide (fun w => isFitted_any pt w hx false (iff_of_false (by simp) (fun h => hl ((let_one hs1).1 h.2))))
            have E := hide (bool_noT HQ.out (fun h => hl h.1.2))
            clear hl hs1
            go_wp2_with fail
            refine (C3.out _).mono ?_
            rintro e w2 ⟨rfl, hb2⟩
            have B2 := hide (B1.out.trans (hb2.mono B1.out.size))
            clear hb2
            go_wp2
            go_ret
            exact ⟨by rw [E.out]; rfl, B2.out⟩
        · have E := hide (bool_noT HQ.out (fun h => h1 (by have := h.1.1; omega)))
          have h1b : ((pt.size : Int) == 1) = false := by simpa using h1
          clear h1
          go_wp2
          go_ret
          exact ⟨by rw [E.out]; rfl, B1.out⟩
      have e1 : (pk == 1) = false := by simpa using hk1
      have e2 : (pk == 2) = false := by simpa using hk2
      have e3 : (pk == 3) = false := by simpa using hk3
      have e4 : (pk == 4) = false := by simpa using hk4
      have e5 : (pk == 5) = false := by simp; omega
      have e6 : (pk == 6) = false := by simp; omega
      have e7 : (pk == 7) = false := by simp; omega
      have e8 : (pk == 8) = false := by simp; omega
      have E := hide (bool_noT HBB.out (fun h => by have := okP_kind h; simp only at this; omega))
      clear hk1 hk2 hk3 hk4 hk5 hk7
      go_wp2
      go_ret
      exact ⟨by rw [E.out]; rfl, B1.out⟩
end Go.Proofs.Ytapffbbmofhpoab.L5
