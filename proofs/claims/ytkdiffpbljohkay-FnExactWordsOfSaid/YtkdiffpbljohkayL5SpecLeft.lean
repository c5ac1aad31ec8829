/-
  Contracts: spec.l5Then, spec.l5Either, spec.l5Left: what is left of a tree by a letter.
-/
import Derived.Test.YtkdiffpbljohkayL5Em
import Derived.Test.YtkdiffpbljohkayL5Text
namespace Go.Proofs.Ytkdiffpbljohkay.L5
open Go.RowKit L1 L4
set_option linter.unusedVariables false

abbrev Any : Nat → Prop := fun _ => True
theorem Tr.any {w : World} {S : Nat → Prop} {x : Sh} {p : Option Addr} (h : Tr w S p x) : Tr w Any p x := h.mono (fun _ _ => trivial)
set_option maxRecDepth 100000 in
set_option maxHeartbeats 2000000 in
theorem l5Then_any (a b : Sh) (pa pb : Option Addr) (w : World) (ta : Tr w Any pa a) (tb : Tr w Any pb b) : Calls Try.prog 57 #[.pointer pa, .pointer pb] w fun e w' => RetU w (oT a b) e w' := by
  obtain ⟨ga, xa, ya, rfl, _, na⟩ := ta.node
  obtain ⟨gb, xb, yb, rfl, _, nb⟩ := tb.node
  have ca := na.k
  have cb := nb.k
  have TA := hide ta
  have TB := hide tb
  clear na nb ta tb
  obtain ⟨X, hX⟩ : ∃ X, X = oT a b := ⟨_, rfl⟩
  unfold oT at hX
  rw [show oT a b = X from by rw [hX]; rfl]
  obtain ⟨ka, hka⟩ : ∃ k, k = kd a := ⟨_, rfl⟩
  obtain ⟨kb, hkb⟩ : ∃ k, k = kd b := ⟨_, rfl⟩
  rw [← hka] at hX ca
  rw [← hkb] at hX cb
  clear hka hkb
  have HX := hide hX
  clear hX
  by_cases ha1 : ka = 1
  · subst ha1
    have HX2 : Hid (X = .none) := hide (by rw [HX.out, if_pos (.inl rfl)])
    go_enter Try.func57, Try.ntmps57
    go_wp2
    go_ret
    exact ⟨_, rfl, by rw [HX2.out]; exact ⟨_, _, _, rfl, trivial, (FB.new _ _ _ _ _).at⟩, (Below.refl _ _).alloc (Nat.le_refl _) _⟩
  have ea1 : (ka == 1) = false := by simpa using ha1
  by_cases hb1 : kb = 1
  · subst hb1
    have HX2 : Hid (X = .none) := hide (by rw [HX.out, if_pos (.inr rfl)])
    go_enter Try.func57, Try.ntmps57
    go_wp2
    go_ret
    exact ⟨_, rfl, by rw [HX2.out]; exact ⟨_, _, _, rfl, trivial, (FB.new _ _ _ _ _).at⟩, (Below.refl _ _).alloc (Nat.le_refl _) _⟩
  have eb1 : (kb == 1) = false := by simpa using hb1
  by_cases ha2 : ka = 2
  · subst ha2
    have HX2 : Hid (X = b) := hide (by rw [HX.out, if_neg (by omega), if_pos rfl])
    clear ha1 hb1
    go_enter Try.func57, Try.ntmps57
    go_wp2
    go_ret
    exact ⟨_, rfl, by rw [HX2.out]; exact TB.out, Below.refl _ _⟩
  have ea2 : (ka == 2) = false := by simpa using ha2
  by_cases hb2 : kb = 2
  · subst hb2
    have HX2 : Hid (X = a) := hide (by rw [HX.out, if_neg (by omega), if_neg ha2, if_pos rfl])
    clear ha1 hb1 ha2
    go_enter Try.func57, Try.ntmps57
    go_wp2
    go_ret
    exact ⟨_, rfl, by rw [HX2.out]; exact TA.out, Below.refl _ _⟩
  have eb2 : (kb == 2) = false := by simpa using hb2
  have HX2 : Hid (X = .seq a b) := hide (by rw [HX.out, if_neg (by omega), if_neg ha2, if_neg hb2])
  clear ha1 hb1 ha2 hb2
  go_enter Try.func57, Try.ntmps57
  go_wp2
  go_ret
  exact ⟨_, rfl, by rw [HX2.out]; exact ⟨_, _, _, rfl, trivial, (FB.new _ _ _ _ _).at, TA.out.below ((Below.refl _ _).alloc (Nat.le_refl _) _), TB.out.below ((Below.refl _ _).alloc (Nat.le_refl _) _)⟩, (Below.refl _ _).alloc (Nat.le_refl _) _⟩
set_option maxRecDepth 100000 in
set_option maxHeartbeats 2000000 in
theorem l5Either_any (a b : Sh) (pa pb : Option Addr) (w : World) (ta : Tr w Any pa a) (tb : Tr w Any pb b) : Calls Try.prog 59 #[.pointer pa, .pointer pb] w fun e w' => RetU w (oO a b) e w' := by
  obtain ⟨ga, xa, ya, rfl, _, na⟩ := ta.node
  obtain ⟨gb, xb, yb, rfl, _, nb⟩ := tb.node
  have ca := na.k
  have cb := nb.k
  have TA := hide ta
  have TB := hide tb
  clear na nb ta tb
  obtain ⟨X, hX⟩ : ∃ X, X = oO a b := ⟨_, rfl⟩
  unfold oO at hX
  rw [show oO a b = X from by rw [hX]; rfl]
  obtain ⟨ka, hka⟩ : ∃ k, k = kd a := ⟨_, rfl⟩
  obtain ⟨kb, hkb⟩ : ∃ k, k = kd b := ⟨_, rfl⟩
  rw [← hka] at hX ca
  rw [← hkb] at hX cb
  clear hka hkb
  have HX := hide hX
  clear hX
  by_cases ha1 : ka = 1
  · subst ha1
    have HX2 : Hid (X = b) := hide (by rw [HX.out, if_pos rfl])
    go_enter Try.func59, Try.ntmps59
    go_wp2
    go_ret
    exact ⟨_, rfl, by rw [HX2.out]; exact TB.out, Below.refl _ _⟩
  have ea1 : (ka == 1) = false := by simpa using ha1
  by_cases hb1 : kb = 1
  · subst hb1
    have HX2 : Hid (X = a) := hide (by rw [HX.out, if_neg ha1, if_pos rfl])
    clear ha1
    go_enter Try.func59, Try.ntmps59
    go_wp2
    go_ret
    exact ⟨_, rfl, by rw [HX2.out]; exact TA.out, Below.refl _ _⟩
  have eb1 : (kb == 1) = false := by simpa using hb1
  have HX2 : Hid (X = .alt a b) := hide (by rw [HX.out, if_neg ha1, if_neg hb1])
  clear ha1 hb1
  go_enter Try.func59, Try.ntmps59
  go_wp2
  go_ret
  exact ⟨_, rfl, by rw [HX2.out]; exact ⟨_, _, _, rfl, trivial, (FB.new _ _ _ _ _).at, TA.out.below ((Below.refl _ _).alloc (Nat.le_refl _) _), TB.out.below ((Below.refl _ _).alloc (Nat.le_refl _) _)⟩, (Below.refl _ _).alloc (Nat.le_refl _) _⟩
set_option maxRecDepth 100000 in
set_option maxHeartbeats 8000000 in
theorem l5Left_any (c : Int) : ∀ (x : Sh) (p : Option Addr) (w : World), okS x → Tr w Any p x → Calls Try.prog 32 #[.pointer p, .int .u8 c] w fun e w' => RetU w (left x c) e w'
  | .none, p, w, _, ⟨g, pa, pb, e, _, hf⟩ => by
    subst e
    have c0 := hf.k
    clear hf
    go_enter Try.func32, Try.ntmps32
    go_wp2
    go_ret
    exact ⟨_, rfl, ⟨_, _, _, rfl, trivial, (FB.new _ _ _ _ _).at⟩, (Below.refl _ _).alloc (Nat.le_refl _) _⟩
  | .empty, p, w, _, ⟨g, pa, pb, e, _, hf⟩ => by
    subst e
    have c0 := hf.k
    clear hf
    go_enter Try.func32, Try.ntmps32
    go_wp2
    go_ret
    exact ⟨_, rfl, ⟨_, _, _, rfl, trivial, (FB.new _ _ _ _ _).at⟩, (Below.refl _ _).alloc (Nat.le_refl _) _⟩
  | .any, p, w, _, ⟨g, pa, pb, e, _, hf⟩ => by
    subst e
    have c0 := hf.k
    clear hf
    go_enter Try.func32, Try.ntmps32
    go_wp2
    go_ret
    exact ⟨_, rfl, ⟨_, _, _, rfl, trivial, (FB.new _ _ _ _ _).at⟩, (Below.refl _ _).alloc (Nat.le_refl _) _⟩
  | .letter d, p, w, hd, ⟨g, pa, pb, e, _, hf⟩ => by
    subst e
    have c0 := hf.k
    have c1 := hf.t
    have h0 : (0 : Int) < ((one d).size : Int) := by rw [one_size]; decide
    have hb : (((one d)[0]'(by rw [one_size]; decide)).toNat : Int) = d := by
      have := bts_at (one d) 0 (by rw [one_size]; decide)
      rw [← this]
      exact ltr_one hd
    clear hf
    by_cases h : d = c
    · have HR : Hid (left (.letter d) c = .empty) := hide (by simp [left, h])
      have hcd : (d == c) = true := by simpa using h
      rw [HR.out]
      clear h
      go_enter Try.func32, Try.ntmps32
      go_wp2
      go_ret
      exact ⟨_, rfl, ⟨_, _, _, rfl, trivial, (FB.new _ _ _ _ _).at⟩, (Below.refl _ _).alloc (Nat.le_refl _) _⟩
    · have HR : Hid (left (.letter d) c = .none) := hide (by simp [left, h])
      have hne : (d == c) = false := by simpa using h
      rw [HR.out]
      clear h
      go_enter Try.func32, Try.ntmps32
      go_wp2
      go_ret
      exact ⟨_, rfl, ⟨_, _, _, rfl, trivial, (FB.new _ _ _ _ _).at⟩, (Below.refl _ _).alloc (Nat.le_refl _) _⟩
  | .seq a b, p, w, hok, ⟨g, pa, pb, e, _, hf, ta, tb⟩ => by
    subst e
    have IA := hide (fun w h => l5Left_any c a pa w hok.1 h)
    have IB := hide (fun w h => l5Left_any c b pb w hok.2 h)
    have TA := hide ta
    have TB := hide tb
    have c0 := hf.k
    have c2 := hf.a
    have c3 := hf.b
    have HR2 : left (.seq a b) c = if nul a = true then oO (oT (left a c) b) (left b c) else oT (left a c) b := rfl
    obtain ⟨X, hX⟩ : ∃ X, X = left (.seq a b) c := ⟨_, rfl⟩
    rw [← hX] at HR2 ⊢
    clear hX
    obtain ⟨A, hA⟩ : ∃ A, A = left a c := ⟨_, rfl⟩
    obtain ⟨B, hB⟩ : ∃ B, B = left b c := ⟨_, rfl⟩
    simp only [← hA] at IA HR2
    simp only [← hB] at IB HR2
    have HN := hide hf
    clear hA hB hf ta tb hok
    cases hn : nul a with
    | true =>
      rw [hn, if_pos rfl] at HR2
      have HX := hide HR2
      have HNA := hide hn
      clear HR2 hn
      go_enter Try.func32, Try.ntmps32
      go_wp2
      go_region_held3 (fun wx => (wx.cell? ⟨g, 2, none⟩ = some (.pointer pa) ∧ wx.cell? ⟨g, 3, none⟩ = some (.pointer pb)) ∧ Below w.heap.size w wx) (first | exact ⟨⟨c2, c3⟩, (Below.refl _ _).drew⟩ | exact keep1T (by assumption) (by assumption) (Nat.le_refl _)) (first | (go_at_call_of 32 (Value.pointer pa); refine (IA.out _ (TA.out.below (show (_ ∧ _) ∧ Below w.heap.size w _ by assumption).2)).mono ?_; rintro e w1 ⟨r1, rfl, t1, hb⟩) | (go_at_call 57; refine (l5Then_any A b _ _ _ (by assumption) (TB.out.below (show (_ ∧ _) ∧ Below w.heap.size w _ by assumption).2)).mono ?_; rintro e w1 ⟨r2, rfl, t2, hb⟩))
      rename_i hHeld
      have d2 := hHeld.1.1
      have d3 := hHeld.1.2
      have B1 := hide hHeld.2
      have T2 := hide (show Tr _ Any _ (oT A b) by assumption)
      clear hHeld
      go_wp2_with fail
      refine (l5Empty_any Any a pa _ (TA.out.below B1.out)).mono ?_
      rintro e w2 ⟨rfl, rfl⟩
      rw [HNA.out]
      go_wp2_with fail
      refine (IB.out _ (TB.out.below B1.out)).mono ?_
      rintro e w3 ⟨r3, rfl, t3, b3⟩
      have B3 := hide (B1.out.trans (b3.mono B1.out.size))
      have T3 := hide (T2.out.below b3)
      have U3 := hide t3
      clear t3 b3
      go_wp2_with fail
      refine (l5Either_any _ _ _ _ _ T3.out U3.out).mono ?_
      rintro e w4 ⟨r4, rfl, t4, b4⟩
      have B4 := hide (B3.out.trans (b4.mono B3.out.size))
      have T4 := hide t4
      clear t4 b4
      go_wp2
      go_ret
      exact ⟨_, rfl, by rw [HX.out]; exact T4.out, B4.out⟩
    | false =>
      rw [hn, if_neg (by simp)] at HR2
      have HX := hide HR2
      have HNA := hide hn
      clear HR2 hn
      go_enter Try.func32, Try.ntmps32
      go_wp2
      go_region_held3 (fun wx => (wx.cell? ⟨g, 2, none⟩ = some (.pointer pa) ∧ wx.cell? ⟨g, 3, none⟩ = some (.pointer pb)) ∧ Below w.heap.size w wx) (first | exact ⟨⟨c2, c3⟩, (Below.refl _ _).drew⟩ | exact keep1T (by assumption) (by assumption) (Nat.le_refl _)) (first | (go_at_call_of 32 (Value.pointer pa); refine (IA.out _ (TA.out.below (show (_ ∧ _) ∧ Below w.heap.size w _ by assumption).2)).mono ?_; rintro e w1 ⟨r1, rfl, t1, hb⟩) | (go_at_call 57; refine (l5Then_any A b _ _ _ (by assumption) (TB.out.below (show (_ ∧ _) ∧ Below w.heap.size w _ by assumption).2)).mono ?_; rintro e w1 ⟨r2, rfl, t2, hb⟩))
      rename_i hHeld
      have d2 := hHeld.1.1
      have d3 := hHeld.1.2
      have B1 := hide hHeld.2
      have T2 := hide (show Tr _ Any _ (oT A b) by assumption)
      clear hHeld
      go_wp2_with fail
      refine (l5Empty_any Any a pa _ (TA.out.below B1.out)).mono ?_
      rintro e w2 ⟨rfl, rfl⟩
      rw [HNA.out]
      go_wp2
      go_ret
      exact ⟨_, rfl, by rw [HX.out]; exact T2.out, B1.out⟩
  | .alt a b, p, w, hok, ⟨g, pa, pb, e, _, hf, ta, tb⟩ => by
    subst e
    have IA := hide (fun w h => l5Left_any c a pa w hok.1 h)
    have IB := hide (fun w h => l5Left_any c b pb w hok.2 h)
    have TA := hide ta
    have TB := hide tb
    have c0 := hf.k
    have c2 := hf.a
    have c3 := hf.b
    have HR2 : left (.alt a b) c = oO (left a c) (left b c) := rfl
    rw [HR2]
    obtain ⟨A, hA⟩ : ∃ A, A = left a c := ⟨_, rfl⟩
    obtain ⟨B, hB⟩ : ∃ B, B = left b c := ⟨_, rfl⟩
    simp only [← hA] at IA ⊢
    simp only [← hB] at IB ⊢
    clear hA hB hf ta tb hok HR2
    go_enter Try.func32, Try.ntmps32
    go_wp2
    go_region_held3 (fun wx => (wx.cell? ⟨g, 2, none⟩ = some (.pointer pa) ∧ wx.cell? ⟨g, 3, none⟩ = some (.pointer pb)) ∧ Below w.heap.size w wx) (first | exact ⟨⟨c2, c3⟩, (Below.refl _ _).drew⟩ | exact keep1T (by assumption) (by assumption) (Nat.le_refl _)) (first | (go_at_call_of 32 (Value.pointer pa); refine (IA.out _ (TA.out.below (show (_ ∧ _) ∧ Below w.heap.size w _ by assumption).2)).mono ?_; rintro e w1 ⟨r1, rfl, t1, hb⟩) | (go_at_call_of 32 (Value.pointer pb); refine (IB.out _ (TB.out.below (show (_ ∧ _) ∧ Below w.heap.size w _ by assumption).2)).mono ?_; rintro e w1 ⟨r2, rfl, t2, hb⟩) | (go_at_call 59; refine (l5Either_any A B _ _ _ (Tr.below (show Tr _ Any _ A by assumption) (by assumption)) (by assumption)).mono ?_; rintro e w1 ⟨r3, rfl, t3, hb⟩))
    rename_i hHeld
    have B1 := hide hHeld.2
    have T2 := hide (show Tr _ Any _ (oO A B) by assumption)
    clear hHeld
    go_wp2
    go_ret
    exact ⟨_, rfl, T2.out, B1.out⟩
  | .many a, p, w, hok, ⟨g, pa, pb, e, hS, hf, ta⟩ => by
    subst e
    have IA := hide (l5Left_any c a pa w hok ta)
    have TT : Hid (Tr w Any (some ⟨g, 0, none⟩) (.many a)) := hide ⟨g, pa, pb, rfl, hS, hf, ta⟩
    have c0 := hf.k
    have c2 := hf.a
    have HR2 : left (.many a) c = oT (left a c) (.many a) := rfl
    rw [HR2]
    obtain ⟨A, hA⟩ : ∃ A, A = left a c := ⟨_, rfl⟩
    simp only [← hA] at IA ⊢
    clear hA hf ta hok HR2
    go_enter Try.func32, Try.ntmps32
    go_wp2_with fail
    refine IA.out.mono ?_
    rintro e w1 ⟨r1, rfl, t1, b1⟩
    have B1 := hide b1
    have T1 := hide t1
    clear b1 t1
    go_wp2_with fail
    refine (l5Then_any A (.many a) _ _ _ T1.out (TT.out.below B1.out)).mono ?_
    rintro e w2 ⟨r2, rfl, t2, b2⟩
    have B2 := hide (B1.out.trans (b2.mono B1.out.size))
    have T2 := hide t2
    clear t2 b2
    go_wp2
    go_ret
    exact ⟨_, rfl, T2.out, B2.out⟩
  | .inv a, p, w, hok, ⟨g, pa, pb, e, _, hf, ta⟩ => by
    subst e
    have IA := hide (l5Left_any c a pa w hok ta)
    have c0 := hf.k
    have c2 := hf.a
    have HR2 : left (.inv a) c = .inv (left a c) := rfl
    rw [HR2]
    obtain ⟨A, hA⟩ : ∃ A, A = left a c := ⟨_, rfl⟩
    simp only [← hA] at IA ⊢
    clear hA hf ta hok HR2
    go_enter Try.func32, Try.ntmps32
    go_wp2_with fail
    refine IA.out.mono ?_
    rintro e w1 ⟨r1, rfl, t1, b1⟩
    have B1 := hide b1
    have T1 := hide t1
    clear b1 t1
    go_wp2
    go_ret
    exact ⟨_, rfl, ⟨_, _, _, rfl, trivial, (FB.new _ _ _ _ _).at, T1.out.below ((Below.refl _ _).alloc (Nat.le_refl _) _)⟩, B1.out.alloc B1.out.size _⟩
end Go.Proofs.Ytkdiffpbljohkay.L5
