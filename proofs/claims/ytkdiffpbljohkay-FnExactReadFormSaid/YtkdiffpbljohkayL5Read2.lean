/-
  Contracts: (*impl.formReader).readFirst, read: a form is read off a text as the parser reads it.
-/
import Derived.Test.YtkdiffpbljohkayL5Read
namespace Go.Proofs.Ytkdiffpbljohkay.L5
open Go.RowKit L1 L4
set_option linter.unusedVariables false

attribute [local go_sem] mk_noText mk_emptyText mk_oneLetter mk_anyLetter mk_thenShape mk_eitherShape mk_manyShape mk_notShape as_noText_noText as_noText_emptyText as_noText_oneLetter as_noText_anyLetter as_noText_thenShape as_noText_eitherShape as_noText_manyShape as_noText_notShape as_emptyText_noText as_emptyText_emptyText as_emptyText_oneLetter as_emptyText_anyLetter as_emptyText_thenShape as_emptyText_eitherShape as_emptyText_manyShape as_emptyText_notShape as_oneLetter_noText as_oneLetter_emptyText as_oneLetter_oneLetter as_oneLetter_anyLetter as_oneLetter_thenShape as_oneLetter_eitherShape as_oneLetter_manyShape as_oneLetter_notShape as_anyLetter_noText as_anyLetter_emptyText as_anyLetter_oneLetter as_anyLetter_anyLetter as_anyLetter_thenShape as_anyLetter_eitherShape as_anyLetter_manyShape as_anyLetter_notShape as_thenShape_noText as_thenShape_emptyText as_thenShape_oneLetter as_thenShape_anyLetter as_thenShape_thenShape as_thenShape_eitherShape as_thenShape_manyShape as_thenShape_notShape as_eitherShape_noText as_eitherShape_emptyText as_eitherShape_oneLetter as_eitherShape_anyLetter as_eitherShape_thenShape as_eitherShape_eitherShape as_eitherShape_manyShape as_eitherShape_notShape as_manyShape_noText as_manyShape_emptyText as_manyShape_oneLetter as_manyShape_anyLetter as_manyShape_thenShape as_manyShape_eitherShape as_manyShape_manyShape as_manyShape_notShape as_notShape_noText as_notShape_emptyText as_notShape_oneLetter as_notShape_anyLetter as_notShape_thenShape as_notShape_eitherShape as_notShape_manyShape as_notShape_notShape
set_option maxRecDepth 100000 in
set_option maxHeartbeats 8000000 in
theorem readFirst_any (n : Nat) (IH : RC n) (s : ByteArray) (k g : Nat) (o : Int) (w : World) (h : RB w g s k o) (hk : k ≤ s.size) (hs : s.size ≤ 120) (h0 : 0 ≤ o) (ho : o + n = 60) :
    Calls Try.prog 72 #[.pointer (some ⟨g, 0, none⟩)] w fun e w' => RfP w g s o (firstOf (prs s n) s k) e w' := by
  have H := hide (Mv.refl h)
  by_cases q0 : byt s k = 33
  · have e : firstOf (prs s n) s k = (some .none, k + 1) := by
      unfold firstOf
      rw [if_pos q0]
    rw [e]
    clear e
    have T0 := hide (fun w h => take_yes 33 s k g o w h hk hs (by decide) q0)
    clear q0 h
    have M0 := H
    go_enter Try.func72, Try.ntmps72
    go_wp2_with fail
    refine (T0.out _ M0.out.rb).mono ?_
    rintro e w1 ⟨rfl, m⟩
    have M1 := hide (M0.out.trans m)
    clear m
    go_wp2
    go_ret2
    exact rfp_yes M1.out rfl
  by_cases q1 : byt s k = 37
  · have e : firstOf (prs s n) s k = (some .empty, k + 1) := by
      unfold firstOf
      rw [if_neg q0, if_pos q1]
    rw [e]
    clear e
    have T0 := hide (fun w h => take_no 33 s k g o w h hk hs (by decide) q0)
    have T1 := hide (fun w h => take_yes 37 s k g o w h hk hs (by decide) q1)
    clear q0 q1 h
    have M0 := H
    go_enter Try.func72, Try.ntmps72
    go_wp2_with fail
    refine (T0.out _ M0.out.rb).mono ?_
    rintro e w1 ⟨rfl, m⟩
    have M1 := hide (M0.out.trans m)
    clear m
    go_wp2_with fail
    refine (T1.out _ M1.out.rb).mono ?_
    rintro e w2 ⟨rfl, m⟩
    have M2 := hide (M1.out.trans m)
    clear m
    go_wp2
    go_ret2
    exact rfp_yes M2.out rfl
  by_cases q2 : byt s k = 46
  · have e : firstOf (prs s n) s k = (some .any, k + 1) := by
      unfold firstOf
      rw [if_neg q0, if_neg q1, if_pos q2]
    rw [e]
    clear e
    have T0 := hide (fun w h => take_no 33 s k g o w h hk hs (by decide) q0)
    have T1 := hide (fun w h => take_no 37 s k g o w h hk hs (by decide) q1)
    have T2 := hide (fun w h => take_yes 46 s k g o w h hk hs (by decide) q2)
    clear q0 q1 q2 h
    have M0 := H
    go_enter Try.func72, Try.ntmps72
    go_wp2_with fail
    refine (T0.out _ M0.out.rb).mono ?_
    rintro e w1 ⟨rfl, m⟩
    have M1 := hide (M0.out.trans m)
    clear m
    go_wp2_with fail
    refine (T1.out _ M1.out.rb).mono ?_
    rintro e w2 ⟨rfl, m⟩
    have M2 := hide (M1.out.trans m)
    clear m
    go_wp2_with fail
    refine (T2.out _ M2.out.rb).mono ?_
    rintro e w3 ⟨rfl, m⟩
    have M3 := hide (M2.out.trans m)
    clear m
    go_wp2
    go_ret2
    exact rfp_yes M3.out rfl
  by_cases q3 : byt s k = 40
  · have e : firstOf (prs s n) s k = twoOf (prs s n) s 0 41 .seq (k + 1) := by
      unfold firstOf
      rw [if_neg q0, if_neg q1, if_neg q2, if_pos q3]
    rw [e]
    clear e
    have T0 := hide (fun w h => take_no 33 s k g o w h hk hs (by decide) q0)
    have T1 := hide (fun w h => take_no 37 s k g o w h hk hs (by decide) q1)
    have T2 := hide (fun w h => take_no 46 s k g o w h hk hs (by decide) q2)
    have T3 := hide (fun w h => take_yes 40 s k g o w h hk hs (by decide) q3)
    have hk1 : k + 1 ≤ s.size := byt_lt (by omega)
    have C := hide (fun w h => readTwo_seq n IH s (k + 1) g o w h hk1 hs h0 ho)
    obtain ⟨r, hr⟩ : ∃ r, r = twoOf (prs s n) s 0 41 .seq (k + 1) := ⟨_, rfl⟩
    simp only [← hr] at C ⊢
    clear q0 q1 q2 q3 hr h
    have M0 := H
    go_enter Try.func72, Try.ntmps72
    go_wp2_with fail
    refine (T0.out _ M0.out.rb).mono ?_
    rintro e w1 ⟨rfl, m⟩
    have M1 := hide (M0.out.trans m)
    clear m
    go_wp2_with fail
    refine (T1.out _ M1.out.rb).mono ?_
    rintro e w2 ⟨rfl, m⟩
    have M2 := hide (M1.out.trans m)
    clear m
    go_wp2_with fail
    refine (T2.out _ M2.out.rb).mono ?_
    rintro e w3 ⟨rfl, m⟩
    have M3 := hide (M2.out.trans m)
    clear m
    go_wp2_with fail
    refine (T3.out _ M3.out.rb).mono ?_
    rintro e w4 ⟨rfl, m⟩
    have M4 := hide (M3.out.trans m)
    clear m
    go_wp2_with fail
    refine (C.out _ M4.out.rb).mono ?_
    rintro e w9 ⟨o9, m9, ⟨hn, rfl⟩ | ⟨a, b, hx, rfl, rfl⟩⟩
    · have M9 := hide (M4.out.trans m9)
      have HN := hide hn
      clear m9 hn
      go_wp2
      go_ret2
      exact ⟨o9, M9.out, .inl ⟨HN.out, _, rfl⟩⟩
    · have M9 := hide (M4.out.trans m9)
      have HX := hide hx
      clear m9 hx
      go_wp2
      go_ret2
      exact ⟨_, M9.out, .inr ⟨_, HX.out, rfl, rfl⟩⟩
  by_cases q4 : byt s k = 91
  · have e : firstOf (prs s n) s k = twoOf (prs s n) s 124 93 .alt (k + 1) := by
      unfold firstOf
      rw [if_neg q0, if_neg q1, if_neg q2, if_neg q3, if_pos q4]
    rw [e]
    clear e
    have T0 := hide (fun w h => take_no 33 s k g o w h hk hs (by decide) q0)
    have T1 := hide (fun w h => take_no 37 s k g o w h hk hs (by decide) q1)
    have T2 := hide (fun w h => take_no 46 s k g o w h hk hs (by decide) q2)
    have T3 := hide (fun w h => take_no 40 s k g o w h hk hs (by decide) q3)
    have T4 := hide (fun w h => take_yes 91 s k g o w h hk hs (by decide) q4)
    have hk1 : k + 1 ≤ s.size := byt_lt (by omega)
    have C := hide (fun w h => readTwo_alt n IH s (k + 1) g o w h hk1 hs h0 ho)
    obtain ⟨r, hr⟩ : ∃ r, r = twoOf (prs s n) s 124 93 .alt (k + 1) := ⟨_, rfl⟩
    simp only [← hr] at C ⊢
    clear q0 q1 q2 q3 q4 hr h
    have M0 := H
    go_enter Try.func72, Try.ntmps72
    go_wp2_with fail
    refine (T0.out _ M0.out.rb).mono ?_
    rintro e w1 ⟨rfl, m⟩
    have M1 := hide (M0.out.trans m)
    clear m
    go_wp2_with fail
    refine (T1.out _ M1.out.rb).mono ?_
    rintro e w2 ⟨rfl, m⟩
    have M2 := hide (M1.out.trans m)
    clear m
    go_wp2_with fail
    refine (T2.out _ M2.out.rb).mono ?_
    rintro e w3 ⟨rfl, m⟩
    have M3 := hide (M2.out.trans m)
    clear m
    go_wp2_with fail
    refine (T3.out _ M3.out.rb).mono ?_
    rintro e w4 ⟨rfl, m⟩
    have M4 := hide (M3.out.trans m)
    clear m
    go_wp2_with fail
    refine (T4.out _ M4.out.rb).mono ?_
    rintro e w5 ⟨rfl, m⟩
    have M5 := hide (M4.out.trans m)
    clear m
    go_wp2_with fail
    refine (C.out _ M5.out.rb).mono ?_
    rintro e w9 ⟨o9, m9, ⟨hn, rfl⟩ | ⟨a, b, hx, rfl, rfl⟩⟩
    · have M9 := hide (M5.out.trans m9)
      have HN := hide hn
      clear m9 hn
      go_wp2
      go_ret2
      exact ⟨o9, M9.out, .inl ⟨HN.out, _, rfl⟩⟩
    · have M9 := hide (M5.out.trans m9)
      have HX := hide hx
      clear m9 hx
      go_wp2
      go_ret2
      exact ⟨_, M9.out, .inr ⟨_, HX.out, rfl, rfl⟩⟩
  have e : firstOf (prs s n) s k = ltrOf s k := by
    unfold firstOf ltrOf
    rw [if_neg q0, if_neg q1, if_neg q2, if_neg q3, if_neg q4]
  rw [e]
  clear e
  have T0 := hide (fun w h => take_no 33 s k g o w h hk hs (by decide) q0)
  have T1 := hide (fun w h => take_no 37 s k g o w h hk hs (by decide) q1)
  have T2 := hide (fun w h => take_no 46 s k g o w h hk hs (by decide) q2)
  have T3 := hide (fun w h => take_no 40 s k g o w h hk hs (by decide) q3)
  have T4 := hide (fun w h => take_no 91 s k g o w h hk hs (by decide) q4)
  have C := hide (fun w h => readLetter_any s k g o w h hk hs)
  obtain ⟨r, hr⟩ : ∃ r, r = ltrOf s k := ⟨_, rfl⟩
  simp only [← hr] at C ⊢
  clear q0 q1 q2 q3 q4 hr h
  have M0 := H
  go_enter Try.func72, Try.ntmps72
  go_wp2_with fail
  refine (T0.out _ M0.out.rb).mono ?_
  rintro e w1 ⟨rfl, m⟩
  have M1 := hide (M0.out.trans m)
  clear m
  go_wp2_with fail
  refine (T1.out _ M1.out.rb).mono ?_
  rintro e w2 ⟨rfl, m⟩
  have M2 := hide (M1.out.trans m)
  clear m
  go_wp2_with fail
  refine (T2.out _ M2.out.rb).mono ?_
  rintro e w3 ⟨rfl, m⟩
  have M3 := hide (M2.out.trans m)
  clear m
  go_wp2_with fail
  refine (T3.out _ M3.out.rb).mono ?_
  rintro e w4 ⟨rfl, m⟩
  have M4 := hide (M3.out.trans m)
  clear m
  go_wp2_with fail
  refine (T4.out _ M4.out.rb).mono ?_
  rintro e w5 ⟨rfl, m⟩
  have M5 := hide (M4.out.trans m)
  clear m
  go_wp2_with fail
  refine (C.out _ M5.out.rb).mono ?_
  rintro e w9 ⟨o9, m9, ⟨hn, v, rfl⟩ | ⟨x, hx, rfl, rfl⟩⟩
  · have M9 := hide (M5.out.trans m9)
    have HN := hide hn
    clear m9 hn
    go_wp2
    go_ret2
    exact ⟨o9, M9.out, .inl ⟨HN.out, _, rfl⟩⟩
  · have M9 := hide (M5.out.trans m9)
    have HX := hide hx
    clear m9 hx
    go_wp2
    go_ret2
    exact ⟨_, M9.out, .inr ⟨_, HX.out, rfl, rfl⟩⟩
def atOf (w : World) (g : Nat) : Nat := match w.cell? ⟨g, 1, none⟩ with
  | some v => (intOf v).toNat
  | none => 0
theorem at_of {w : World} {g k : Nat} {s : ByteArray} {o : Int} (h : RB w g s k o) : atOf w g = k := by
  unfold atOf
  rw [h.k]
  simp [intOf]
theorem read_zero : RC 0 := by
  intro s k g o w h hk hs h0 ho
  have c2 := h.o
  have H := hide (Mv.refl h)
  have ho61 : 60 < o := by omega
  show Calls Try.prog 50 #[.pointer (some ⟨g, 0, none⟩)] w fun e w' => RdP w g s o (none, k) e w'
  clear h
  go_enter Try.func50, Try.ntmps50
  go_wp2
  go_ret2
  exact ⟨rfl, _, (fun x => by cases x), H.out⟩
set_option maxRecDepth 100000 in
set_option maxHeartbeats 8000000 in
theorem read_succ (n : Nat) (IH : RC n) : RC (n + 1) := by
  intro s k g o w h hk hs h0 ho
  have c2 := h.o
  have H := hide (Mv.refl h)
  have ho60 : ¬ 60 < o := by omega
  have C := hide (readFirst_any n IH s k g o w h hk hs h0 (by omega))
  have hin := first_in (prs_in s n) k hk
  unfold prs
  rcases he : firstOf (prs s n) s k with ⟨r1, k1⟩
  rw [he] at hin
  simp only [he] at C
  have hk1 : k1 ≤ s.size := hin.2
  clear h hin he
  cases r1 with
  | none =>
    go_enter Try.func50, Try.ntmps50
    go_wp2_with fail
    refine C.out.mono ?_
    rintro e w2 ⟨o2, m2, ⟨_, v, rfl⟩ | ⟨x, hx, _⟩⟩
    · have M2 := hide m2
      clear m2 c2
      go_wp2
      go_loopw [] (fun wr => wr = w2) (fun _ => 0)
      case atStart => rfl
      case round =>
        subst hrel
        go_wp2
        go_ret2
        exact ⟨rfl, _, (fun x => by cases x), M2.out⟩
    · cases hx
  | some x =>
    simp only
    obtain ⟨R, hR⟩ : ∃ R, R = PP s x k1 := ⟨_, rfl⟩
    rw [← hR]
    have HR := hide hR.symm
    clear hR
    go_enter Try.func50, Try.ntmps50
    go_wp2_with fail
    refine C.out.mono ?_
    rintro e w2 ⟨o2, m2, ⟨hn, _⟩ | ⟨y, hy, rfl, rfl⟩⟩
    · cases hn
    · cases hy
      have M2 := hide m2
      clear m2 c2 C
      go_wp2
      go_loopw [4] (fun v wr => ∃ (z : Sh) (j : Nat), v = sv z ∧ j ≤ s.size ∧ PP s z j = R ∧ Hid (Mv w wr g s j o2)) (fun _ wr => s.size - atOf wr g)
      case atStart => exact ⟨x, k1, rfl, hk1, HR.out, M2⟩
      case round =>
        obtain ⟨z, j, rfl, hj, hpp, MJ⟩ := hrel
        have hat := at_of MJ.out.rb
        by_cases q1 : byt s j = 42
        · have T1 := hide (fun w h => take_yes 42 s j g o2 w h hj hs (by decide) q1)
          have hpp2 := hide ((PP_star q1).symm.trans hpp)
          have hj1 : j + 1 ≤ s.size := byt_lt (by omega)
          clear q1 hpp
          go_wp2_with fail
          refine (T1.out _ MJ.out.rb).mono ?_
          rintro e w3 ⟨rfl, m3⟩
          have M3 := hide (MJ.out.trans m3)
          have hat3 := at_of M3.out.rb
          clear m3
          go_wp2
          go_roundw
          case rel => exact ⟨.many z, j + 1, rfl, hj1, hpp2.out, M3⟩
          case measure => omega
        by_cases q2 : byt s j = 94
        · have T1 := hide (fun w h => take_no 42 s j g o2 w h hj hs (by decide) q1)
          have T2 := hide (fun w h => take_yes 94 s j g o2 w h hj hs (by decide) q2)
          have hpp2 := hide ((PP_hat q2).symm.trans hpp)
          have hj1 : j + 1 ≤ s.size := byt_lt (by omega)
          clear q1 q2 hpp
          go_wp2_with fail
          refine (T1.out _ MJ.out.rb).mono ?_
          rintro e w3 ⟨rfl, m3⟩
          have M3 := hide (MJ.out.trans m3)
          clear m3
          go_wp2_with fail
          refine (T2.out _ M3.out.rb).mono ?_
          rintro e w4 ⟨rfl, m4⟩
          have M4 := hide (M3.out.trans m4)
          have hat3 := at_of M4.out.rb
          clear m4
          go_wp2
          go_roundw
          case rel => exact ⟨.inv z, j + 1, rfl, hj1, hpp2.out, M4⟩
          case measure => omega
        · have T1 := hide (fun w h => take_no 42 s j g o2 w h hj hs (by decide) q1)
          have T2 := hide (fun w h => take_no 94 s j g o2 w h hj hs (by decide) q2)
          have hpp2 := (PP_stop q1 q2).symm.trans hpp
          subst hpp2
          clear q1 q2 hpp
          go_wp2_with fail
          refine (T1.out _ MJ.out.rb).mono ?_
          rintro e w3 ⟨rfl, m3⟩
          have M3 := hide (MJ.out.trans m3)
          clear m3
          go_wp2_with fail
          refine (T2.out _ M3.out.rb).mono ?_
          rintro e w4 ⟨rfl, m4⟩
          have M4 := hide (M3.out.trans m4)
          clear m4
          go_wp2
          go_ret2
          exact ⟨rfl, _, (fun _ => rfl), M4.out⟩
theorem read_any : ∀ n, RC n
  | 0 => read_zero
  | n + 1 => read_succ n (read_any n)
end Go.Proofs.Ytkdiffpbljohkay.L5
