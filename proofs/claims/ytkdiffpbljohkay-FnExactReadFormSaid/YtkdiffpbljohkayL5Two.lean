/-
  Contracts: (*impl.formReader).readTwo: a form is read off a text as the parser reads it.
-/
import Derived.Test.YtkdiffpbljohkayL5Take
import Derived.Test.YtkdiffpbljohkayL5Word
import Derived.Deep.QuietTactic
import Derived.BigQuiet
import Derived.OwnWalk
namespace Go.Proofs.Ytkdiffpbljohkay.L5
open Go.RowKit L1 L4
set_option linter.unusedVariables false

attribute [local go_sem] mk_noText mk_emptyText mk_oneLetter mk_anyLetter mk_thenShape mk_eitherShape mk_manyShape mk_notShape as_noText_noText as_noText_emptyText as_noText_oneLetter as_noText_anyLetter as_noText_thenShape as_noText_eitherShape as_noText_manyShape as_noText_notShape as_emptyText_noText as_emptyText_emptyText as_emptyText_oneLetter as_emptyText_anyLetter as_emptyText_thenShape as_emptyText_eitherShape as_emptyText_manyShape as_emptyText_notShape as_oneLetter_noText as_oneLetter_emptyText as_oneLetter_oneLetter as_oneLetter_anyLetter as_oneLetter_thenShape as_oneLetter_eitherShape as_oneLetter_manyShape as_oneLetter_notShape as_anyLetter_noText as_anyLetter_emptyText as_anyLetter_oneLetter as_anyLetter_anyLetter as_anyLetter_thenShape as_anyLetter_eitherShape as_anyLetter_manyShape as_anyLetter_notShape as_thenShape_noText as_thenShape_emptyText as_thenShape_oneLetter as_thenShape_anyLetter as_thenShape_thenShape as_thenShape_eitherShape as_thenShape_manyShape as_thenShape_notShape as_eitherShape_noText as_eitherShape_emptyText as_eitherShape_oneLetter as_eitherShape_anyLetter as_eitherShape_thenShape as_eitherShape_eitherShape as_eitherShape_manyShape as_eitherShape_notShape as_manyShape_noText as_manyShape_emptyText as_manyShape_oneLetter as_manyShape_anyLetter as_manyShape_thenShape as_manyShape_eitherShape as_manyShape_manyShape as_manyShape_notShape as_notShape_noText as_notShape_emptyText as_notShape_oneLetter as_notShape_anyLetter as_notShape_thenShape as_notShape_eitherShape as_notShape_manyShape as_notShape_notShape
def rv : Option Sh → Value
  | some x => sv x
  | none => .nilIface
/-- What read hands back. -/
def RdP (w : World) (g : Nat) (s : ByteArray) (o : Int) (r : Option Sh × Nat) (e : Ending) (w' : World) : Prop :=
  e = .returned (.tuple #[rv r.1, .bool r.1.isSome]) ∧ ∃ o', (r.1.isSome = true → o' = o) ∧ Mv w w' g s r.2 o'
def RC (n : Nat) : Prop := ∀ (s : ByteArray) (k g : Nat) (o : Int) (w : World), RB w g s k o → k ≤ s.size → s.size ≤ 120 → 0 ≤ o → o + n = 61 → Calls Try.prog 50 #[.pointer (some ⟨g, 0, none⟩)] w fun e w' => RdP w g s o (prs s n k) e w'
theorem RC.no {n : Nat} (h : RC n) {s : ByteArray} {k k2 : Nat} (he : prs s n k = (none, k2)) (g : Nat) (o : Int) (w : World) (hr : RB w g s k o) (hk : k ≤ s.size) (hs : s.size ≤ 120) (h0 : 0 ≤ o) (ho : o + n = 61) : Calls Try.prog 50 #[.pointer (some ⟨g, 0, none⟩)] w fun e w' => e = .returned (.tuple #[.nilIface, .bool false]) ∧ ∃ o', Mv w w' g s k2 o' := by
  refine (h s k g o w hr hk hs h0 ho).mono ?_
  rintro e w' ⟨h1, o', _, h2⟩
  rw [he] at h1 h2
  exact ⟨h1, o', h2⟩
theorem RC.yes {n : Nat} (h : RC n) {s : ByteArray} {k k2 : Nat} {x : Sh} (he : prs s n k = (some x, k2)) (g : Nat) (o : Int) (w : World) (hr : RB w g s k o) (hk : k ≤ s.size) (hs : s.size ≤ 120) (h0 : 0 ≤ o) (ho : o + n = 61) : Calls Try.prog 50 #[.pointer (some ⟨g, 0, none⟩)] w fun e w' => e = .returned (.tuple #[sv x, .bool true]) ∧ Mv w w' g s k2 o := by
  refine (h s k g o w hr hk hs h0 ho).mono ?_
  rintro e w' ⟨h1, o', h3, h2⟩
  rw [he] at h1 h2 h3
  obtain rfl := h3 rfl
  exact ⟨h1, h2⟩
/-- What readTwo hands back. -/
def RtP (w : World) (g : Nat) (s : ByteArray) (o : Int) (mk : Sh → Sh → Sh) (r : Option Sh × Nat) (e : Ending) (w' : World) : Prop :=
  ∃ o', Mv w w' g s r.2 o' ∧ ((r.1 = none ∧ e = .returned (.tuple #[.nilIface, .nilIface, .bool false])) ∨ ∃ a b, r.1 = some (mk a b) ∧ o' = o ∧ e = .returned (.tuple #[sv a, sv b, .bool true]))
theorem rtp_no {w w' : World} {g k : Nat} {s : ByteArray} {o o' : Int} {mk : Sh → Sh → Sh} (h : Mv w w' g s k o') : RtP w g s o mk (none, k) (.returned (.tuple #[.nilIface, .nilIface, .bool false])) w' := ⟨o', h, .inl ⟨rfl, rfl⟩⟩
theorem rtp_yes {w w' : World} {g k : Nat} {s : ByteArray} {o : Int} {mk : Sh → Sh → Sh} {a b : Sh} (h : Mv w w' g s k o) : RtP w g s o mk (some (mk a b), k) (.returned (.tuple #[sv a, sv b, .bool true])) w' := ⟨o, h, .inr ⟨a, b, rfl, rfl, rfl⟩⟩
set_option maxRecDepth 100000 in
set_option maxHeartbeats 4000000 in
theorem readTwo_seq (n : Nat) (IH : RC n) (s : ByteArray) (k g : Nat) (o : Int) (w : World) (h : RB w g s k o) (hk : k ≤ s.size) (hs : s.size ≤ 120) (h0 : 0 ≤ o) (ho : o + n = 60) :
    Calls Try.prog 81 #[.pointer (some ⟨g, 0, none⟩), .string ⟨#[]⟩, .string ⟨#[41]⟩] w fun e w' => RtP w g s o .seq (twoOf (prs s n) s 0 41 .seq k) e w' := by
  have ho60 : o ≤ 60 := by omega
  have c2 := h.o
  have f2 := h.frozen 2
  have H1 := hide ((Mv.refl h).setO (o + 1))
  have hin := prs_in s n k hk
  unfold twoOf
  rcases he : prs s n k with ⟨r1, k2⟩
  rw [he] at hin
  have hk2 : k2 ≤ s.size := hin.2
  clear h hin
  cases r1 with
  | none =>
    have C1 := hide (fun w h => IH.no he g (o + 1) w h hk hs (by omega) (by omega))
    clear he
    go_enter Try.func81, Try.ntmps81
    go_wp2_with fail
    refine (C1.out _ H1.out.rb).mono ?_
    rintro e w2 ⟨rfl, o2, m2⟩
    have M2 := hide (H1.out.trans m2)
    clear m2 c2 f2
    go_wp2
    go_ret3
    exact rtp_no M2.out
  | some a =>
    have C1 := hide (fun w h => IH.yes he g (o + 1) w h hk hs (by omega) (by omega))
    clear he
    simp only
    rw [if_neg (fun h => h.1 rfl)]
    simp only [if_true]
    have C2 := hide (fun w h => take_nil s k2 g (o + 1) w h hk2 hs)
    have hk3 : k2 ≤ s.size := hk2
    have hin2 := prs_in s n k2 hk3
    rcases he2 : prs s n k2 with ⟨r2, k4⟩
    rw [he2] at hin2
    have hk4 : k4 ≤ s.size := hin2.2
    clear hin2
    cases r2 with
    | none =>
      have C3 := hide (fun w h => IH.no he2 g (o + 1) w h hk3 hs (by omega) (by omega))
      clear he2
      go_enter Try.func81, Try.ntmps81
      go_wp2_with fail
      refine (C1.out _ H1.out.rb).mono ?_
      rintro e w2 ⟨rfl, m2⟩
      have M2 := hide (H1.out.trans m2)
      clear m2 c2 f2
      go_wp2_with fail
      refine (C2.out _ M2.out.rb).mono ?_
      rintro e w3 ⟨rfl, m3⟩
      have M3 := hide (M2.out.trans m3)
      clear m3
      go_wp2_with fail
      refine (C3.out _ M3.out.rb).mono ?_
      rintro e w4 ⟨rfl, o4, m4⟩
      have M4 := hide (M3.out.trans m4)
      clear m4
      go_wp2
      go_ret3
      exact rtp_no M4.out
    | some b =>
      have C3 := hide (fun w h => IH.yes he2 g (o + 1) w h hk3 hs (by omega) (by omega))
      clear he2
      simp only
      by_cases hq : byt s k4 = 41
      · rw [if_pos hq]
        have C4 := hide (fun w h => take_yes 41 s k4 g (o + 1) w h hk4 hs (by decide) hq)
        clear hq
        go_enter Try.func81, Try.ntmps81
        go_wp2_with fail
        refine (C1.out _ H1.out.rb).mono ?_
        rintro e w2 ⟨rfl, m2⟩
        have M2 := hide (H1.out.trans m2)
        clear m2 c2 f2
        go_wp2_with fail
        refine (C2.out _ M2.out.rb).mono ?_
        rintro e w3 ⟨rfl, m3⟩
        have M3 := hide (M2.out.trans m3)
        clear m3
        go_wp2_with fail
        refine (C3.out _ M3.out.rb).mono ?_
        rintro e w4 ⟨rfl, m4⟩
        have M4 := hide (M3.out.trans m4)
        clear m4
        go_wp2_with fail
        refine (C4.out _ M4.out.rb).mono ?_
        rintro e w5 ⟨rfl, m5⟩
        have M5 := hide (M4.out.trans m5)
        have c5 := M5.out.rb.o
        have f5 := M5.out.rb.frozen 2
        have M6 := hide (M5.out.setO o)
        clear m5
        have e1 : o + 1 - 1 = o := by omega
        go_wp2
        go_ret3
        exact rtp_yes M6.out
      · rw [if_neg hq]
        have C4 := hide (fun w h => take_no 41 s k4 g (o + 1) w h hk4 hs (by decide) hq)
        clear hq
        go_enter Try.func81, Try.ntmps81
        go_wp2_with fail
        refine (C1.out _ H1.out.rb).mono ?_
        rintro e w2 ⟨rfl, m2⟩
        have M2 := hide (H1.out.trans m2)
        clear m2 c2 f2
        go_wp2_with fail
        refine (C2.out _ M2.out.rb).mono ?_
        rintro e w3 ⟨rfl, m3⟩
        have M3 := hide (M2.out.trans m3)
        clear m3
        go_wp2_with fail
        refine (C3.out _ M3.out.rb).mono ?_
        rintro e w4 ⟨rfl, m4⟩
        have M4 := hide (M3.out.trans m4)
        clear m4
        go_wp2_with fail
        refine (C4.out _ M4.out.rb).mono ?_
        rintro e w5 ⟨rfl, m5⟩
        have M5 := hide (M4.out.trans m5)
        clear m5
        go_wp2
        go_ret3
        exact rtp_no M5.out
set_option maxRecDepth 100000 in
set_option maxHeartbeats 4000000 in
theorem readTwo_alt (n : Nat) (IH : RC n) (s : ByteArray) (k g : Nat) (o : Int) (w : World) (h : RB w g s k o) (hk : k ≤ s.size) (hs : s.size ≤ 120) (h0 : 0 ≤ o) (ho : o + n = 60) :
    Calls Try.prog 81 #[.pointer (some ⟨g, 0, none⟩), .string ⟨#[124]⟩, .string ⟨#[93]⟩] w fun e w' => RtP w g s o .alt (twoOf (prs s n) s 124 93 .alt k) e w' := by
  have ho60 : o ≤ 60 := by omega
  have c2 := h.o
  have f2 := h.frozen 2
  have H1 := hide ((Mv.refl h).setO (o + 1))
  have hin := prs_in s n k hk
  unfold twoOf
  rcases he : prs s n k with ⟨r1, k2⟩
  rw [he] at hin
  have hk2 : k2 ≤ s.size := hin.2
  clear h hin
  cases r1 with
  | none =>
    have C1 := hide (fun w h => IH.no he g (o + 1) w h hk hs (by omega) (by omega))
    clear he
    go_enter Try.func81, Try.ntmps81
    go_wp2_with fail
    refine (C1.out _ H1.out.rb).mono ?_
    rintro e w2 ⟨rfl, o2, m2⟩
    have M2 := hide (H1.out.trans m2)
    clear m2 c2 f2
    go_wp2
    go_ret3
    exact rtp_no M2.out
  | some a =>
    have C1 := hide (fun w h => IH.yes he g (o + 1) w h hk hs (by omega) (by omega))
    clear he
    simp only
    by_cases hm : byt s k2 = 124
    · rw [if_neg (fun h => h.2 hm), if_neg (by decide)]
      have C2 := hide (fun w h => take_yes 124 s k2 g (o + 1) w h hk2 hs (by decide) hm)
      have hk3 : k2 + 1 ≤ s.size := byt_lt (by omega)
      have hin2 := prs_in s n (k2 + 1) hk3
      rcases he2 : prs s n (k2 + 1) with ⟨r2, k4⟩
      rw [he2] at hin2
      have hk4 : k4 ≤ s.size := hin2.2
      clear hin2
      cases r2 with
      | none =>
        have C3 := hide (fun w h => IH.no he2 g (o + 1) w h hk3 hs (by omega) (by omega))
        clear he2
        go_enter Try.func81, Try.ntmps81
        go_wp2_with fail
        refine (C1.out _ H1.out.rb).mono ?_
        rintro e w2 ⟨rfl, m2⟩
        have M2 := hide (H1.out.trans m2)
        clear m2 c2 f2
        go_wp2_with fail
        refine (C2.out _ M2.out.rb).mono ?_
        rintro e w3 ⟨rfl, m3⟩
        have M3 := hide (M2.out.trans m3)
        clear m3
        go_wp2_with fail
        refine (C3.out _ M3.out.rb).mono ?_
        rintro e w4 ⟨rfl, o4, m4⟩
        have M4 := hide (M3.out.trans m4)
        clear m4
        go_wp2
        go_ret3
        exact rtp_no M4.out
      | some b =>
        have C3 := hide (fun w h => IH.yes he2 g (o + 1) w h hk3 hs (by omega) (by omega))
        clear he2
        simp only
        by_cases hq : byt s k4 = 93
        · rw [if_pos hq]
          have C4 := hide (fun w h => take_yes 93 s k4 g (o + 1) w h hk4 hs (by decide) hq)
          clear hq
          go_enter Try.func81, Try.ntmps81
          go_wp2_with fail
          refine (C1.out _ H1.out.rb).mono ?_
          rintro e w2 ⟨rfl, m2⟩
          have M2 := hide (H1.out.trans m2)
          clear m2 c2 f2
          go_wp2_with fail
          refine (C2.out _ M2.out.rb).mono ?_
          rintro e w3 ⟨rfl, m3⟩
          have M3 := hide (M2.out.trans m3)
          clear m3
          go_wp2_with fail
          refine (C3.out _ M3.out.rb).mono ?_
          rintro e w4 ⟨rfl, m4⟩
          have M4 := hide (M3.out.trans m4)
          clear m4
          go_wp2_with fail
          refine (C4.out _ M4.out.rb).mono ?_
          rintro e w5 ⟨rfl, m5⟩
          have M5 := hide (M4.out.trans m5)
          have c5 := M5.out.rb.o
          have f5 := M5.out.rb.frozen 2
          have M6 := hide (M5.out.setO o)
          clear m5
          have e1 : o + 1 - 1 = o := by omega
          go_wp2
          go_ret3
          exact rtp_yes M6.out
        · rw [if_neg hq]
          have C4 := hide (fun w h => take_no 93 s k4 g (o + 1) w h hk4 hs (by decide) hq)
          clear hq
          go_enter Try.func81, Try.ntmps81
          go_wp2_with fail
          refine (C1.out _ H1.out.rb).mono ?_
          rintro e w2 ⟨rfl, m2⟩
          have M2 := hide (H1.out.trans m2)
          clear m2 c2 f2
          go_wp2_with fail
          refine (C2.out _ M2.out.rb).mono ?_
          rintro e w3 ⟨rfl, m3⟩
          have M3 := hide (M2.out.trans m3)
          clear m3
          go_wp2_with fail
          refine (C3.out _ M3.out.rb).mono ?_
          rintro e w4 ⟨rfl, m4⟩
          have M4 := hide (M3.out.trans m4)
          clear m4
          go_wp2_with fail
          refine (C4.out _ M4.out.rb).mono ?_
          rintro e w5 ⟨rfl, m5⟩
          have M5 := hide (M4.out.trans m5)
          clear m5
          go_wp2
          go_ret3
          exact rtp_no M5.out
    · rw [if_pos ⟨by decide, hm⟩]
      have C2 := hide (fun w h => take_no 124 s k2 g (o + 1) w h hk2 hs (by decide) hm)
      clear hm
      go_enter Try.func81, Try.ntmps81
      go_wp2_with fail
      refine (C1.out _ H1.out.rb).mono ?_
      rintro e w2 ⟨rfl, m2⟩
      have M2 := hide (H1.out.trans m2)
      clear m2 c2 f2
      go_wp2_with fail
      refine (C2.out _ M2.out.rb).mono ?_
      rintro e w3 ⟨rfl, m3⟩
      have M3 := hide (M2.out.trans m3)
      clear m3
      go_wp2
      go_ret3
      exact rtp_no M3.out
end Go.Proofs.Ytkdiffpbljohkay.L5
