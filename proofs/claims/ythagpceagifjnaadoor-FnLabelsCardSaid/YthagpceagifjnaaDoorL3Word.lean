/-
  Contracts: impl.isLetter, impl.isLetterOrDigit, impl.isWord, impl.isName, impl.isValue, impl.goodLabel; spec.l1In, spec.l3Name: what a word is.
-/
import Derived.Test.YthagpceagifjnaaDoorL3Lab
namespace Go.Proofs.YthagpceagifjnaaDoor.L3
open Go.RowKit L1
set_option linter.unusedVariables false

theorem bts_at (s : ByteArray) (k : Nat) (h : k < s.size) : (bts s 0).getD k 0 = ((s[k]'h).toNat : Int) := by
  have := bts_get s 0 k (by omega)
  simp only [Nat.zero_add] at this
  exact this
set_option maxRecDepth 100000 in
set_option maxHeartbeats 400000 in
theorem isLetter_any (r : Int) (w : World) (bb : Bool) (hb : bb = true ↔ okB false r) :
    Calls Tryd.prog 159 #[.int .i32 r] w fun e w' => e = .returned (.bool bb) ∧ w = w' := by
  by_cases h1 : 97 ≤ r
  · by_cases h2 : r ≤ 122
    · obtain rfl : bb = true := hb.2 (.inl ⟨h1, h2⟩)
      clear hb
      go_enter Tryd.func159, Tryd.ntmps159
      go_wp2
      go_ret
      exact ⟨rfl, rfl⟩
    · obtain rfl : bb = false := bool_noT hb (by unfold okB; simp; omega)
      clear hb
      go_enter Tryd.func159, Tryd.ntmps159
      go_wp2
      go_ret
      exact ⟨by first | rfl | simp [h2], rfl⟩
  · obtain rfl : bb = false := bool_noT hb (by unfold okB; simp; omega)
    clear hb
    go_enter Tryd.func159, Tryd.ntmps159
    go_wp2
    go_ret
    exact ⟨by first | rfl | simp [h1], rfl⟩
set_option maxRecDepth 100000 in
set_option maxHeartbeats 400000 in
theorem isLetterOrDigit_any (r : Int) (w : World) (bb : Bool) (hb : bb = true ↔ okB true r) :
    Calls Tryd.prog 160 #[.int .i32 r] w fun e w' => e = .returned (.bool bb) ∧ w = w' := by
  by_cases hl : okB false r
  · obtain rfl : bb = true := hb.2 (by unfold okB at *; simp at hl; exact .inl hl)
    have C := hide (isLetter_any r w true (by simp [hl]))
    clear hb hl
    go_enter Tryd.func160, Tryd.ntmps160
    go_wp2_with fail
    refine C.out.mono ?_
    rintro e w1 ⟨rfl, rfl⟩
    go_wp2
    go_ret
    exact ⟨rfl, rfl⟩
  · have C := hide (isLetter_any r w false (by simp [hl]))
    by_cases h1 : 48 ≤ r
    · by_cases h2 : r ≤ 57
      · obtain rfl : bb = true := hb.2 (.inr ⟨rfl, h1, h2⟩)
        clear hb hl
        go_enter Tryd.func160, Tryd.ntmps160
        go_wp2_with fail
        refine C.out.mono ?_
        rintro e w1 ⟨rfl, rfl⟩
        go_wp2
        go_ret
        exact ⟨rfl, rfl⟩
      · obtain rfl : bb = false := bool_noT hb (by unfold okB at *; simp at *; omega)
        clear hb hl
        go_enter Tryd.func160, Tryd.ntmps160
        go_wp2_with fail
        refine C.out.mono ?_
        rintro e w1 ⟨rfl, rfl⟩
        go_wp2
        go_ret
        exact ⟨by first | rfl | simp [h2], rfl⟩
    · obtain rfl : bb = false := bool_noT hb (by unfold okB at *; simp at *; omega)
      clear hb hl
      go_enter Tryd.func160, Tryd.ntmps160
      go_wp2_with fail
      refine C.out.mono ?_
      rintro e w1 ⟨rfl, rfl⟩
      go_wp2
      go_ret
      exact ⟨by first | rfl | simp [h1], rfl⟩

set_option maxRecDepth 100000 in
set_option maxHeartbeats 1000000 in
theorem isWord_any (g : Nat) (dig : Bool) (hg : ∀ r w bb, (bb = true ↔ okB dig r) → Calls Tryd.prog g #[.int .i32 r] w fun e w' => e = .returned (.bool bb) ∧ w = w') (eg : ∀ args w, (callFunc g args).run Tryd.prog w = .ok (.enter g args) w)
    (s : ByteArray) (w : World) (hs : s.size ≤ 9223372036854775807) (bb : Bool) (hbb : bb = true ↔ Word dig s) :
    Calls Tryd.prog 158 #[.string s, .func (.func g) #[] #[]] w fun e w' => e = .returned (.bool bb) ∧ Below w.heap.size w w' := by
  have HBB := hide hbb
  have HG := hide hg
  clear hbb hg
  by_cases h1 : (s.size : Int) < 1
  · have E := hide (bool_noT HBB.out (fun h => by have := h.1.1; omega))
    go_enter Tryd.func158, Tryd.ntmps158
    go_wp2
    go_ret
    exact ⟨by rw [E.out]; rfl, Below.refl _ _⟩
  · by_cases h8 : 8 < (s.size : Int)
    · have E := hide (bool_noT HBB.out (fun h => by have := h.1.2; omega))
      go_enter Tryd.func158, Tryd.ntmps158
      go_wp2
      go_ret
      exact ⟨by rw [E.out]; rfl, Below.refl _ _⟩
    · go_enter Tryd.func158, Tryd.ntmps158
      go_wp2
      go_loopw [] (fun w' => ∃ pos : Nat, w' = w.iter s pos ∧ pos ≤ s.size ∧ Hid (∀ k, k < pos → okB dig ((bts s 0).getD k 0))) (fun w' => s.size - w'.iterPos w.heap.size)
      case atStart => exact ⟨0, rfl, Nat.zero_le _, fun k hk => absurd hk (Nat.not_lt_zero _)⟩
      case round =>
        obtain ⟨pos, rfl, hpos, HJ⟩ := hrel
        by_cases hp : pos < s.size
        · have hnx : ∀ ty, (Instr.next (.pointer (some ⟨w.heap.size, 0, none⟩)) true ty).run Tryd.prog (w.iter s pos) = _ := fun ty => run_next_any w s pos ty hp
          have hdec : okB dig ((Utf8.decode s pos).1 : Nat) → (Utf8.decode s pos).2 = 1 ∧ ((Utf8.decode s pos).1 : Int) = (bts s 0).getD pos 0 := fun h => by
            by_cases ha : (s[pos]'hp).toNat < 128
            · rw [decode_ascii s pos hp ha, bts_at s pos hp]; simp
            · have := (decode_high s pos hp (by omega)).1
              unfold okB at h
              omega
          have hdec2 : okB dig ((bts s 0).getD pos 0) → okB dig ((Utf8.decode s pos).1 : Nat) := fun h => by
            rw [bts_at s pos hp] at h
            have ha : (s[pos]'hp).toNat < 128 := by unfold okB at h; omega
            rw [decode_ascii s pos hp ha]
            exact h
          obtain ⟨r, hr⟩ : ∃ r, r = (Utf8.decode s pos).1 := ⟨_, rfl⟩
          obtain ⟨wd, hwd⟩ : ∃ wd, wd = (Utf8.decode s pos).2 := ⟨_, rfl⟩
          rw [← hr, ← hwd] at hdec hnx
          rw [← hr] at hdec2
          by_cases hok : okB dig (r : Int)
          · have C := hide (fun w => HG.out (r : Int) w true (by simp [hok]))
            have HD := hide (hdec hok)
            have HOK := hide hok
            clear hr hwd hdec hdec2 hok
            go_wp2_with fail
            refine (C.out _).mono ?_
            rintro e w1 ⟨rfl, rfl⟩
            go_wp2
            go_roundw
            case rel =>
              refine ⟨pos + 1, by rw [HD.out.1], by omega, ?_⟩
              intro k hk
              by_cases e : k = pos
              · subst e; rw [← HD.out.2]; exact HOK.out
              · exact HJ.out k (by omega)
            case measure =>
              have := HD.out.1
              simp
              omega
          · have C := hide (fun w => HG.out (r : Int) w false (by simp [hok]))
            have E := hide (bool_noT HBB.out (fun h => hok (hdec2 (h.2 pos hp))))
            clear hr hwd hdec hdec2 hok
            go_wp2_with fail
            refine (C.out _).mono ?_
            rintro e w1 ⟨rfl, rfl⟩
            go_wp2
            go_ret
            exact ⟨by rw [E.out]; rfl, (Below.refl _ _).alloc (Nat.le_refl _) _⟩
        · have hnx : ∀ ty, (Instr.next (.pointer (some ⟨w.heap.size, 0, none⟩)) true ty).run Tryd.prog (w.iter s pos) = _ := fun ty => run_next_end w s pos ty hp
          have E := hide (HBB.out.2 ⟨by omega, fun k hk => HJ.out k (by omega)⟩)
          go_wp2
          go_ret
          exact ⟨by rw [E.out]; rfl, (Below.refl _ _).alloc (Nat.le_refl _) _⟩
end Go.Proofs.YthagpceagifjnaaDoor.L3
