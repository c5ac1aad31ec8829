/-
  Contracts: impl.isLetter, impl.isWord, impl.isName: what a name is.
-/
import Derived.Test.YtfmfnlpajoikmaoL3WordB
import Derived.Shelf.Abstract
namespace Go.Proofs.Ytfmfnlpajoikmao.L3
open Go.RowKit L1
set_option linter.unusedVariables false

theorem bts_at (s : ByteArray) (k : Nat) (h : k < s.size) : (bts s 0).getD k 0 = ((s[k]'h).toNat : Int) := by
  have := bts_get s 0 k (by omega)
  simp only [Nat.zero_add] at this
  exact this
set_option maxRecDepth 100000 in
set_option maxHeartbeats 400000 in
theorem isLetter_any (r : Int) (w : World) (bb : Bool) (hb : bb = true ↔ okB false r) :
    Calls Try.prog 49 #[.int .i32 r] w fun e w' => e = .returned (.bool bb) ∧ w = w' := by
  by_cases h1 : 97 ≤ r
  · by_cases h2 : r ≤ 122
    · obtain rfl : bb = true := hb.2 (.inl ⟨h1, h2⟩)
      clear hb
      go_enter Try.func49, Try.ntmps49
      go_wp2
      go_ret
      exact ⟨rfl, rfl⟩
    · obtain rfl : bb = false := bool_noT hb (by unfold okB; simp; omega)
      clear hb
      go_enter Try.func49, Try.ntmps49
      go_wp2
      go_ret
      exact ⟨by first | rfl | simp [h2], rfl⟩
  · obtain rfl : bb = false := bool_noT hb (by unfold okB; simp; omega)
    clear hb
    go_enter Try.func49, Try.ntmps49
    go_wp2
    go_ret
    exact ⟨by first | rfl | simp [h1], rfl⟩
set_option maxRecDepth 100000 in
set_option maxHeartbeats 1000000 in
theorem isWord_any (g : Nat) (dig : Bool) (hg : ∀ r w bb, (bb = true ↔ okB dig r) → Calls Try.prog g #[.int .i32 r] w fun e w' => e = .returned (.bool bb) ∧ w = w') (eg : ∀ args w, (callFunc g args).run Try.prog w = .ok (.enter g args) w)
    (s : ByteArray) (w : World) (hs : s.size ≤ 9223372036854775807) (bb : Bool) (hbb : bb = true ↔ Word dig s) :
    Calls Try.prog 48 #[.string s, .func (.func g) #[] #[]] w fun e w' => e = .returned (.bool bb) ∧ Below w.heap.size w w' := by
  have HBB := hide hbb
  have HG := hide hg
  clear hbb hg
  by_cases h1 : (s.size : Int) < 1
  · have E := hide (bool_noT HBB.out (fun h => by have := h.1.1; omega))
    go_enter Try.func48, Try.ntmps48
    go_wp2
    go_ret
    exact ⟨by rw [E.out]; rfl, Below.refl _ _⟩
  · by_cases h8 : 8 < (s.size : Int)
    · have E := hide (bool_noT HBB.out (fun h => by have := h.1.2; omega))
      go_enter Try.func48, Try.ntmps48
      go_wp2
      go_ret
      exact ⟨by rw [E.out]; rfl, Below.refl _ _⟩
    · go_enter Try.func48, Try.ntmps48
      go_wp2
      go_loopw [] (fun w' => ∃ pos : Nat, w' = w.iter s pos ∧ pos ≤ s.size ∧ Hid (∀ k, k < pos → okB dig ((bts s 0).getD k 0))) (fun w' => s.size - w'.iterPos w.heap.size)
      case atStart => exact ⟨0, rfl, Nat.zero_le _, fun k hk => absurd hk (Nat.not_lt_zero _)⟩
      case round =>
        obtain ⟨pos, rfl, hpos, HJ⟩ := hrel
        by_cases hp : pos < s.size
        · have hnx : ∀ ty, (Instr.next (.pointer (some ⟨w.heap.size, 0, none⟩)) true ty).run Try.prog (w.iter s pos) = _ := fun ty => run_next_any w s pos ty hp
          have hdec : okB dig ((Utf8.decode s pos).1 : Nat) → (Utf8.decode s pos).2 = 1 ∧ ((Utf8.decode s pos).1 : Int) = (bts s 0).getD pos 0 := fun h => by
            by_cases ha : (s[pos]'hp).toNat < 128
            · rw [decode_ascii s pos hp ha, bts_at s pos hp]; simp
            · have := (decode_high s pos hp (by omega)).1
              unfold okB at h
              omega
          have hdec2 : okB dig ((bts s 0).getD pos 0) → okB dig ((Utf8.decode s pos).1 : Nat) := fun h => by
            rw [bts_at s pos hp] at h
            have ha : (s[pos]'hp).toNat < 128 := by unfold okB at h; omega
            rw [decode_ascii s pos hp ha]
            exact h
          obtain ⟨r, hr⟩ : ∃ r, r = (Utf8.decode s pos).1 := ⟨_, rfl⟩
          obtain ⟨wd, hwd⟩ : ∃ wd, wd = (Utf8.decode s pos).2 := ⟨_, rfl⟩
          rw [← hr, ← hwd] at hdec hnx
          rw [← hr] at hdec2
          by_cases hok : okB dig (r : Int)
          · have C := hide (fun w => HG.out (r : Int) w true (by simp [hok]))
            have HD := hide (hdec hok)
            have HOK := hide hok
            clear hr hwd hdec hdec2 hok
            go_wp2_with fail
            refine (C.out _).mono ?_
            rintro e w1 ⟨rfl, rfl⟩
            go_wp2
            go_roundw
            case rel =>
              refine ⟨pos + 1, by rw [HD.out.1], by omega, ?_⟩
              intro k hk
              by_cases e : k = pos
              · subst e; rw [← HD.out.2]; exact HOK.out
              · exact HJ.out k (by omega)
            case measure =>
              have := HD.out.1
              simp
              omega
          · have C := hide (fun w => HG.out (r : Int) w false (by simp [hok]))
            have E := hide (bool_noT HBB.out (fun h => hok (hdec2 (h.2 pos hp))))
            clear hr hwd hdec hdec2 hok
            go_wp2_with fail
            refine (C.out _).mono ?_
            rintro e w1 ⟨rfl, rfl⟩
            go_wp2
            go_ret
            exact ⟨by rw [E.out]; rfl, (Below.refl _ _).alloc (Nat.le_refl _) _⟩
        · have hnx : ∀ ty, (Instr.next (.pointer (some ⟨w.heap.size, 0, none⟩)) true ty).run Try.prog (w.iter s pos) = _ := fun ty => run_next_end w s pos ty hp
          have E := hide (HBB.out.2 ⟨by omega, fun k hk => HJ.out k (by omega)⟩)
          go_wp2
          go_ret
          exact ⟨by rw [E.out]; rfl, (Below.refl _ _).alloc (Nat.le_refl _) _⟩
set_option maxRecDepth 100000 in
set_option maxHeartbeats 400000 in
theorem isName_any (s : ByteArray) (w : World) (hs : s.size ≤ 9223372036854775807) (bb : Bool) (hbb : bb = true ↔ Word false s) :
    Calls Try.prog 28 #[.string s] w fun e w' => e = .returned (.bool bb) ∧ Below w.heap.size w w' := by
  have C := hide (fun w => isWord_any 49 false (fun r w bb h => isLetter_any r w bb h) (enters_of Try.func49 (by kernel_rfl) rfl) s w hs bb hbb)
  clear hbb
  go_enter Try.func28, Try.ntmps28
  go_wp2_with fail
  refine (C.out _).mono ?_
  rintro e w1 ⟨rfl, hb1⟩
  go_wp2
  go_ret
  exact ⟨rfl, hb1⟩
end Go.Proofs.Ytfmfnlpajoikmao.L3
