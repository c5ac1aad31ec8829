/-
  Contracts: impl.isLetter, impl.isFitted, spec.l5Letters, impl.isAhead, spec.l5Two, spec.l5One: what a letter and a text of letters is; small tests.
-/
import Derived.Test.YtkdiffpbljohkayL5Pt
namespace Go.Proofs.Ytkdiffpbljohkay.L5
open Go.RowKit L1 L4
set_option linter.unusedVariables false

theorem bts_at (s : ByteArray) (k : Nat) (h : k < s.size) : (bts s 0).getD k 0 = ((s[k]'h).toNat : Int) := by
  have := bts_get s 0 k (by omega)
  simp only [Nat.zero_add] at this
  exact this
def okc (b : Int) : Prop := 97 ≤ b ∧ b ≤ 122
instance (b : Int) : Decidable (okc b) := by unfold okc; infer_instance
/-- A text of letters alone. -/
def Let (s : ByteArray) : Prop := ∀ k, k < s.size → okc ((bts s 0).getD k 0)
set_option maxRecDepth 100000 in
set_option maxHeartbeats 400000 in
theorem isLetter_any (r : Int) (w : World) (bb : Bool) (hb : bb = true ↔ okc r) :
    Calls Try.prog 36 #[.int .i32 r] w fun e w' => e = .returned (.bool bb) ∧ w = w' := by
  by_cases h1 : 97 ≤ r
  · by_cases h2 : r ≤ 122
    · obtain rfl : bb = true := hb.2 ⟨h1, h2⟩
      clear hb
      go_enter Try.func36, Try.ntmps36
      go_wp2
      go_ret
      exact ⟨rfl, rfl⟩
    · obtain rfl : bb = false := bool_noT hb (fun h => h2 h.2)
      clear hb
      go_enter Try.func36, Try.ntmps36
      go_wp2
      go_ret
      exact ⟨by first | rfl | simp [h2], rfl⟩
  · obtain rfl : bb = false := bool_noT hb (fun h => h1 h.1)
    clear hb
    go_enter Try.func36, Try.ntmps36
    go_wp2
    go_ret
    exact ⟨by first | rfl | simp [h1], rfl⟩
set_option maxRecDepth 100000 in
set_option maxHeartbeats 1000000 in
theorem isFitted_any (s : ByteArray) (w : World) (hs : s.size ≤ 9223372036854775807) (bb : Bool) (hbb : bb = true ↔ s.size ≤ 12 ∧ Let s) :
    Calls Try.prog 44 #[.string s] w fun e w' => e = .returned (.bool bb) ∧ Below w.heap.size w w' := by
  have HBB := hide hbb
  clear hbb
  by_cases h8 : 12 < (s.size : Int)
  · have E := hide (bool_noT HBB.out (fun h => by have := h.1; omega))
    go_enter Try.func44, Try.ntmps44
    go_wp2
    go_ret
    exact ⟨by rw [E.out]; rfl, Below.refl _ _⟩
  · go_enter Try.func44, Try.ntmps44
    go_wp2
    go_loopw [] (fun w' => ∃ pos : Nat, w' = w.iter s pos ∧ pos ≤ s.size ∧ Hid (∀ k, k < pos → okc ((bts s 0).getD k 0))) (fun w' => s.size - w'.iterPos w.heap.size)
    case atStart => exact ⟨0, rfl, Nat.zero_le _, fun k hk => absurd hk (Nat.not_lt_zero _)⟩
    case round =>
      obtain ⟨pos, rfl, hpos, HJ⟩ := hrel
      by_cases hp : pos < s.size
      · have hnx : ∀ ty, (Instr.next (.pointer (some ⟨w.heap.size, 0, none⟩)) true ty).run Try.prog (w.iter s pos) = _ := fun ty => run_next_any w s pos ty hp
        have hdec : okc ((Utf8.decode s pos).1 : Nat) → (Utf8.decode s pos).2 = 1 ∧ ((Utf8.decode s pos).1 : Int) = (bts s 0).getD pos 0 := fun h => by
          by_cases ha : (s[pos]'hp).toNat < 128
          · rw [decode_ascii s pos hp ha, bts_at s pos hp]; simp
          · have := (decode_high s pos hp (by omega)).1
            unfold okc at h
            omega
        have hdec2 : okc ((bts s 0).getD pos 0) → okc ((Utf8.decode s pos).1 : Nat) := fun h => by
          rw [bts_at s pos hp] at h
          have ha : (s[pos]'hp).toNat < 128 := by unfold okc at h; omega
          rw [decode_ascii s pos hp ha]
          exact h
        obtain ⟨r, hr⟩ : ∃ r, r = (Utf8.decode s pos).1 := ⟨_, rfl⟩
        obtain ⟨wd, hwd⟩ : ∃ wd, wd = (Utf8.decode s pos).2 := ⟨_, rfl⟩
        rw [← hr, ← hwd] at hdec hnx
        rw [← hr] at hdec2
        by_cases hok : okc (r : Int)
        · have C := hide (fun w => isLetter_any (r : Int) w true (by simp [hok]))
          have HD := hide (hdec hok)
          have HOK := hide hok
          clear hr hwd hdec hdec2 hok
          go_wp2_with fail
          refine (C.out _).mono ?_
          rintro e w1 ⟨rfl, rfl⟩
          go_wp2
          go_roundw
          case rel =>
            refine ⟨pos + 1, by rw [HD.out.1], by omega, ?_⟩
            intro k hk
            by_cases e : k = pos
            · subst e; rw [← HD.out.2]; exact HOK.out
            · exact HJ.out k (by omega)
          case measure =>
            have := HD.out.1
            simp
            omega
        · have C := hide (fun w => isLetter_any (r : Int) w false (by simp [hok]))
          have E := hide (bool_noT HBB.out (fun h => hok (hdec2 (h.2 pos hp))))
          clear hr hwd hdec hdec2 hok
          go_wp2_with fail
          refine (C.out _).mono ?_
          rintro e w1 ⟨rfl, rfl⟩
          go_wp2
          go_ret
          exact ⟨by rw [E.out]; rfl, (Below.refl _ _).alloc (Nat.le_refl _) _⟩
      · have hnx : ∀ ty, (Instr.next (.pointer (some ⟨w.heap.size, 0, none⟩)) true ty).run Try.prog (w.iter s pos) = _ := fun ty => run_next_end w s pos ty hp
        have E := hide (HBB.out.2 ⟨by omega, fun k hk => HJ.out k (by omega)⟩)
        go_wp2
        go_ret
        exact ⟨by rw [E.out]; rfl, (Below.refl _ _).alloc (Nat.le_refl _) _⟩
set_option maxRecDepth 100000 in
set_option maxHeartbeats 1000000 in
theorem l5Letters_any (s : ByteArray) (w : World) (hs : s.size ≤ 9223372036854775807) (bb : Bool) (hbb : bb = true ↔ Let s) :
    Calls Try.prog 67 #[.string s] w fun e w' => e = .returned (.bool bb) ∧ w = w' := by
  have HBB := hide hbb
  clear hbb
  go_enter Try.func67, Try.ntmps67
  go_wp2
  go_loop [3] (fun i => ∃ k : Nat, k ≤ s.size ∧ i = .int .i64 k ∧ Hid (∀ j, j < k → okc ((bts s 0).getD j 0))) (fun i => s.size - (intOf i).toNat)
  case atStart => exact ⟨0, by omega, rfl, fun k hk => absurd hk (Nat.not_lt_zero _)⟩
  case round =>
    obtain ⟨k, hk, rfl, HJ⟩ := hrel
    by_cases hlt : k < s.size
    · have hltI : (k : Int) < (s.size : Int) := by omega
      have hb := (bts_at s k hlt).symm
      obtain ⟨c, hc⟩ : ∃ c, c = (bts s 0).getD k 0 := ⟨_, rfl⟩
      rw [← hc] at hb
      have HC := hide hc.symm
      clear hc
      by_cases h1 : c < 97
      · have E := hide (bool_noT HBB.out (fun h => by have := h k hlt; rw [HC.out] at this; unfold okc at this; omega))
        go_wp2
        go_ret
        exact ⟨by rw [E.out]; rfl, rfl⟩
      by_cases h2 : 122 < c
      · have E := hide (bool_noT HBB.out (fun h => by have := h k hlt; rw [HC.out] at this; unfold okc at this; omega))
        go_wp2
        go_ret
        exact ⟨by rw [E.out]; rfl, rfl⟩
      have HOK := hide (show okc c from ⟨by omega, by omega⟩)
      go_wp2
      go_round
      case rel =>
        refine ⟨k + 1, by omega, by go_num, ?_⟩
        intro j hj
        by_cases e : j = k
        · subst e; rw [HC.out]; exact HOK.out
        · exact HJ.out j (by omega)
      case measure => simp [intOf]; omega
    · have hltI : ¬ (k : Int) < (s.size : Int) := by omega
      have E := hide (HBB.out.2 (fun j hj => HJ.out j (by omega)))
      go_wp2
      go_ret
      exact ⟨by rw [E.out]; rfl, rfl⟩
set_option maxRecDepth 100000 in
set_option maxHeartbeats 400000 in
theorem isAhead_any (x at_ : Int) (w : World) (bb : Bool) (hbb : bb = true ↔ 0 ≤ x ∧ x < at_) :
    Calls Try.prog 74 #[.int .i64 x, .int .i64 at_] w fun e w' => e = .returned (.bool bb) ∧ w = w' := by
  by_cases h1 : 0 ≤ x
  · by_cases h2 : x < at_
    · obtain rfl : bb = true := hbb.2 ⟨h1, h2⟩
      clear hbb
      go_enter Try.func74, Try.ntmps74
      go_wp2
      go_ret
      exact ⟨rfl, rfl⟩
    · obtain rfl : bb = false := bool_noT hbb (fun h => h2 h.2)
      clear hbb
      go_enter Try.func74, Try.ntmps74
      go_wp2
      go_ret
      exact ⟨rfl, rfl⟩
  · obtain rfl : bb = false := bool_noT hbb (fun h => h1 h.1)
    clear hbb
    go_enter Try.func74, Try.ntmps74
    go_wp2
    go_ret
    exact ⟨rfl, rfl⟩
set_option maxRecDepth 100000 in
set_option maxHeartbeats 400000 in
theorem l5Two_any (k : Int) (w : World) (bb : Bool) (hbb : bb = true ↔ k = 5 ∨ k = 6) :
    Calls Try.prog 55 #[.int .i64 k] w fun e w' => e = .returned (.bool bb) ∧ w = w' := by
  by_cases h5 : k = 5
  · obtain rfl : bb = true := hbb.2 (.inl h5)
    subst h5
    clear hbb
    go_enter Try.func55, Try.ntmps55
    go_wp2
    go_ret
    exact ⟨rfl, rfl⟩
  · have e5 : (k == 5) = false := by simpa using h5
    have E : Hid ((k == 6) = bb) := by
      refine hide ?_
      by_cases h6 : k = 6
      · rw [hbb.2 (.inr h6)]; simpa using h6
      · rw [bool_noT hbb (fun h => by omega)]; simpa using h6
    clear hbb
    go_enter Try.func55, Try.ntmps55
    go_wp2
    go_ret
    exact ⟨ret_bool E.out, rfl⟩
set_option maxRecDepth 100000 in
set_option maxHeartbeats 400000 in
theorem l5One_any (k : Int) (w : World) (bb : Bool) (hbb : bb = true ↔ k = 7 ∨ k = 8) :
    Calls Try.prog 56 #[.int .i64 k] w fun e w' => e = .returned (.bool bb) ∧ w = w' := by
  by_cases h5 : k = 7
  · obtain rfl : bb = true := hbb.2 (.inl h5)
    subst h5
    clear hbb
    go_enter Try.func56, Try.ntmps56
    go_wp2
    go_ret
    exact ⟨rfl, rfl⟩
  · have e5 : (k == 7) = false := by simpa using h5
    have E : Hid ((k == 8) = bb) := by
      refine hide ?_
      by_cases h6 : k = 8
      · rw [hbb.2 (.inr h6)]; simpa using h6
      · rw [bool_noT hbb (fun h => by omega)]; simpa using h6
    clear hbb
    go_enter Try.func56, Try.ntmps56
    go_wp2
    go_ret
    exact ⟨ret_bool E.out, rfl⟩
end Go.Proofs.Ytkdiffpbljohkay.L5
