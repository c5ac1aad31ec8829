/-
  Contracts: (*impl.formReader).readLetter, readFirst, read: a form is read off a text as the parser reads it.
-/
import Derived.Test.YtkdiffpbljohkayL5Two
namespace Go.Proofs.Ytkdiffpbljohkay.L5
open Go.RowKit L1 L4
set_option linter.unusedVariables false

attribute [local go_sem] mk_noText mk_emptyText mk_oneLetter mk_anyLetter mk_thenShape mk_eitherShape mk_manyShape mk_notShape as_noText_noText as_noText_emptyText as_noText_oneLetter as_noText_anyLetter as_noText_thenShape as_noText_eitherShape as_noText_manyShape as_noText_notShape as_emptyText_noText as_emptyText_emptyText as_emptyText_oneLetter as_emptyText_anyLetter as_emptyText_thenShape as_emptyText_eitherShape as_emptyText_manyShape as_emptyText_notShape as_oneLetter_noText as_oneLetter_emptyText as_oneLetter_oneLetter as_oneLetter_anyLetter as_oneLetter_thenShape as_oneLetter_eitherShape as_oneLetter_manyShape as_oneLetter_notShape as_anyLetter_noText as_anyLetter_emptyText as_anyLetter_oneLetter as_anyLetter_anyLetter as_anyLetter_thenShape as_anyLetter_eitherShape as_anyLetter_manyShape as_anyLetter_notShape as_thenShape_noText as_thenShape_emptyText as_thenShape_oneLetter as_thenShape_anyLetter as_thenShape_thenShape as_thenShape_eitherShape as_thenShape_manyShape as_thenShape_notShape as_eitherShape_noText as_eitherShape_emptyText as_eitherShape_oneLetter as_eitherShape_anyLetter as_eitherShape_thenShape as_eitherShape_eitherShape as_eitherShape_manyShape as_eitherShape_notShape as_manyShape_noText as_manyShape_emptyText as_manyShape_oneLetter as_manyShape_anyLetter as_manyShape_thenShape as_manyShape_eitherShape as_manyShape_manyShape as_manyShape_notShape as_notShape_noText as_notShape_emptyText as_notShape_oneLetter as_notShape_anyLetter as_notShape_thenShape as_notShape_eitherShape as_notShape_manyShape as_notShape_notShape
/-- What readFirst hands back. -/
def RfP (w : World) (g : Nat) (s : ByteArray) (o : Int) (r : Option Sh × Nat) (e : Ending) (w' : World) : Prop :=
  ∃ o', Mv w w' g s r.2 o' ∧ ((r.1 = none ∧ ∃ v, e = .returned (.tuple #[v, .bool false])) ∨ ∃ x, r.1 = some x ∧ o' = o ∧ e = .returned (.tuple #[sv x, .bool true]))
theorem rfp_no {w w' : World} {g k : Nat} {s : ByteArray} {o o' : Int} {v : Value} (h : Mv w w' g s k o') : RfP w g s o (none, k) (.returned (.tuple #[v, .bool false])) w' := ⟨o', h, .inl ⟨rfl, _, rfl⟩⟩
theorem rfp_yes {w w' : World} {g k : Nat} {s : ByteArray} {o : Int} {x : Sh} {v : Value} (h : Mv w w' g s k o) (hv : v = sv x) : RfP w g s o (some x, k) (.returned (.tuple #[v, .bool true])) w' := ⟨o, h, .inr ⟨x, rfl, rfl, by rw [hv]⟩⟩
theorem wrap32 {c : Int} (h0 : 0 ≤ c) (h1 : c < 256) : IntKind.i32.wrap c = c := by
  simp only [IntKind.wrap, IntKind.bits, IntKind.signed]
  simp
  omega
theorem Mv.drewN {w w' : World} {g k : Nat} {s : ByteArray} {o : Int} (h : Mv w w' g s k o) : ∀ q, Mv w (w'.drewN q) g s k o
  | 0 => h
  | q + 1 => (h.drewN q).below (Below.refl _ _).drew
theorem isLetterB (r : Int) (w : World) (bb : Bool) (hb : bb = true ↔ okc r) : Calls Try.prog 36 #[.int .i32 r] w fun e w' => e = .returned (.bool bb) ∧ Below w.heap.size w w' :=
  (isLetter_any r w bb hb).mono fun e w' h => ⟨h.1, h.2 ▸ Below.refl _ _⟩
def ltrOf (s : ByteArray) (k : Nat) : Option Sh × Nat := if 97 ≤ byt s k ∧ byt s k ≤ 122 then (some (.letter (byt s k)), k + 1) else (none, k)
set_option maxRecDepth 100000 in
set_option maxHeartbeats 4000000 in
theorem readLetter_any (s : ByteArray) (k g : Nat) (o : Int) (w : World) (h : RB w g s k o) (hk : k ≤ s.size) (hs : s.size ≤ 120) :
    Calls Try.prog 82 #[.pointer (some ⟨g, 0, none⟩)] w fun e w' => RfP w g s o (ltrOf s k) e w' := by
  have c0 := h.s
  have c1 := h.k
  have H := hide (Mv.refl h)
  unfold ltrOf
  by_cases hlt : k < s.size
  · have hb : byt s k = ((s[k]'hlt).toNat : Int) := bts_at s k hlt
    have hby := byt_byte s k
    have hne : ¬ (k : Int) = (s.size : Int) := by omega
    have hneb : ((k : Int) == (s.size : Int)) = false := by simpa using hne
    have hltI : (k : Int) < (s.size : Int) := by omega
    obtain ⟨c, hc⟩ : ∃ c, c = byt s k := ⟨_, rfl⟩
    rw [← hc] at hb hby ⊢
    obtain ⟨hby0, hby1⟩ := hby
    have hb2 := hb.symm
    clear hc hb h
    by_cases hl : 97 ≤ c ∧ c ≤ 122
    · rw [if_pos hl]
      have C := hide (fun w => isLetterB (IntKind.i32.wrap c) w true (iff_of_true rfl (by rw [wrap32 hby0 hby1]; exact hl)))
      clear hl
      go_enter Try.func82, Try.ntmps82
      go_wp2
      go_region_held3 (fun wx => (wx.cell? ⟨g, 0, none⟩ = some (.string s) ∧ wx.cell? ⟨g, 1, none⟩ = some (.int .i64 (k : Int))) ∧ Below w.heap.size w wx) (first | exact ⟨⟨c0, c1⟩, (Below.refl _ _).drew⟩ | exact keepR (by assumption) (by assumption) (Nat.le_refl _)) ((go_at_call 36; refine (C.out _).mono ?_; rintro e w1 ⟨rfl, hb⟩))
      rename_i hHeld
      have H2 := hide (H.out.below hHeld.2)
      clear hHeld c0 c1
      have c1 := H2.out.rb.k
      have f1 := H2.out.rb.frozen 1
      have H3 := hide (H2.out.setK (k + 1))
      have ek : ((k + 1 : Nat) : Int) = (k : Int) + 1 := by omega
      have d0 := H3.out.rb.s
      have d1 := H3.out.rb.k
      rw [ek] at H3 d0 d1
      have e1 : (k : Int) + 1 - 1 = (k : Int) := by omega
      clear ek
      go_wp2
      go_quiet (fail)
      go_wp2
      go_ret2
      exact rfp_yes (H3.out.drewN _) rfl
    · rw [if_neg hl]
      have C := hide (fun w => isLetterB (IntKind.i32.wrap c) w false (iff_of_false (by simp) (by rw [wrap32 hby0 hby1]; exact hl)))
      clear hl
      go_enter Try.func82, Try.ntmps82
      go_wp2
      go_region_held3 (fun wx => (wx.cell? ⟨g, 0, none⟩ = some (.string s) ∧ wx.cell? ⟨g, 1, none⟩ = some (.int .i64 (k : Int))) ∧ Below w.heap.size w wx) (first | exact ⟨⟨c0, c1⟩, (Below.refl _ _).drew⟩ | exact keepR (by assumption) (by assumption) (Nat.le_refl _)) ((go_at_call 36; refine (C.out _).mono ?_; rintro e w1 ⟨rfl, hb⟩))
      rename_i hHeld
      have H2 := hide (H.out.below hHeld.2)
      clear hHeld c0 c1
      go_wp2
      go_ret2
      exact rfp_no H2.out
  · have h0 : byt s k = 0 := byt_end (by omega)
    rw [h0, if_neg (by omega)]
    obtain rfl : k = s.size := by omega
    clear h0 hlt h
    go_enter Try.func82, Try.ntmps82
    go_wp2
    go_quiet (fail)
    go_wp2
    go_ret2
    exact rfp_no (H.out.drewN _)
end Go.Proofs.Ytkdiffpbljohkay.L5
