/-
  Contract: spec.l5Fits: what is left of a tree by all letters of a text holds the empty text.
-/
import Derived.Test.YtkdiffpbljohkayL5SpecLeft
import Derived.Test.YtkdiffpbljohkayL5Str
namespace Go.Proofs.Ytkdiffpbljohkay.L5
open Go.RowKit L1 L4
set_option linter.unusedVariables false

theorem bts_lenF (s : ByteArray) : (bts s 0).length = s.size := by rw [bts_len]; omega
theorem okS_lefts : ∀ (s : List Int) (x : Sh), okS x → okS (lefts x s)
  | [], x, h => h
  | c :: s, x, h => okS_lefts s (left x c) (okS_left x c h)
theorem take_bts (s : ByteArray) (j : Nat) (h : j < s.size) : (bts s 0).take (j + 1) = (bts s 0).take j ++ [(bts s 0).getD j 0] := by
  have hl : j < (bts s 0).length := by rw [bts_lenF]; exact h
  rw [List.take_succ_eq_append_getElem hl]
  simp [List.getD, List.getElem?_eq_getElem hl]
set_option maxRecDepth 100000 in
set_option maxHeartbeats 2000000 in
theorem l5Fits_any (x : Sh) (s : ByteArray) (p : Option Addr) (w : World) (hok : okS x) (hs : s.size ≤ 1000) (t : Tr w Any p x) (bb : Bool) (hbb : bb = true ↔ Mt x (bts s 0)) :
    Calls Try.prog 47 #[.pointer p, .string s] w fun e w' => e = .returned (.bool bb) ∧ Below w.heap.size w w' := by
  have HT := hide t
  have HB : Hid (nul (lefts x (bts s 0)) = bb) := hide (by
    have h1 := lefts_iff (bts s 0) x
    cases h : nul (lefts x (bts s 0)) with
    | true => exact (hbb.2 (h1.1 h)).symm
    | false => exact (bool_noT hbb (fun hm => by rw [h1.2 hm] at h; cases h)).symm)
  have HOK := hide (fun q => okS_lefts q x hok)
  clear t hbb hok
  go_enter Try.func47, Try.ntmps47
  go_wp2
  go_loopw [0, 5] (fun v i wr => ∃ (k : Nat) (q : Option Addr), k ≤ s.size ∧ i = .int .i64 k ∧ v = .pointer q ∧ Hid (Tr wr Any q (lefts x ((bts s 0).take k))) ∧ Below w.heap.size w wr) (fun _ i _ => s.size - (intOf i).toNat)
  case atStart => exact ⟨0, p, by omega, rfl, rfl, by simpa [lefts] using HT, Below.refl _ _⟩
  case round =>
    obtain ⟨k, q, hk, rfl, rfl, HQ, hbel⟩ := hrel
    by_cases hlt : k < s.size
    · have hltI : (k : Int) < (s.size : Int) := by omega
      have htk := take_bts s k hlt
      have hE : lefts x ((bts s 0).take (k + 1)) = left (lefts x ((bts s 0).take k)) ((bts s 0).getD k 0) := by rw [htk, lefts_snoc]
      have C := hide (fun w t => l5Left_any ((bts s 0).getD k 0) (lefts x ((bts s 0).take k)) q w (HOK.out _) t)
      rw [← hE] at C
      have hcat := bts_at s k hlt
      obtain ⟨c, hc⟩ : ∃ c, c = (bts s 0).getD k 0 := ⟨_, rfl⟩
      rw [← hc] at C hcat
      have hc2 := hcat.symm
      have B := hide hbel
      clear hc htk hE hbel hcat
      go_wp2_with fail
      refine (C.out _ HQ.out).mono ?_
      rintro e w4 ⟨q4, rfl, t4, hb4⟩
      have T4 := hide t4
      have B4 := hide (B.out.trans (hb4.mono B.out.size))
      clear t4 hb4
      go_wp2
      go_roundw
      case rel => exact ⟨k + 1, q4, by omega, by go_num, rfl, T4, B4.out⟩
      case measure => simp [intOf]; omega
    · obtain rfl : k = s.size := by omega
      have hltI : ¬ (s.size : Int) < (s.size : Int) := by omega
      have e1 : (bts s 0).take s.size = bts s 0 := List.take_of_length_le (by rw [bts_lenF]; exact Nat.le_refl _)
      rw [e1] at HQ
      have C := hide (l5Empty_any Any _ q wr HQ.out)
      rw [HB.out] at C
      clear e1
      have B := hide hbel
      clear hbel
      go_wp2_with fail
      refine C.out.mono ?_
      rintro e w4 ⟨rfl, rfl⟩
      go_wp2
      go_ret
      exact ⟨rfl, B.out⟩
end Go.Proofs.Ytkdiffpbljohkay.L5
