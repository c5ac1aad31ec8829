/-
  Contract: a rising set's chosen, those that the other has too, in new memory.
-/
import Derived.Test.YtapffbbmofhpobdL4SlC
import Derived.Test.YtapffbbmofhpobdL4Leap
namespace Go.Proofs.Ytapffbbmofhpobd.L4
open Go.RowKit L1
set_option linter.unusedVariables false

set_option maxRecDepth 100000 in
set_option maxHeartbeats 4000000 in
theorem chosen_true (a : Option Addr) (xs : List Int) (n cap : Nat) (b : Option Addr) (ys : List Int) (n2 cap2 : Nat) (w : World) (hn : xs.length = n) (hs : Sl w a xs) (hn2 : n ≤ 1048576) (hm : ys.length = n2) (ht : SlC w b n2 cap2 ys) (hm2 : n2 ≤ 1048576) (hrx : Rise xs) (hry : Rise ys) :
    Calls Try.prog 51 #[.slice a n cap, .slice b n2 cap2, .bool true] w fun e w' => RetN w (those ys true xs) e w' := by
  obtain ⟨i1, hi1, hy0, hy1, hy2⟩ := info_parts info_int
  have HS := hide hs
  have HN := hide hn
  have HT := hide ht
  have HM2 := hide hm
  have HL := hide (fun f x w r ht hf hr => leap_any b ys n2 cap2 f x w hm (SlC.sl ht) hm2 hf (SlC.le ht) (SlC.max ht) (SlC.nil ht) hry r hr)
  have HH := hide (fun k x w bb (ht : SlC w b n2 cap2 ys) hb => hasAt_any b ys n2 cap2 k x w hm (SlC.sl ht) bb hb)
  have HRX := hide hrx
  have HRY := hide hry
  clear hs hn ht hm hrx hry
  go_enter Try.func51, Try.ntmps51
  go_wp2
  go_loopw [7, 8, 13] (fun ot s8 i wr => ∃ k : Nat, k ≤ n ∧ i = .int .i64 k ∧ wr.ownsRow w.heap.size 3 1 ot (those ys true (xs.take k)).length ((those ys true (xs.take k)).map (Value.int .i64)) ∧ Below w.heap.size w wr ∧ ∃ f : Nat, f ≤ n2 ∧ s8 = .int .i64 f ∧ Hid (∀ j, j < f → ∀ i, k ≤ i → i < n → ys.getD j 0 < xs.getD i 0)) (fun _ _ i _ => n - (intOf i).toNat)
  case atStart => exact ⟨0, Nat.zero_le _, rfl, World.ownsRow_nil _ _ _ _, Below.refl _ _, 0, Nat.zero_le _, rfl, fun j hj => absurd hj (Nat.not_lt_zero _)⟩
  case round =>
    obtain ⟨k, hk, rfl, hown, hbel, f, hf, rfl, HJ⟩ := hrel
    obtain ⟨oa, ocap, rfl, _, _⟩ := own_form hown
    by_cases hlt : k < n
    · obtain ⟨b1, off, rfl, hc0⟩ := HS.out k (by rw [HN.out]; exact hlt)
      have hc := (hbel.cell (p := ⟨b1, off + k, none⟩) (blk_lt hc0)).trans hc0
      have hltI : (k : Int) < (n : Int) := by omega
      have htk := those_snoc xs ys true k (by rw [HN.out]; exact hlt)
      obtain ⟨x, hx⟩ : ∃ x, x = xs.getD k 0 := ⟨_, rfl⟩
      rw [← hx] at hc htk
      have hml : (those ys true (xs.take k)).length ≤ 1048576 := by
        have h1 := those_len (xs.take k) ys true
        have h2 : (xs.take k).length ≤ k := by simp; omega
        omega
      obtain ⟨m, hmm⟩ : ∃ m, m = (those ys true (xs.take k)).length := ⟨_, rfl⟩
      rw [← hmm] at hown hml ⊢
      have HM := hide hmm
      have HX := hide hx.symm
      have HT1 := hide (HT.out.below hbel)
      have HROW0 := hide hown
      have B0 := hide hbel
      have hsz0 := hbel.size
      clear hc0 hx hmm hown hbel
      obtain ⟨u, hu⟩ : ∃ u, leap ys f x = u := ⟨_, rfl⟩
      have hmu := leap_mem (x := x) HRY.out (by rw [HM2.out]; exact hf) (fun j hj => by have := HJ.out j hj k (Nat.le_refl _) hlt; rw [HX.out] at this; exact this)
      rw [hu] at hmu
      have hun : u ≤ n2 := by have := leap_le ys f x (by rw [HM2.out]; exact hf); rw [hu, HM2.out] at this; exact this
      have HU : Hid (∀ j, j < u → ∀ i, k + 1 ≤ i → i < n → ys.getD j 0 < xs.getD i 0) := by
        intro j hj i h1 h2
        have q := rise_get HRX.out (show k < i by omega) (by rw [HN.out]; exact h2)
        rw [HX.out] at q
        by_cases hjf : j < f
        · exact HJ.out j hjf i (by omega) h2
        · have := leap_lt ys f x j (by omega) (by rw [hu]; exact hj)
          omega
      have HUL := hide hu
      clear hu
      by_cases hmem : x ∈ ys
      · have htk2 : those ys true (xs.take (k + 1)) = those ys true (xs.take k) ++ [x] := by rw [htk, if_pos (by simp [hmem])]
        have HTK := hide htk2
        have hbb : true = true ↔ u < ys.length ∧ ys.getD u 0 = x := by rw [← hmu]; simp [hmem]
        have HYY := hide hbb
        clear hmu hbb
        clear htk htk2 hmem
        go_wp2_with fail
        refine (HL.out f x _ u HT1.out hf HUL.out).mono ?_
        rintro e w1 ⟨rfl, hb1⟩
        have HT2 := hide (HT1.out.below hb1)
        have HROW := hide (own_belowT HROW0.out hb1)
        have B2 := hide (B0.out.trans (hb1.mono B0.out.size))
        have hsz := Nat.le_trans hsz0 hb1.size
        clear hb1
        go_wp2_with fail
        refine (HH.out u x _ true HT2.out (by simpa using HYY.out)).mono ?_
        rintro e w2 ⟨rfl, rfl⟩
        go_wp2_with (first
          | (at_builtin; refine wpList_append_own _ rfl _ _ 55 rfl w.heap.size 3 i1 (.int .i64 0) 1 8 Try.underlying55 hi1 hy0 hy1 hy2 rfl (by decide) _ _ _ rfl (HROW.out.alloc _) ⟨w1.heap.size, 0, none⟩ 1 1 [.int .i64 x] rfl rfl (cell_one_new _ _ _) (by intro u hu; simp at hu; subst hu; rfl) (by unfold maxLen; omega) (by omega) (by simp; omega) ?_)
          | go_in)
        intro v6 w6 hown6 hgrow6 _
        have hb6 := B2.out.trans (((Below.refl _ _).alloc hsz _).grown hgrow6 (by simp; omega) (fun g hg => (HROW.out.lt g hg).1))
        have hown8 : w6.ownsRow w.heap.size 3 1 v6 (those ys true (xs.take (k + 1))).length ((those ys true (xs.take (k + 1))).map (Value.int .i64)) := by
          rw [HTK.out, List.length_append, List.map_append, ← HM.out]; simpa using hown6
        have hown7 := hide hown8
        clear hown6 hgrow6 hown8
        go_wp2
        go_roundw
        case rel => exact ⟨k + 1, by omega, by go_num, hown7.out, hb6, u, hun, rfl, HU.out⟩
        case measure => simp [intOf]; omega
      · have htk2 : those ys true (xs.take (k + 1)) = those ys true (xs.take k) := by rw [htk, if_neg (by simp [hmem])]
        have HTK := hide htk2
        have hbb : false = true ↔ u < ys.length ∧ ys.getD u 0 = x := by rw [← hmu]; simp [hmem]
        have HYY := hide hbb
        clear hmu hbb
        clear htk htk2 hmem
        go_wp2_with fail
        refine (HL.out f x _ u HT1.out hf HUL.out).mono ?_
        rintro e w1 ⟨rfl, hb1⟩
        have HT2 := hide (HT1.out.below hb1)
        have HROW := hide (own_belowT HROW0.out hb1)
        have B2 := hide (B0.out.trans (hb1.mono B0.out.size))
        have hsz := Nat.le_trans hsz0 hb1.size
        clear hb1
        go_wp2_with fail
        refine (HH.out u x _ false HT2.out (by simpa using HYY.out)).mono ?_
        rintro e w2 ⟨rfl, rfl⟩
        have hown7 : Hid (w1.ownsRow w.heap.size 3 1 (.slice oa m ocap) (those ys true (xs.take (k + 1))).length ((those ys true (xs.take (k + 1))).map (Value.int .i64))) := by
          rw [HTK.out, ← HM.out]; exact HROW.out
        have hb6 := B2.out
        go_wp2
        go_roundw
        case rel => exact ⟨k + 1, by omega, by go_num, hown7.out, hb6, u, hun, rfl, HU.out⟩
        case measure => simp [intOf]; omega
    · obtain rfl : k = n := by omega
      have e1 : xs.take k = xs := List.take_of_length_le (by rw [HN.out]; exact Nat.le_refl _)
      rw [e1] at hown ⊢
      have HO := hide hown
      have hltI : ¬ (k : Int) < (k : Int) := by omega
      clear e1 hown
      go_wp2
      go_ret
      exact ⟨_, rfl, HO.out, hbel⟩

end Go.Proofs.Ytapffbbmofhpobd.L4
