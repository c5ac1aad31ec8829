/-
  Contracts: impl.LeftOf, spec.LeftOf: what is left of a good form by a letter, where it is no greater than a form may be.
-/
import Derived.Test.YtkdiffpbljohkayL5Left
import Derived.Test.YtkdiffpbljohkayL5SpecLeft
import Derived.Test.YtkdiffpbljohkayL5Flat
import Derived.Test.YtkdiffpbljohkayL5SpecFlat
import Derived.Test.YtkdiffpbljohkayL5ShapeOf
import Derived.Test.YtkdiffpbljohkayL5NotForm
namespace Go.Proofs.Ytkdiffpbljohkay.L5
open Go.RowKit L1 L4
set_option linter.unusedVariables false

open Classical in
noncomputable def leftRes (l : List Pr) (c : Int) : Option (List Pr) := if GoodF l ∧ okc c ∧ (flat (left (whole l) c) []).length ≤ 24 then some (flat (left (whole l) c) []) else none
theorem leftRes_len (l : List Pr) (c : Int) : ((leftRes l c).getD []).length ≤ 24 := by
  unfold leftRes
  split
  · rename_i h; exact h.2.2
  · simp
theorem left_bound {l : List Pr} (hg : GoodF l) (c : Int) : sz (left (whole l) c) ≤ 1000 := by
  have h1 := whole_size hg
  have h2 := hg.1
  have h3 := sz_left (whole l) c 24 (by omega)
  omega
theorem retP_of {w w1 w' : World} {v : Value} {l : List Pr} (hb : Below w.heap.size w w1) (ho : OwP w' w.heap.size v l) (hg : w1.grownBy w' none) : RetP w (some l) (.returned (.tuple #[v, .bool true])) w' :=
  ⟨v, rfl, ho, hb.grown hg hb.size (fun k hk => by cases hk)⟩
set_option maxRecDepth 100000 in
set_option maxHeartbeats 4000000 in
theorem implLeftOf_any (a : Option Addr) (l : List Pr) (n cap : Nat) (c : Int) (hc : 0 ≤ c ∧ c ≤ 255) (w : World) (hn : l.length = n) (hs : SlP w a l) (hn2 : n ≤ 1048576) (hst : TxP l) (r : Option (List Pr)) (hr : r = leftRes l c) :
    Calls Try.prog 12 #[.slice a n cap, .int .u8 c] w fun e w' => RetP w r e w' := by
  obtain ⟨hc0, hc1⟩ := hc
  by_cases hg : GoodF l
  · have C1 := hide (goodForm_any a l n cap w hn hs hn2 hst true (iff_of_true rfl hg))
    by_cases hl : okc c
    · have C2 := hide (fun w => isLetter_any c w true (iff_of_true rfl hl))
      have C3 := hide (fun w hs => shapeOf_any a l n cap w hn hs hg)
      have hok := okS_left (whole l) c (okS_whole hg)
      have hbd := left_bound hg c
      have hlen := flat_len (left (whole l) c) []
      simp only [List.length_nil, Nat.zero_add] at hlen
      have hr' : r = if (flat (left (whole l) c) []).length ≤ 24 then some (flat (left (whole l) c) []) else none := by
        rw [hr]; unfold leftRes
        by_cases h : (flat (left (whole l) c) []).length ≤ 24
        · rw [if_pos ⟨hg, hl, h⟩, if_pos h]
        · rw [if_neg (fun x => h x.2.2), if_neg h]
      have C4 := hide (fun w => leftOf_any c (whole l) w)
      obtain ⟨X, hX⟩ : ∃ X, X = left (whole l) c := ⟨_, rfl⟩
      simp only [← hX] at hok hbd hlen hr' C4
      have C5 := hide (fun base w hb => partsOf_any X hok base (.slice none 0 0) [] w (World.ownsRow_nil _ _ _ _) hb (by simp; omega))
      obtain ⟨L, hL⟩ : ∃ L, L = flat X [] := ⟨_, rfl⟩
      simp only [← hL] at hlen hr' C5
      have HR := hide hr'
      have HS := hide hs
      have hL2 : (L.length : Int) ≤ 1000 := by omega
      clear hr hr' hn hs hst hg hl hok hX hL hbd hlen
      go_enter Try.func12, Try.ntmps12
      go_wp2_with fail
      refine C1.out.mono ?_
      rintro e w1 ⟨rfl, hb1⟩
      have B1 := hide hb1
      clear hb1
      go_wp2_with fail
      refine (C2.out _).mono ?_
      rintro e w1 ⟨rfl, rfl⟩
      go_wp2_with fail
      refine (C3.out _ (HS.out.below B1.out)).mono ?_
      rintro e w2 ⟨rfl, hb2⟩
      have B2 := hide (B1.out.trans (hb2.mono B1.out.size))
      clear hb2
      go_wp2_with fail
      refine (C4.out _).mono ?_
      rintro e w3 ⟨rfl, hb3⟩
      have B3 := hide (B2.out.trans (hb3.mono B2.out.size))
      clear hb3
      go_wp2_with fail
      refine (C5.out w.heap.size _ B3.out.size).mono ?_
      rintro e w4 ⟨v4, rfl, o4, g4, k4⟩
      have R4 := hide (retP_of B3.out o4 g4)
      have B4 := hide (B3.out.grown g4 B3.out.size (fun k hk => by cases hk))
      obtain ⟨x4, c4, rfl⟩ := own_shapeT o4
      clear o4 g4 k4
      by_cases h24 : (L.length : Int) ≤ 24
      · have HR2 : Hid (r = some L) := hide (by rw [HR.out, if_pos (by omega)])
        go_wp2
        go_ret2
        rw [HR2.out]
        exact R4.out
      · have HR2 : Hid (r = none) := hide (by rw [HR.out, if_neg (by omega)])
        go_wp2
        go_ret2
        rw [HR2.out]
        exact retP_none B4.out
    · have C2 := hide (fun w => isLetter_any c w false (iff_of_false (by simp) hl))
      have hr' : r = none := by rw [hr]; unfold leftRes; rw [if_neg (fun h => hl h.2.1)]
      subst hr'
      clear hr hn hs hst hg hl
      go_enter Try.func12, Try.ntmps12
      go_wp2_with fail
      refine C1.out.mono ?_
      rintro e w1 ⟨rfl, hb1⟩
      go_wp2_with fail
      refine (C2.out _).mono ?_
      rintro e w1 ⟨rfl, rfl⟩
      go_wp2
      go_ret2
      exact retP_none hb1
  · have C1 := hide (goodForm_any a l n cap w hn hs hn2 hst false (iff_of_false (by simp) hg))
    have hr' : r = none := by rw [hr]; unfold leftRes; rw [if_neg (fun h => hg h.1)]
    subst hr'
    clear hr hn hs hst hg
    go_enter Try.func12, Try.ntmps12
    go_wp2_with fail
    refine C1.out.mono ?_
    rintro e w1 ⟨rfl, hb1⟩
    go_wp2
    go_ret2
    exact retP_none hb1
set_option maxRecDepth 100000 in
set_option maxHeartbeats 4000000 in
theorem specLeftOf_any (a : Option Addr) (l : List Pr) (n cap : Nat) (c : Int) (hc : 0 ≤ c ∧ c ≤ 255) (w : World) (hn : l.length = n) (hs : SlP w a l) (hn2 : n ≤ 1048576) (hst : TxP l) (r : Option (List Pr)) (hr : r = leftRes l c) :
    Calls Try.prog 10 #[.slice a n cap, .int .u8 c] w fun e w' => RetP w r e w' := by
  obtain ⟨hc0, hc1⟩ := hc
  by_cases hg : GoodF l
  · have C1 := hide (specGoodForm_any a l n cap w hn hs hn2 hst true (iff_of_true rfl hg))
    by_cases hl1 : c < 97
    · have hr' : r = none := by rw [hr]; unfold leftRes; rw [if_neg (fun h => by have := h.2.1.1; omega)]
      subst hr'
      clear hr hn hs hst hg
      go_enter Try.func10, Try.ntmps10
      go_wp2_with fail
      refine C1.out.mono ?_
      rintro e w1 ⟨rfl, hb1⟩
      go_wp2
      go_ret2
      exact retP_none hb1
    by_cases hl2 : 122 < c
    · have hr' : r = none := by rw [hr]; unfold leftRes; rw [if_neg (fun h => by have := h.2.1.2; omega)]
      subst hr'
      clear hr hn hs hst hg
      go_enter Try.func10, Try.ntmps10
      go_wp2_with fail
      refine C1.out.mono ?_
      rintro e w1 ⟨rfl, hb1⟩
      go_wp2
      go_ret2
      exact retP_none hb1
    have hl : okc c := ⟨by omega, by omega⟩
    have C3 := hide (fun w hs => l5Tree_whole a l n cap w hn hg hs)
    have hok0 := okS_whole hg
    have hok := okS_left (whole l) c (okS_whole hg)
    have hbd := left_bound hg c
    have hlen := flat_len (left (whole l) c) []
    simp only [List.length_nil, Nat.zero_add] at hlen
    have hr' : r = if (flat (left (whole l) c) []).length ≤ 24 then some (flat (left (whole l) c) []) else none := by
      rw [hr]; unfold leftRes
      by_cases h : (flat (left (whole l) c) []).length ≤ 24
      · rw [if_pos ⟨hg, hl, h⟩, if_pos h]
      · rw [if_neg (fun x => h x.2.2), if_neg h]
    have C4 := hide (fun p w t => l5Left_any c (whole l) p w hok0 t)
    obtain ⟨X, hX⟩ : ∃ X, X = left (whole l) c := ⟨_, rfl⟩
    simp only [← hX] at hok hbd hlen hr' C4
    have C5 := hide (fun p base w t hb => l5Flat_any X Any p base (.slice none 0 0) [] w t (fun g _ e => by cases e) (World.ownsRow_nil _ _ _ _) hb (by simp; omega))
    obtain ⟨L, hL⟩ : ∃ L, L = flat X [] := ⟨_, rfl⟩
    simp only [← hL] at hlen hr' C5
    have HR := hide hr'
    have HS := hide hs
    have hL2 : (L.length : Int) ≤ 1000 := by omega
    have hnI : (1 : Int) ≤ (n : Int) := by have := hg.1; omega
    clear hr hr' hn hs hst hg hl hok hok0 hX hL hbd hlen
    go_enter Try.func10, Try.ntmps10
    go_wp2_with fail
    refine C1.out.mono ?_
    rintro e w1 ⟨rfl, hb1⟩
    have B1 := hide hb1
    clear hb1
    go_wp2_with fail
    refine (C3.out _ (HS.out.below B1.out)).mono ?_
    rintro e w2 ⟨p2, rfl, t2, hb2⟩
    have B2 := hide (B1.out.trans (hb2.mono B1.out.size))
    have T2 := hide t2.any
    clear hb2 t2
    go_wp2_with fail
    refine (C4.out _ _ T2.out).mono ?_
    rintro e w3 ⟨p3, rfl, t3, hb3⟩
    have B3 := hide (B2.out.trans (hb3.mono B2.out.size))
    have T3 := hide t3
    clear hb3 t3
    go_wp2_with fail
    refine (C5.out _ w.heap.size _ T3.out B3.out.size).mono ?_
    rintro e w4 ⟨v4, rfl, o4, g4, k4⟩
    have R4 := hide (retP_of B3.out o4 g4)
    have B4 := hide (B3.out.grown g4 B3.out.size (fun k hk => by cases hk))
    obtain ⟨x4, c4, rfl⟩ := own_shapeT o4
    clear o4 g4 k4
    by_cases h24 : (L.length : Int) ≤ 24
    · have HR2 : Hid (r = some L) := hide (by rw [HR.out, if_pos (by omega)])
      go_wp2
      go_ret2
      rw [HR2.out]
      exact R4.out
    · have HR2 : Hid (r = none) := hide (by rw [HR.out, if_neg (by omega)])
      go_wp2
      go_ret2
      rw [HR2.out]
      exact retP_none B4.out
  · have C1 := hide (specGoodForm_any a l n cap w hn hs hn2 hst false (iff_of_false (by simp) hg))
    have hr' : r = none := by rw [hr]; unfold leftRes; rw [if_neg (fun h => hg h.1)]
    subst hr'
    clear hr hn hs hst hg
    go_enter Try.func10, Try.ntmps10
    go_wp2_with fail
    refine C1.out.mono ?_
    rintro e w1 ⟨rfl, hb1⟩
    go_wp2
    go_ret2
    exact retP_none hb1
end Go.Proofs.Ytkdiffpbljohkay.L5
