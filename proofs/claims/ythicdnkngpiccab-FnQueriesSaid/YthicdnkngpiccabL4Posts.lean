/-
  Contracts: MeetPosts, LessPosts, JoinPosts and LeapFrom, the program's and the model's.
-/
import Derived.Test.YthicdnkngpiccabL4Good
import Derived.Test.YthicdnkngpiccabL4Sets
namespace Go.Proofs.Ythicdnkngpiccab.L4
open Go.RowKit L1
set_option linter.unusedVariables false

open Classical in
noncomputable def meetRes (s : Bool) (a b : List Int) : Option (List Int) := if GoodP a ∧ GoodP b then some (those b s a) else none
open Classical in
noncomputable def joinRes (a b : List Int) : Option (List Int) := if (GoodP a ∧ GoodP b) ∧ (joinL a b).length ≤ 60 then some (joinL a b) else none
open Classical in
noncomputable def leapRes (l : List Int) (f n : Int) : Option Nat := if GoodP l ∧ 0 ≤ f ∧ f ≤ (l.length : Int) then some (leap l f.toNat n) else none
theorem meetRes_len (s : Bool) (a b : List Int) : ((meetRes s a b).getD []).length ≤ 60 := by
  unfold meetRes
  split
  · rename_i h
    have h1 := h.1.1
    have h2 := those_len a b s
    simp only [Option.getD_some]
    omega
  · simp
theorem joinRes_len (a b : List Int) : ((joinRes a b).getD []).length ≤ 60 := by
  unfold joinRes
  split
  · rename_i h
    exact h.2
  · simp
/-- Nothing, and false. -/
theorem ret_none {w w' : World} (hb : Below w.heap.size w w') : RetL w none (.returned (.tuple #[.slice none 0 0, .bool false])) w' := ⟨_, rfl, World.ownsRow_nil _ _ _ _, hb⟩

set_option maxRecDepth 100000 in
set_option maxHeartbeats 1000000 in
theorem l4Both_any (a : Option Addr) (xs : List Int) (n cap : Nat) (b : Option Addr) (ys : List Int) (n2 cap2 : Nat) (w : World) (hn : xs.length = n) (hs : Sl w a xs) (hn2 : n ≤ 1048576) (hm : ys.length = n2) (ht : Sl w b ys) (hm2 : n2 ≤ 1048576) (bb : Bool) (hbb : bb = true ↔ GoodP xs ∧ GoodP ys) :
    Calls Try.prog 32 #[.slice a n cap, .slice b n2 cap2] w fun e w' => e = .returned (.bool bb) ∧ w = w' := by
  by_cases h1 : GoodP xs
  · have C1 := hide (specGoodPosts_any a xs n cap w hn hs hn2 true (by simp [h1]))
    have C2 := hide (specGoodPosts_any b ys n2 cap2 w hm ht hm2 bb (by rw [hbb]; simp [h1]))
    clear hbb hs ht hn hm h1
    go_enter Try.func32, Try.ntmps32
    go_wp2_with fail
    refine C1.out.mono ?_
    rintro e w1 ⟨rfl, rfl⟩
    go_wp2_with fail
    refine C2.out.mono ?_
    rintro e w2 ⟨rfl, rfl⟩
    go_wp2
    go_ret
    exact ⟨rfl, rfl⟩
  · have C1 := hide (specGoodPosts_any a xs n cap w hn hs hn2 false (by simp [h1]))
    have hb : bb = false := bool_noT hbb (fun h => h1 h.1)
    subst hb
    clear hbb hs ht hn hm h1
    go_enter Try.func32, Try.ntmps32
    go_wp2_with fail
    refine C1.out.mono ?_
    rintro e w1 ⟨rfl, rfl⟩
    go_wp2
    go_ret
    exact ⟨rfl, rfl⟩

set_option maxRecDepth 100000 in
set_option maxHeartbeats 2000000 in
theorem implMeetPosts_any (a : Option Addr) (xs : List Int) (n cap : Nat) (b : Option Addr) (ys : List Int) (n2 cap2 : Nat) (w : World) (hn : xs.length = n) (hs : SlC w a n cap xs) (hn2 : n ≤ 1048576) (hm : ys.length = n2) (ht : SlC w b n2 cap2 ys) (hm2 : n2 ≤ 1048576) (r : Option (List Int)) (hr : r = meetRes true xs ys) :
    Calls Try.prog 6 #[.slice a n cap, .slice b n2 cap2] w fun e w' => RetL w r e w' := by
  by_cases h1 : GoodP xs
  · have C1 := hide (goodPosts_any a xs n cap w hn hs.sl hn2 true (by simp [h1]))
    by_cases h2 : GoodP ys
    · have C2 := hide (goodPosts_any b ys n2 cap2 w hm ht.sl hm2 true (by simp [h2]))
      have C3 := hide (meet_any a xs n cap b ys n2 cap2 w hn hs hn2 hm ht hm2 (good_rise h1) (good_rise h2))
      have hl1 := h1.1
      have hl2 := h2.1
      have hr' : r = some (those ys true xs) := by rw [hr]; unfold meetRes; rw [if_pos ⟨h1, h2⟩]
      have HR := hide hr'
      clear hn hs hm ht h1 h2 hr hr'
      go_enter Try.func6, Try.ntmps6
      go_wp2_with fail
      refine C1.out.mono ?_
      rintro e w1 ⟨rfl, rfl⟩
      go_wp2_with fail
      refine C2.out.mono ?_
      rintro e w2 ⟨rfl, rfl⟩
      go_wp2_with fail
      refine C3.out.mono ?_
      rintro e w3 ⟨v, rfl, ho, hb⟩
      have HO := hide ho
      have HB := hide hb
      obtain ⟨a5, c5, rfl⟩ := own_shapeT ho
      clear ho hb
      go_wp2
      go_ret2
      exact ⟨_, by rw [HR.out]; rfl, by rw [HR.out]; exact HO.out, HB.out⟩
    · have C2 := hide (goodPosts_any b ys n2 cap2 w hm ht.sl hm2 false (by simp [h2]))
      have hr' : r = none := by rw [hr]; unfold meetRes; rw [if_neg]; simp [h2]
      subst hr'
      clear hn hs hm ht h1 h2 hr
      go_enter Try.func6, Try.ntmps6
      go_wp2_with fail
      refine C1.out.mono ?_
      rintro e w1 ⟨rfl, rfl⟩
      go_wp2_with fail
      refine C2.out.mono ?_
      rintro e w2 ⟨rfl, rfl⟩
      go_wp2
      go_ret2
      exact ret_none (Below.refl _ _)
  · have C1 := hide (goodPosts_any a xs n cap w hn hs.sl hn2 false (by simp [h1]))
    have hr' : r = none := by rw [hr]; unfold meetRes; rw [if_neg]; simp [h1]
    subst hr'
    clear hn hs hm ht h1 hr
    go_enter Try.func6, Try.ntmps6
    go_wp2_with fail
    refine C1.out.mono ?_
    rintro e w1 ⟨rfl, rfl⟩
    go_wp2
    go_ret2
    exact ret_none (Below.refl _ _)

set_option maxRecDepth 100000 in
set_option maxHeartbeats 2000000 in
theorem implLessPosts_any (a : Option Addr) (xs : List Int) (n cap : Nat) (b : Option Addr) (ys : List Int) (n2 cap2 : Nat) (w : World) (hn : xs.length = n) (hs : SlC w a n cap xs) (hn2 : n ≤ 1048576) (hm : ys.length = n2) (ht : SlC w b n2 cap2 ys) (hm2 : n2 ≤ 1048576) (r : Option (List Int)) (hr : r = meetRes false xs ys) :
    Calls Try.prog 10 #[.slice a n cap, .slice b n2 cap2] w fun e w' => RetL w r e w' := by
  by_cases h1 : GoodP xs
  · have C1 := hide (goodPosts_any a xs n cap w hn hs.sl hn2 true (by simp [h1]))
    by_cases h2 : GoodP ys
    · have C2 := hide (goodPosts_any b ys n2 cap2 w hm ht.sl hm2 true (by simp [h2]))
      have C3 := hide (without_any a xs n cap b ys n2 cap2 w hn hs hn2 hm ht hm2 (good_rise h1) (good_rise h2))
      have hl1 := h1.1
      have hl2 := h2.1
      have hr' : r = some (those ys false xs) := by rw [hr]; unfold meetRes; rw [if_pos ⟨h1, h2⟩]
      have HR := hide hr'
      clear hn hs hm ht h1 h2 hr hr'
      go_enter Try.func10, Try.ntmps10
      go_wp2_with fail
      refine C1.out.mono ?_
      rintro e w1 ⟨rfl, rfl⟩
      go_wp2_with fail
      refine C2.out.mono ?_
      rintro e w2 ⟨rfl, rfl⟩
      go_wp2_with fail
      refine C3.out.mono ?_
      rintro e w3 ⟨v, rfl, ho, hb⟩
      have HO := hide ho
      have HB := hide hb
      obtain ⟨a5, c5, rfl⟩ := own_shapeT ho
      clear ho hb
      go_wp2
      go_ret2
      exact ⟨_, by rw [HR.out]; rfl, by rw [HR.out]; exact HO.out, HB.out⟩
    · have C2 := hide (goodPosts_any b ys n2 cap2 w hm ht.sl hm2 false (by simp [h2]))
      have hr' : r = none := by rw [hr]; unfold meetRes; rw [if_neg]; simp [h2]
      subst hr'
      clear hn hs hm ht h1 h2 hr
      go_enter Try.func10, Try.ntmps10
      go_wp2_with fail
      refine C1.out.mono ?_
      rintro e w1 ⟨rfl, rfl⟩
      go_wp2_with fail
      refine C2.out.mono ?_
      rintro e w2 ⟨rfl, rfl⟩
      go_wp2
      go_ret2
      exact ret_none (Below.refl _ _)
  · have C1 := hide (goodPosts_any a xs n cap w hn hs.sl hn2 false (by simp [h1]))
    have hr' : r = none := by rw [hr]; unfold meetRes; rw [if_neg]; simp [h1]
    subst hr'
    clear hn hs hm ht h1 hr
    go_enter Try.func10, Try.ntmps10
    go_wp2_with fail
    refine C1.out.mono ?_
    rintro e w1 ⟨rfl, rfl⟩
    go_wp2
    go_ret2
    exact ret_none (Below.refl _ _)

set_option maxRecDepth 100000 in
set_option maxHeartbeats 2000000 in
theorem implJoinPosts_any (a : Option Addr) (xs : List Int) (n cap : Nat) (b : Option Addr) (ys : List Int) (n2 cap2 : Nat) (w : World) (hn : xs.length = n) (hs : SlC w a n cap xs) (hn2 : n ≤ 1048576) (hm : ys.length = n2) (ht : SlC w b n2 cap2 ys) (hm2 : n2 ≤ 1048576) (r : Option (List Int)) (hr : r = joinRes xs ys) :
    Calls Try.prog 8 #[.slice a n cap, .slice b n2 cap2] w fun e w' => RetL w r e w' := by
  by_cases h1 : GoodP xs
  · have C1 := hide (goodPosts_any a xs n cap w hn hs.sl hn2 true (by simp [h1]))
    by_cases h2 : GoodP ys
    · have C2 := hide (goodPosts_any b ys n2 cap2 w hm ht.sl hm2 true (by simp [h2]))
      have C3 := hide ((fun a xs n cap b ys n2 cap2 w hn hs hn2 hm ht hm2 hrx hry => join_any a xs n cap b ys n2 cap2 w hn (SlC.sl hs) hn2 hm ht hm2 hrx hry) a xs n cap b ys n2 cap2 w hn hs hn2 hm ht hm2 (good_rise h1) (good_rise h2))
      have hl1 := h1.1
      have hl2 := h2.1
      have hjl : (joinL xs ys).length ≤ 120 := by
        have := joinL_len xs ys ys.length
        rw [List.take_length] at this
        omega
      obtain ⟨m, hmm⟩ : ∃ m, m = (joinL xs ys).length := ⟨_, rfl⟩
      rw [← hmm] at hjl
      by_cases h60 : (m : Int) ≤ 60
      · have hr' : r = some (joinL xs ys) := by rw [hr]; unfold joinRes; rw [if_pos ⟨⟨h1, h2⟩, by omega⟩]
        have HR := hide hr'
        have HM := hide hmm.symm
        clear hn hs hm ht h1 h2 hr hr' hmm
        go_enter Try.func8, Try.ntmps8
        go_wp2_with fail
        refine C1.out.mono ?_
        rintro e w1 ⟨rfl, rfl⟩
        go_wp2_with fail
        refine C2.out.mono ?_
        rintro e w2 ⟨rfl, rfl⟩
        go_wp2_with fail
        refine C3.out.mono ?_
        rintro e w3 ⟨v, rfl, ho, hb⟩
        rw [HM.out] at ho
        have HO := hide ho
        have HB := hide hb
        obtain ⟨a5, c5, rfl⟩ := own_shapeT ho
        clear ho hb
        go_wp2
        go_ret2
        exact ⟨_, by rw [HR.out]; rfl, by rw [HR.out]; show World.ownsRow _ _ _ _ _ (joinL xs ys).length _; rw [HM.out]; exact HO.out, HB.out⟩
      · have hr' : r = none := by rw [hr]; unfold joinRes; rw [if_neg (fun h => by have := h.2; omega)]
        have HR := hide hr'
        have HM := hide hmm.symm
        clear hn hs hm ht h1 h2 hr hr' hmm
        go_enter Try.func8, Try.ntmps8
        go_wp2_with fail
        refine C1.out.mono ?_
        rintro e w1 ⟨rfl, rfl⟩
        go_wp2_with fail
        refine C2.out.mono ?_
        rintro e w2 ⟨rfl, rfl⟩
        go_wp2_with fail
        refine C3.out.mono ?_
        rintro e w3 ⟨v, rfl, ho, hb⟩
        rw [HM.out] at ho
        have HO := hide ho
        have HB := hide hb
        obtain ⟨a5, c5, rfl⟩ := own_shapeT ho
        clear ho hb
        go_wp2
        go_ret2
        rw [HR.out]
        exact ret_none HB.out
    · have C2 := hide (goodPosts_any b ys n2 cap2 w hm ht.sl hm2 false (by simp [h2]))
      have hr' : r = none := by rw [hr]; unfold joinRes; rw [if_neg]; simp [h2]
      subst hr'
      clear hn hs hm ht h1 h2 hr
      go_enter Try.func8, Try.ntmps8
      go_wp2_with fail
      refine C1.out.mono ?_
      rintro e w1 ⟨rfl, rfl⟩
      go_wp2_with fail
      refine C2.out.mono ?_
      rintro e w2 ⟨rfl, rfl⟩
      go_wp2
      go_ret2
      exact ret_none (Below.refl _ _)
  · have C1 := hide (goodPosts_any a xs n cap w hn hs.sl hn2 false (by simp [h1]))
    have hr' : r = none := by rw [hr]; unfold joinRes; rw [if_neg]; simp [h1]
    subst hr'
    clear hn hs hm ht h1 hr
    go_enter Try.func8, Try.ntmps8
    go_wp2_with fail
    refine C1.out.mono ?_
    rintro e w1 ⟨rfl, rfl⟩
    go_wp2
    go_ret2
    exact ret_none (Below.refl _ _)

set_option maxRecDepth 100000 in
set_option maxHeartbeats 2000000 in
theorem specMeetPosts_any (a : Option Addr) (xs : List Int) (n cap : Nat) (b : Option Addr) (ys : List Int) (n2 cap2 : Nat) (w : World) (hn : xs.length = n) (hs : SlC w a n cap xs) (hn2 : n ≤ 1048576) (hm : ys.length = n2) (ht : SlC w b n2 cap2 ys) (hm2 : n2 ≤ 1048576) (r : Option (List Int)) (hr : r = meetRes true xs ys) :
    Calls Try.prog 7 #[.slice a n cap, .slice b n2 cap2] w fun e w' => RetL w r e w' := by
  by_cases h12 : GoodP xs ∧ GoodP ys
  · have C1 := hide (l4Both_any a xs n cap b ys n2 cap2 w hn hs.sl hn2 hm ht.sl hm2 true (iff_of_true rfl h12))
    have hl1 := h12.1.1
    have hl2 := h12.2.1
    have C3 := hide (those_true a xs n cap b ys n2 cap2 w hn hs.sl hn2 hm ht.sl hm2)
    have h1 := h12.1
    have h2 := h12.2
    clear h12
    have hr' : r = some (those ys true xs) := by rw [hr]; unfold meetRes; rw [if_pos ⟨h1, h2⟩]
    have HR := hide hr'
    clear hn hs hm ht h1 h2 hr hr'
    go_enter Try.func7, Try.ntmps7
    go_wp2_with fail
    refine C1.out.mono ?_
    rintro e w1 ⟨rfl, rfl⟩
    go_wp2_with fail
    refine C3.out.mono ?_
    rintro e w3 ⟨v, rfl, ho, hb⟩
    have HO := hide ho
    have HB := hide hb
    obtain ⟨a5, c5, rfl⟩ := own_shapeT ho
    clear ho hb
    go_wp2
    go_ret2
    exact ⟨_, by rw [HR.out]; rfl, by rw [HR.out]; exact HO.out, HB.out⟩
  · have C1 := hide (l4Both_any a xs n cap b ys n2 cap2 w hn hs.sl hn2 hm ht.sl hm2 false (iff_of_false (by simp) h12))
    have hr' : r = none := by rw [hr]; unfold meetRes; rw [if_neg]; first | exact h12 | exact fun h => h12 h.1
    subst hr'
    clear hn hs hm ht h12 hr
    go_enter Try.func7, Try.ntmps7
    go_wp2_with fail
    refine C1.out.mono ?_
    rintro e w1 ⟨rfl, rfl⟩
    go_wp2
    go_ret2
    exact ret_none (Below.refl _ _)

set_option maxRecDepth 100000 in
set_option maxHeartbeats 2000000 in
theorem specLessPosts_any (a : Option Addr) (xs : List Int) (n cap : Nat) (b : Option Addr) (ys : List Int) (n2 cap2 : Nat) (w : World) (hn : xs.length = n) (hs : SlC w a n cap xs) (hn2 : n ≤ 1048576) (hm : ys.length = n2) (ht : SlC w b n2 cap2 ys) (hm2 : n2 ≤ 1048576) (r : Option (List Int)) (hr : r = meetRes false xs ys) :
    Calls Try.prog 11 #[.slice a n cap, .slice b n2 cap2] w fun e w' => RetL w r e w' := by
  by_cases h12 : GoodP xs ∧ GoodP ys
  · have C1 := hide (l4Both_any a xs n cap b ys n2 cap2 w hn hs.sl hn2 hm ht.sl hm2 true (iff_of_true rfl h12))
    have hl1 := h12.1.1
    have hl2 := h12.2.1
    have C3 := hide (those_false a xs n cap b ys n2 cap2 w hn hs.sl hn2 hm ht.sl hm2)
    have h1 := h12.1
    have h2 := h12.2
    clear h12
    have hr' : r = some (those ys false xs) := by rw [hr]; unfold meetRes; rw [if_pos ⟨h1, h2⟩]
    have HR := hide hr'
    clear hn hs hm ht h1 h2 hr hr'
    go_enter Try.func11, Try.ntmps11
    go_wp2_with fail
    refine C1.out.mono ?_
    rintro e w1 ⟨rfl, rfl⟩
    go_wp2_with fail
    refine C3.out.mono ?_
    rintro e w3 ⟨v, rfl, ho, hb⟩
    have HO := hide ho
    have HB := hide hb
    obtain ⟨a5, c5, rfl⟩ := own_shapeT ho
    clear ho hb
    go_wp2
    go_ret2
    exact ⟨_, by rw [HR.out]; rfl, by rw [HR.out]; exact HO.out, HB.out⟩
  · have C1 := hide (l4Both_any a xs n cap b ys n2 cap2 w hn hs.sl hn2 hm ht.sl hm2 false (iff_of_false (by simp) h12))
    have hr' : r = none := by rw [hr]; unfold meetRes; rw [if_neg]; first | exact h12 | exact fun h => h12 h.1
    subst hr'
    clear hn hs hm ht h12 hr
    go_enter Try.func11, Try.ntmps11
    go_wp2_with fail
    refine C1.out.mono ?_
    rintro e w1 ⟨rfl, rfl⟩
    go_wp2
    go_ret2
    exact ret_none (Below.refl _ _)

set_option maxRecDepth 100000 in
set_option maxHeartbeats 2000000 in
theorem specJoinPosts_any (a : Option Addr) (xs : List Int) (n cap : Nat) (b : Option Addr) (ys : List Int) (n2 cap2 : Nat) (w : World) (hn : xs.length = n) (hs : SlC w a n cap xs) (hn2 : n ≤ 1048576) (hm : ys.length = n2) (ht : SlC w b n2 cap2 ys) (hm2 : n2 ≤ 1048576) (r : Option (List Int)) (hr : r = joinRes xs ys) :
    Calls Try.prog 9 #[.slice a n cap, .slice b n2 cap2] w fun e w' => RetL w r e w' := by
  by_cases h12 : GoodP xs ∧ GoodP ys
  · have C1 := hide (l4Both_any a xs n cap b ys n2 cap2 w hn hs.sl hn2 hm ht.sl hm2 true (iff_of_true rfl h12))
    have hl1 := h12.1.1
    have hl2 := h12.2.1
    have C3 := hide (l4Join_any a xs n cap b ys n2 cap2 w hn hs (by omega) hm ht.sl (by omega))
    have h1 := h12.1
    have h2 := h12.2
    clear h12
    have hjl : (joinL xs ys).length ≤ 120 := by
      have := joinL_len xs ys ys.length
      rw [List.take_length] at this
      omega
    obtain ⟨m, hmm⟩ : ∃ m, m = (joinL xs ys).length := ⟨_, rfl⟩
    rw [← hmm] at hjl
    by_cases h60 : (m : Int) ≤ 60
    · have hr' : r = some (joinL xs ys) := by rw [hr]; unfold joinRes; rw [if_pos ⟨⟨h1, h2⟩, by omega⟩]
      have HR := hide hr'
      have HM := hide hmm.symm
      clear hn hs hm ht h1 h2 hr hr' hmm
      go_enter Try.func9, Try.ntmps9
      go_wp2_with fail
      refine C1.out.mono ?_
      rintro e w1 ⟨rfl, rfl⟩
      go_wp2_with fail
      refine C3.out.mono ?_
      rintro e w3 ⟨v, rfl, ho, hb⟩
      rw [HM.out] at ho
      have HO := hide ho
      have HB := hide hb
      obtain ⟨a5, c5, rfl⟩ := own_shapeT ho
      clear ho hb
      go_wp2
      go_ret2
      exact ⟨_, by rw [HR.out]; rfl, by rw [HR.out]; show World.ownsRow _ _ _ _ _ (joinL xs ys).length _; rw [HM.out]; exact HO.out, HB.out⟩
    · have hr' : r = none := by rw [hr]; unfold joinRes; rw [if_neg (fun h => by have := h.2; omega)]
      have HR := hide hr'
      have HM := hide hmm.symm
      clear hn hs hm ht h1 h2 hr hr' hmm
      go_enter Try.func9, Try.ntmps9
      go_wp2_with fail
      refine C1.out.mono ?_
      rintro e w1 ⟨rfl, rfl⟩
      go_wp2_with fail
      refine C3.out.mono ?_
      rintro e w3 ⟨v, rfl, ho, hb⟩
      rw [HM.out] at ho
      have HO := hide ho
      have HB := hide hb
      obtain ⟨a5, c5, rfl⟩ := own_shapeT ho
      clear ho hb
      go_wp2
      go_ret2
      rw [HR.out]
      exact ret_none HB.out
  · have C1 := hide (l4Both_any a xs n cap b ys n2 cap2 w hn hs.sl hn2 hm ht.sl hm2 false (iff_of_false (by simp) h12))
    have hr' : r = none := by rw [hr]; unfold joinRes; rw [if_neg]; first | exact h12 | exact fun h => h12 h.1
    subst hr'
    clear hn hs hm ht h12 hr
    go_enter Try.func9, Try.ntmps9
    go_wp2_with fail
    refine C1.out.mono ?_
    rintro e w1 ⟨rfl, rfl⟩
    go_wp2
    go_ret2
    exact ret_none (Below.refl _ _)

/-- A place that a call hands back, and whether there is one. -/
def leapVal (r : Option Nat) : Value := .tuple #[.int .i64 ((r.getD 0 : Nat) : Int), .bool r.isSome]

set_option maxRecDepth 100000 in
set_option maxHeartbeats 2000000 in
theorem implLeapFrom_any (a : Option Addr) (xs : List Int) (n cap : Nat) (f x : Int) (w : World) (hn : xs.length = n) (hs : SlC w a n cap xs) (hn2 : n ≤ 1048576) (r : Option Nat) (hr : r = leapRes xs f x) :
    Calls Try.prog 16 #[.slice a n cap, .int .i64 f, .int .i64 x] w fun e w' => e = .returned (leapVal r) ∧ Below w.heap.size w w' := by
  by_cases h1 : GoodP xs
  · have C1 := hide (goodPosts_any a xs n cap w hn hs.sl hn2 true (by simp [h1]))
    by_cases h2 : 0 ≤ f
    · by_cases h3 : f ≤ (n : Int)
      · obtain ⟨g, rfl⟩ : ∃ g : Nat, f = (g : Int) := ⟨f.toNat, by omega⟩
        have C2 := hide (leap_any a xs n cap g x w hn hs.sl hn2 (by omega) hs.le hs.max hs.nil (good_rise h1) _ rfl)
        have hr' : r = some (leap xs g x) := by rw [hr]; unfold leapRes; rw [if_pos ⟨h1, h2, by omega⟩]; simp
        have hln := leap_le xs g x (by omega)
        obtain ⟨m, hmm⟩ : ∃ m, m = leap xs g x := ⟨_, rfl⟩
        rw [← hmm] at hr' C2 hln
        subst hr'
        clear hn hs h1 hr hmm hln
        go_enter Try.func16, Try.ntmps16
        go_wp2_with fail
        refine C1.out.mono ?_
        rintro e w1 ⟨rfl, rfl⟩
        go_wp2_with fail
        refine C2.out.mono ?_
        rintro e w2 ⟨rfl, hb⟩
        go_wp2
        go_ret2
        exact ⟨rfl, hb⟩
      · have hr' : r = none := by rw [hr]; unfold leapRes; rw [if_neg (fun h => h3 (by have := h.2.2; omega))]
        subst hr'
        clear hn hs h1 hr
        go_enter Try.func16, Try.ntmps16
        go_wp2_with fail
        refine C1.out.mono ?_
        rintro e w1 ⟨rfl, rfl⟩
        go_wp2
        go_ret2
        exact ⟨rfl, Below.refl _ _⟩
    · have hr' : r = none := by rw [hr]; unfold leapRes; rw [if_neg (fun h => h2 h.2.1)]
      subst hr'
      clear hn hs h1 hr
      go_enter Try.func16, Try.ntmps16
      go_wp2_with fail
      refine C1.out.mono ?_
      rintro e w1 ⟨rfl, rfl⟩
      go_wp2
      go_ret2
      exact ⟨rfl, Below.refl _ _⟩
  · have C1 := hide (goodPosts_any a xs n cap w hn hs.sl hn2 false (by simp [h1]))
    have hr' : r = none := by rw [hr]; unfold leapRes; rw [if_neg (fun h => h1 h.1)]
    subst hr'
    clear hn hs h1 hr
    go_enter Try.func16, Try.ntmps16
    go_wp2_with fail
    refine C1.out.mono ?_
    rintro e w1 ⟨rfl, rfl⟩
    go_wp2
    go_ret2
    exact ⟨rfl, Below.refl _ _⟩

set_option maxRecDepth 100000 in
set_option maxHeartbeats 2000000 in
theorem specLeapFrom_any (a : Option Addr) (xs : List Int) (n cap : Nat) (f x : Int) (w : World) (hn : xs.length = n) (hs : SlC w a n cap xs) (hn2 : n ≤ 1048576) (r : Option Nat) (hr : r = leapRes xs f x) :
    Calls Try.prog 17 #[.slice a n cap, .int .i64 f, .int .i64 x] w fun e w' => e = .returned (leapVal r) ∧ Below w.heap.size w w' := by
  by_cases h1 : GoodP xs
  · have C1 := hide (specGoodPosts_any a xs n cap w hn hs.sl hn2 true (by simp [h1]))
    by_cases h2 : 0 ≤ f ∧ f ≤ (n : Int)
    · obtain ⟨g, rfl⟩ : ∃ g : Nat, f = (g : Int) := ⟨f.toNat, by omega⟩
      have C2 := hide (fun w => l1In_any (g : Int) 0 (n : Int) w true (iff_of_true rfl h2))
      have hr' : r = some (leap xs g x) := by rw [hr]; unfold leapRes; rw [if_pos ⟨h1, h2.1, by omega⟩]; simp
      have HR := hide hr'
      have HS := hide hs
      have HN := hide hn
      have hgn : g ≤ n := by omega
      clear hn hs h1 hr hr' h2
      go_enter Try.func17, Try.ntmps17
      go_wp2_with fail
      refine C1.out.mono ?_
      rintro e w1 ⟨rfl, rfl⟩
      go_wp2_with fail
      refine (C2.out _).mono ?_
      rintro e w2 ⟨rfl, rfl⟩
      go_wp2
      go_loop [1] (fun i => ∃ k : Nat, g ≤ k ∧ k ≤ n ∧ i = .int .i64 k ∧ Hid (∀ j, g ≤ j → j < k → xs.getD j 0 < x)) (fun i => n - (intOf i).toNat)
      case atStart => exact ⟨g, Nat.le_refl _, hgn, rfl, fun j h1 h2 => absurd h2 (by omega)⟩
      case round =>
        obtain ⟨k, hgk, hk, rfl, HJ⟩ := hrel
        by_cases hlt : k < n
        · obtain ⟨b1, off, rfl, hc⟩ := HS.out.sl k (by rw [HN.out]; exact hlt)
          have hltI : (k : Int) < (n : Int) := by omega
          obtain ⟨y, hy⟩ : ∃ y, y = xs.getD k 0 := ⟨_, rfl⟩
          rw [← hy] at hc
          have HY := hide hy.symm
          clear hy
          by_cases hyx : y < x
          · go_wp2
            go_round
            case rel =>
              refine ⟨k + 1, by omega, by omega, by go_num, ?_⟩
              intro j q1 q2
              by_cases e : j = k
              · subst e; rw [HY.out]; exact hyx
              · exact HJ.out j q1 (by omega)
            case measure => simp [intOf]; omega
          · have hend := leap_at hgk (by rw [HN.out]; exact hk) HJ.out (fun _ => by rw [HY.out]; exact hyx)
            have HE := hide hend
            clear hend
            go_wp2
            go_ret2
            exact ⟨by rw [HR.out, HE.out]; rfl, Below.refl _ _⟩
        · have hltI : ¬ (k : Int) < (n : Int) := by omega
          have hend := leap_at (n := x) hgk (by rw [HN.out]; exact hk) HJ.out (fun h => by rw [HN.out] at h; omega)
          have HE := hide hend
          clear hend
          go_wp2
          go_ret2
          exact ⟨by rw [HR.out, HE.out]; rfl, Below.refl _ _⟩
    · have C2 := hide (fun w => l1In_any f 0 (n : Int) w false (iff_of_false (by simp) h2))
      have hr' : r = none := by rw [hr]; unfold leapRes; rw [if_neg (fun h => h2 (by have := h.2; omega))]
      subst hr'
      clear hn hs h1 hr h2
      go_enter Try.func17, Try.ntmps17
      go_wp2_with fail
      refine C1.out.mono ?_
      rintro e w1 ⟨rfl, rfl⟩
      go_wp2_with fail
      refine (C2.out _).mono ?_
      rintro e w2 ⟨rfl, rfl⟩
      go_wp2
      go_ret2
      exact ⟨rfl, Below.refl _ _⟩
  · have C1 := hide (specGoodPosts_any a xs n cap w hn hs.sl hn2 false (by simp [h1]))
    have hr' : r = none := by rw [hr]; unfold leapRes; rw [if_neg (fun h => h1 h.1)]
    subst hr'
    clear hn hs h1 hr
    go_enter Try.func17, Try.ntmps17
    go_wp2_with fail
    refine C1.out.mono ?_
    rintro e w1 ⟨rfl, rfl⟩
    go_wp2
    go_ret2
    exact ⟨rfl, Below.refl _ _⟩
end Go.Proofs.Ythicdnkngpiccab.L4
