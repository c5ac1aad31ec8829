/-
  Contracts: MeetPosts, LessPosts, JoinPosts and LeapFrom, the program's and the model's.
-/
import Derived.Test.YthicdnkngpiccabL4Good
import Derived.Test.YthicdnkngpiccabL4Join
namespace Go.Proofs.Ythicdnkngpiccab.L4
open Go.RowKit L1
set_option linter.unusedVariables false

open Classical in
noncomputable def meetRes (s : Bool) (a b : List Int) : Option (List Int) := if GoodP a ∧ GoodP b then some (those b s a) else none
open Classical in
noncomputable def joinRes (a b : List Int) : Option (List Int) := if (GoodP a ∧ GoodP b) ∧ (joinL a b).length ≤ 60 then some (joinL a b) else none
open Classical in
noncomputable def leapRes (l : List Int) (f n : Int) : Option Nat := if GoodP l ∧ 0 ≤ f ∧ f ≤ (l.length : Int) then some (leap l f.toNat n) else none
theorem meetRes_len (s : Bool) (a b : List Int) : ((meetRes s a b).getD []).length ≤ 60 := by
  unfold meetRes
  split
  · rename_i h
    have h1 := h.1.1
    have h2 := those_len a b s
    simp only [Option.getD_some]
    omega
  · simp
theorem joinRes_len (a b : List Int) : ((joinRes a b).getD []).length ≤ 60 := by
  unfold joinRes
  split
  · rename_i h
    exact h.2
  · simp
/-- Nothing, and false. -/
theorem ret_none {w w' : World} (hb : Below w.heap.size w w') : RetL w none (.returned (.tuple #[.slice none 0 0, .bool false])) w' := ⟨_, rfl, World.ownsRow_nil _ _ _ _, hb⟩

set_option maxRecDepth 100000 in
set_option maxHeartbeats 1000000 in
theorem l4Both_any (a : Option Addr) (xs : List Int) (n cap : Nat) (b : Option Addr) (ys : List Int) (n2 cap2 : Nat) (w : World) (hn : xs.length = n) (hs : Sl w a xs) (hn2 : n ≤ 1048576) (hm : ys.length = n2) (ht : Sl w b ys) (hm2 : n2 ≤ 1048576) (bb : Bool) (hbb : bb = true ↔ GoodP xs ∧ GoodP ys) :
    Calls Try.prog 32 #[.slice a n cap, .slice b n2 cap2] w fun e w' => e = .returned (.bool bb) ∧ w = w' := by
  by_cases h1 : GoodP xs
  · have C1 := hide (specGoodPosts_any a xs n cap w hn hs hn2 true (by simp [h1]))
    have C2 := hide (specGoodPosts_any b ys n2 cap2 w hm ht hm2 bb (by rw [hbb]; simp [h1]))
    clear hbb hs ht hn hm h1
    go_enter Try.func32, Try.ntmps32
    go_wp2_with fail
    refine C1.out.mono ?_
    rintro e w1 ⟨rfl, rfl⟩
    go_wp2_with fail
    refine C2.out.mono ?_
    rintro e w2 ⟨rfl, rfl⟩
    go_wp2
    go_ret
    exact ⟨rfl, rfl⟩
  · have C1 := hide (specGoodPosts_any a xs n cap w hn hs hn2 false (by simp [h1]))
    have hb : bb = false := bool_noT hbb (fun h => h1 h.1)
    subst hb
    clear hbb hs ht hn hm h1
    go_enter Try.func32, Try.ntmps32
    go_wp2_with fail
    refine C1.out.mono ?_
    rintro e w1 ⟨rfl, rfl⟩
    go_wp2
    go_ret
    exact ⟨rfl, rfl⟩

set_option maxRecDepth 100000 in
set_option maxHeartbeats 1000000 in
theorem meet_any (a : Option Addr) (xs : List Int) (n cap : Nat) (b : Option Addr) (ys : List Int) (n2 cap2 : Nat) (w : World) (hn : xs.length = n) (hs : SlC w a n cap xs) (hn2 : n ≤ 1048576) (hm : ys.length = n2) (ht : SlC w b n2 cap2 ys) (hm2 : n2 ≤ 1048576) (hrx : Rise xs) (hry : Rise ys) :
    Calls Try.prog 31 #[.slice a n cap, .slice b n2 cap2] w fun e w' => RetN w (those ys true xs) e w' := by
  have C := hide (chosen_true a xs n cap b ys n2 cap2 w hn hs.sl hn2 hm ht hm2 hrx hry)
  clear hn hs hm ht hrx hry
  go_enter Try.func31, Try.ntmps31
  go_wp2_with fail
  refine C.out.mono ?_
  rintro e w1 ⟨v, rfl, ho, hb⟩
  have HO := hide ho
  have HB := hide hb
  obtain ⟨a5, c5, rfl⟩ := own_shapeT ho
  clear ho hb
  go_wp2
  go_ret
  exact ⟨_, rfl, HO.out, HB.out⟩

set_option maxRecDepth 100000 in
set_option maxHeartbeats 1000000 in
theorem without_any (a : Option Addr) (xs : List Int) (n cap : Nat) (b : Option Addr) (ys : List Int) (n2 cap2 : Nat) (w : World) (hn : xs.length = n) (hs : SlC w a n cap xs) (hn2 : n ≤ 1048576) (hm : ys.length = n2) (ht : SlC w b n2 cap2 ys) (hm2 : n2 ≤ 1048576) (hrx : Rise xs) (hry : Rise ys) :
    Calls Try.prog 36 #[.slice a n cap, .slice b n2 cap2] w fun e w' => RetN w (those ys false xs) e w' := by
  have C := hide (chosen_false a xs n cap b ys n2 cap2 w hn hs.sl hn2 hm ht hm2 hrx hry)
  clear hn hs hm ht hrx hry
  go_enter Try.func36, Try.ntmps36
  go_wp2_with fail
  refine C.out.mono ?_
  rintro e w1 ⟨v, rfl, ho, hb⟩
  have HO := hide ho
  have HB := hide hb
  obtain ⟨a5, c5, rfl⟩ := own_shapeT ho
  clear ho hb
  go_wp2
  go_ret
  exact ⟨_, rfl, HO.out, HB.out⟩

set_option maxRecDepth 100000 in
set_option maxHeartbeats 2000000 in
theorem implMeetPosts_any (a : Option Addr) (xs : List Int) (n cap : Nat) (b : Option Addr) (ys : List Int) (n2 cap2 : Nat) (w : World) (hn : xs.length = n) (hs : SlC w a n cap xs) (hn2 : n ≤ 1048576) (hm : ys.length = n2) (ht : SlC w b n2 cap2 ys) (hm2 : n2 ≤ 1048576) (r : Option (List Int)) (hr : r = meetRes true xs ys) :
    Calls Try.prog 6 #[.slice a n cap, .slice b n2 cap2] w fun e w' => RetL w r e w' := by
  by_cases h1 : GoodP xs
  · have C1 := hide (goodPosts_any a xs n cap w hn hs.sl hn2 true (by simp [h1]))
    by_cases h2 : GoodP ys
    · have C2 := hide (goodPosts_any b ys n2 cap2 w hm ht.sl hm2 true (by simp [h2]))
      have C3 := hide (meet_any a xs n cap b ys n2 cap2 w hn hs hn2 hm ht hm2 (good_rise h1) (good_rise h2))
      have hl1 := h1.1
      have hl2 := h2.1
      have hr' : r = some (those ys true xs) := by rw [hr]; unfold meetRes; rw [if_pos ⟨h1, h2⟩]
      have HR := hide hr'
      clear hn hs hm ht h1 h2 hr hr'
      go_enter Try.func6, Try.ntmps6
      go_wp2_with fail
      refine C1.out.mono ?_
      rintro e w1 ⟨rfl, rfl⟩
      go_wp2_with fail
      refine C2.out.mono ?_
      rintro e w2 ⟨rfl, rfl⟩
      go_wp2_with fail
      refine C3.out.mono ?_
      rintro e w3 ⟨v, rfl, ho, hb⟩
      have HO := hide ho
      have HB := hide hb
      obtain ⟨a5, c5, rfl⟩ := own_shapeT ho
      clear ho hb
      go_wp2
      go_ret2
      exact ⟨_, by rw [HR.out]; rfl, by rw [HR.out]; exact HO.out, HB.out⟩
    · have C2 := hide (goodPosts_any b ys n2 cap2 w hm ht.sl hm2 false (by simp [h2]))
      have hr' : r = none := by rw [hr]; unfold meetRes; rw [if_neg]; simp [h2]
      subst hr'
      clear hn hs hm ht h1 h2 hr
      go_enter Try.func6, Try.ntmps6
      go_wp2_with fail
      refine C1.out.mono ?_
      rintro e w1 ⟨rfl, rfl⟩
      go_wp2_with fail
      refine C2.out.mono ?_
      rintro e w2 ⟨rfl, rfl⟩
      go_wp2
      go_ret2
      exact ret_none (Below.refl _ _)
  · have C1 := hide (goodPosts_any a xs n cap w hn hs.sl hn2 false (by simp [h1]))
    have hr' : r = none := by rw [hr]; unfold meetRes; rw [if_neg]; simp [h1]
    subst hr'
    clear hn hs hm ht h1 hr
    go_enter Try.func6, Try.ntmps6
    go_wp2_with fail
    refine C1.out.mono ?_
    rintro e w1 ⟨rfl, rfl⟩
    go_wp2
    go_ret2
    exact ret_none (Below.refl _ _)

set_option maxRecDepth 100000 in
set_option maxHeartbeats 2000000 in
theorem implLessPosts_any (a : Option Addr) (xs : List Int) (n cap : Nat) (b : Option Addr) (ys : List Int) (n2 cap2 : Nat) (w : World) (hn : xs.length = n) (hs : SlC w a n cap xs) (hn2 : n ≤ 1048576) (hm : ys.length = n2) (ht : SlC w b n2 cap2 ys) (hm2 : n2 ≤ 1048576) (r : Option (List Int)) (hr : r = meetRes false xs ys) :
    Calls Try.prog 10 #[.slice a n cap, .slice b n2 cap2] w fun e w' => RetL w r e w' := by
  by_cases h1 : GoodP xs
  · have C1 := hide (goodPosts_any a xs n cap w hn hs.sl hn2 true (by simp [h1]))
    by_cases h2 : GoodP ys
    · have C2 := hide (goodPosts_any b ys n2 cap2 w hm ht.sl hm2 true (by simp [h2]))
      have C3 := hide (without_any a xs n cap b ys n2 cap2 w hn hs hn2 hm ht hm2 (good_rise h1) (good_rise h2))
      have hl1 := h1.1
      have hl2 := h2.1
      have hr' : r = some (those ys false xs) := by rw [hr]; unfold meetRes; rw [if_pos ⟨h1, h2⟩]
      have HR := hide hr'
      clear hn hs hm ht h1 h2 hr hr'
      go_enter Try.func10, Try.ntmps10
      go_wp2_with fail
      refine C1.out.mono ?_
      rintro e w1 ⟨rfl, rfl⟩
      go_wp2_with fail
      refine C2.out.mono ?_
      rintro e w2 ⟨rfl, rfl⟩
      go_wp2_with fail
      refine C3.out.mono ?_
      rintro e w3 ⟨v, rfl, ho, hb⟩
      have HO := hide ho
      have HB := hide hb
      obtain ⟨a5, c5, rfl⟩ := own_shapeT ho
      clear ho hb
      go_wp2
      go_ret2
      exact ⟨_, by rw [HR.out]; rfl, by rw [HR.out]; exact HO.out, HB.out⟩
    · have C2 := hide (goodPosts_any b ys n2 cap2 w hm ht.sl hm2 false (by simp [h2]))
      have hr' : r = none := by rw [hr]; unfold meetRes; rw [if_neg]; simp [h2]
      subst hr'
      clear hn hs hm ht h1 h2 hr
      go_enter Try.func10, Try.ntmps10
      go_wp2_with fail
      refine C1.out.mono ?_
      rintro e w1 ⟨rfl, rfl⟩
      go_wp2_with fail
      refine C2.out.mono ?_
      rintro e w2 ⟨rfl, rfl⟩
      go_wp2
      go_ret2
      exact ret_none (Below.refl _ _)
  · have C1 := hide (goodPosts_any a xs n cap w hn hs.sl hn2 false (by simp [h1]))
    have hr' : r = none := by rw [hr]; unfold meetRes; rw [if_neg]; simp [h1]
    subst hr'
    clear hn hs hm ht h1 hr
    go_enter Try.func10, Try.ntmps10
    go_wp2_with fail
    refine C1.out.mono ?_
    rintro e w1 ⟨rfl, rfl⟩
    go_wp2
    go_ret2
    exact ret_none (Below.refl _ _)

set_option maxRecDepth 100000 in
set_option maxHeartbeats 2000000 in
theorem implJoinPosts_any (a : Option Addr) (xs : List Int) (n cap : Nat) (b : Option Addr) (ys : List Int) (n2 cap2 : Nat) (w : World) (hn : xs.length = n) (hs : SlC w a n cap xs) (hn2 : n ≤ 1048576) (hm : ys.length = n2) (ht : SlC w b n2 cap2 ys) (hm2 : n2 ≤ 1048576) (r : Option (List Int)) (hr : r = joinRes xs ys) :
    Calls Try.prog 8 #[.slice a n cap, .slice b n2 cap2] w fun e w' => RetL w r e w' := by
  by_cases h1 : GoodP xs
  · have C1 := hide (goodPosts_any a xs n cap w hn hs.sl hn2 true (by simp [h1]))
    by_cases h2 : GoodP ys
    · have C2 := hide (goodPosts_any b ys n2 cap2 w hm ht.sl hm2 true (by simp [h2]))
      have C3 := hide ((fun a xs n cap b ys n2 cap2 w hn hs hn2 hm ht hm2 hrx hry => join_any a xs n cap b ys n2 cap2 w hn (SlC.sl hs) hn2 hm ht hm2 hrx hry) a xs n cap b ys n2 cap2 w hn hs hn2 hm ht hm2 (good_rise h1) (good_rise h2))
      have hl1 := h1.1
      have hl2 := h2.1
      have hjl : (joinL xs ys).length ≤ 120 := by
        have := joinL_len xs ys ys.length
        rw [List.take_length] at this
        omega
      obtain ⟨m, hmm⟩ : ∃ m, m = (joinL xs ys).length := ⟨_, rfl⟩
      rw [← hmm] at hjl
      by_cases h60 : (m : Int) ≤ 60
      · have hr' : r = some (joinL xs ys) := by rw [hr]; unfold joinRes; rw [if_pos ⟨⟨h1, h2⟩, by omega⟩]
        have HR := hide hr'
        have HM := hide hmm.symm
        clear hn hs hm ht h1 h2 hr hr' hmm
        go_enter Try.func8, Try.ntmps8
        go_wp2_with fail
        refine C1.out.mono ?_
        rintro e w1 ⟨rfl, rfl⟩
        go_wp2_with fail
        refine C2.out.mono ?_
        rintro e w2 ⟨rfl, rfl⟩
        go_wp2_with fail
        refine C3.out.mono ?_
        rintro e w3 ⟨v, rfl, ho, hb⟩
        rw [HM.out] at ho
        have HO := hide ho
        have HB := hide hb
        obtain ⟨a5, c5, rfl⟩ := own_shapeT ho
        clear ho hb
        go_wp2
        go_ret2
        exact ⟨_, by rw [HR.out]; rfl, by rw [HR.out]; show World.ownsRow _ _ _ _ _ (joinL xs ys).length _; rw [HM.out]; exact HO.out, HB.out⟩
      · have hr' : r = none := by rw [hr]; unfold joinRes; rw [if_neg (fun h => by have := h.2; omega)]
        have HR := hide hr'
        have HM := hide hmm.symm
        clear hn hs hm ht h1 h2 hr hr' hmm
        go_enter Try.func8, Try.ntmps8
        go_wp2_with fail
        refine C1.out.mono ?_
        rintro e w1 ⟨rfl, rfl⟩
        go_wp2_with fail
        refine C2.out.mono ?_
        rintro e w2 ⟨rfl, rfl⟩
        go_wp2_with fail
        refine C3.out.mono ?_
        rintro e w3 ⟨v, rfl, ho, hb⟩
        rw [HM.out] at ho
        have HO := hide ho
        have HB := hide hb
        obtain ⟨a5, c5, rfl⟩ := own_shapeT ho
        clear ho hb
        go_wp2
        go_ret2
        rw [HR.out]
        exact ret_none HB.out
    · have C2 := hide (goodPosts_any b ys n2 cap2 w hm ht.sl hm2 false (by simp [h2]))
      have hr' : r = none := by rw [hr]; unfold joinRes; rw [if_neg]; simp [h2]
      subst hr'
      clear hn hs hm ht h1 h2 hr
      go_enter Try.func8, Try.ntmps8
      go_wp2_with fail
      refine C1.out.mono ?_
      rintro e w1 ⟨rfl, rfl⟩
      go_wp2_with fail
      refine C2.out.mono ?_
      rintro e w2 ⟨rfl, rfl⟩
      go_wp2
      go_ret2
      exact ret_none (Below.refl _ _)
  · have C1 := hide (goodPosts_any a xs n cap w hn hs.sl hn2 false (by simp [h1]))
    have hr' : r = none := by rw [hr]; unfold joinRes; rw [if_neg]; simp [h1]
    subst hr'
    clear hn hs hm ht h1 hr
    go_enter Try.func8, Try.ntmps8
    go_wp2_with fail
    refine C1.out.mono ?_
    rintro e w1 ⟨rfl, rfl⟩
    go_wp2
    go_ret2
    exact ret_none (Below.refl _ _)

theorem sl_any {w : World} {x : Addr} {xs : List Int} (h : Sl w (some x) xs) : ∀ j u, (xs.map (Value.int .i64))[j]? = some u → w.cell? (x.add j) = some u := fun j u hu => by
  by_cases hj : j < xs.length
  · obtain ⟨b, off, e, _⟩ := h 0 (by omega)
    cases e
    exact sl_all h j u hu
  · rw [List.getElem?_eq_none (by simp; omega)] at hu
    cases hu

set_option maxRecDepth 100000 in
set_option maxHeartbeats 4000000 in
theorem l4Join_any (a : Option Addr) (xs : List Int) (n cap : Nat) (b : Option Addr) (ys : List Int) (n2 cap2 : Nat) (w : World) (hn : xs.length = n) (hs : SlC w a n cap xs) (hn2 : n ≤ 1000) (hm : ys.length = n2) (ht : Sl w b ys) (hm2 : n2 ≤ 1000) :
    Calls Try.prog 35 #[.slice a n cap, .slice b n2 cap2] w fun e w' => RetN w (joinL xs ys) e w' := by
  obtain ⟨i1, hi1, hy0, hy1, hy2⟩ := info_parts info_int
  have HT := hide ht
  have HN := hide hn
  have HM2 := hide hm
  have hE := own_emptyI w w.heap.size (Nat.le_refl _)
  have HEM := hide hE
  have rest : Hid (∀ (w1 : World), True → True) := fun _ _ => trivial
  clear ht hn hm hE rest
  cases a with
  | none =>
    obtain rfl : n = 0 := by have := hs.nil rfl; have := hs.le; omega
    obtain rfl : cap = 0 := hs.nil rfl
    obtain rfl : xs = [] := List.eq_nil_of_length_eq_zero HN.out
    have HS := hide hs
    clear hs
    go_enter Try.func35, Try.ntmps35
    go_wp2_with fail
    try go_simp
    try go_wp2_with fail
    go_loopw [5, 13] (fun ot i wr => ∃ k : Nat, k ≤ n2 ∧ i = .int .i64 k ∧ wr.ownsRow w.heap.size 3 1 ot (joinL [] (ys.take k)).length ((joinL [] (ys.take k)).map (Value.int .i64)) ∧ Below w.heap.size w wr) (fun _ i _ => n2 - (intOf i).toNat)
    case atStart => exact ⟨0, Nat.zero_le _, rfl, HEM.out, (Below.refl _ _).alloc (Nat.le_refl _) _⟩
    case round =>
      obtain ⟨k, hk, rfl, hown, hbel⟩ := hrel
      obtain ⟨oa, ocap, rfl⟩ := own_shapeT hown
      by_cases hlt : k < n2
      · obtain ⟨b1, off, rfl, hc0⟩ := HT.out k (by rw [HM2.out]; exact hlt)
        have hc := (hbel.cell (p := ⟨b1, off + k, none⟩) (blk_lt hc0)).trans hc0
        have hltI : (k : Int) < (n2 : Int) := by omega
        have htk := joinL_snoc [] ys k (by rw [HM2.out]; exact hlt)
        obtain ⟨x, hx⟩ : ∃ x, x = ys.getD k 0 := ⟨_, rfl⟩
        rw [← hx] at hc htk
        have hml := joinL_len [] ys k
        have HTK := hide htk
        have HO := hide hown
        have B0 := hide hbel
        have hxl := HN.out
        have HML : Hid ((joinL [] (ys.take k)).length ≤ 4000) := by refine hide ?_; first | omega | (simp only [List.length_nil] at hml hxl; omega)
        clear hc0 hx htk hown hbel hml hxl
        go_wp2_with fail
        refine (put_any _ (joinL [] (ys.take k)) x w.heap.size _ B0.out.size HML.out HO.out).mono ?_
        rintro e w2 ⟨v2, rfl, ho2, hb2⟩
        obtain ⟨oa2, ocap2, rfl⟩ := own_shapeT (show World.ownsRow _ _ _ _ _ _ _ from ho2)
        have O2 := hide ho2
        have B2 := hide (B0.out.trans (hb2.mono B0.out.size))
        clear ho2 hb2
        go_wp2
        go_roundw
        case rel => exact ⟨k + 1, by omega, by go_num, by rw [HTK.out]; exact O2.out, B2.out⟩
        case measure => simp [intOf]; omega
      · obtain rfl : k = n2 := by omega
        have e1 : ys.take k = ys := List.take_of_length_le (by rw [HM2.out]; exact Nat.le_refl _)
        rw [e1] at hown ⊢
        have HO := hide hown
        have hltI : ¬ (k : Int) < (k : Int) := by omega
        clear e1 hown
        go_wp2
        go_ret
        exact ⟨_, rfl, HO.out, hbel⟩
  | some xa =>
    obtain ⟨ab, ao, asp⟩ := xa
    have HS := hide hs
    clear hs
    go_enter Try.func35, Try.ntmps35
    go_wp2_with (first
      | (at_builtin; refine wpList_append_own _ rfl _ _ 23 rfl w.heap.size 3 i1 (.int .i64 0) 1 8 Try.underlying23 hi1 hy0 hy1 hy2 rfl (by decide) _ _ _ rfl HEM.out ⟨ab, ao, asp⟩ n cap (xs.map (Value.int .i64)) rfl (by have := HN.out; simp; omega) (sl_any (HS.out.sl.below ((Below.refl _ _).alloc (Nat.le_refl _) _))) (ints_one _) (by unfold maxLen; omega) (by omega) (by simp) ?_)
      | go_in)
    intro v1 w1 hown1 hgrow1 _
    have hb1 : Below w.heap.size w w1 := ((Below.refl _ _).alloc (Nat.le_refl _) _).grown hgrow1 (by simp) (fun g hg => (HEM.out.lt g hg).1)
    have O1 : Hid (w1.ownsRow w.heap.size 3 1 v1 xs.length (xs.map (Value.int .i64))) := by refine hide ?_; rw [HN.out]; simpa using hown1
    have B1 := hide hb1
    clear hown1 hgrow1 hb1
    go_wp2_with fail
    go_loopw [5, 13] (fun ot i wr => ∃ k : Nat, k ≤ n2 ∧ i = .int .i64 k ∧ wr.ownsRow w.heap.size 3 1 ot (joinL xs (ys.take k)).length ((joinL xs (ys.take k)).map (Value.int .i64)) ∧ Below w.heap.size w wr) (fun _ i _ => n2 - (intOf i).toNat)
    case atStart => exact ⟨0, Nat.zero_le _, rfl, O1.out, B1.out⟩
    case round =>
      obtain ⟨k, hk, rfl, hown, hbel⟩ := hrel
      obtain ⟨oa, ocap, rfl⟩ := own_shapeT hown
      by_cases hlt : k < n2
      · obtain ⟨b1, off, rfl, hc0⟩ := HT.out k (by rw [HM2.out]; exact hlt)
        have hc := (hbel.cell (p := ⟨b1, off + k, none⟩) (blk_lt hc0)).trans hc0
        have hltI : (k : Int) < (n2 : Int) := by omega
        have htk := joinL_snoc xs ys k (by rw [HM2.out]; exact hlt)
        obtain ⟨x, hx⟩ : ∃ x, x = ys.getD k 0 := ⟨_, rfl⟩
        rw [← hx] at hc htk
        have hml := joinL_len xs ys k
        have HTK := hide htk
        have HO := hide hown
        have B0 := hide hbel
        have hxl := HN.out
        have HML : Hid ((joinL xs (ys.take k)).length ≤ 4000) := by refine hide ?_; first | omega | (simp only [List.length_nil] at hml hxl; omega)
        clear hc0 hx htk hown hbel hml hxl
        go_wp2_with fail
        refine (put_any _ (joinL xs (ys.take k)) x w.heap.size _ B0.out.size HML.out HO.out).mono ?_
        rintro e w2 ⟨v2, rfl, ho2, hb2⟩
        obtain ⟨oa2, ocap2, rfl⟩ := own_shapeT (show World.ownsRow _ _ _ _ _ _ _ from ho2)
        have O2 := hide ho2
        have B2 := hide (B0.out.trans (hb2.mono B0.out.size))
        clear ho2 hb2
        go_wp2
        go_roundw
        case rel => exact ⟨k + 1, by omega, by go_num, by rw [HTK.out]; exact O2.out, B2.out⟩
        case measure => simp [intOf]; omega
      · obtain rfl : k = n2 := by omega
        have e1 : ys.take k = ys := List.take_of_length_le (by rw [HM2.out]; exact Nat.le_refl _)
        rw [e1] at hown ⊢
        have HO := hide hown
        have hltI : ¬ (k : Int) < (k : Int) := by omega
        clear e1 hown
        go_wp2
        go_ret
        exact ⟨_, rfl, HO.out, hbel⟩

set_option maxRecDepth 100000 in
set_option maxHeartbeats 2000000 in
theorem specMeetPosts_any (a : Option Addr) (xs : List Int) (n cap : Nat) (b : Option Addr) (ys : List Int) (n2 cap2 : Nat) (w : World) (hn : xs.length = n) (hs : SlC w a n cap xs) (hn2 : n ≤ 1048576) (hm : ys.length = n2) (ht : SlC w b n2 cap2 ys) (hm2 : n2 ≤ 1048576) (r : Option (List Int)) (hr : r = meetRes true xs ys) :
    Calls Try.prog 7 #[.slice a n cap, .slice b n2 cap2] w fun e w' => RetL w r e w' := by
  by_cases h12 : GoodP xs ∧ GoodP ys
  · have C1 := hide (l4Both_any a xs n cap b ys n2 cap2 w hn hs.sl hn2 hm ht.sl hm2 true (iff_of_true rfl h12))
    have hl1 := h12.1.1
    have hl2 := h12.2.1
    have C3 := hide (those_true a xs n cap b ys n2 cap2 w hn hs.sl hn2 hm ht.sl hm2)
    have h1 := h12.1
    have h2 := h12.2
    clear h12
    have hr' : r = some (those ys true xs) := by rw [hr]; unfold meetRes; rw [if_pos ⟨h1, h2⟩]
    have HR := hide hr'
    clear hn hs hm ht h1 h2 hr hr'
    go_enter Try.func7, Try.ntmps7
    go_wp2_with fail
    refine C1.out.mono ?_
    rintro e w1 ⟨rfl, rfl⟩
    go_wp2_with fail
    refine C3.out.mono ?_
    rintro e w3 ⟨v, rfl, ho, hb⟩
    have HO := hide ho
    have HB := hide hb
    obtain ⟨a5, c5, rfl⟩ := own_shapeT ho
    clear ho hb
    go_wp2
    go_ret2
    exact ⟨_, by rw [HR.out]; rfl, by rw [HR.out]; exact HO.out, HB.out⟩
  · have C1 := hide (l4Both_any a xs n cap b ys n2 cap2 w hn hs.sl hn2 hm ht.sl hm2 false (iff_of_false (by simp) h12))
    have hr' : r = none := by rw [hr]; unfold meetRes; rw [if_neg]; first | exact h12 | exact fun h => h12 h.1
    subst hr'
    clear hn hs hm ht h12 hr
    go_enter Try.func7, Try.ntmps7
    go_wp2_with fail
    refine C1.out.mono ?_
    rintro e w1 ⟨rfl, rfl⟩
    go_wp2
    go_ret2
    exact ret_none (Below.refl _ _)

set_option maxRecDepth 100000 in
set_option maxHeartbeats 2000000 in
theorem specLessPosts_any (a : Option Addr) (xs : List Int) (n cap : Nat) (b : Option Addr) (ys : List Int) (n2 cap2 : Nat) (w : World) (hn : xs.length = n) (hs : SlC w a n cap xs) (hn2 : n ≤ 1048576) (hm : ys.length = n2) (ht : SlC w b n2 cap2 ys) (hm2 : n2 ≤ 1048576) (r : Option (List Int)) (hr : r = meetRes false xs ys) :
    Calls Try.prog 11 #[.slice a n cap, .slice b n2 cap2] w fun e w' => RetL w r e w' := by
  by_cases h12 : GoodP xs ∧ GoodP ys
  · have C1 := hide (l4Both_any a xs n cap b ys n2 cap2 w hn hs.sl hn2 hm ht.sl hm2 true (iff_of_true rfl h12))
    have hl1 := h12.1.1
    have hl2 := h12.2.1
    have C3 := hide (those_false a xs n cap b ys n2 cap2 w hn hs.sl hn2 hm ht.sl hm2)
    have h1 := h12.1
    have h2 := h12.2
    clear h12
    have hr' : r = some (those ys false xs) := by rw [hr]; unfold meetRes; rw [if_pos ⟨h1, h2⟩]
    have HR := hide hr'
    clear hn hs hm ht h1 h2 hr hr'
    go_enter Try.func11, Try.ntmps11
    go_wp2_with fail
    refine C1.out.mono ?_
    rintro e w1 ⟨rfl, rfl⟩
    go_wp2_with fail
    refine C3.out.mono ?_
    rintro e w3 ⟨v, rfl, ho, hb⟩
    have HO := hide ho
    have HB := hide hb
    obtain ⟨a5, c5, rfl⟩ := own_shapeT ho
    clear ho hb
    go_wp2
    go_ret2
    exact ⟨_, by rw [HR.out]; rfl, by rw [HR.out]; exact HO.out, HB.out⟩
  · have C1 := hide (l4Both_any a xs n cap b ys n2 cap2 w hn hs.sl hn2 hm ht.sl hm2 false (iff_of_false (by simp) h12))
    have hr' : r = none := by rw [hr]; unfold meetRes; rw [if_neg]; first | exact h12 | exact fun h => h12 h.1
    subst hr'
    clear hn hs hm ht h12 hr
    go_enter Try.func11, Try.ntmps11
    go_wp2_with fail
    refine C1.out.mono ?_
    rintro e w1 ⟨rfl, rfl⟩
    go_wp2
    go_ret2
    exact ret_none (Below.refl _ _)

set_option maxRecDepth 100000 in
set_option maxHeartbeats 2000000 in
theorem specJoinPosts_any (a : Option Addr) (xs : List Int) (n cap : Nat) (b : Option Addr) (ys : List Int) (n2 cap2 : Nat) (w : World) (hn : xs.length = n) (hs : SlC w a n cap xs) (hn2 : n ≤ 1048576) (hm : ys.length = n2) (ht : SlC w b n2 cap2 ys) (hm2 : n2 ≤ 1048576) (r : Option (List Int)) (hr : r = joinRes xs ys) :
    Calls Try.prog 9 #[.slice a n cap, .slice b n2 cap2] w fun e w' => RetL w r e w' := by
  by_cases h12 : GoodP xs ∧ GoodP ys
  · have C1 := hide (l4Both_any a xs n cap b ys n2 cap2 w hn hs.sl hn2 hm ht.sl hm2 true (iff_of_true rfl h12))
    have hl1 := h12.1.1
    have hl2 := h12.2.1
    have C3 := hide (l4Join_any a xs n cap b ys n2 cap2 w hn hs (by omega) hm ht.sl (by omega))
    have h1 := h12.1
    have h2 := h12.2
    clear h12
    have hjl : (joinL xs ys).length ≤ 120 := by
      have := joinL_len xs ys ys.length
      rw [List.take_length] at this
      omega
    obtain ⟨m, hmm⟩ : ∃ m, m = (joinL xs ys).length := ⟨_, rfl⟩
    rw [← hmm] at hjl
    by_cases h60 : (m : Int) ≤ 60
    · have hr' : r = some (joinL xs ys) := by rw [hr]; unfold joinRes; rw [if_pos ⟨⟨h1, h2⟩, by omega⟩]
      have HR := hide hr'
      have HM := hide hmm.symm
      clear hn hs hm ht h1 h2 hr hr' hmm
      go_enter Try.func9, Try.ntmps9
      go_wp2_with fail
      refine C1.out.mono ?_
      rintro e w1 ⟨rfl, rfl⟩
      go_wp2_with fail
      refine C3.out.mono ?_
      rintro e w3 ⟨v, rfl, ho, hb⟩
      rw [HM.out] at ho
      have HO := hide ho
      have HB := hide hb
      obtain ⟨a5, c5, rfl⟩ := own_shapeT ho
      clear ho hb
      go_wp2
      go_ret2
      exact ⟨_, by rw [HR.out]; rfl, by rw [HR.out]; show World.ownsRow _ _ _ _ _ (joinL xs ys).length _; rw [HM.out]; exact HO.out, HB.out⟩
    · have hr' : r = none := by rw [hr]; unfold joinRes; rw [if_neg (fun h => by have := h.2; omega)]
      have HR := hide hr'
      have HM := hide hmm.symm
      clear hn hs hm ht h1 h2 hr hr' hmm
      go_enter Try.func9, Try.ntmps9
      go_wp2_with fail
      refine C1.out.mono ?_
      rintro e w1 ⟨rfl, rfl⟩
      go_wp2_with fail
      refine C3.out.mono ?_
      rintro e w3 ⟨v, rfl, ho, hb⟩
      rw [HM.out] at ho
      have HO := hide ho
      have HB := hide hb
      obtain ⟨a5, c5, rfl⟩ := own_shapeT ho
      clear ho hb
      go_wp2
      go_ret2
      rw [HR.out]
      exact ret_none HB.out
  · have C1 := hide (l4Both_any a xs n cap b ys n2 cap2 w hn hs.sl hn2 hm ht.sl hm2 false (iff_of_false (by simp) h12))
    have hr' : r = none := by rw [hr]; unfold joinRes; rw [if_neg]; first | exact h12 | exact fun h => h12 h.1
    subst hr'
    clear hn hs hm ht h12 hr
    go_enter Try.func9, Try.ntmps9
    go_wp2_with fail
    refine C1.out.mono ?_
    rintro e w1 ⟨rfl, rfl⟩
    go_wp2
    go_ret2
    exact ret_none (Below.refl _ _)

/-- A place that a call hands back, and whether there is one. -/
def leapVal (r : Option Nat) : Value := .tuple #[.int .i64 ((r.getD 0 : Nat) : Int), .bool r.isSome]

set_option maxRecDepth 100000 in
set_option maxHeartbeats 2000000 in
theorem implLeapFrom_any (a : Option Addr) (xs : List Int) (n cap : Nat) (f x : Int) (w : World) (hn : xs.length = n) (hs : SlC w a n cap xs) (hn2 : n ≤ 1048576) (r : Option Nat) (hr : r = leapRes xs f x) :
    Calls Try.prog 16 #[.slice a n cap, .int .i64 f, .int .i64 x] w fun e w' => e = .returned (leapVal r) ∧ Below w.heap.size w w' := by
  by_cases h1 : GoodP xs
  · have C1 := hide (goodPosts_any a xs n cap w hn hs.sl hn2 true (by simp [h1]))
    by_cases h2 : 0 ≤ f
    · by_cases h3 : f ≤ (n : Int)
      · obtain ⟨g, rfl⟩ : ∃ g : Nat, f = (g : Int) := ⟨f.toNat, by omega⟩
        have C2 := hide (leap_any a xs n cap g x w hn hs.sl hn2 (by omega) hs.le hs.max hs.nil (good_rise h1) _ rfl)
        have hr' : r = some (leap xs g x) := by rw [hr]; unfold leapRes; rw [if_pos ⟨h1, h2, by omega⟩]; simp
        have hln := leap_le xs g x (by omega)
        obtain ⟨m, hmm⟩ : ∃ m, m = leap xs g x := ⟨_, rfl⟩
        rw [← hmm] at hr' C2 hln
        subst hr'
        clear hn hs h1 hr hmm hln
        go_enter Try.func16, Try.ntmps16
        go_wp2_with fail
        refine C1.out.mono ?_
        rintro e w1 ⟨rfl, rfl⟩
        go_wp2_with fail
        refine C2.out.mono ?_
        rintro e w2 ⟨rfl, hb⟩
        go_wp2
        go_ret2
        exact ⟨rfl, hb⟩
      · have hr' : r = none := by rw [hr]; unfold leapRes; rw [if_neg (fun h => h3 (by have := h.2.2; omega))]
        subst hr'
        clear hn hs h1 hr
        go_enter Try.func16, Try.ntmps16
        go_wp2_with fail
        refine C1.out.mono ?_
        rintro e w1 ⟨rfl, rfl⟩
        go_wp2
        go_ret2
        exact ⟨rfl, Below.refl _ _⟩
    · have hr' : r = none := by rw [hr]; unfold leapRes; rw [if_neg (fun h => h2 h.2.1)]
      subst hr'
      clear hn hs h1 hr
      go_enter Try.func16, Try.ntmps16
      go_wp2_with fail
      refine C1.out.mono ?_
      rintro e w1 ⟨rfl, rfl⟩
      go_wp2
      go_ret2
      exact ⟨rfl, Below.refl _ _⟩
  · have C1 := hide (goodPosts_any a xs n cap w hn hs.sl hn2 false (by simp [h1]))
    have hr' : r = none := by rw [hr]; unfold leapRes; rw [if_neg (fun h => h1 h.1)]
    subst hr'
    clear hn hs h1 hr
    go_enter Try.func16, Try.ntmps16
    go_wp2_with fail
    refine C1.out.mono ?_
    rintro e w1 ⟨rfl, rfl⟩
    go_wp2
    go_ret2
    exact ⟨rfl, Below.refl _ _⟩

set_option maxRecDepth 100000 in
set_option maxHeartbeats 2000000 in
theorem specLeapFrom_any (a : Option Addr) (xs : List Int) (n cap : Nat) (f x : Int) (w : World) (hn : xs.length = n) (hs : SlC w a n cap xs) (hn2 : n ≤ 1048576) (r : Option Nat) (hr : r = leapRes xs f x) :
    Calls Try.prog 17 #[.slice a n cap, .int .i64 f, .int .i64 x] w fun e w' => e = .returned (leapVal r) ∧ Below w.heap.size w w' := by
  by_cases h1 : GoodP xs
  · have C1 := hide (specGoodPosts_any a xs n cap w hn hs.sl hn2 true (by simp [h1]))
    by_cases h2 : 0 ≤ f ∧ f ≤ (n : Int)
    · obtain ⟨g, rfl⟩ : ∃ g : Nat, f = (g : Int) := ⟨f.toNat, by omega⟩
      have C2 := hide (fun w => l1In_any (g : Int) 0 (n : Int) w true (iff_of_true rfl h2))
      have hr' : r = some (leap xs g x) := by rw [hr]; unfold leapRes; rw [if_pos ⟨h1, h2.1, by omega⟩]; simp
      have HR := hide hr'
      have HS := hide hs
      have HN := hide hn
      have hgn : g ≤ n := by omega
      clear hn hs h1 hr hr' h2
      go_enter Try.func17, Try.ntmps17
      go_wp2_with fail
      refine C1.out.mono ?_
      rintro e w1 ⟨rfl, rfl⟩
      go_wp2_with fail
      refine (C2.out _).mono ?_
      rintro e w2 ⟨rfl, rfl⟩
      go_wp2
      go_loop [1] (fun i => ∃ k : Nat, g ≤ k ∧ k ≤ n ∧ i = .int .i64 k ∧ Hid (∀ j, g ≤ j → j < k → xs.getD j 0 < x)) (fun i => n - (intOf i).toNat)
      case atStart => exact ⟨g, Nat.le_refl _, hgn, rfl, fun j h1 h2 => absurd h2 (by omega)⟩
      case round =>
        obtain ⟨k, hgk, hk, rfl, HJ⟩ := hrel
        by_cases hlt : k < n
        · obtain ⟨b1, off, rfl, hc⟩ := HS.out.sl k (by rw [HN.out]; exact hlt)
          have hltI : (k : Int) < (n : Int) := by omega
          obtain ⟨y, hy⟩ : ∃ y, y = xs.getD k 0 := ⟨_, rfl⟩
          rw [← hy] at hc
          have HY := hide hy.symm
          clear hy
          by_cases hyx : y < x
          · go_wp2
            go_round
            case rel =>
              refine ⟨k + 1, by omega, by omega, by go_num, ?_⟩
              intro j q1 q2
              by_cases e : j = k
              · subst e; rw [HY.out]; exact hyx
              · exact HJ.out j q1 (by omega)
            case measure => simp [intOf]; omega
          · have hend := leap_at hgk (by rw [HN.out]; exact hk) HJ.out (fun _ => by rw [HY.out]; exact hyx)
            have HE := hide hend
            clear hend
            go_wp2
            go_ret2
            exact ⟨by rw [HR.out, HE.out]; rfl, Below.refl _ _⟩
        · have hltI : ¬ (k : Int) < (n : Int) := by omega
          have hend := leap_at (n := x) hgk (by rw [HN.out]; exact hk) HJ.out (fun h => by rw [HN.out] at h; omega)
          have HE := hide hend
          clear hend
          go_wp2
          go_ret2
          exact ⟨by rw [HR.out, HE.out]; rfl, Below.refl _ _⟩
    · have C2 := hide (fun w => l1In_any f 0 (n : Int) w false (iff_of_false (by simp) h2))
      have hr' : r = none := by rw [hr]; unfold leapRes; rw [if_neg (fun h => h2 (by have := h.2; omega))]
      subst hr'
      clear hn hs h1 hr h2
      go_enter Try.func17, Try.ntmps17
      go_wp2_with fail
      refine C1.out.mono ?_
      rintro e w1 ⟨rfl, rfl⟩
      go_wp2_with fail
      refine (C2.out _).mono ?_
      rintro e w2 ⟨rfl, rfl⟩
      go_wp2
      go_ret2
      exact ⟨rfl, Below.refl _ _⟩
  · have C1 := hide (specGoodPosts_any a xs n cap w hn hs.sl hn2 false (by simp [h1]))
    have hr' : r = none := by rw [hr]; unfold leapRes; rw [if_neg (fun h => h1 h.1)]
    subst hr'
    clear hn hs h1 hr
    go_enter Try.func17, Try.ntmps17
    go_wp2_with fail
    refine C1.out.mono ?_
    rintro e w1 ⟨rfl, rfl⟩
    go_wp2
    go_ret2
    exact ⟨rfl, Below.refl _ _⟩
end Go.Proofs.Ythicdnkngpiccab.L4
