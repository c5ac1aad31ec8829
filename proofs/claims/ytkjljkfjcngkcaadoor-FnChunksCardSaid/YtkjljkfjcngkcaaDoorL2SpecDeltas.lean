/-
  Contracts: spec.l2Few, spec.l2Deltas, spec.l2Sums, spec.DeltasOf, spec.SumsOf: of at most 40 numbers in -1000000000000..1000000000000 the differences, or the running sums, in new memory, and true, where all told are in these bounds; else no list and false.
-/
import Derived.Test.YtkjljkfjcngkcaaDoorL2Math
import Derived.Test.YtkjljkfjcngkcaaDoorL1SpecAll
import Derived.Test.YtkjljkfjcngkcaaDoorL2SpecSums
namespace Go.Proofs.YtkjljkfjcngkcaaDoor.L1
open Go.RowKit
set_option linter.unusedVariables false

set_option maxRecDepth 100000 in
set_option maxHeartbeats 1000000 in
theorem l2Few_yes (a : Option Addr) (xs : List Int) (n cap : Nat) (w : World) (hn : xs.length = n) (hs : Sl w a xs) (hn2 : n ≤ 40) (hok : OkL xs) :
    Calls Tryd.prog 108 #[.slice a n cap] w fun e w' => e = .returned (.bool true) ∧ w = w' := by
  have c := l1All_yes a xs n cap w hn hs (by omega) hok
  have C := hide c
  have h40 : (n : Int) ≤ 40 := by omega
  clear c hs hn hok
  go_enter Tryd.func108, Tryd.ntmps108
  go_wp2_with fail
  refine C.out.mono ?_
  rintro e w1 ⟨rfl, rfl⟩
  go_wp2
  go_ret
  exact ⟨rfl, rfl⟩
set_option maxRecDepth 100000 in
set_option maxHeartbeats 1000000 in
theorem l2Few_no (a : Option Addr) (xs : List Int) (n cap : Nat) (w : World) (hn : xs.length = n) (hs : Sl w a xs) (hn2 : n ≤ 1048576) (hno : ¬ (n ≤ 40 ∧ OkL xs)) :
    Calls Tryd.prog 108 #[.slice a n cap] w fun e w' => e = .returned (.bool false) ∧ w = w' := by
  by_cases h40 : (n : Int) ≤ 40
  · have c := l1All_no a xs n cap w hn hs (by omega) (fun h => hno ⟨by omega, h⟩)
    have C := hide c
    clear c hs hn hno
    go_enter Tryd.func108, Tryd.ntmps108
    go_wp2_with fail
    refine C.out.mono ?_
    rintro e w1 ⟨rfl, rfl⟩
    go_wp2
    go_ret
    exact ⟨rfl, rfl⟩
  · clear hs hn hno
    go_enter Tryd.func108, Tryd.ntmps108
    go_wp2
    go_ret
    exact ⟨rfl, rfl⟩

theorem SdRes_some {xs : List Int} (h40 : xs.length ≤ 40) (h : OkL xs) (hd : OkL (dl 0 xs)) : dRes xs = some (dl 0 xs) := by
  unfold dRes; rw [if_pos ⟨h40, h, hd⟩]
theorem SdRes_none {xs : List Int} (h : ¬ (xs.length ≤ 40 ∧ OkL xs ∧ OkL (dl 0 xs))) : dRes xs = none := by
  unfold dRes; rw [if_neg h]

set_option maxRecDepth 100000 in
set_option maxHeartbeats 1000000 in
theorem specDeltas_any (a : Option Addr) (xs : List Int) (n cap : Nat) (w : World) (hn : xs.length = n) (hs : Sl w a xs) (hn2 : n ≤ 1048576) :
    Calls Tryd.prog 47 #[.slice a n cap] w fun e w' => RetL w (dRes xs) e w' := by
  by_cases hok : n ≤ 40 ∧ OkL xs
  · have c1 := l2Few_yes a xs n cap w hn hs hok.1 hok.2
    have c2 := l2Deltas_any a xs n cap w hn hs hok.1 (dl_bd40 hn hok.2)
    have C1 := hide c1
    have C2 := hide c2
    have hl : (dl 0 xs).length = n := by rw [dl_len, hn]
    by_cases hd : OkL (dl 0 xs)
    · have e := SdRes_some (by omega) hok.2 hd
      have C3 := hide (fun a cap w hs => l2Few_yes a (dl 0 xs) n cap w hl hs hok.1 hd)
      have E := hide e
      have HL := hide hl
      clear c1 c2 hok hs hn e hd hl
      go_enter Tryd.func47, Tryd.ntmps47
      go_wp2_with fail
      refine C1.out.mono ?_
      rintro e w1 ⟨rfl, rfl⟩
      go_wp2_with fail
      refine C2.out.mono ?_
      rintro e w1 ⟨v, rfl, ho, hb1⟩
      obtain ⟨va, vcap, rfl, hsl, _⟩ := own_form ho
      have HO := hide ho
      have HS := hide hsl
      clear ho hsl
      go_wp2_with fail
      refine (C3.out _ _ _ HS.out).mono ?_
      rintro e w2 ⟨rfl, rfl⟩
      go_wp2
      go_ret2
      exact ⟨_, by rw [E.out]; rfl, by rw [E.out]; simp only [Option.getD_some]; rw [HL.out]; exact HO.out, hb1⟩
    · have e := SdRes_none (xs := xs) (fun h => hd h.2.2)
      have C3 := hide (fun a cap w hs => l2Few_no a (dl 0 xs) n cap w hl hs (by omega) (fun h => hd h.2))
      have E := hide e
      clear c1 c2 hok hs hn e hd hl
      go_enter Tryd.func47, Tryd.ntmps47
      go_wp2_with fail
      refine C1.out.mono ?_
      rintro e w1 ⟨rfl, rfl⟩
      go_wp2_with fail
      refine C2.out.mono ?_
      rintro e w1 ⟨v, rfl, ho, hb1⟩
      obtain ⟨va, vcap, rfl, hsl, _⟩ := own_form ho
      have HS := hide hsl
      clear ho hsl
      go_wp2_with fail
      refine (C3.out _ _ _ HS.out).mono ?_
      rintro e w2 ⟨rfl, rfl⟩
      go_wp2
      go_ret2
      exact ⟨_, by rw [E.out]; rfl, by rw [E.out]; exact World.ownsRow_nil _ _ _ _, hb1⟩
  · have c1 := l2Few_no a xs n cap w hn hs hn2 hok
    have e := SdRes_none (xs := xs) (by rw [hn]; exact fun h => hok ⟨h.1, h.2.1⟩)
    have C1 := hide c1
    have E := hide e
    clear c1 hok hs hn e
    go_enter Tryd.func47, Tryd.ntmps47
    go_wp2_with fail
    refine C1.out.mono ?_
    rintro e w1 ⟨rfl, rfl⟩
    go_wp2
    go_ret2
    exact ⟨_, by rw [E.out]; rfl, by rw [E.out]; exact World.ownsRow_nil _ _ _ _, Below.refl _ _⟩

theorem SsRes_some {xs : List Int} (h40 : xs.length ≤ 40) (h : OkL xs) (hd : OkL (sm 0 xs)) : sRes xs = some (sm 0 xs) := by
  unfold sRes; rw [if_pos ⟨h40, h, hd⟩]
theorem SsRes_none {xs : List Int} (h : ¬ (xs.length ≤ 40 ∧ OkL xs ∧ OkL (sm 0 xs))) : sRes xs = none := by
  unfold sRes; rw [if_neg h]

set_option maxRecDepth 100000 in
set_option maxHeartbeats 1000000 in
theorem specSums_any (a : Option Addr) (xs : List Int) (n cap : Nat) (w : World) (hn : xs.length = n) (hs : Sl w a xs) (hn2 : n ≤ 1048576) :
    Calls Tryd.prog 49 #[.slice a n cap] w fun e w' => RetL w (sRes xs) e w' := by
  by_cases hok : n ≤ 40 ∧ OkL xs
  · have c1 := l2Few_yes a xs n cap w hn hs hok.1 hok.2
    have c2 := l2Sums_any a xs n cap w hn hs hok.1 (sm_bd40 hn hok.1 hok.2)
    have C1 := hide c1
    have C2 := hide c2
    have hl : (sm 0 xs).length = n := by rw [sm_len, hn]
    by_cases hd : OkL (sm 0 xs)
    · have e := SsRes_some (by omega) hok.2 hd
      have C3 := hide (fun a cap w hs => l2Few_yes a (sm 0 xs) n cap w hl hs hok.1 hd)
      have E := hide e
      have HL := hide hl
      clear c1 c2 hok hs hn e hd hl
      go_enter Tryd.func49, Tryd.ntmps49
      go_wp2_with fail
      refine C1.out.mono ?_
      rintro e w1 ⟨rfl, rfl⟩
      go_wp2_with fail
      refine C2.out.mono ?_
      rintro e w1 ⟨v, rfl, ho, hb1⟩
      obtain ⟨va, vcap, rfl, hsl, _⟩ := own_form ho
      have HO := hide ho
      have HS := hide hsl
      clear ho hsl
      go_wp2_with fail
      refine (C3.out _ _ _ HS.out).mono ?_
      rintro e w2 ⟨rfl, rfl⟩
      go_wp2
      go_ret2
      exact ⟨_, by rw [E.out]; rfl, by rw [E.out]; simp only [Option.getD_some]; rw [HL.out]; exact HO.out, hb1⟩
    · have e := SsRes_none (xs := xs) (fun h => hd h.2.2)
      have C3 := hide (fun a cap w hs => l2Few_no a (sm 0 xs) n cap w hl hs (by omega) (fun h => hd h.2))
      have E := hide e
      clear c1 c2 hok hs hn e hd hl
      go_enter Tryd.func49, Tryd.ntmps49
      go_wp2_with fail
      refine C1.out.mono ?_
      rintro e w1 ⟨rfl, rfl⟩
      go_wp2_with fail
      refine C2.out.mono ?_
      rintro e w1 ⟨v, rfl, ho, hb1⟩
      obtain ⟨va, vcap, rfl, hsl, _⟩ := own_form ho
      have HS := hide hsl
      clear ho hsl
      go_wp2_with fail
      refine (C3.out _ _ _ HS.out).mono ?_
      rintro e w2 ⟨rfl, rfl⟩
      go_wp2
      go_ret2
      exact ⟨_, by rw [E.out]; rfl, by rw [E.out]; exact World.ownsRow_nil _ _ _ _, hb1⟩
  · have c1 := l2Few_no a xs n cap w hn hs hn2 hok
    have e := SsRes_none (xs := xs) (by rw [hn]; exact fun h => hok ⟨h.1, h.2.1⟩)
    have C1 := hide c1
    have E := hide e
    clear c1 hok hs hn e
    go_enter Tryd.func49, Tryd.ntmps49
    go_wp2_with fail
    refine C1.out.mono ?_
    rintro e w1 ⟨rfl, rfl⟩
    go_wp2
    go_ret2
    exact ⟨_, by rw [E.out]; rfl, by rw [E.out]; exact World.ownsRow_nil _ _ _ _, Below.refl _ _⟩
end Go.Proofs.YtkjljkfjcngkcaaDoor.L1
