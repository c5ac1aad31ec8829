/-
  Contract: spec.CameFirst.
-/
import Derived.Test.YtkfnejiiancmhahL11First
import Derived.Test.YtkfnejiiancmhahL11Came
import Derived.Test.YtkfnejiiancmhahL11SGood
namespace Go.Proofs.Ytkfnejiiancmhah.L11
open Go.RowKit L1 Own L4
set_option linter.unusedVariables false

set_option maxRecDepth 100000 in
set_option maxHeartbeats 4000000 in
theorem specCame_any (N : Int) (a : Option Addr) (l : List (Int × Int)) (n cap : Nat) (A B : Int) (w : World) (hn : l.length = n) (hs : Sl2 w a l) (hn2 : n ≤ 1048576) (hN : N ≤ 9223372036854775807) (c r : Bool) (hc : c = true ↔ CFok N l A B) (hr : r = true ↔ CFok N l A B ∧ Anc l A.toNat B.toNat) :
    Calls Try.prog 20 #[.int .i64 N, .slice a n cap, .int .i64 A, .int .i64 B] w fun e w' => e = .returned (.tuple #[.bool r, .bool c]) ∧ Below w.heap.size w w' := by
  have hrc : c = false → r = false := fun e => by
    subst e
    cases r with
    | false => rfl
    | true => exact absurd (hc.2 (hr.1 rfl).1) (by simp)
  by_cases hg : GoodV N l
  case neg =>
    have CG := hide (fun w hs => specGoodEvents_any N a l n cap w hn hs hn2 hN false (by simp [hg]))
    obtain rfl : c = false := by
      cases c with
      | false => rfl
      | true => exact absurd (hc.1 rfl) (fun h => hg h.1)
    obtain rfl := hrc rfl
    have HS := hide hs
    clear hg hc hr hrc hs hn
    go_enter Try.func20, Try.ntmps20
    go_wp2_with fail
    refine (CG.out _ HS.out).mono ?_
    rintro e w1 ⟨rfl, hb1⟩
    have B1 := hide hb1
    clear hb1
    go_wp2
    go_ret2
    exact ⟨rfl, B1.out⟩
  have CG := hide (fun w hs => specGoodEvents_any N a l n cap w hn hs hn2 hN true (by simp [hg]))
  by_cases hA0 : A < 0
  case pos =>
    obtain rfl : c = false := by
      cases c with
      | false => rfl
      | true => exact absurd (hc.1 rfl) (fun h => by have := h.2.1.1; omega)
    obtain rfl := hrc rfl
    have HS := hide hs
    clear hg hc hr hrc hs hn
    go_enter Try.func20, Try.ntmps20
    go_wp2_with fail
    refine (CG.out _ HS.out).mono ?_
    rintro e w1 ⟨rfl, hb1⟩
    have B1 := hide hb1
    clear hb1
    go_wp2
    go_ret2
    exact ⟨rfl, B1.out⟩
  by_cases hA1 : (n : Int) ≤ A
  case pos =>
    obtain rfl : c = false := by
      cases c with
      | false => rfl
      | true => exact absurd (hc.1 rfl) (fun h => by have := h.2.1.2; omega)
    obtain rfl := hrc rfl
    have HS := hide hs
    clear hg hc hr hrc hs hn
    go_enter Try.func20, Try.ntmps20
    go_wp2_with fail
    refine (CG.out _ HS.out).mono ?_
    rintro e w1 ⟨rfl, hb1⟩
    have B1 := hide hb1
    clear hb1
    go_wp2
    go_ret2
    exact ⟨rfl, B1.out⟩
  by_cases hB0 : B < 0
  case pos =>
    obtain rfl : c = false := by
      cases c with
      | false => rfl
      | true => exact absurd (hc.1 rfl) (fun h => by have := h.2.2.1; omega)
    obtain rfl := hrc rfl
    have HS := hide hs
    clear hg hc hr hrc hs hn
    go_enter Try.func20, Try.ntmps20
    go_wp2_with fail
    refine (CG.out _ HS.out).mono ?_
    rintro e w1 ⟨rfl, hb1⟩
    have B1 := hide hb1
    clear hb1
    go_wp2
    go_ret2
    exact ⟨rfl, B1.out⟩
  by_cases hB1 : (n : Int) ≤ B
  case pos =>
    obtain rfl : c = false := by
      cases c with
      | false => rfl
      | true => exact absurd (hc.1 rfl) (fun h => by have := h.2.2.2; omega)
    obtain rfl := hrc rfl
    have HS := hide hs
    clear hg hc hr hrc hs hn
    go_enter Try.func20, Try.ntmps20
    go_wp2_with fail
    refine (CG.out _ HS.out).mono ?_
    rintro e w1 ⟨rfl, hb1⟩
    have B1 := hide hb1
    clear hb1
    go_wp2
    go_ret2
    exact ⟨rfl, B1.out⟩
  obtain ⟨An, hAn⟩ : ∃ An : Nat, A = (An : Int) := ⟨A.toNat, by omega⟩
  obtain ⟨Bn, hBn⟩ : ∃ Bn : Nat, B = (Bn : Int) := ⟨B.toNat, by omega⟩
  subst hAn
  subst hBn
  have hok : CFok N l An Bn := ⟨hg, by omega, by omega⟩
  obtain rfl : c = true := hc.2 hok
  obtain ⟨lb, lo, rfl, _, _⟩ := hs Bn (by omega)
  have CF := hide (fun w hs => l11First_any N lb lo l n cap Bn w hn hs (by omega) hg)
  have hr2 : r = true ↔ Anc l An Bn := hr.trans ⟨fun h => h.2, fun h => ⟨hok, h⟩⟩
  have HR := hide hr2
  have HS := hide hs
  clear hg hc hr hrc hs hn hok hr2
  go_enter Try.func20, Try.ntmps20
  go_wp2_with fail
  refine (CG.out _ HS.out).mono ?_
  rintro e w1 ⟨rfl, hb1⟩
  have B1 := hide hb1
  clear hb1
  go_wp2_with fail
  refine (CF.out _ (HS.out.below B1.out)).mono ?_
  rintro e w3 ⟨v, rfl, xs, ho, hmem, _, hl40, hb3⟩
  have B3 := hide (B1.out.trans (hb3.mono B1.out.size))
  obtain ⟨oa, ocap, rfl, hso⟩ := ownL_form ho
  have CH := hide (fun w hs => l1Has_any oa xs xs.length ocap (An : Int) w rfl hs (by omega) r (HR.out.trans (hmem An).symm))
  have HSO := hide hso
  clear ho hb3 hso hmem CF CG B1
  obtain ⟨xn, hxn⟩ : ∃ xn, xn = xs.length := ⟨_, rfl⟩
  rw [← hxn] at CH hl40 ⊢
  clear hxn
  go_wp2_with fail
  refine (CH.out _ HSO.out).mono ?_
  rintro e w4 ⟨rfl, hb4⟩
  have B4 := hide (B3.out.trans (hb4.mono B3.out.size))
  clear hb4
  go_wp2
  go_ret2
  exact ⟨rfl, B4.out⟩
end Go.Proofs.Ytkfnejiiancmhah.L11
