/-
  Contract: spec.l11Clock.
-/
import Derived.Test.YtkfnejiiancmhaiL11JoinL
import Derived.Test.YtkfnejiiancmhaiAllI
namespace Go.Proofs.Ytkfnejiiancmhai.L11
open Go.RowKit L1 Own
set_option linter.unusedVariables false

set_option maxRecDepth 100000 in
set_option maxHeartbeats 4000000 in
theorem l11Clock_any (a : Option Addr) (l : List Int) (n cap : Nat) (w : World) (hn : l.length = n) (hs : Sl w a l) (hn2 : n ≤ 1048576) (b : Bool) (hb : b = true ↔ OkC l) :
    Calls Try.prog 38 #[.slice a n cap] w fun e w' => e = .returned (.bool b) ∧ w = w' := by
  by_cases h : 1 ≤ (n : Int) ∧ (n : Int) ≤ 5
  · have C1 := hide (fun w => l1In_any (n : Int) 1 5 w true (by simp; omega))
    have C2 := hide (l1All_any a l n cap 0 40 w hn hs hn2 b (hb.trans ⟨fun h j hj => h.2.2 j (by omega), fun h2 => ⟨by omega, by omega, fun j hj => h2 j (by omega)⟩⟩))
    clear hb hs hn h
    go_enter Try.func38, Try.ntmps38
    go_wp2_with fail
    refine (C1.out _).mono ?_
    rintro e w1 ⟨rfl, rfl⟩
    go_wp2_with fail
    refine C2.out.mono ?_
    rintro e w1 ⟨rfl, rfl⟩
    go_wp2
    go_ret
    exact ⟨rfl, rfl⟩
  · have C1 := hide (fun w => l1In_any (n : Int) 1 5 w false (by simp; omega))
    have E : Hid (b = false) := by
      cases b with
      | false => rfl
      | true => have h1 := (hb.1 rfl).1; have h2 := (hb.1 rfl).2.1; omega
    clear hb hs hn h
    go_enter Try.func38, Try.ntmps38
    go_wp2_with fail
    refine (C1.out _).mono ?_
    rintro e w1 ⟨rfl, rfl⟩
    go_wp2
    go_ret
    exact ⟨by rw [E.out]; rfl, rfl⟩
end Go.Proofs.Ytkfnejiiancmhai.L11
