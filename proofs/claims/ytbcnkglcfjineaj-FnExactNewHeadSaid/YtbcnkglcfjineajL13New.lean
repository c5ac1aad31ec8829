/-
  Contracts: impl.NewHead, spec.NewHead.
-/
import Derived.Test.YtbcnkglcfjineajL13Off
namespace Go.Proofs.Ytbcnkglcfjineaj.L13
open Go.RowKit L1
set_option linter.unusedVariables false

theorem rh_nil {w w' : World} (hb : Below w.heap.size w w') : RH w w' (.slice none 0 0) [] :=
  ⟨⟨[], rfl, rfl, World.ownsRow_nil _ _ _ _, fun i hi => absurd hi (Nat.not_lt_zero _), fun i j _ hj => absurd hj (Nat.not_lt_zero _)⟩, hb⟩
set_option maxRecDepth 100000 in
set_option maxHeartbeats 1000000 in
theorem implNewHead_any (x : Int) (w : World) (o : Int) (ok : Bool) (hok : ok = true ↔ 0 ≤ x ∧ x ≤ 1000) (ho : o = if ok then x else 0) :
    Calls Try.prog 21 #[.int .i64 x] w fun e w' => ∃ v, e = .returned (.tuple #[.agg #[v, .int .i64 o], .bool ok]) ∧ RH w w' v [] := by
  have C := hide (fun w => isOffset_any x w ok hok)
  have HB := hide (rh_nil ((Below.refl w.heap.size w).alloc (Nat.le_refl _) (hdO (.slice none 0 0) o)))
  clear hok
  cases ok with
  | true =>
    obtain rfl : o = x := ho
    go_enter Try.func21, Try.ntmps21
    go_wp2_with fail
    refine (C.out _).mono ?_
    rintro e w1 ⟨rfl, rfl⟩
    go_wp2
    refine bodyPost_ret (v := .tuple #[.agg #[.slice none 0 0, .int .i64 o], .bool true]) (by simp [results, Try.f21, go_sem]) rfl ⟨_, rfl, HB.out⟩
  | false =>
    obtain rfl : o = 0 := ho
    go_enter Try.func21, Try.ntmps21
    go_wp2_with fail
    refine (C.out _).mono ?_
    rintro e w1 ⟨rfl, rfl⟩
    go_wp2
    refine bodyPost_ret (v := .tuple #[.agg #[.slice none 0 0, .int .i64 0], .bool false]) (by simp [results, Try.f21, go_sem]) rfl ⟨_, rfl, HB.out⟩
set_option maxRecDepth 100000 in
set_option maxHeartbeats 1000000 in
theorem specNewHead_any (x : Int) (w : World) (o : Int) (ok : Bool) (hok : ok = true ↔ 0 ≤ x ∧ x ≤ 1000) (ho : o = if ok then x else 0) :
    Calls Try.prog 20 #[.int .i64 x] w fun e w' => ∃ v, e = .returned (.tuple #[.agg #[v, .int .i64 o], .bool ok]) ∧ RH w w' v [] := by
  have C := hide (fun w => Own.l1In_any x 0 1000 w ok hok)
  have HB := hide (rh_nil ((Below.refl w.heap.size w).alloc (Nat.le_refl _) (hdO (.slice none 0 0) o)))
  clear hok
  cases ok with
  | true =>
    obtain rfl : o = x := ho
    go_enter Try.func20, Try.ntmps20
    go_wp2_with fail
    refine (C.out _).mono ?_
    rintro e w1 ⟨rfl, rfl⟩
    go_wp2
    refine bodyPost_ret (v := .tuple #[.agg #[.slice none 0 0, .int .i64 o], .bool true]) (by simp [results, Try.f20, go_sem]) rfl ⟨_, rfl, HB.out⟩
  | false =>
    obtain rfl : o = 0 := ho
    go_enter Try.func20, Try.ntmps20
    go_wp2_with fail
    refine (C.out _).mono ?_
    rintro e w1 ⟨rfl, rfl⟩
    go_wp2
    refine bodyPost_ret (v := .tuple #[.agg #[.slice none 0 0, .int .i64 0], .bool false]) (by simp [results, Try.f20, go_sem]) rfl ⟨_, rfl, HB.out⟩
end Go.Proofs.Ytbcnkglcfjineaj.L13
