/-
  Contracts: impl.PlaceIn, spec.PlaceIn.
-/
import Derived.Test.YtfmfnlpajoikmanL15Place
namespace Go.Proofs.Ytfmfnlpajoikman.L15
open Go.RowKit L1
set_option linter.unusedVariables false

set_option maxRecDepth 100000 in
set_option maxHeartbeats 1000000 in
theorem implPlaceIn_any (r : Int) (s : ByteArray) (w : World) (hs : s.size ≤ 9223372036854775807) (p : Int) (ok : Bool) (hok : ok = true ↔ (0 ≤ r ∧ r ≤ 2) ∧ L3.Word false s) (hp : p = if ok then plc r s else 0) :
    Calls Try.prog 21 #[.int .i64 r, .string s] w fun e w' => e = .returned (.tuple #[.int .i64 p, .bool ok]) ∧ Below w.heap.size w w' := by
  by_cases hr : 0 ≤ r ∧ r ≤ 2
  · have C1 := hide (fun wx => L3.isName_any s wx hs ok ⟨fun h => (hok.1 h).2, fun h => hok.2 ⟨hr, h⟩⟩)
    have C2 := hide (fun wx => hashOfRow_any r wx hr)
    have C3 := hide (fun wx => placeOf_any r s wx hr hs (plc r s) rfl)
    obtain ⟨q, hq⟩ : ∃ q, q = plc r s := ⟨_, rfl⟩
    rw [← hq] at hp C3
    obtain ⟨r0, r2⟩ := hr
    have r0' : ¬ r < 0 := by omega
    have r2' : ¬ r ≥ 3 := by omega
    clear hok hs hq
    cases ok with
    | true =>
      obtain rfl : p = q := hp
      go_enter Try.func21, Try.ntmps21
      go_wp2_with fail
      refine (C1.out _).mono ?_
      rintro e w1 ⟨rfl, hb1⟩
      have B1 := hide hb1
      clear hb1
      go_wp2_with fail
      refine (C2.out _).mono ?_
      rintro e w2 ⟨rfl, hb2⟩
      have B2 := hide (B1.out.trans (hb2.mono B1.out.size))
      clear hb2
      go_wp2_with fail
      refine (C3.out _).mono ?_
      rintro e w3 ⟨rfl, hb3⟩
      have B3 := hide (B2.out.trans (hb3.mono B2.out.size))
      clear hb3
      go_wp2
      go_ret2
      exact ⟨rfl, B3.out⟩
    | false =>
      obtain rfl : p = 0 := hp
      go_enter Try.func21, Try.ntmps21
      go_wp2_with fail
      refine (C1.out _).mono ?_
      rintro e w1 ⟨rfl, hb1⟩
      have B1 := hide hb1
      clear hb1
      go_wp2
      go_ret2
      exact ⟨rfl, B1.out⟩
  · have hf : ok = false := by
      cases ok with
      | true => exact absurd (hok.1 rfl).1 hr
      | false => rfl
    subst hf
    obtain rfl : p = 0 := hp
    clear hok
    by_cases r0 : r < 0
    · go_enter Try.func21, Try.ntmps21
      go_wp2
      go_ret2
      exact ⟨rfl, Below.refl _ _⟩
    · have r3 : r ≥ 3 := by omega
      go_enter Try.func21, Try.ntmps21
      go_wp2
      go_ret2
      exact ⟨rfl, Below.refl _ _⟩
set_option maxRecDepth 100000 in
set_option maxHeartbeats 1000000 in
theorem specPlaceIn_any (r : Int) (s : ByteArray) (w : World) (hs : s.size ≤ 9223372036854775807) (p : Int) (ok : Bool) (hok : ok = true ↔ (0 ≤ r ∧ r ≤ 2) ∧ L3.Word false s) (hp : p = if ok then plc r s else 0) :
    Calls Try.prog 20 #[.int .i64 r, .string s] w fun e w' => e = .returned (.tuple #[.int .i64 p, .bool ok]) ∧ w = w' := by
  by_cases hr : 0 ≤ r ∧ r ≤ 2
  · have C0 := hide (fun wx => Own.l1In_any r 0 2 wx true ⟨fun _ => hr, fun _ => rfl⟩)
    have C1 := hide (fun wx => L3.l3Name_any s false wx hs ok ⟨fun h => (hok.1 h).2, fun h => hok.2 ⟨hr, h⟩⟩)
    have C3 := hide (fun wx => l15Place_any r s wx hr hs (plc r s) rfl)
    obtain ⟨q, hq⟩ : ∃ q, q = plc r s := ⟨_, rfl⟩
    rw [← hq] at hp C3
    clear hok hs hq hr
    cases ok with
    | true =>
      obtain rfl : p = q := hp
      go_enter Try.func20, Try.ntmps20
      go_wp2_with fail
      refine (C0.out _).mono ?_
      rintro e w1 ⟨rfl, rfl⟩
      go_wp2_with fail
      refine (C1.out _).mono ?_
      rintro e w1 ⟨rfl, rfl⟩
      go_wp2_with fail
      refine (C3.out _).mono ?_
      rintro e w1 ⟨rfl, rfl⟩
      go_wp2
      go_ret2
      exact ⟨rfl, rfl⟩
    | false =>
      obtain rfl : p = 0 := hp
      go_enter Try.func20, Try.ntmps20
      go_wp2_with fail
      refine (C0.out _).mono ?_
      rintro e w1 ⟨rfl, rfl⟩
      go_wp2_with fail
      refine (C1.out _).mono ?_
      rintro e w1 ⟨rfl, rfl⟩
      go_wp2
      go_ret2
      exact ⟨rfl, rfl⟩
  · have hf : ok = false := by
      cases ok with
      | true => exact absurd (hok.1 rfl).1 hr
      | false => rfl
    subst hf
    obtain rfl : p = 0 := hp
    have C0 := hide (fun wx => Own.l1In_any r 0 2 wx false ⟨fun h => (by cases h), fun h => absurd h hr⟩)
    clear hok hr
    go_enter Try.func20, Try.ntmps20
    go_wp2_with fail
    refine (C0.out _).mono ?_
    rintro e w1 ⟨rfl, rfl⟩
    go_wp2
    go_ret2
    exact ⟨rfl, rfl⟩
end Go.Proofs.Ytfmfnlpajoikman.L15
