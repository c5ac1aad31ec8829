/-
  Contract: impl.betweenBraces: the text within braces, and true, where there are braces; else some text and false.
-/
import Derived.Test.YthagpceagifjnaaDoorL3ReadMath
import Derived.Test.YthagpceagifjnaaDoorL3Index
namespace Go.Proofs.YthagpceagifjnaaDoor.L3
open Go.RowKit L1
set_option linter.unusedVariables false

theorem pre1 (l : List UInt8) (c : UInt8) : Lib.hasPrefix l [c] = true ↔ l[0]? = some c := by
  cases l with
  | nil => simp [Lib.hasPrefix, List.isPrefixOf]
  | cons b l =>
    simp only [Lib.hasPrefix, List.isPrefixOf, Bool.and_true, beq_iff_eq, List.getElem?_cons_zero, Option.some.injEq]
    exact ⟨fun h => h.symm, fun h => h.symm⟩
theorem suf1 (l : List UInt8) (c : UInt8) : Lib.hasSuffix l [c] = true ↔ l[l.length - 1]? = some c := by
  unfold Lib.hasSuffix
  rw [List.isSuffixOf_iff_suffix, ← List.getLast?_eq_getElem?, List.getLast?_eq_some_iff]
  constructor
  · rintro ⟨t, rfl⟩; exact ⟨t, rfl⟩
  · rintro ⟨t, rfl⟩; exact ⟨t, rfl⟩
theorem br_iff (s : ByteArray) : Br s ↔ Lib.hasPrefix s.data.toList [123] = true ∧ Lib.hasSuffix (s.extract 1 s.size).data.toList [125] = true := by
  have hz : (s.extract 1 s.size).data.toList.length = s.size - 1 := by rw [← Lib.size_eq, ByteArray.size_extract]; omega
  rw [pre1, suf1, ext_at, hz]
  constructor
  · rintro ⟨h2, ha, hb⟩
    refine ⟨ha, ?_⟩
    rw [show 1 + (s.size - 1 - 1) = s.size - 1 by omega]; exact hb
  · rintro ⟨ha, hb⟩
    have hl := (List.getElem?_eq_some_iff.1 hb).1
    rw [← Lib.size_eq] at hl
    have h2 : 2 ≤ s.size := by omega
    refine ⟨h2, ha, ?_⟩
    rw [show 1 + (s.size - 1 - 1) = s.size - 1 by omega] at hb; exact hb
set_option maxRecDepth 100000 in
set_option maxHeartbeats 1000000 in
theorem between_yes (s : ByteArray) (w : World) (hs : s.size ≤ 1048576) (hb : Br s) :
    Calls Tryd.prog 118 #[.string s] w fun e w' => e = .returned (.tuple #[.string (inr s), .bool true]) ∧ w' = w := by
  obtain ⟨h1, h2⟩ := (br_iff s).1 hb
  have C1 := cutPrefix_yes s ⟨#[123]⟩ w ((Lib.hasPrefix_raw s ⟨#[123]⟩).trans h1)
  have C2 := cutSuffix_yes (s.extract 1 s.size) ⟨#[125]⟩ w ((Lib.hasSuffix_raw (s.extract 1 s.size) ⟨#[125]⟩).trans h2) (by rw [ByteArray.size_extract]; omega)
  have e1 : (s.extract 1 s.size).extract 0 ((s.extract 1 s.size).size - (⟨#[125]⟩ : ByteArray).size) = inr s := by
    have : (⟨#[125]⟩ : ByteArray).size = 1 := rfl
    rw [this, ByteArray.extract_extract, ByteArray.size_extract]
    unfold inr
    have := hb.1
    congr 1
    omega
  rw [e1] at C2
  have H1 : Hid (Calls Tryd.prog 141 #[.string s, .string ⟨#[123]⟩] w fun e w' => e = .returned (.tuple #[.string (s.extract 1 s.size), .bool true]) ∧ w' = w) := hide C1
  have H2 := hide C2
  clear C1 C2 e1 h1 h2 hb
  go_enter Tryd.func118, Tryd.ntmps118
  go_wp2_with fail
  refine H1.out.mono ?_
  rintro e w' ⟨rfl, rfl⟩
  go_wp2_with fail
  refine H2.out.mono ?_
  rintro e w' ⟨rfl, rfl⟩
  go_wp2
  go_ret2
  exact ⟨rfl, rfl⟩
set_option maxRecDepth 100000 in
set_option maxHeartbeats 1000000 in
theorem between_no (s : ByteArray) (w : World) (hs : s.size ≤ 1048576) (hb : ¬ Br s) :
    Calls Tryd.prog 118 #[.string s] w fun e w' => (∃ x, e = .returned (.tuple #[.string x, .bool false])) ∧ w' = w := by
  by_cases h1 : Lib.hasPrefix s.data.toList [123] = true
  · have h2 : Lib.hasSuffix (s.extract 1 s.size).data.toList [125] = false := by
      cases h : Lib.hasSuffix (s.extract 1 s.size).data.toList [125] with
      | false => rfl
      | true => exact absurd ((br_iff s).2 ⟨h1, h⟩) hb
    have C1 := cutPrefix_yes s ⟨#[123]⟩ w ((Lib.hasPrefix_raw s ⟨#[123]⟩).trans h1)
    have H2 := hide (cutSuffix_no (s.extract 1 s.size) ⟨#[125]⟩ w ((Lib.hasSuffix_raw (s.extract 1 s.size) ⟨#[125]⟩).trans h2) (by rw [ByteArray.size_extract]; omega))
    have H1 : Hid (Calls Tryd.prog 141 #[.string s, .string ⟨#[123]⟩] w fun e w' => e = .returned (.tuple #[.string (s.extract 1 s.size), .bool true]) ∧ w' = w) := hide C1
    clear C1 h1 h2 hb
    go_enter Tryd.func118, Tryd.ntmps118
    go_wp2_with fail
    refine H1.out.mono ?_
    rintro e w' ⟨rfl, rfl⟩
    go_wp2_with fail
    refine H2.out.mono ?_
    rintro e w' ⟨rfl, rfl⟩
    go_wp2
    go_ret2
    exact ⟨⟨_, rfl⟩, rfl⟩
  · have H1 := hide (cutPrefix_no s ⟨#[123]⟩ w ((Lib.hasPrefix_raw s ⟨#[123]⟩).trans (by simpa using h1)))
    clear h1 hb
    go_enter Tryd.func118, Tryd.ntmps118
    go_wp2_with fail
    refine H1.out.mono ?_
    rintro e w' ⟨rfl, rfl⟩
    go_wp2
    go_ret2
    exact ⟨⟨_, rfl⟩, rfl⟩
end Go.Proofs.YthagpceagifjnaaDoor.L3
