/-
  Shapes as the program holds them: interface values, no memory. What becomes of one, what each assertion says of each.
  Contracts: impl.textOf, spec.l5Text: the text of a shape.
  A list of parts that grows, in memory of the call's own; parts in a box. Nothing of the program's text is proved here but closed facts on its types.
  What is read is no greater than what was read off; what reading a form is to answer.
  What is written is read, and what is read was written: the whole of a form's text. Nothing of the program's text is proved here.
  Contract: spec.l5Flat: the parts of a tree behind others.
  Contracts: (*spec.l1Cur).of, (*spec.l1Cur).formOf: some text of a list, some tree of so many levels.
  Contract: (*spec.l1Cur).formOf: some tree of so many levels.
-/
import Derived.Test.YtapffbbmofhpoabBundle2
import Derived.Deep.RegionHeld3
import Derived.Laws.Runes
import Derived.Maps.AppendAt
import Derived.Lib.Builder
import Derived.RegionTactic
import Derived.Test.YtapffbbmofhpoabBundle1
namespace Go.Proofs.Ytapffbbmofhpoab.L5
open Go.RowKit L1 L4
set_option linter.unusedVariables false

def tid : Sh → TypeId
  | .none => 175
  | .empty => 162
  | .letter _ => 170
  | .any => 173
  | .seq _ _ => 166
  | .alt _ _ => 167
  | .many _ => 164
  | .inv _ => 168
def inn : Sh → Value
  | .letter c => .agg #[.int .u8 c]
  | .seq a b => .agg #[.iface (tid a) (inn a), .iface (tid b) (inn b)]
  | .alt a b => .agg #[.iface (tid a) (inn a), .iface (tid b) (inn b)]
  | .many a => .agg #[.iface (tid a) (inn a)]
  | .inv a => .agg #[.iface (tid a) (inn a)]
  | _ => .agg #[]
/-- A shape as a value. -/
abbrev sv (x : Sh) : Value := .iface (tid x) (inn x)
theorem mk_noText (x : Value) (w : World) : (Instr.makeInterface 175 x).run Try.prog w = .ok (.iface 175 x) w := run_makeInterface w 175 x (by kernel_rfl)
theorem mk_emptyText (x : Value) (w : World) : (Instr.makeInterface 162 x).run Try.prog w = .ok (.iface 162 x) w := run_makeInterface w 162 x (by kernel_rfl)
theorem mk_oneLetter (x : Value) (w : World) : (Instr.makeInterface 170 x).run Try.prog w = .ok (.iface 170 x) w := run_makeInterface w 170 x (by kernel_rfl)
theorem mk_anyLetter (x : Value) (w : World) : (Instr.makeInterface 173 x).run Try.prog w = .ok (.iface 173 x) w := run_makeInterface w 173 x (by kernel_rfl)
theorem mk_thenShape (x : Value) (w : World) : (Instr.makeInterface 166 x).run Try.prog w = .ok (.iface 166 x) w := run_makeInterface w 166 x (by kernel_rfl)
theorem mk_eitherShape (x : Value) (w : World) : (Instr.makeInterface 167 x).run Try.prog w = .ok (.iface 167 x) w := run_makeInterface w 167 x (by kernel_rfl)
theorem mk_manyShape (x : Value) (w : World) : (Instr.makeInterface 164 x).run Try.prog w = .ok (.iface 164 x) w := run_makeInterface w 164 x (by kernel_rfl)
theorem mk_notShape (x : Value) (w : World) : (Instr.makeInterface 168 x).run Try.prog w = .ok (.iface 168 x) w := run_makeInterface w 168 x (by kernel_rfl)
theorem as_noText_noText (v : Value) (w : World) : (Instr.typeAssert (.iface 175 v) 107 175 true).run Try.prog w = .ok (.tuple #[v, .bool true]) w := by kernel_rfl
theorem as_noText_emptyText (v : Value) (w : World) : (Instr.typeAssert (.iface 175 v) 107 162 true).run Try.prog w = .ok (.tuple #[.agg #[], .bool false]) w := by kernel_rfl
theorem as_noText_oneLetter (v : Value) (w : World) : (Instr.typeAssert (.iface 175 v) 107 170 true).run Try.prog w = .ok (.tuple #[.agg #[.int .u8 0], .bool false]) w := by kernel_rfl
theorem as_noText_anyLetter (v : Value) (w : World) : (Instr.typeAssert (.iface 175 v) 107 173 true).run Try.prog w = .ok (.tuple #[.agg #[], .bool false]) w := by kernel_rfl
theorem as_noText_thenShape (v : Value) (w : World) : (Instr.typeAssert (.iface 175 v) 107 166 true).run Try.prog w = .ok (.tuple #[.agg #[.nilIface, .nilIface], .bool false]) w := by kernel_rfl
theorem as_noText_eitherShape (v : Value) (w : World) : (Instr.typeAssert (.iface 175 v) 107 167 true).run Try.prog w = .ok (.tuple #[.agg #[.nilIface, .nilIface], .bool false]) w := by kernel_rfl
theorem as_noText_manyShape (v : Value) (w : World) : (Instr.typeAssert (.iface 175 v) 107 164 true).run Try.prog w = .ok (.tuple #[.agg #[.nilIface], .bool false]) w := by kernel_rfl
theorem as_noText_notShape (v : Value) (w : World) : (Instr.typeAssert (.iface 175 v) 107 168 true).run Try.prog w = .ok (.tuple #[.agg #[.nilIface], .bool false]) w := by kernel_rfl
theorem as_emptyText_noText (v : Value) (w : World) : (Instr.typeAssert (.iface 162 v) 107 175 true).run Try.prog w = .ok (.tuple #[.agg #[], .bool false]) w := by kernel_rfl
theorem as_emptyText_emptyText (v : Value) (w : World) : (Instr.typeAssert (.iface 162 v) 107 162 true).run Try.prog w = .ok (.tuple #[v, .bool true]) w := by kernel_rfl
theorem as_emptyText_oneLetter (v : Value) (w : World) : (Instr.typeAssert (.iface 162 v) 107 170 true).run Try.prog w = .ok (.tuple #[.agg #[.int .u8 0], .bool false]) w := by kernel_rfl
theorem as_emptyText_anyLetter (v : Value) (w : World) : (Instr.typeAssert (.iface 162 v) 107 173 true).run Try.prog w = .ok (.tuple #[.agg #[], .bool false]) w := by kernel_rfl
theorem as_emptyText_thenShape (v : Value) (w : World) : (Instr.typeAssert (.iface 162 v) 107 166 true).run Try.prog w = .ok (.tuple #[.agg #[.nilIface, .nilIface], .bool false]) w := by kernel_rfl
theorem as_emptyText_eitherShape (v : Value) (w : World) : (Instr.typeAssert (.iface 162 v) 107 167 true).run Try.prog w = .ok (.tuple #[.agg #[.nilIface, .nilIface], .bool false]) w := by kernel_rfl
theorem as_emptyText_manyShape (v : Value) (w : World) : (Instr.typeAssert (.iface 162 v) 107 164 true).run Try.prog w = .ok (.tuple #[.agg #[.nilIface], .bool false]) w := by kernel_rfl
theorem as_emptyText_notShape (v : Value) (w : World) : (Instr.typeAssert (.iface 162 v) 107 168 true).run Try.prog w = .ok (.tuple #[.agg #[.nilIface], .bool false]) w := by kernel_rfl
theorem as_oneLetter_noText (v : Value) (w : World) : (Instr.typeAssert (.iface 170 v) 107 175 true).run Try.prog w = .ok (.tuple #[.agg #[], .bool false]) w := by kernel_rfl
theorem as_oneLetter_emptyText (v : Value) (w : World) : (Instr.typeAssert (.iface 170 v) 107 162 true).run Try.prog w = .ok (.tuple #[.agg #[], .bool false]) w := by kernel_rfl
theorem as_oneLetter_oneLetter (v : Value) (w : World) : (Instr.typeAssert (.iface 170 v) 107 170 true).run Try.prog w = .ok (.tuple #[v, .bool true]) w := by kernel_rfl
theorem as_oneLetter_anyLetter (v : Value) (w : World) : (Instr.typeAssert (.iface 170 v) 107 173 true).run Try.prog w = .ok (.tuple #[.agg #[], .bool false]) w := by kernel_rfl
theorem as_oneLetter_thenShape (v : Value) (w : World) : (Instr.typeAssert (.iface 170 v) 107 166 true).run Try.prog w = .ok (.tuple #[.agg #[.nilIface, .nilIface], .bool false]) w := by kernel_rfl
theorem as_oneLetter_eitherShape (v : Value) (w : World) : (Instr.typeAssert (.iface 170 v) 107 167 true).run Try.prog w = .ok (.tuple #[.agg #[.nilIface, .nilIface], .bool false]) w := by kernel_rfl
theorem as_oneLetter_manyShape (v : Value) (w : World) : (Instr.typeAssert (.iface 170 v) 107 164 true).run Try.prog w = .ok (.tuple #[.agg #[.nilIface], .bool false]) w := by kernel_rfl
theorem as_oneLetter_notShape (v : Value) (w : World) : (Instr.typeAssert (.iface 170 v) 107 168 true).run Try.prog w = .ok (.tuple #[.agg #[.nilIface], .bool false]) w := by kernel_rfl
theorem as_anyLetter_noText (v : Value) (w : World) : (Instr.typeAssert (.iface 173 v) 107 175 true).run Try.prog w = .ok (.tuple #[.agg #[], .bool false]) w := by kernel_rfl
theorem as_anyLetter_emptyText (v : Value) (w : World) : (Instr.typeAssert (.iface 173 v) 107 162 true).run Try.prog w = .ok (.tuple #[.agg #[], .bool false]) w := by kernel_rfl
theorem as_anyLetter_oneLetter (v : Value) (w : World) : (Instr.typeAssert (.iface 173 v) 107 170 true).run Try.prog w = .ok (.tuple #[.agg #[.int .u8 0], .bool false]) w := by kernel_rfl
theorem as_anyLetter_anyLetter (v : Value) (w : World) : (Instr.typeAssert (.iface 173 v) 107 173 true).run Try.prog w = .ok (.tuple #[v, .bool true]) w := by kernel_rfl
theorem as_anyLetter_thenShape (v : Value) (w : World) : (Instr.typeAssert (.iface 173 v) 107 166 true).run Try.prog w = .ok (.tuple #[.agg #[.nilIface, .nilIface], .bool false]) w := by kernel_rfl
theorem as_anyLetter_eitherShape (v : Value) (w : World) : (Instr.typeAssert (.iface 173 v) 107 167 true).run Try.prog w = .ok (.tuple #[.agg #[.nilIface, .nilIface], .bool false]) w := by kernel_rfl
theorem as_anyLetter_manyShape (v : Value) (w : World) : (Instr.typeAssert (.iface 173 v) 107 164 true).run Try.prog w = .ok (.tuple #[.agg #[.nilIface], .bool false]) w := by kernel_rfl
theorem as_anyLetter_notShape (v : Value) (w : World) : (Instr.typeAssert (.iface 173 v) 107 168 true).run Try.prog w = .ok (.tuple #[.agg #[.nilIface], .bool false]) w := by kernel_rfl
theorem as_thenShape_noText (v : Value) (w : World) : (Instr.typeAssert (.iface 166 v) 107 175 true).run Try.prog w = .ok (.tuple #[.agg #[], .bool false]) w := by kernel_rfl
theorem as_thenShape_emptyText (v : Value) (w : World) : (Instr.typeAssert (.iface 166 v) 107 162 true).run Try.prog w = .ok (.tuple #[.agg #[], .bool false]) w := by kernel_rfl
theorem as_thenShape_oneLetter (v : Value) (w : World) : (Instr.typeAssert (.iface 166 v) 107 170 true).run Try.prog w = .ok (.tuple #[.agg #[.int .u8 0], .bool false]) w := by kernel_rfl
theorem as_thenShape_anyLetter (v : Value) (w : World) : (Instr.typeAssert (.iface 166 v) 107 173 true).run Try.prog w = .ok (.tuple #[.agg #[], .bool false]) w := by kernel_rfl
theorem as_thenShape_thenShape (v : Value) (w : World) : (Instr.typeAssert (.iface 166 v) 107 166 true).run Try.prog w = .ok (.tuple #[v, .bool true]) w := by kernel_rfl
theorem as_thenShape_eitherShape (v : Value) (w : World) : (Instr.typeAssert (.iface 166 v) 107 167 true).run Try.prog w = .ok (.tuple #[.agg #[.nilIface, .nilIface], .bool false]) w := by kernel_rfl
theorem as_thenShape_manyShape (v : Value) (w : World) : (Instr.typeAssert (.iface 166 v) 107 164 true).run Try.prog w = .ok (.tuple #[.agg #[.nilIface], .bool false]) w := by kernel_rfl
theorem as_thenShape_notShape (v : Value) (w : World) : (Instr.typeAssert (.iface 166 v) 107 168 true).run Try.prog w = .ok (.tuple #[.agg #[.nilIface], .bool false]) w := by kernel_rfl
theorem as_eitherShape_noText (v : Value) (w : World) : (Instr.typeAssert (.iface 167 v) 107 175 true).run Try.prog w = .ok (.tuple #[.agg #[], .bool false]) w := by kernel_rfl
theorem as_eitherShape_emptyText (v : Value) (w : World) : (Instr.typeAssert (.iface 167 v) 107 162 true).run Try.prog w = .ok (.tuple #[.agg #[], .bool false]) w := by kernel_rfl
theorem as_eitherShape_oneLetter (v : Value) (w : World) : (Instr.typeAssert (.iface 167 v) 107 170 true).run Try.prog w = .ok (.tuple #[.agg #[.int .u8 0], .bool false]) w := by kernel_rfl
theorem as_eitherShape_anyLetter (v : Value) (w : World) : (Instr.typeAssert (.iface 167 v) 107 173 true).run Try.prog w = .ok (.tuple #[.agg #[], .bool false]) w := by kernel_rfl
theorem as_eitherShape_thenShape (v : Value) (w : World) : (Instr.typeAssert (.iface 167 v) 107 166 true).run Try.prog w = .ok (.tuple #[.agg #[.nilIface, .nilIface], .bool false]) w := by kernel_rfl
theorem as_eitherShape_eitherShape (v : Value) (w : World) : (Instr.typeAssert (.iface 167 v) 107 167 true).run Try.prog w = .ok (.tuple #[v, .bool true]) w := by kernel_rfl
theorem as_eitherShape_manyShape (v : Value) (w : World) : (Instr.typeAssert (.iface 167 v) 107 164 true).run Try.prog w = .ok (.tuple #[.agg #[.nilIface], .bool false]) w := by kernel_rfl
theorem as_eitherShape_notShape (v : Value) (w : World) : (Instr.typeAssert (.iface 167 v) 107 168 true).run Try.prog w = .ok (.tuple #[.agg #[.nilIface], .bool false]) w := by kernel_rfl
theorem as_manyShape_noText (v : Value) (w : World) : (Instr.typeAssert (.iface 164 v) 107 175 true).run Try.prog w = .ok (.tuple #[.agg #[], .bool false]) w := by kernel_rfl
theorem as_manyShape_emptyText (v : Value) (w : World) : (Instr.typeAssert (.iface 164 v) 107 162 true).run Try.prog w = .ok (.tuple #[.agg #[], .bool false]) w := by kernel_rfl
theorem as_manyShape_oneLetter (v : Value) (w : World) : (Instr.typeAssert (.iface 164 v) 107 170 true).run Try.prog w = .ok (.tuple #[.agg #[.int .u8 0], .bool false]) w := by kernel_rfl
theorem as_manyShape_anyLetter (v : Value) (w : World) : (Instr.typeAssert (.iface 164 v) 107 173 true).run Try.prog w = .ok (.tuple #[.agg #[], .bool false]) w := by kernel_rfl
theorem as_manyShape_thenShape (v : Value) (w : World) : (Instr.typeAssert (.iface 164 v) 107 166 true).run Try.prog w = .ok (.tuple #[.agg #[.nilIface, .nilIface], .bool false]) w := by kernel_rfl
theorem as_manyShape_eitherShape (v : Value) (w : World) : (Instr.typeAssert (.iface 164 v) 107 167 true).run Try.prog w = .ok (.tuple #[.agg #[.nilIface, .nilIface], .bool false]) w := by kernel_rfl
theorem as_manyShape_manyShape (v : Value) (w : World) : (Instr.typeAssert (.iface 164 v) 107 164 true).run Try.prog w = .ok (.tuple #[v, .bool true]) w := by kernel_rfl
theorem as_manyShape_notShape (v : Value) (w : World) : (Instr.typeAssert (.iface 164 v) 107 168 true).run Try.prog w = .ok (.tuple #[.agg #[.nilIface], .bool false]) w := by kernel_rfl
theorem as_notShape_noText (v : Value) (w : World) : (Instr.typeAssert (.iface 168 v) 107 175 true).run Try.prog w = .ok (.tuple #[.agg #[], .bool false]) w := by kernel_rfl
theorem as_notShape_emptyText (v : Value) (w : World) : (Instr.typeAssert (.iface 168 v) 107 162 true).run Try.prog w = .ok (.tuple #[.agg #[], .bool false]) w := by kernel_rfl
theorem as_notShape_oneLetter (v : Value) (w : World) : (Instr.typeAssert (.iface 168 v) 107 170 true).run Try.prog w = .ok (.tuple #[.agg #[.int .u8 0], .bool false]) w := by kernel_rfl
theorem as_notShape_anyLetter (v : Value) (w : World) : (Instr.typeAssert (.iface 168 v) 107 173 true).run Try.prog w = .ok (.tuple #[.agg #[], .bool false]) w := by kernel_rfl
theorem as_notShape_thenShape (v : Value) (w : World) : (Instr.typeAssert (.iface 168 v) 107 166 true).run Try.prog w = .ok (.tuple #[.agg #[.nilIface, .nilIface], .bool false]) w := by kernel_rfl
theorem as_notShape_eitherShape (v : Value) (w : World) : (Instr.typeAssert (.iface 168 v) 107 167 true).run Try.prog w = .ok (.tuple #[.agg #[.nilIface, .nilIface], .bool false]) w := by kernel_rfl
theorem as_notShape_manyShape (v : Value) (w : World) : (Instr.typeAssert (.iface 168 v) 107 164 true).run Try.prog w = .ok (.tuple #[.agg #[.nilIface], .bool false]) w := by kernel_rfl
theorem as_notShape_notShape (v : Value) (w : World) : (Instr.typeAssert (.iface 168 v) 107 168 true).run Try.prog w = .ok (.tuple #[v, .bool true]) w := by kernel_rfl
end Go.Proofs.Ytapffbbmofhpoab.L5

namespace Go.Proofs.Ytapffbbmofhpoab.L5
open Go.RowKit L1 L4
set_option linter.unusedVariables false
attribute [local go_sem] mk_noText mk_emptyText mk_oneLetter mk_anyLetter mk_thenShape mk_eitherShape mk_manyShape mk_notShape as_noText_noText as_noText_emptyText as_noText_oneLetter as_noText_anyLetter as_noText_thenShape as_noText_eitherShape as_noText_manyShape as_noText_notShape as_emptyText_noText as_emptyText_emptyText as_emptyText_oneLetter as_emptyText_anyLetter as_emptyText_thenShape as_emptyText_eitherShape as_emptyText_manyShape as_emptyText_notShape as_oneLetter_noText as_oneLetter_emptyText as_oneLetter_oneLetter as_oneLetter_anyLetter as_oneLetter_thenShape as_oneLetter_eitherShape as_oneLetter_manyShape as_oneLetter_notShape as_anyLetter_noText as_anyLetter_emptyText as_anyLetter_oneLetter as_anyLetter_anyLetter as_anyLetter_thenShape as_anyLetter_eitherShape as_anyLetter_manyShape as_anyLetter_notShape as_thenShape_noText as_thenShape_emptyText as_thenShape_oneLetter as_thenShape_anyLetter as_thenShape_thenShape as_thenShape_eitherShape as_thenShape_manyShape as_thenShape_notShape as_eitherShape_noText as_eitherShape_emptyText as_eitherShape_oneLetter as_eitherShape_anyLetter as_eitherShape_thenShape as_eitherShape_eitherShape as_eitherShape_manyShape as_eitherShape_notShape as_manyShape_noText as_manyShape_emptyText as_manyShape_oneLetter as_manyShape_anyLetter as_manyShape_thenShape as_manyShape_eitherShape as_manyShape_manyShape as_manyShape_notShape as_notShape_noText as_notShape_emptyText as_notShape_oneLetter as_notShape_anyLetter as_notShape_thenShape as_notShape_eitherShape as_notShape_manyShape as_notShape_notShape
/-- The text of a shape. -/
def tx : Sh → ByteArray
  | .none => ⟨#[33]⟩
  | .empty => ⟨#[37]⟩
  | .letter c => one c
  | .any => ⟨#[46]⟩
  | .seq a b => ((⟨#[40]⟩ : ByteArray) ++ tx a ++ tx b) ++ (⟨#[41]⟩ : ByteArray)
  | .alt a b => (((⟨#[91]⟩ : ByteArray) ++ tx a) ++ (⟨#[124]⟩ : ByteArray) ++ tx b) ++ (⟨#[93]⟩ : ByteArray)
  | .many a => tx a ++ (⟨#[42]⟩ : ByteArray)
  | .inv a => tx a ++ (⟨#[94]⟩ : ByteArray)
theorem tx_size : ∀ x, (tx x).size ≤ 3 * sz x
  | .none => by simp [tx, sz]; decide
  | .empty => by simp [tx, sz]; decide
  | .letter c => by simp [tx, sz, one_size]
  | .any => by simp [tx, sz]; decide
  | .seq a b => by
    have h1 := tx_size a
    have h2 := tx_size b
    have e1 : (⟨#[40]⟩ : ByteArray).size = 1 := rfl
    have e2 : (⟨#[41]⟩ : ByteArray).size = 1 := rfl
    simp only [tx, sz, ByteArray.size_append, e1, e2]
    omega
  | .alt a b => by
    have h1 := tx_size a
    have h2 := tx_size b
    have e1 : (⟨#[91]⟩ : ByteArray).size = 1 := rfl
    have e2 : (⟨#[93]⟩ : ByteArray).size = 1 := rfl
    have e3 : (⟨#[124]⟩ : ByteArray).size = 1 := rfl
    simp only [tx, sz, ByteArray.size_append, e1, e2, e3]
    omega
  | .many a => by
    have h1 := tx_size a
    have e1 : (⟨#[42]⟩ : ByteArray).size = 1 := rfl
    simp only [tx, sz, ByteArray.size_append, e1]
    omega
  | .inv a => by
    have h1 := tx_size a
    have e1 : (⟨#[94]⟩ : ByteArray).size = 1 := rfl
    simp only [tx, sz, ByteArray.size_append, e1]
    omega
theorem one_sz (c : UInt8) : (⟨#[c]⟩ : ByteArray).size = 1 := rfl
theorem ret_str {a b : ByteArray} (h : a = b) : Ending.returned (.string a) = .returned (.string b) := by rw [h]
theorem keep1T {wa wb : World} {B1 O1 N : Nat} {v1 v2 : Value} {B2 O2 : Nat} {W : World} (h : (wa.cell? ⟨B1, O1, none⟩ = some v1 ∧ wa.cell? ⟨B2, O2, none⟩ = some v2) ∧ Below N W wa) (hb : Below wa.heap.size wa wb) (hN : N ≤ W.heap.size) :
    (wb.cell? ⟨B1, O1, none⟩ = some v1 ∧ wb.cell? ⟨B2, O2, none⟩ = some v2) ∧ Below N W wb :=
  ⟨⟨(hb.cell (p := ⟨B1, O1, none⟩) (blk_lt h.1.1)).trans h.1.1, (hb.cell (p := ⟨B2, O2, none⟩) (blk_lt h.1.2)).trans h.1.2⟩, h.2.trans (hb.mono (Nat.le_trans hN h.2.size))⟩
theorem enc_letter {c : Int} (h : 97 ≤ c ∧ c ≤ 122) : Utf8.encode c = one c := by
  have hv : Utf8.valid c = true := by unfold Utf8.valid; simp; omega
  unfold Utf8.encode one strOfNums
  rw [if_pos hv]
  simp only
  rw [if_pos (by omega)]
  rfl
set_option maxRecDepth 100000 in
set_option maxHeartbeats 8000000 in
theorem textOf_any : ∀ (x : Sh) (w : World), okS x → sz x ≤ 1000000 → Calls Try.prog 102 #[sv x] w fun e w' => e = .returned (.string (tx x)) ∧ Below w.heap.size w w'
  | .none, w, _, _ => by
    show Calls Try.prog 102 #[.iface 175 (.agg #[])] w _
    go_enter Try.func102, Try.ntmps102
    go_wp2
    go_ret
    exact ⟨rfl, Below.refl _ _⟩
  | .empty, w, _, _ => by
    show Calls Try.prog 102 #[.iface 162 (.agg #[])] w _
    go_enter Try.func102, Try.ntmps102
    go_wp2
    go_ret
    exact ⟨rfl, (Below.refl _ _).alloc (Nat.le_refl _) _⟩
  | .any, w, _, _ => by
    show Calls Try.prog 102 #[.iface 173 (.agg #[])] w _
    go_enter Try.func102, Try.ntmps102
    go_wp2
    go_ret
    exact ⟨rfl, (Below.refl _ _).alloc (Nat.le_refl _) _⟩
  | .letter c, w, hc, _ => by
    show Calls Try.prog 102 #[.iface 170 (.agg #[.int .u8 c])] w _
    have HE := hide (enc_letter hc)
    obtain ⟨h1, h2⟩ := hc
    go_enter Try.func102, Try.ntmps102
    go_wp2
    go_ret
    exact ⟨ret_str HE.out, (Below.refl _ _).alloc (Nat.le_refl _) _⟩
  | .seq a b, w, hok, hsz => by
    simp only [sz] at hsz
    have IA := hide (fun w => textOf_any a w hok.1 (by omega))
    have IB := hide (fun w => textOf_any b w hok.2 (by omega))
    have ha := tx_size a
    have hb := tx_size b
    show Calls Try.prog 102 #[.iface 166 (.agg #[sv a, sv b])] w _
    obtain ⟨W, hW⟩ : ∃ W, W = w.alloc (.cells #[sv a, sv b] 166) := ⟨_, rfl⟩
    have HB0 : Hid (Below w.heap.size w W) := hide (by rw [hW]; exact (Below.refl _ _).alloc (Nat.le_refl _) _)
    have c0 : W.cell? ⟨w.heap.size, 0, none⟩ = some (sv a) := by rw [hW]; simp
    have c1 : W.cell? ⟨w.heap.size, 1, none⟩ = some (sv b) := by rw [hW]; simp
    obtain ⟨A, hA⟩ : ∃ A, A = tx a := ⟨_, rfl⟩
    obtain ⟨B, hB⟩ : ∃ B, B = tx b := ⟨_, rfl⟩
    have HR : Hid (tx (.seq a b) = ((⟨#[40]⟩ : ByteArray) ++ A ++ B) ++ (⟨#[41]⟩ : ByteArray)) := hide (by rw [hA, hB]; rfl)
    simp only [← hA] at IA ha
    simp only [← hB] at IB hb
    have ha2 : (A.size : Int) ≤ 3000000 := by omega
    have hb2 : (B.size : Int) ≤ 3000000 := by omega
    rw [HR.out]
    have q0 : ∀ w : World, (Op.stringOp .add (⟨#[40]⟩ : ByteArray) (A)).run Try.prog w = .ok (.string ((⟨#[40]⟩ : ByteArray) ++ (A))) w := fun w => run_string_add_sum w _ _ (by simp only [one_sz]; omega)
    have q1 : ∀ w : World, (Op.stringOp .add ((⟨#[40]⟩ : ByteArray) ++ (A)) (B)).run Try.prog w = .ok (.string (((⟨#[40]⟩ : ByteArray) ++ (A)) ++ (B))) w := fun w => run_string_add_sum w _ _ (by simp only [ByteArray.size_append, one_sz]; omega)
    have q2 : ∀ w : World, (Op.stringOp .add (((⟨#[40]⟩ : ByteArray) ++ (A)) ++ (B)) (⟨#[41]⟩ : ByteArray)).run Try.prog w = .ok (.string ((((⟨#[40]⟩ : ByteArray) ++ (A)) ++ (B)) ++ (⟨#[41]⟩ : ByteArray))) w := fun w => run_string_add_sum w _ _ (by simp only [ByteArray.size_append, one_sz]; omega)
    clear hA hB ha hb hok hsz HR
    go_enter Try.func102, Try.ntmps102
    go_wp2
    rw [← hW]
    clear hW
    go_region_held3 (fun wx => (wx.cell? ⟨w.heap.size, 0, none⟩ = some (sv a) ∧ wx.cell? ⟨w.heap.size, 1, none⟩ = some (sv b)) ∧ Below W.heap.size W wx) (first | exact ⟨⟨c0, c1⟩, (Below.refl _ _).drew⟩ | exact keep1T (by assumption) (by assumption) (Nat.le_refl _)) (first | (go_at_call_of 102 (sv a); refine (IA.out _).mono ?_; rintro e w1 ⟨rfl, hb⟩) | (go_at_call_of 102 (sv b); refine (IB.out _).mono ?_; rintro e w1 ⟨rfl, hb⟩))
    rename_i hHeld
    have B1 := hide (HB0.out.trans (hHeld.2.mono HB0.out.size))
    clear hHeld
    go_wp2
    go_ret
    exact ⟨rfl, B1.out⟩
  | .alt a b, w, hok, hsz => by
    simp only [sz] at hsz
    have IA := hide (fun w => textOf_any a w hok.1 (by omega))
    have IB := hide (fun w => textOf_any b w hok.2 (by omega))
    have ha := tx_size a
    have hb := tx_size b
    show Calls Try.prog 102 #[.iface 167 (.agg #[sv a, sv b])] w _
    obtain ⟨W, hW⟩ : ∃ W, W = w.alloc (.cells #[sv a, sv b] 167) := ⟨_, rfl⟩
    have HB0 : Hid (Below w.heap.size w W) := hide (by rw [hW]; exact (Below.refl _ _).alloc (Nat.le_refl _) _)
    have c0 : W.cell? ⟨w.heap.size, 0, none⟩ = some (sv a) := by rw [hW]; simp
    have c1 : W.cell? ⟨w.heap.size, 1, none⟩ = some (sv b) := by rw [hW]; simp
    obtain ⟨A, hA⟩ : ∃ A, A = tx a := ⟨_, rfl⟩
    obtain ⟨B, hB⟩ : ∃ B, B = tx b := ⟨_, rfl⟩
    have HR : Hid (tx (.alt a b) = (((⟨#[91]⟩ : ByteArray) ++ A) ++ (⟨#[124]⟩ : ByteArray) ++ B) ++ (⟨#[93]⟩ : ByteArray)) := hide (by rw [hA, hB]; rfl)
    simp only [← hA] at IA ha
    simp only [← hB] at IB hb
    have ha2 : (A.size : Int) ≤ 3000000 := by omega
    have hb2 : (B.size : Int) ≤ 3000000 := by omega
    rw [HR.out]
    have q0 : ∀ w : World, (Op.stringOp .add (⟨#[91]⟩ : ByteArray) (A)).run Try.prog w = .ok (.string ((⟨#[91]⟩ : ByteArray) ++ (A))) w := fun w => run_string_add_sum w _ _ (by simp only [one_sz]; omega)
    have q1 : ∀ w : World, (Op.stringOp .add ((⟨#[91]⟩ : ByteArray) ++ (A)) (⟨#[124]⟩ : ByteArray)).run Try.prog w = .ok (.string (((⟨#[91]⟩ : ByteArray) ++ (A)) ++ (⟨#[124]⟩ : ByteArray))) w := fun w => run_string_add_sum w _ _ (by simp only [ByteArray.size_append, one_sz]; omega)
    have q2 : ∀ w : World, (Op.stringOp .add (((⟨#[91]⟩ : ByteArray) ++ (A)) ++ (⟨#[124]⟩ : ByteArray)) (B)).run Try.prog w = .ok (.string ((((⟨#[91]⟩ : ByteArray) ++ (A)) ++ (⟨#[124]⟩ : ByteArray)) ++ (B))) w := fun w => run_string_add_sum w _ _ (by simp only [ByteArray.size_append, one_sz]; omega)
    have q3 : ∀ w : World, (Op.stringOp .add ((((⟨#[91]⟩ : ByteArray) ++ (A)) ++ (⟨#[124]⟩ : ByteArray)) ++ (B)) (⟨#[93]⟩ : ByteArray)).run Try.prog w = .ok (.string (((((⟨#[91]⟩ : ByteArray) ++ (A)) ++ (⟨#[124]⟩ : ByteArray)) ++ (B)) ++ (⟨#[93]⟩ : ByteArray))) w := fun w => run_string_add_sum w _ _ (by simp only [ByteArray.size_append, one_sz]; omega)
    clear hA hB ha hb hok hsz HR
    go_enter Try.func102, Try.ntmps102
    go_wp2
    rw [← hW]
    clear hW
    go_region_held3 (fun wx => (wx.cell? ⟨w.heap.size, 0, none⟩ = some (sv a) ∧ wx.cell? ⟨w.heap.size, 1, none⟩ = some (sv b)) ∧ Below W.heap.size W wx) (first | exact ⟨⟨c0, c1⟩, (Below.refl _ _).drew⟩ | exact keep1T (by assumption) (by assumption) (Nat.le_refl _)) (first | (go_at_call_of 102 (sv a); refine (IA.out _).mono ?_; rintro e w1 ⟨rfl, hb⟩) | (go_at_call_of 102 (sv b); refine (IB.out _).mono ?_; rintro e w1 ⟨rfl, hb⟩))
    rename_i hHeld
    have B1 := hide (HB0.out.trans (hHeld.2.mono HB0.out.size))
    clear hHeld
    go_wp2
    go_ret
    exact ⟨rfl, B1.out⟩
  | .many a, w, hok, hsz => by
    simp only [sz] at hsz
    have IA := hide (fun w => textOf_any a w hok (by omega))
    have ha := tx_size a
    show Calls Try.prog 102 #[.iface 164 (.agg #[sv a])] w _
    have HB0 := hide ((Below.refl w.heap.size w).alloc (Nat.le_refl _) (.cells #[sv a] 164))
    have ha2 : ((tx a).size : Int) ≤ 3000000 := by omega
    clear ha hok hsz
    go_enter Try.func102, Try.ntmps102
    go_wp2_with fail
    refine (IA.out _).mono ?_
    rintro e w1 ⟨rfl, hb1⟩
    have B1 := hide (HB0.out.trans (hb1.mono HB0.out.size))
    clear hb1
    go_wp2
    go_ret
    exact ⟨rfl, B1.out⟩
  | .inv a, w, hok, hsz => by
    simp only [sz] at hsz
    have IA := hide (fun w => textOf_any a w hok (by omega))
    have ha := tx_size a
    show Calls Try.prog 102 #[.iface 168 (.agg #[sv a])] w _
    have HB0 := hide ((Below.refl w.heap.size w).alloc (Nat.le_refl _) (.cells #[sv a] 168))
    have ha2 : ((tx a).size : Int) ≤ 3000000 := by omega
    clear ha hok hsz
    go_enter Try.func102, Try.ntmps102
    go_wp2_with fail
    refine (IA.out _).mono ?_
    rintro e w1 ⟨rfl, hb1⟩
    have B1 := hide (HB0.out.trans (hb1.mono HB0.out.size))
    clear hb1
    go_wp2
    go_ret
    exact ⟨rfl, B1.out⟩
end Go.Proofs.Ytapffbbmofhpoab.L5

namespace Go.Proofs.Ytapffbbmofhpoab.L5
open Go.RowKit L1 L4
set_option linter.unusedVariables false

theorem grown_trans {a b c : World} {r s : Option Nat} (h : a.grownBy b r) (k : b.grownBy c s) (hs : ∀ g, s = some g → r = some g ∨ a.heap.size ≤ g) : a.grownBy c r :=
  ⟨k.os.trans h.os, k.tape.trans h.tape, k.output.trans h.output, Nat.le_trans h.size k.size, fun i hi hne => by
    have h1 := h.block i hi hne
    have h2 := k.block i (Nat.lt_of_lt_of_le hi h.size) (fun e => by
      rcases hs i e.symm with h3 | h3
      · exact hne h3.symm
      · omega)
    exact h2.trans h1⟩
theorem grown_below0 {w w' : World} (h : Below w.heap.size w w') (row : Option Nat) : w.grownBy w' row := ⟨h.os, h.tape, h.output, h.size, fun k hk _ => h.block k hk⟩
/-- A part in a box of its own. -/
def PX (w : World) (g : Nat) (p : Pr) : Prop := w.heap[g]? = some (.cells #[.int .i64 p.k, .string p.t, .int .i64 p.a, .int .i64 p.b] 116 (0, 0))
theorem PX.newAt (w : World) (g : Nat) (p : Pr) (hg : w.heap.size = g) : PX (w.alloc (.cells #[.int .i64 p.k, .string p.t, .int .i64 p.a, .int .i64 p.b] 116)) g p := by
  subst hg
  unfold PX
  show (w.heap.push _)[w.heap.size]? = _
  exact Array.getElem?_push_size
theorem PX.lt {w : World} {g : Nat} {p : Pr} (h : PX w g p) : g < w.heap.size := (Array.getElem?_eq_some_iff.1 h).1
theorem PX.at {w : World} {g : Nat} {p : Pr} (h : PX w g p) : AtP w g 0 p := ⟨Lib.cell_of_heap h 0, Lib.cell_of_heap h 1, Lib.cell_of_heap h 2, Lib.cell_of_heap h 3⟩
theorem PX.frozen {w : World} {g : Nat} {p : Pr} (h : PX w g p) (j : Nat) : w.frozen? ⟨g, j, none⟩ = false := Lib.frozen_of_heap h j
theorem PX.below {w w' : World} {g : Nat} {p : Pr} (h : PX w g p) (hb : Below w.heap.size w w') : PX w' g p := (hb.block g h.lt).trans h
theorem PX.grown {w w' : World} {g : Nat} {p : Pr} {r : Option Nat} (h : PX w g p) (hb : w.grownBy w' r) (hne : r ≠ some g) : PX w' g p := (hb.block g h.lt (fun e => hne e.symm)).trans h
theorem PX.setT {w : World} {g : Nat} {p : Pr} (h : PX w g p) (y : ByteArray) : PX (w.setCell ⟨g, 1, none⟩ (.string y)) g { p with t := y } := by
  have h1 := heap_setCell_same w g 1 _ _ (.string y) h
  unfold PX
  rw [h1]
  rfl
theorem PX.setA {w : World} {g : Nat} {p : Pr} (h : PX w g p) (y : Int) : PX (w.setCell ⟨g, 2, none⟩ (.int .i64 y)) g { p with a := y } := by
  have h1 := heap_setCell_same w g 2 _ _ (.int .i64 y) h
  unfold PX
  rw [h1]
  rfl
theorem PX.setB {w : World} {g : Nat} {p : Pr} (h : PX w g p) (y : Int) : PX (w.setCell ⟨g, 3, none⟩ (.int .i64 y)) g { p with b := y } := by
  have h1 := heap_setCell_same w g 3 _ _ (.int .i64 y) h
  unfold PX
  rw [h1]
  rfl
/-- A list of parts of the call's own. -/
abbrev OwP (w : World) (base : Nat) (v : Value) (l : List Pr) : Prop := w.ownsRow base 116 4 v l.length (flatP l)
/-- A list of parts that a call hands back: what it was handed, and more; nothing else has turned. -/
def RetF (w : World) (base : Nat) (v : Value) (l : List Pr) (e : Ending) (w' : World) : Prop :=
  ∃ v', e = .returned v' ∧ OwP w' base v' l ∧ w.grownBy w' v.ownBlock ∧ ∀ g, v'.ownBlock = some g → v.ownBlock = some g ∨ w.heap.size ≤ g
theorem OwP.grown {w w' : World} {base : Nat} {v : Value} {l : List Pr} {r : Option Nat} (h : OwP w base v l) (hg : w.grownBy w' r) (hne : ∀ g, v.ownBlock = some g → r ≠ some g) : OwP w' base v l := by
  refine ⟨h.1, ?_⟩
  rcases h.2 with h0 | ⟨g, cap, cur, hv, hb, hh, rest⟩
  · exact .inl h0
  · refine .inr ⟨g, cap, cur, hv, hb, ?_, rest⟩
    rw [hg.block g (Array.getElem?_eq_some_iff.1 hh).1 (fun e => hne g (by rw [hv]; rfl) e.symm)]
    exact hh
theorem cell_four_newP (w : World) (g : Nat) (hg : w.heap.size = g) (a b c d : Value) (t : TypeId) : ∀ j u, [a, b, c, d][j]? = some u → (w.alloc (.cells #[a, b, c, d] t)).cell? ((⟨g, 0, none⟩ : Addr).add j) = some u := by
  subst hg
  intro j u h
  rw [addr_add]
  match j, h with
  | 0, h => simp at h; subst h; simp
  | 1, h => simp at h; subst h; simp
  | 2, h => simp at h; subst h; simp
  | 3, h => simp at h; subst h; simp
  | j + 4, h => simp at h
theorem four_one (a : Int) (b : ByteArray) (c d : Int) : ∀ u ∈ ([.int .i64 a, .string b, .int .i64 c, .int .i64 d] : List Value), u.oneCell' = true := by
  intro u hu
  simp at hu
  rcases hu with rfl | rfl | rfl | rfl <;> rfl
theorem own_at_lt {w : World} {base n g : Nat} {v : Value} {xs : List Value} (h : w.ownsRow base 116 4 v n xs) (hg : v.ownBlock = some g) : g < w.heap.size := (h.lt g hg).2
theorem grown_set (w : World) (g j : Nat) (u : Value) : w.grownBy (w.setCell ⟨g, j, none⟩ u) (some g) :=
  ⟨rfl, rfl, rfl, by simp [World.setCell], fun k _ hk => Below.heap_setCell w ⟨g, j, none⟩ u k (fun e => hk (by rw [e]))⟩
theorem grown_alloc (w : World) (o : Obj) (r : Option Nat) : w.grownBy (w.alloc o) r := grown_below0 ((Below.refl _ _).alloc (Nat.le_refl _) _) r
/-- The end of such a call: one part more. -/
theorem fin_ret {w w5 w6 : World} {base : Nat} {v v5 v6 : Value} {l' : List Pr} {p : Pr} {o : Obj} (G5 : w.grownBy w5 v.ownBlock) (K5 : ∀ g, v5.ownBlock = some g → v.ownBlock = some g ∨ w.heap.size ≤ g)
    (h6 : w6.ownsRow base 116 4 v6 (l'.length + 1) (flatP l' ++ [.int .i64 p.k, .string p.t, .int .i64 p.a, .int .i64 p.b])) (g6 : (w5.alloc o).grownBy w6 v5.ownBlock) (hat : v6.ownBlock = v5.ownBlock ∨ ∃ q, v6.ownBlock = some q ∧ w5.heap.size ≤ q) :
    RetF w base v (l' ++ [p]) (.returned v6) w6 := by
  have ha : (w5.alloc o).heap.size = w5.heap.size + 1 := by simp
  refine ⟨v6, rfl, ?_, ?_, ?_⟩
  · unfold OwP
    rw [flatP_append, List.length_append]
    exact h6
  · exact grown_trans G5 (grown_trans (grown_alloc w5 o v5.ownBlock) g6 (fun g hg => .inl hg)) K5
  · intro g hg
    have := G5.size
    rcases hat with e | e
    · exact K5 g (by rw [← e]; exact hg)
    · obtain ⟨q, e, hq⟩ := e
      rw [e] at hg
      cases hg
      exact .inr (by omega)
end Go.Proofs.Ytapffbbmofhpoab.L5

namespace Go.Proofs.Ytapffbbmofhpoab.L5
open Go.RowKit L1 L4
set_option linter.unusedVariables false

def SzR (k : Nat) (r : Option Sh × Nat) : Prop := ∀ x, r.1 = some x → k + sz x ≤ r.2
theorem post_sz (s : ByteArray) : ∀ (f : Nat) (x : Sh) (k : Nat), k + sz (post s f x k).1 = (post s f x k).2 + sz x
  | 0, x, k => rfl
  | f + 1, x, k => by
    unfold post
    split
    · have := post_sz s f (.many x) (k + 1)
      simp only [sz] at this ⊢
      omega
    split
    · have := post_sz s f (.inv x) (k + 1)
      simp only [sz] at this ⊢
      omega
    · rfl
theorem two_sz {p : Nat → Option Sh × Nat} {s : ByteArray} (hp : ∀ k, SzR k (p k)) (mid behind : Int) (mk : Sh → Sh → Sh) (hmk : ∀ a b, sz (mk a b) = sz a + sz b + 1) (k : Nat) : SzR k (twoOf p s mid behind mk k) := by
  intro x hx
  unfold twoOf at hx ⊢
  rcases he : p k with ⟨r, k2⟩
  have h1 := hp k
  rw [he] at hx h1
  cases r with
  | none => cases hx
  | some a =>
    have h1 := h1 a rfl
    simp only at hx h1 ⊢
    split at hx
    · cases hx
    · rename_i hm
      rw [if_neg hm]
      have h2 := hp (if mid = 0 then k2 else k2 + 1)
      rcases he2 : p (if mid = 0 then k2 else k2 + 1) with ⟨r2, k4⟩
      rw [he2] at hx h2
      cases r2 with
      | none => cases hx
      | some b =>
        have h2 := h2 b rfl
        simp only at hx h2 ⊢
        split at hx
        · rename_i hq
          rw [if_pos hq]
          cases hx
          rw [hmk]
          have : k2 ≤ (if mid = 0 then k2 else k2 + 1) := by split <;> omega
          simp only
          omega
        · cases hx
theorem first_sz {p : Nat → Option Sh × Nat} {s : ByteArray} (hp : ∀ k, SzR k (p k)) (k : Nat) : SzR k (firstOf p s k) := by
  unfold firstOf
  split
  · intro x hx; cases hx; simp [sz]
  split
  · intro x hx; cases hx; simp [sz]
  split
  · intro x hx; cases hx; simp [sz]
  split
  · intro x hx
    have := two_sz (s := s) hp 0 41 .seq (fun a b => by simp only [sz]) (k + 1) x hx
    omega
  split
  · intro x hx
    have := two_sz (s := s) hp 124 93 .alt (fun a b => by simp only [sz]) (k + 1) x hx
    omega
  split
  · intro x hx; cases hx; simp [sz]
  · intro x hx; cases hx
theorem prs_sz (s : ByteArray) : ∀ (n k : Nat), SzR k (prs s n k)
  | 0, k => fun x hx => by cases hx
  | n + 1, k => by
    intro x hx
    unfold prs at hx ⊢
    have h1 := first_sz (s := s) (prs_sz s n) k
    rcases he : firstOf (prs s n) s k with ⟨r, k1⟩
    rw [he] at hx h1
    cases r with
    | none => cases hx
    | some y =>
      have h1 := h1 y rfl
      simp only [Option.some.injEq] at hx h1
      subst hx
      have := post_sz s (s.size - k1) y k1
      unfold PP
      simp only
      omega
/-- What reading a form is to answer. -/
def readRes (s : ByteArray) : Option (List Pr) × Int :=
  if 120 < s.size then (none, 120) else
  match prs s 61 0 with
  | (none, k) => (none, (k : Int))
  | (some x, k) => if k < s.size then (none, (k : Int)) else if 24 < (flat x []).length then (none, (s.size : Int)) else (some (flat x []), 0)
/-- What reading hands back: parts in new memory, where it stopped, whether there are some. -/
def RetQ (w : World) (r : Option (List Pr) × Int) (e : Ending) (w' : World) : Prop :=
  ∃ v, e = .returned (.tuple #[v, .int .i64 r.2, .bool r.1.isSome]) ∧ OwP w' w.heap.size v (r.1.getD []) ∧ Below w.heap.size w w'
theorem retQ_no {w w' : World} {n : Int} (hb : Below w.heap.size w w') : RetQ w (none, n) (.returned (.tuple #[.slice none 0 0, .int .i64 n, .bool false])) w' := ⟨_, rfl, World.ownsRow_nil _ _ _ _, hb⟩
theorem readRes_len (s : ByteArray) : ((readRes s).1.getD []).length ≤ 24 := by
  unfold readRes
  split
  · simp
  · rcases he : prs s 61 0 with ⟨r, k⟩
    cases r with
    | none => simp
    | some x =>
      simp only
      split
      · simp
      split
      · simp
      · simp only [Option.getD_some]; omega
theorem readRes_at (s : ByteArray) (h : s.size ≤ 1048576) : 0 ≤ (readRes s).2 ∧ (readRes s).2 ≤ 1048576 := by
  unfold readRes
  split
  · exact ⟨by decide, by decide⟩
  · have hin := prs_in s 61 0 (Nat.zero_le _)
    rcases he : prs s 61 0 with ⟨r, k⟩
    rw [he] at hin
    have := hin.2
    simp only at this
    cases r with
    | none => simp only; omega
    | some x =>
      simp only
      split
      · simp only; omega
      split
      · simp only; omega
      · simp only; omega
end Go.Proofs.Ytapffbbmofhpoab.L5

namespace Go.Proofs.Ytapffbbmofhpoab.L5
open Go.RowKit L1 L4
set_option linter.unusedVariables false

theorem bts_oneT {c : Int} (h : 97 ≤ c ∧ c ≤ 122) : bts (one c) 0 = [c] := by
  simp only [bts, one, strOfNums, List.drop_zero, List.map_cons, List.map_nil]
  congr 1
  simp only [UInt8.toNat_ofNat']
  omega
theorem str_btsT (s : ByteArray) : strOfNums (bts s 0) = s := by
  unfold strOfNums bts
  apply ByteArray.ext
  simp only [List.drop_zero, List.map_map]
  have : (List.map ((fun n : Int => UInt8.ofNat n.toNat) ∘ fun c : UInt8 => (c.toNat : Int)) s.data.toList) = s.data.toList := by
    conv => rhs; rw [← List.map_id s.data.toList]
    apply List.map_congr_left
    intro x _
    simp
  rw [this]
theorem bts_injT {s t : ByteArray} (h : bts s 0 = bts t 0) : s = t := by rw [← str_btsT s, h, str_btsT]
theorem bts_tx : ∀ x, okS x → bts (tx x) 0 = txl x
  | .none, _ => rfl
  | .empty, _ => rfl
  | .letter c, h => bts_oneT h
  | .any, _ => rfl
  | .seq a b, h => by
    simp only [tx, txl, bts_app, bts_tx a h.1, bts_tx b h.2]
    rw [show bts (⟨#[40]⟩ : ByteArray) 0 = [40] from rfl, show bts (⟨#[41]⟩ : ByteArray) 0 = [41] from rfl]
    simp
  | .alt a b, h => by
    simp only [tx, txl, bts_app, bts_tx a h.1, bts_tx b h.2]
    rw [show bts (⟨#[91]⟩ : ByteArray) 0 = [91] from rfl, show bts (⟨#[93]⟩ : ByteArray) 0 = [93] from rfl, show bts (⟨#[124]⟩ : ByteArray) 0 = [124] from rfl]
    simp
  | .many a, h => by
    simp only [tx, txl, bts_app, bts_tx a h]
    rfl
  | .inv a, h => by
    simp only [tx, txl, bts_app, bts_tx a h]
    rfl
theorem bts_lenT (s : ByteArray) : (bts s 0).length = s.size := by rw [bts_len]; omega
theorem at_bts (s : ByteArray) : At s 0 (bts s 0) := fun i hi => by unfold byt; rw [Nat.zero_add]
theorem bts_atT {s : ByteArray} {l : List Int} (h : At s 0 l) (hl : l.length = s.size) : bts s 0 = l := by
  apply List.ext_getElem?
  intro i
  by_cases hi : i < l.length
  · have h1 := h i hi
    unfold byt at h1
    rw [Nat.zero_add] at h1
    have hi2 : i < (bts s 0).length := by rw [bts_lenT]; omega
    simp only [List.getD, List.getElem?_eq_getElem hi, List.getElem?_eq_getElem hi2, Option.getD_some] at h1
    rw [List.getElem?_eq_getElem hi, List.getElem?_eq_getElem hi2, h1]
  · rw [List.getElem?_eq_none (by rw [bts_lenT]; omega), List.getElem?_eq_none (by omega)]
/-- What is written is read. -/
theorem read_back {l : List Pr} (h : GoodF l) : readRes (tx (whole l)) = (some (flat (whole l) []), 0) ∧ (flat (whole l) []).length = l.length ∧ GoodF (flat (whole l) []) ∧ whole (flat (whole l) []) = whole l := by
  have hok := okS_whole h
  have hsz := whole_size h
  have h24 := h.1.2
  have htx := tx_size (whole l)
  obtain ⟨x, hx⟩ : ∃ x, x = whole l := ⟨_, rfl⟩
  rw [← hx] at hok hsz htx ⊢
  have hat : At (tx x) 0 (txl x) := by rw [← bts_tx x hok]; exact at_bts _
  have hlen : (txl x).length = (tx x).size := by rw [← bts_tx x hok, bts_lenT]
  have hp := prs_cmp (tx x) x 61 0 hok (by omega) hat
  have hz : byt (tx x) (tx x).size = 0 := byt_end (Nat.le_refl _)
  rw [Nat.zero_add, hlen, PP_stop (by rw [hz]; omega) (by rw [hz]; omega)] at hp
  have hfl : (flat x []).length = l.length := by rw [flat_len, hsz]; simp
  refine ⟨?_, hfl, good_flat x hok (by omega), whole_flat x hok⟩
  unfold readRes
  rw [if_neg (by omega), hp]
  simp only
  rw [if_neg (by omega), if_neg (by omega)]
/-- What is read was written. -/
theorem read_was {u : ByteArray} {r : List Pr} {k : Int} (h : readRes u = (some r, k)) : k = 0 ∧ GoodF r ∧ tx (whole r) = u := by
  unfold readRes at h
  split at h
  · cases h
  · rename_i h120
    have hin := prs_in u 61 0 (Nat.zero_le _)
    have hok := prs_ok u 61 0
    have hs := prs_snd u 61 0
    cases hp : prs u 61 0 with
    | mk o j =>
      rw [hp] at h hin hok hs
      cases o with
      | none => cases h
      | some x =>
        simp only at h
        split at h
        · cases h
        · split at h
          · cases h
          · rename_i hj h24
            simp only [Prod.mk.injEq, Option.some.injEq] at h
            obtain ⟨rfl, rfl⟩ := h
            have hokx := hok x rfl
            obtain ⟨hat, hj2⟩ := hs x rfl
            have hju : j = u.size := by have := hin.2; simp only at this; omega
            simp only at hj2
            have hl : (txl x).length = u.size := by omega
            refine ⟨rfl, good_flat x hokx (by rw [flat_len] at h24; simp at h24; omega), ?_⟩
            rw [whole_flat x hokx]
            exact bts_injT (by rw [bts_tx x hokx, bts_atT hat hl])
theorem read_place (u : ByteArray) (h : (readRes u).1 = none) (hu : u.size ≤ 120) : (readRes u).2 ≤ (u.size : Int) := by
  unfold readRes at h ⊢
  rw [if_neg (by omega)] at h ⊢
  have hin := prs_in u 61 0 (Nat.zero_le _)
  cases hp : prs u 61 0 with
  | mk o j =>
    rw [hp] at h hin
    have h2 := hin.2
    simp only at h2
    cases o with
    | none => simp only; omega
    | some x =>
      simp only at h ⊢
      split
      · simp only; omega
      · split
        · simp only; omega
        · rename_i h1 h3
          rw [if_neg h1, if_neg h3] at h
          cases h
end Go.Proofs.Ytapffbbmofhpoab.L5

namespace Go.Proofs.Ytapffbbmofhpoab.L5
open Go.RowKit L1 L4
set_option linter.unusedVariables false

theorem Tr.grown {w w' : World} {S : Nat → Prop} {x : Sh} {p : Option Addr} {r : Option Nat} (h : Tr w S p x) (hg : w.grownBy w' r) (hne : ∀ g, S g → r ≠ some g) : Tr w' S p x :=
  Tr.keep (fun g k t pa pb hs h => ⟨hs, by
    have e : ∀ j, w'.cell? ⟨g, j, none⟩ = w.cell? ⟨g, j, none⟩ := fun j => World.cell?_of_block (w := w) (hg.block g (blk_lt h.k) (fun e => hne g hs e.symm))
    exact ⟨(e 0).trans h.k, (e 1).trans h.t, (e 2).trans h.a, (e 3).trans h.b⟩⟩) x p h
theorem AtF.grown {w w' : World} {g : Nat} {k : Int} {t : ByteArray} {pa pb : Option Addr} {r : Option Nat} (h : AtF w g k t pa pb) (hg : w.grownBy w' r) (hne : r ≠ some g) : AtF w' g k t pa pb := by
  have e : ∀ j, w'.cell? ⟨g, j, none⟩ = w.cell? ⟨g, j, none⟩ := fun j => World.cell?_of_block (w := w) (hg.block g (blk_lt h.k) (fun e => hne e.symm))
  exact ⟨(e 0).trans h.k, (e 1).trans h.t, (e 2).trans h.a, (e 3).trans h.b⟩
/-- What the call does at a tree. -/
def SC (x : Sh) : Prop := ∀ (S : Nat → Prop) (p : Option Addr) (base : Nat) (v : Value) (l : List Pr) (w : World), Tr w S p x → (∀ g, S g → v.ownBlock ≠ some g) → OwP w base v l → base ≤ w.heap.size → l.length + sz x ≤ 100000000 → Calls Try.prog 97 #[.pointer p, v] w fun e w' => RetF w base v (flat x l) e w'
set_option maxRecDepth 100000 in
set_option maxHeartbeats 4000000 in
theorem l5Flat_leaf (x : Sh) (k : Int) (t : ByteArray) (hk : ¬ (k = 5 ∨ k = 6) ∧ ¬ (k = 7 ∨ k = 8)) (hx : ∀ w S p, Tr w S p x → ∃ g pa pb, p = some ⟨g, 0, none⟩ ∧ S g ∧ AtF w g k t pa pb) (hfl : ∀ l, flat x l = l ++ [⟨k, t, 0, 0⟩]) (hsz : sz x = 1) : SC x := by
  intro S p base v l w ht hS ho hb hl
  obtain ⟨i1, hi1, hy0, hy1, hy2⟩ := info_parts info_part
  obtain ⟨a, cap, rfl⟩ := own_shapeT ho
  obtain ⟨g, pa, pb, rfl, hSg, hf⟩ := hx w S p ht
  rw [hfl]
  rw [hsz] at hl
  have c0 := hf.k
  have c1 := hf.t
  have hgl : g < w.heap.size := blk_lt hf.k
  have c0a : (w.alloc (.cells #[.int .i64 0, .string ⟨#[]⟩, .int .i64 0, .int .i64 0] 116)).cell? ⟨g, 0, none⟩ = some (.int .i64 k) := (((Below.refl _ _).alloc (Nat.le_refl _) _).cell (p := ⟨g, 0, none⟩) hgl).trans c0
  have c1a : (w.alloc (.cells #[.int .i64 0, .string ⟨#[]⟩, .int .i64 0, .int .i64 0] 116)).cell? ⟨g, 1, none⟩ = some (.string t) := (((Below.refl _ _).alloc (Nat.le_refl _) _).cell (p := ⟨g, 1, none⟩) hgl).trans c1
  obtain ⟨W, hW⟩ : ∃ W, W = (w.alloc (.cells #[.int .i64 k, .string t, .int .i64 0, .int .i64 0] 116)).drew := ⟨_, rfl⟩
  have bW : Below w.heap.size w W := by rw [hW]; exact ((Below.refl _ _).alloc (Nat.le_refl _) _).drew
  have HX : Hid (PX W w.heap.size ⟨k, t, 0, 0⟩) := hide (by rw [hW]; exact PX.newAt w _ ⟨k, t, 0, 0⟩ rfl)
  have OW := hide (own_belowT ho bW)
  have GW := hide (grown_below0 bW (Value.slice a l.length cap).ownBlock)
  have AW := hide (hf.base bW hgl)
  have HWZ : Hid (W.heap.size = w.heap.size + 1) := hide (by rw [hW]; simp [World.drew])
  have HLT : Hid (∀ g, (Value.slice a l.length cap).ownBlock = some g → g < w.heap.size) := hide (fun g hg => own_at_lt ho hg)
  have hbW : base ≤ W.heap.size := by have := bW.size; omega
  have C5 := hide (fun w => l5Two_any k w false (iff_of_false (by simp) hk.1))
  have C7 := hide (fun w => l5One_any k w false (iff_of_false (by simp) hk.2))
  have x0 := HX.out.at.k
  have x1 := HX.out.at.t
  have x2 := HX.out.at.a
  have x3 := HX.out.at.b
  simp only [Nat.zero_add] at x1 x2 x3
  clear ho hf ht hx hfl hsz hk hS bW
  go_enter Try.func97, Try.ntmps97
  go_wp2
  go_region
  rw [← hW]
  clear hW c0 c1 c0a c1a
  have d0 := AW.out.k
  go_wp2_with fail
  refine (C5.out _).mono ?_
  rintro e w1 ⟨rfl, rfl⟩
  go_wp2_with fail
  refine (C7.out _).mono ?_
  rintro e w1 ⟨rfl, rfl⟩
  go_wp2_with fail
  refine (C5.out _).mono ?_
  rintro e w1 ⟨rfl, rfl⟩
  go_wp2_with (first
    | (at_builtin; refine wpList_append_own_at _ rfl _ _ 52 rfl base 116 i1 (.agg #[.int .i64 0, .string ByteArray.empty, .int .i64 0, .int .i64 0]) 4 40 Try.underlying52 hi1 hy0 hy1 hy2 rfl (by decide) _ _ _ rfl (OW.out.alloc _) ⟨W.heap.size, 0, none⟩ 1 1 [.int .i64 k, .string t, .int .i64 0, .int .i64 0] rfl rfl (cell_four_newP _ _ (by first | rfl | simp) _ _ _ _ _) (four_one _ _ _ _) (by unfold maxLen; omega) (by omega) (by simp; omega) ?_)
    | go_in)
  intro v6 w6 h6 g6 _ hat
  have HR := hide (fin_ret (p := ⟨k, t, 0, 0⟩) GW.out (fun g hg => .inl hg) h6 g6 (hat.imp id (fun h => ⟨_, h, by first | exact Nat.le_refl _ | (simp; done) | (simp; omega)⟩)))
  obtain ⟨a6, c6, rfl⟩ := own_shapeT h6
  clear h6 g6 hat
  go_wp2
  go_ret
  exact HR.out
set_option maxRecDepth 100000 in
set_option maxHeartbeats 8000000 in
theorem l5Flat_two (x A B : Sh) (k : Int) (hk : k = 5 ∨ k = 6) (hx : ∀ w S p, Tr w S p x → ∃ g pa pb, p = some ⟨g, 0, none⟩ ∧ S g ∧ AtF w g k ByteArray.empty pa pb ∧ Tr w S pa A ∧ Tr w S pb B) (hfl : ∀ l, flat x l = flat B (flat A l) ++ [⟨k, ByteArray.empty, ((flat A l).length : Int) - 1, ((flat B (flat A l)).length : Int) - 1⟩]) (hsz : sz x = sz A + sz B + 1) (IA : SC A) (IB : SC B) : SC x := by
  intro S p base v l w ht hS ho hb hl
  obtain ⟨i1, hi1, hy0, hy1, hy2⟩ := info_parts info_part
  obtain ⟨a, cap, rfl⟩ := own_shapeT ho
  obtain ⟨g, pa, pb, rfl, hSg, hf, ta, tb⟩ := hx w S p ht
  rw [hfl]
  rw [hsz] at hl
  have la := flat_len A l
  have lb := flat_len B (flat A l)
  have pA := sz_pos A
  have pB := sz_pos B
  have c0 := hf.k
  have c1 := hf.t
  have hgl : g < w.heap.size := blk_lt hf.k
  have c0a : (w.alloc (.cells #[.int .i64 0, .string ⟨#[]⟩, .int .i64 0, .int .i64 0] 116)).cell? ⟨g, 0, none⟩ = some (.int .i64 k) := (((Below.refl _ _).alloc (Nat.le_refl _) _).cell (p := ⟨g, 0, none⟩) hgl).trans c0
  have c1a : (w.alloc (.cells #[.int .i64 0, .string ⟨#[]⟩, .int .i64 0, .int .i64 0] 116)).cell? ⟨g, 1, none⟩ = some (.string ByteArray.empty) := (((Below.refl _ _).alloc (Nat.le_refl _) _).cell (p := ⟨g, 1, none⟩) hgl).trans c1
  obtain ⟨W, hW⟩ : ∃ W, W = (w.alloc (.cells #[.int .i64 k, .string ByteArray.empty, .int .i64 0, .int .i64 0] 116)).drew := ⟨_, rfl⟩
  have bW : Below w.heap.size w W := by rw [hW]; exact ((Below.refl _ _).alloc (Nat.le_refl _) _).drew
  have HX : Hid (PX W w.heap.size ⟨k, ByteArray.empty, 0, 0⟩) := hide (by rw [hW]; exact PX.newAt w _ ⟨k, ByteArray.empty, 0, 0⟩ rfl)
  have OW := hide (own_belowT ho bW)
  have GW := hide (grown_below0 bW (Value.slice a l.length cap).ownBlock)
  have AW := hide (hf.base bW hgl)
  have HWZ : Hid (W.heap.size = w.heap.size + 1) := hide (by rw [hW]; simp [World.drew])
  have HLT : Hid (∀ g, (Value.slice a l.length cap).ownBlock = some g → g < w.heap.size) := hide (fun g hg => own_at_lt ho hg)
  have hbW : base ≤ W.heap.size := by have := bW.size; omega
  have C5 := hide (fun w => l5Two_any k w true (iff_of_true rfl hk))
  have TA := hide (ta.lt.below bW)
  have TB := hide (tb.lt.below bW)
  have HSg := hide (And.intro hSg hgl)
  have HS := hide hS
  have CA := hide (IA _ pa base _ l W TA.out (fun g hg => hS g hg.1) OW.out hbW (by omega))
  obtain ⟨N, hN⟩ : ∃ N, N = w.heap.size := ⟨_, rfl⟩
  have CB := hide (fun v w t d o b => IB (fun h => S h ∧ h < N) pb base v (flat A l) w t d o b (by omega))
  rw [hN] at CB
  clear hN
  have hA1 : 1 ≤ ((flat A l).length : Int) := by omega
  have hA2 : ((flat A l).length : Int) ≤ 100000000 := by omega
  have hB1 : 1 ≤ ((flat B (flat A l)).length : Int) := by omega
  have hB2 : ((flat B (flat A l)).length : Int) ≤ 100000000 := by omega
  have hB3 : (flat B (flat A l)).length + 1 ≤ 100000000 := by omega
  have d2 := AW.out.a
  clear ho hf ht hx hfl hsz hk hS bW ta tb la lb pA pB IA IB hSg
  go_enter Try.func97, Try.ntmps97
  go_wp2
  go_region
  rw [← hW]
  clear hW c0 c1 c0a c1a
  have d0 := AW.out.k
  go_wp2_with fail
  refine (C5.out _).mono ?_
  rintro e w1 ⟨rfl, rfl⟩
  go_wp2_with fail
  refine CA.out.mono ?_
  rintro e w3 ⟨v3, rfl, o3, g3, k3⟩
  have hx3 := HX.out.grown g3 (fun e => by have h1 := HLT.out _ e; omega)
  have K3 : Hid (∀ g, v3.ownBlock = some g → ((Value.slice a l.length cap).ownBlock = some g ∨ w.heap.size ≤ g) ∧ g ≠ w.heap.size ∧ ∀ h, S h ∧ h < w.heap.size → h ≠ g) := hide (fun g hg => by
    have h3 := HWZ.out
    rcases k3 g hg with h | h
    · have h1 := HLT.out g h
      exact ⟨.inl h, by omega, fun q hq e => HS.out q hq.1 (by rw [e]; exact h)⟩
    · exact ⟨.inr (by omega), by omega, fun q hq e => by omega⟩)
  have G3 := hide (grown_trans GW.out g3 (fun g hg => .inl hg))
  have T3 := hide (TB.out.grown g3 (fun g hg => HS.out g hg.1))
  have A3 := hide (AW.out.grown g3 (HS.out _ HSg.out.1))
  have Z3 := hide g3.size
  obtain ⟨x3, c3, rfl⟩ := own_shapeT o3
  have ca := hx3.at.a
  have fa := hx3.frozen 2
  have hx4 := hx3.setA (((flat A l).length : Int) - 1)
  simp only [Nat.zero_add] at ca
  have gs := grown_set w3 w.heap.size 2 (.int .i64 (((flat A l).length : Int) - 1))
  have X4 := hide hx4
  have G4 := hide (grown_trans G3.out gs (fun g hg => by cases hg; exact .inr (Nat.le_refl _)))
  have O4 := hide (OwP.grown o3 gs (fun g hg e => by cases e; exact (K3.out _ hg).2.1 rfl))
  have T4 := hide (T3.out.grown gs (fun g hg e => by cases e; have := hg.2; omega))
  have a4 := A3.out.grown gs (fun e => by cases e; have := HSg.out.2; omega)
  have Z4 := hide gs.size
  have A4 := hide a4
  have e0 := a4.k
  clear hx3 hx4 g3 k3 o3 gs d0 d2 a4
  go_wp2_with fail
  refine (C5.out _).mono ?_
  rintro e w5 ⟨rfl, hw5⟩
  obtain ⟨w4, hw4⟩ : ∃ w4, w4 = w3.setCell ⟨w.heap.size, 2, none⟩ (.int .i64 (((flat A l).length : Int) - 1)) := ⟨_, rfl⟩
  rw [← hw4] at X4 G4 O4 T4 A4 Z4 hw5
  subst hw5
  clear hw4 e0 ca fa
  have HB4 : Hid (base ≤ w4.heap.size) := hide (by have h1 := Z3.out; have h2 := Z4.out; omega)
  have CB2 := hide (CB.out _ w4 T4.out (fun h hh e => (K3.out _ e).2.2 h hh rfl) O4.out HB4.out)
  have e3 := A4.out.b
  go_wp2_with fail
  refine CB2.out.mono ?_
  rintro e w6 ⟨v6, rfl, o6, g6, k6⟩
  have HZ6 : Hid (w.heap.size < w4.heap.size) := hide (by have h1 := Z3.out; have h2 := Z4.out; have h3 := HWZ.out; omega)
  have hx6 := X4.out.grown g6 (fun e => (K3.out _ e).2.1 rfl)
  have K6 : Hid (∀ g, v6.ownBlock = some g → ((Value.slice a l.length cap).ownBlock = some g ∨ w.heap.size ≤ g) ∧ g ≠ w.heap.size) := hide (fun g hg => by
    have h3 := HZ6.out
    rcases k6 g hg with h | h
    · exact ⟨(K3.out g h).1, (K3.out g h).2.1⟩
    · exact ⟨.inr (by omega), by omega⟩)
  have G6 := hide (grown_trans G4.out g6 (fun g hg => (K3.out g hg).1))
  have hb6 : base ≤ w6.heap.size := by have h1 := HB4.out; have h2 := g6.size; omega
  obtain ⟨x6, c6', rfl⟩ := own_shapeT o6
  have cb := hx6.at.b
  have fb := hx6.frozen 3
  have hx7 := hx6.setB (((flat B (flat A l)).length : Int) - 1)
  have y0 := hx7.at.k
  have y1 := hx7.at.t
  have y2 := hx7.at.a
  have y3 := hx7.at.b
  simp only [Nat.zero_add] at cb y1 y2 y3
  have gs := grown_set w6 w.heap.size 3 (.int .i64 (((flat B (flat A l)).length : Int) - 1))
  have G7 := hide (grown_trans G6.out gs (fun g hg => by cases hg; exact .inr (Nat.le_refl _)))
  have O7 := hide (OwP.grown o6 gs (fun g hg e => by cases e; exact (K6.out _ hg).2 rfl))
  clear hx6 hx7 g6 k6 o6 gs e3
  go_wp2_with (first
    | (at_builtin; refine wpList_append_own_at _ rfl _ _ 52 rfl base 116 i1 (.agg #[.int .i64 0, .string ByteArray.empty, .int .i64 0, .int .i64 0]) 4 40 Try.underlying52 hi1 hy0 hy1 hy2 rfl (by decide) _ _ _ rfl (O7.out.alloc _) ⟨w6.heap.size, 0, none⟩ 1 1 [.int .i64 k, .string ByteArray.empty, .int .i64 (((flat A l).length : Int) - 1), .int .i64 (((flat B (flat A l)).length : Int) - 1)] rfl rfl (cell_four_newP _ _ (by first | rfl | simp) _ _ _ _ _) (four_one _ _ _ _) (by unfold maxLen; omega) (by omega) (by simp; omega) ?_)
    | go_in)
  intro v8 w8 h8 g8 _ hat
  have HR := hide (fin_ret (p := ⟨k, ByteArray.empty, ((flat A l).length : Int) - 1, ((flat B (flat A l)).length : Int) - 1⟩) G7.out (fun g hg => (K6.out g hg).1) h8 g8 (hat.imp id (fun h => ⟨_, h, by first | exact Nat.le_refl _ | (simp; done) | (simp; omega)⟩)))
  obtain ⟨a6, c6, rfl⟩ := own_shapeT h8
  clear h8 g8 hat
  go_wp2
  go_ret
  exact HR.out
set_option maxRecDepth 100000 in
set_option maxHeartbeats 8000000 in
theorem l5Flat_one (x A : Sh) (k : Int) (hk : k = 7 ∨ k = 8) (hx : ∀ w S p, Tr w S p x → ∃ g pa pb, p = some ⟨g, 0, none⟩ ∧ S g ∧ AtF w g k ByteArray.empty pa pb ∧ Tr w S pa A) (hfl : ∀ l, flat x l = flat A l ++ [⟨k, ByteArray.empty, ((flat A l).length : Int) - 1, 0⟩]) (hsz : sz x = sz A + 1) (IA : SC A) : SC x := by
  intro S p base v l w ht hS ho hb hl
  obtain ⟨i1, hi1, hy0, hy1, hy2⟩ := info_parts info_part
  obtain ⟨a, cap, rfl⟩ := own_shapeT ho
  obtain ⟨g, pa, pb, rfl, hSg, hf, ta⟩ := hx w S p ht
  rw [hfl]
  rw [hsz] at hl
  have la := flat_len A l
  have pA := sz_pos A
  have c0 := hf.k
  have c1 := hf.t
  have hgl : g < w.heap.size := blk_lt hf.k
  have c0a : (w.alloc (.cells #[.int .i64 0, .string ⟨#[]⟩, .int .i64 0, .int .i64 0] 116)).cell? ⟨g, 0, none⟩ = some (.int .i64 k) := (((Below.refl _ _).alloc (Nat.le_refl _) _).cell (p := ⟨g, 0, none⟩) hgl).trans c0
  have c1a : (w.alloc (.cells #[.int .i64 0, .string ⟨#[]⟩, .int .i64 0, .int .i64 0] 116)).cell? ⟨g, 1, none⟩ = some (.string ByteArray.empty) := (((Below.refl _ _).alloc (Nat.le_refl _) _).cell (p := ⟨g, 1, none⟩) hgl).trans c1
  obtain ⟨W, hW⟩ : ∃ W, W = (w.alloc (.cells #[.int .i64 k, .string ByteArray.empty, .int .i64 0, .int .i64 0] 116)).drew := ⟨_, rfl⟩
  have bW : Below w.heap.size w W := by rw [hW]; exact ((Below.refl _ _).alloc (Nat.le_refl _) _).drew
  have HX : Hid (PX W w.heap.size ⟨k, ByteArray.empty, 0, 0⟩) := hide (by rw [hW]; exact PX.newAt w _ ⟨k, ByteArray.empty, 0, 0⟩ rfl)
  have OW := hide (own_belowT ho bW)
  have GW := hide (grown_below0 bW (Value.slice a l.length cap).ownBlock)
  have AW := hide (hf.base bW hgl)
  have HWZ : Hid (W.heap.size = w.heap.size + 1) := hide (by rw [hW]; simp [World.drew])
  have HLT : Hid (∀ g, (Value.slice a l.length cap).ownBlock = some g → g < w.heap.size) := hide (fun g hg => own_at_lt ho hg)
  have hbW : base ≤ W.heap.size := by have := bW.size; omega
  have C5 := hide (fun w => l5Two_any k w false (iff_of_false (by simp) (by omega)))
  have C7 := hide (fun w => l5One_any k w true (iff_of_true rfl hk))
  have TA := hide (ta.lt.below bW)
  have HSg := hide (And.intro hSg hgl)
  have HS := hide hS
  have CA := hide (IA _ pa base _ l W TA.out (fun g hg => hS g hg.1) OW.out hbW (by omega))
  have hA1 : 1 ≤ ((flat A l).length : Int) := by omega
  have hA2 : ((flat A l).length : Int) ≤ 100000000 := by omega
  have hB3 : (flat A l).length + 1 ≤ 100000000 := by omega
  have d2 := AW.out.a
  clear ho hf ht hx hfl hsz hk hS bW ta la pA IA hSg
  go_enter Try.func97, Try.ntmps97
  go_wp2
  go_region
  rw [← hW]
  clear hW c0 c1 c0a c1a
  have d0 := AW.out.k
  go_wp2_with fail
  refine (C5.out _).mono ?_
  rintro e w1 ⟨rfl, rfl⟩
  go_wp2_with fail
  refine (C7.out _).mono ?_
  rintro e w1 ⟨rfl, rfl⟩
  go_wp2_with fail
  refine CA.out.mono ?_
  rintro e w3 ⟨v3, rfl, o3, g3, k3⟩
  have hx3 := HX.out.grown g3 (fun e => by have h1 := HLT.out _ e; omega)
  have K3 : Hid (∀ g, v3.ownBlock = some g → ((Value.slice a l.length cap).ownBlock = some g ∨ w.heap.size ≤ g) ∧ g ≠ w.heap.size ∧ ∀ h, S h ∧ h < w.heap.size → h ≠ g) := hide (fun g hg => by
    have h3 := HWZ.out
    rcases k3 g hg with h | h
    · have h1 := HLT.out g h
      exact ⟨.inl h, by omega, fun q hq e => HS.out q hq.1 (by rw [e]; exact h)⟩
    · exact ⟨.inr (by omega), by omega, fun q hq e => by omega⟩)
  have G3 := hide (grown_trans GW.out g3 (fun g hg => .inl hg))
  have A3 := hide (AW.out.grown g3 (HS.out _ HSg.out.1))
  have Z3 := hide g3.size
  obtain ⟨x3, c3, rfl⟩ := own_shapeT o3
  have ca := hx3.at.a
  have fa := hx3.frozen 2
  have hx4 := hx3.setA (((flat A l).length : Int) - 1)
  simp only [Nat.zero_add] at ca
  have gs := grown_set w3 w.heap.size 2 (.int .i64 (((flat A l).length : Int) - 1))
  have y0 := hx4.at.k
  have y1 := hx4.at.t
  have y2 := hx4.at.a
  have y3 := hx4.at.b
  simp only [Nat.zero_add] at y1 y2 y3
  have G4 := hide (grown_trans G3.out gs (fun g hg => by cases hg; exact .inr (Nat.le_refl _)))
  have O4 := hide (OwP.grown o3 gs (fun g hg e => by cases e; exact (K3.out _ hg).2.1 rfl))
  have a4 := A3.out.grown gs (fun e => by cases e; have := HSg.out.2; omega)
  have e0 := a4.k
  have hb3 : base ≤ w3.heap.size := by have h1 := Z3.out; omega
  clear hx3 hx4 g3 k3 o3 gs d0 d2 a4
  go_wp2_with fail
  refine (C5.out _).mono ?_
  rintro e w5 ⟨rfl, rfl⟩
  go_wp2_with (first
    | (at_builtin; refine wpList_append_own_at _ rfl _ _ 52 rfl base 116 i1 (.agg #[.int .i64 0, .string ByteArray.empty, .int .i64 0, .int .i64 0]) 4 40 Try.underlying52 hi1 hy0 hy1 hy2 rfl (by decide) _ _ _ rfl (O4.out.alloc _) ⟨w3.heap.size, 0, none⟩ 1 1 [.int .i64 k, .string ByteArray.empty, .int .i64 (((flat A l).length : Int) - 1), .int .i64 0] rfl rfl (cell_four_newP _ _ (by first | rfl | simp) _ _ _ _ _) (four_one _ _ _ _) (by unfold maxLen; omega) (by omega) (by simp; omega) ?_)
    | go_in)
  intro v6 w6 h6 g6 _ hat
  have HR := hide (fin_ret (p := ⟨k, ByteArray.empty, ((flat A l).length : Int) - 1, 0⟩) G4.out (fun g hg => (K3.out g hg).1) h6 g6 (hat.imp id (fun h => ⟨_, h, by first | exact Nat.le_refl _ | (simp; done) | (simp; omega)⟩)))
  obtain ⟨a6, c6, rfl⟩ := own_shapeT h6
  clear h6 g6 hat
  go_wp2
  go_ret
  exact HR.out
theorem l5Flat_any : ∀ x, SC x
  | .none => l5Flat_leaf _ 1 ByteArray.empty (by omega) (fun w S p h => h) (fun l => rfl) rfl
  | .empty => l5Flat_leaf _ 2 ByteArray.empty (by omega) (fun w S p h => h) (fun l => rfl) rfl
  | .letter c => l5Flat_leaf _ 3 (one c) (by omega) (fun w S p h => h) (fun l => rfl) rfl
  | .any => l5Flat_leaf _ 4 ByteArray.empty (by omega) (fun w S p h => h) (fun l => rfl) rfl
  | .seq a b => l5Flat_two _ a b 5 (by omega) (fun w S p h => h) (fun l => rfl) rfl (l5Flat_any a) (l5Flat_any b)
  | .alt a b => l5Flat_two _ a b 6 (by omega) (fun w S p h => h) (fun l => rfl) rfl (l5Flat_any a) (l5Flat_any b)
  | .many a => l5Flat_one _ a 7 (by omega) (fun w S p h => h) (fun l => rfl) rfl (l5Flat_any a)
  | .inv a => l5Flat_one _ a 8 (by omega) (fun w S p h => h) (fun l => rfl) rfl (l5Flat_any a)
end Go.Proofs.Ytapffbbmofhpoab.L5

namespace Go.Proofs.Ytapffbbmofhpoab.L5
open Go.RowKit L1 L4
set_option linter.unusedVariables false

set_option maxRecDepth 100000 in
set_option maxHeartbeats 400000 in
theorem of_any (b N g m cap : Nat) (xs : List ByteArray) (w : World) (h : Cur w b N) (hN : N ≤ 1000000000) (hxs : xs.length = m) (h1 : 1 ≤ m) (h2 : m ≤ 1000) (hg : g ≠ b) (hs : SlT w (some ⟨g, 0, none⟩) xs) :
    Calls Try.prog 79 #[.pointer (some ⟨b, 0, none⟩), .slice (some ⟨g, 0, none⟩) m cap] w fun e w' => ∃ j, j < m ∧ e = .returned (.string (xs.getD j e0)) ∧ Cur w' b (N + 2) ∧ w.grownBy w' (some b) := by
  have HC := hide h
  have HS := hide hs
  have HX := hide hxs
  clear h hs hxs
  go_enter Try.func79, Try.ntmps79
  go_wp2_with fail
  refine (pick_any b N _ _ HC.out hN (by omega) (by omega)).mono ?_
  rintro e w1 ⟨x, rfl, hx0, hx1, hxm, hc1, hg1⟩
  have hxm' : x < (m : Int) := hxm (by omega)
  clear hxm
  obtain ⟨j, rfl⟩ : ∃ j : Nat, x = (j : Int) := ⟨x.toNat, by omega⟩
  obtain ⟨b', off', e', hc0⟩ := HS.out j (by rw [HX.out]; omega)
  cases e'
  have hc : w1.cell? ⟨g, 0 + j, none⟩ = some (.string (xs.getD j e0)) := by
    rw [World.cell?_of_block (w := w) (hg1.block g (blk_lt hc0) (by simpa using hg))]
    exact hc0
  simp only [Nat.zero_add] at hc
  have H1 := hide hc1
  have G1 := hide hg1
  have hj : j < m := by omega
  obtain ⟨y, hy⟩ : ∃ y, y = xs.getD j e0 := ⟨_, rfl⟩
  rw [← hy] at hc
  have HY := hide hy
  clear hc1 hg1 hc0 hy
  go_wp2
  go_ret
  exact ⟨j, hj, by rw [← HY.out]; rfl, H1.out, G1.out⟩
theorem lit_rowT (w : World) (cs : Array Value) (xs : List ByteArray) (h : cs.toList = xs.map Value.string) : SlT (w.alloc (.cells cs 9)) (some ⟨w.heap.size, 0, none⟩) xs := fun i hi => by
  refine ⟨w.heap.size, 0, rfl, ?_⟩
  have hb : (w.alloc (.cells cs 9)).heap[w.heap.size]? = some (.cells cs 9 (0, 0)) := by show (w.heap.push _)[w.heap.size]? = _; simp
  rw [Lib.cell_of_heap hb, Nat.zero_add, ← Array.getElem?_toList, h, List.getElem?_map, List.getElem?_eq_getElem hi]
  simp [List.getD, List.getElem?_eq_getElem hi]
theorem FB.setT {w : World} {g : Nat} {k : Int} {t : ByteArray} {pa pb : Option Addr} (h : FB w g k t pa pb) (q : ByteArray) : FB (w.setCell ⟨g, 1, none⟩ (.string q)) g k q pa pb := by
  have h1 := heap_setCell_same w g 1 _ _ (.string q) h
  unfold FB
  rw [h1]
  rfl
theorem FB.grownD {w w' : World} {g : Nat} {k : Int} {t : ByteArray} {pa pb : Option Addr} {r : Option Nat} (h : FB w g k t pa pb) (hb : w.grownBy w' r) (hne : r ≠ some g) : FB w' g k t pa pb := (hb.block g h.lt (fun e => hne e.symm)).trans h
/-- A node stands, the cursor goes on. -/
structure DN (w wr : World) (b N gx : Nat) (kd : Int) (t : ByteArray) (pa pb : Option Addr) : Prop where
  cur : Cur wr b N
  gr : w.grownBy wr (some b)
  fx : FB wr gx kd t pa pb
  hx : w.heap.size ≤ gx
  hb : b < w.heap.size
theorem DN.new {w wr : World} {b N : Nat} (kd : Int) (hb : b < w.heap.size) (c : Cur wr b N) (g : w.grownBy wr (some b)) : DN w (wr.alloc (.cells #[.int .i64 kd, .string ByteArray.empty, .pointer none, .pointer none] 160)) b N wr.heap.size kd ByteArray.empty none none :=
  ⟨c.alloc _, L1.grown_trans g (L1.grown_alloc wr _ b), FB.new wr kd _ none none, g.size, hb⟩
theorem DN.move {w wr w' : World} {b N N' gx : Nat} {kd : Int} {t : ByteArray} {pa pb : Option Addr} (h : DN w wr b N gx kd t pa pb) (c : Cur w' b N') (g : wr.grownBy w' (some b)) : DN w w' b N' gx kd t pa pb :=
  ⟨c, L1.grown_trans h.gr g, h.fx.grownD g (fun e => by cases e; have := h.hx; have := h.hb; omega), h.hx, h.hb⟩
theorem cur_set {w : World} {b N gx j : Nat} (c : Cur w b N) (hb : b < gx) (u : Value) : Cur (w.setCell ⟨gx, j, none⟩ u) b N := c.kept fun k hk => Below.heap_setCell w ⟨gx, j, none⟩ u k (by simp only; omega)
theorem grown_setD {w wr : World} {b gx j : Nat} (h : w.grownBy wr (some b)) (hx : w.heap.size ≤ gx) (u : Value) : w.grownBy (wr.setCell ⟨gx, j, none⟩ u) (some b) := L5.grown_trans h (grown_set wr gx j u) (fun x e => by cases e; exact .inr hx)
theorem DN.setT {w wr : World} {b N gx : Nat} {kd : Int} {t : ByteArray} {pa pb : Option Addr} (h : DN w wr b N gx kd t pa pb) (y : ByteArray) : DN w (wr.setCell ⟨gx, 1, none⟩ (.string y)) b N gx kd y pa pb :=
  ⟨cur_set h.cur (Nat.lt_of_lt_of_le h.hb h.hx) _, grown_setD h.gr h.hx _, h.fx.setT y, h.hx, h.hb⟩
theorem DN.setA {w wr : World} {b N gx : Nat} {kd : Int} {t : ByteArray} {pa pb : Option Addr} (h : DN w wr b N gx kd t pa pb) (y : Option Addr) : DN w (wr.setCell ⟨gx, 2, none⟩ (.pointer y)) b N gx kd t y pb :=
  ⟨cur_set h.cur (Nat.lt_of_lt_of_le h.hb h.hx) _, grown_setD h.gr h.hx _, h.fx.setA y, h.hx, h.hb⟩
theorem DN.setB {w wr : World} {b N gx : Nat} {kd : Int} {t : ByteArray} {pa pb : Option Addr} (h : DN w wr b N gx kd t pa pb) (y : Option Addr) : DN w (wr.setCell ⟨gx, 3, none⟩ (.pointer y)) b N gx kd t pa y :=
  ⟨cur_set h.cur (Nat.lt_of_lt_of_le h.hb h.hx) _, grown_setD h.gr h.hx _, h.fx.setB y, h.hx, h.hb⟩
def Kd : Nat → Nat
  | 0 => 6
  | d + 1 => 6 + 2 * Kd d
def Zd : Nat → Nat
  | 0 => 1
  | d + 1 => 1 + 2 * Zd d
/-- What formOf hands back. -/
def DrP (w : World) (b N d : Nat) (e : Ending) (w' : World) : Prop := ∃ p x, e = .returned (.pointer p) ∧ Tr w' (fun c => w.heap.size ≤ c) p x ∧ sz x ≤ Zd d ∧ okS x ∧ Cur w' b (N + Kd d) ∧ w.grownBy w' (some b)
def DC (d : Nat) : Prop := ∀ (b N : Nat) (w : World), Cur w b N → N + Kd d ≤ 1000000 → Calls Try.prog 124 #[.pointer (some ⟨b, 0, none⟩), .int .i64 (d : Int)] w fun e w' => DrP w b N d e w'
theorem Kd_le (d : Nat) : 6 ≤ Kd d := by cases d <;> simp [Kd] <;> omega
theorem Zd_le (d : Nat) : 1 ≤ Zd d := by cases d <;> simp [Zd]
theorem lit4 (j : Nat) (hj : j < 4) : ∃ c : Int, (97 ≤ c ∧ c ≤ 122) ∧ ([⟨#[97]⟩, ⟨#[98]⟩, ⟨#[97]⟩, ⟨#[122]⟩] : List ByteArray).getD j e0 = one c := by
  have : j = 0 ∨ j = 1 ∨ j = 2 ∨ j = 3 := by omega
  rcases this with rfl | rfl | rfl | rfl
  · exact ⟨97, by omega, rfl⟩
  · exact ⟨98, by omega, rfl⟩
  · exact ⟨97, by omega, rfl⟩
  · exact ⟨122, by omega, rfl⟩
theorem lit5 (j : Nat) (hj : j < 5) : 1 ≤ ([3, 3, 4, 2, 1] : List Int).getD j 0 ∧ ([3, 3, 4, 2, 1] : List Int).getD j 0 ≤ 4 := by
  have : j = 0 ∨ j = 1 ∨ j = 2 ∨ j = 3 ∨ j = 4 := by omega
  rcases this with rfl | rfl | rfl | rfl | rfl <;> exact ⟨by decide, by decide⟩
/-- A leaf is done. -/
theorem drp_leaf {w wr : World} {b N M gx d : Nat} {kd : Int} (h : DN w wr b M gx kd ByteArray.empty none none) (hM : M ≤ N + Kd d) (hk : kd = 1 ∨ kd = 2 ∨ kd = 4) : DrP w b N d (.returned (.pointer (some ⟨gx, 0, none⟩))) wr := by
  have := Zd_le d
  rcases hk with rfl | rfl | rfl
  · exact ⟨_, .none, rfl, ⟨gx, _, _, rfl, h.hx, h.fx.at⟩, this, trivial, h.cur.mono hM, h.gr⟩
  · exact ⟨_, .empty, rfl, ⟨gx, _, _, rfl, h.hx, h.fx.at⟩, this, trivial, h.cur.mono hM, h.gr⟩
  · exact ⟨_, .any, rfl, ⟨gx, _, _, rfl, h.hx, h.fx.at⟩, this, trivial, h.cur.mono hM, h.gr⟩
theorem drp_letter {w wr : World} {b N M gx d : Nat} {c : Int} (h : DN w wr b M gx 3 (one c) none none) (hM : M ≤ N + Kd d) (hc : 97 ≤ c ∧ c ≤ 122) : DrP w b N d (.returned (.pointer (some ⟨gx, 0, none⟩))) wr :=
  ⟨_, .letter c, rfl, ⟨gx, _, _, rfl, h.hx, h.fx.at⟩, Zd_le d, hc, h.cur.mono hM, h.gr⟩
end Go.Proofs.Ytapffbbmofhpoab.L5

namespace Go.Proofs.Ytapffbbmofhpoab.L5
open Go.RowKit L1 L4
set_option linter.unusedVariables false

theorem lit_rowT' (w : World) (g : Nat) (cs : Array Value) (xs : List ByteArray) (hg : w.heap.size = g) (h : cs.toList = xs.map Value.string) : SlT (w.alloc (.cells cs 9)) (some ⟨g, 0, none⟩) xs := by
  subst hg
  exact lit_rowT w cs xs h
theorem lit_row' (w : World) (g : Nat) (cs : Array Value) (xs : List Int) (hg : w.heap.size = g) (h : cs.toList = xs.map (Value.int .i64)) : Sl (w.alloc (.cells cs 3)) (some ⟨g, 0, none⟩) xs := by
  subst hg
  exact lit_row w cs xs h
theorem tr_in2 {wr w' : World} {o : Obj} {p : Option Addr} {x : Sh} (h : Tr w' (fun c => (wr.alloc o).heap.size ≤ c) p x) : Tr w' (fun c => wr.heap.size < c) p x := h.mono (fun c hc => by simp at hc; omega)
theorem tr_in3 {wr w' : World} {gx : Nat} {p : Option Addr} {x : Sh} (h : Tr w' (fun c => wr.heap.size ≤ c) p x) (hg : gx < wr.heap.size) : Tr w' (fun c => gx < c) p x := h.mono (fun c hc => by omega)
theorem drp_two5 {w wr : World} {b N M gx d : Nat} {pa pb : Option Addr} {xa xb : Sh} (h : DN w wr b M gx 5 ByteArray.empty pa pb) (ta : Tr wr (fun c => gx < c) pa xa) (tb : Tr wr (fun c => gx < c) pb xb) (hM : M ≤ N + Kd (d + 1)) (hz : sz xa + sz xb + 1 ≤ 1 + 2 * Zd d) (ho : okS xa ∧ okS xb) : DrP w b N (d + 1) (.returned (.pointer (some ⟨gx, 0, none⟩))) wr :=
  ⟨_, .seq xa xb, rfl, ⟨gx, _, _, rfl, h.hx, h.fx.at, ta.mono (fun c hc => Nat.le_trans h.hx (Nat.le_of_lt hc)), tb.mono (fun c hc => Nat.le_trans h.hx (Nat.le_of_lt hc))⟩, by simp only [sz, Zd]; omega, ho, h.cur.mono hM, h.gr⟩
theorem drp_two6 {w wr : World} {b N M gx d : Nat} {pa pb : Option Addr} {xa xb : Sh} (h : DN w wr b M gx 6 ByteArray.empty pa pb) (ta : Tr wr (fun c => gx < c) pa xa) (tb : Tr wr (fun c => gx < c) pb xb) (hM : M ≤ N + Kd (d + 1)) (hz : sz xa + sz xb + 1 ≤ 1 + 2 * Zd d) (ho : okS xa ∧ okS xb) : DrP w b N (d + 1) (.returned (.pointer (some ⟨gx, 0, none⟩))) wr :=
  ⟨_, .alt xa xb, rfl, ⟨gx, _, _, rfl, h.hx, h.fx.at, ta.mono (fun c hc => Nat.le_trans h.hx (Nat.le_of_lt hc)), tb.mono (fun c hc => Nat.le_trans h.hx (Nat.le_of_lt hc))⟩, by simp only [sz, Zd]; omega, ho, h.cur.mono hM, h.gr⟩
theorem drp_one7 {w wr : World} {b N M gx d : Nat} {pa pb : Option Addr} {xa : Sh} (h : DN w wr b M gx 7 ByteArray.empty pa pb) (ta : Tr wr (fun c => gx < c) pa xa) (hM : M ≤ N + Kd (d + 1)) (hz : sz xa + 1 ≤ 1 + 2 * Zd d) (ho : okS xa) : DrP w b N (d + 1) (.returned (.pointer (some ⟨gx, 0, none⟩))) wr :=
  ⟨_, .many xa, rfl, ⟨gx, _, _, rfl, h.hx, h.fx.at, ta.mono (fun c hc => Nat.le_trans h.hx (Nat.le_of_lt hc))⟩, by simp only [sz, Zd]; omega, ho, h.cur.mono hM, h.gr⟩
theorem drp_one8 {w wr : World} {b N M gx d : Nat} {pa pb : Option Addr} {xa : Sh} (h : DN w wr b M gx 8 ByteArray.empty pa pb) (ta : Tr wr (fun c => gx < c) pa xa) (hM : M ≤ N + Kd (d + 1)) (hz : sz xa + 1 ≤ 1 + 2 * Zd d) (ho : okS xa) : DrP w b N (d + 1) (.returned (.pointer (some ⟨gx, 0, none⟩))) wr :=
  ⟨_, .inv xa, rfl, ⟨gx, _, _, rfl, h.hx, h.fx.at, ta.mono (fun c hc => Nat.le_trans h.hx (Nat.le_of_lt hc))⟩, by simp only [sz, Zd]; omega, ho, h.cur.mono hM, h.gr⟩
set_option maxRecDepth 100000 in
set_option maxHeartbeats 4000000 in
theorem formOf_zero : DC 0 := by
  intro b N w h hN
  have hbl := h.lt
  have HC := hide h
  simp only [Kd] at hN
  have HK : Kd 0 = 6 := rfl
  clear h
  show Calls Try.prog 124 #[.pointer (some ⟨b, 0, none⟩), .int .i64 0] w _
  go_enter Try.func124, Try.ntmps124
  go_wp2_with fail
  refine (pick_any b N _ _ HC.out (by omega) (by omega) (by omega)).mono ?_
  rintro e w1 ⟨x, rfl, hx0, hx1, hx8, hc1, hg1⟩
  have H1 := hide hc1
  have G1 := hide hg1
  have hne : w1.heap.size ≠ b := by have := hc1.lt; omega
  clear hc1 hg1
  go_wp2_with fail
  refine (among_any b (N + 2) w1.heap.size 5 5 [3, 3, 4, 2, 1] _ (H1.out.alloc _) (by omega) rfl (by omega) (by omega) hne (lit_row' _ _ _ _ rfl rfl)).mono ?_
  rintro e w2 ⟨j, hj, rfl, hc2, hg2⟩
  obtain ⟨hk1, hk2⟩ := lit5 j hj
  obtain ⟨kd, hkd⟩ : ∃ kd, kd = ([3, 3, 4, 2, 1] : List Int).getD j 0 := ⟨_, rfl⟩
  rw [← hkd] at hk1 hk2 ⊢
  have H2 := hide hc2
  have G2 := hide (L1.grown_trans G1.out (L1.grown_trans (L1.grown_alloc w1 _ b) hg2))
  clear hc2 hg2 hkd hj hne
  by_cases k1 : kd = 1
  · subst k1
    have D := hide (DN.new 1 hbl H2.out G2.out)
    have C2 := hide (fun w => l5Two_any 1 w false (iff_of_false (by simp) (by omega)))
    have C1 := hide (fun w => l5One_any 1 w false (iff_of_false (by simp) (by omega)))
    go_wp2_with fail
    refine (C2.out _).mono ?_
    rintro e w6 ⟨rfl, rfl⟩
    go_wp2_with fail
    refine (C1.out _).mono ?_
    rintro e w6b ⟨rfl, rfl⟩
    go_wp2
    go_ret
    exact drp_leaf D.out (by simp only [Kd]; omega) (by omega)
  by_cases k2 : kd = 2
  · subst k2
    have D := hide (DN.new 2 hbl H2.out G2.out)
    have C2 := hide (fun w => l5Two_any 2 w false (iff_of_false (by simp) (by omega)))
    have C1 := hide (fun w => l5One_any 2 w false (iff_of_false (by simp) (by omega)))
    go_wp2_with fail
    refine (C2.out _).mono ?_
    rintro e w6 ⟨rfl, rfl⟩
    go_wp2_with fail
    refine (C1.out _).mono ?_
    rintro e w6b ⟨rfl, rfl⟩
    go_wp2
    go_ret
    exact drp_leaf D.out (by simp only [Kd]; omega) (by omega)
  by_cases k4 : kd = 4
  · subst k4
    have D := hide (DN.new 4 hbl H2.out G2.out)
    have C2 := hide (fun w => l5Two_any 4 w false (iff_of_false (by simp) (by omega)))
    have C1 := hide (fun w => l5One_any 4 w false (iff_of_false (by simp) (by omega)))
    go_wp2_with fail
    refine (C2.out _).mono ?_
    rintro e w6 ⟨rfl, rfl⟩
    go_wp2_with fail
    refine (C1.out _).mono ?_
    rintro e w6b ⟨rfl, rfl⟩
    go_wp2
    go_ret
    exact drp_leaf D.out (by simp only [Kd]; omega) (by omega)
  by_cases k3 : kd = 3
  · subst k3
    have D := hide (DN.new 3 hbl H2.out G2.out)
    have n1c := D.out.fx.at.t
    have n1 := D.out.fx.frozen 1
    have hgx : w2.heap.size + 1 ≠ b := by have := D.out.hx; have := D.out.hb; omega
    go_wp2_with fail
    refine (of_any b (N + 2 + 2) (w2.heap.size + 1) 4 4 [⟨#[97]⟩, ⟨#[98]⟩, ⟨#[97]⟩, ⟨#[122]⟩] _ (D.out.cur.alloc _) (by omega) rfl (by omega) (by omega) hgx (lit_rowT' _ _ _ _ (by simp) rfl)).mono ?_
    rintro e w7 ⟨j, hj, rfl, hc7, hg7⟩
    obtain ⟨c, hc, ec⟩ := lit4 j hj
    rw [ec]
    have D7 := hide (D.out.move hc7 (L1.grown_trans (L1.grown_alloc _ _ b) hg7))
    have m1c := D7.out.fx.at.t
    have m1 := D7.out.fx.frozen 1
    have D8 := hide (D7.out.setT (one c))
    have HC8 := hide hc
    clear hc7 hg7 ec hc n1c n1
    go_wp2
    go_ret
    exact drp_letter D8.out (by omega) HC8.out
  omega
end Go.Proofs.Ytapffbbmofhpoab.L5
