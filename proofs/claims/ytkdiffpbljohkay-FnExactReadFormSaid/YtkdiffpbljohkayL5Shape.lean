/-
  Shapes as the program holds them: interface values, no memory. What becomes of one, what each assertion says of each.
-/
import Derived.Test.YtkdiffpbljohkayL5Pt
import Derived.Test.YtkdiffpbljohkayL5Lang
namespace Go.Proofs.Ytkdiffpbljohkay.L5
open Go.RowKit L1 L4
set_option linter.unusedVariables false

def tid : Sh → TypeId
  | .none => 105
  | .empty => 101
  | .letter _ => 91
  | .any => 102
  | .seq _ _ => 93
  | .alt _ _ => 96
  | .many _ => 98
  | .inv _ => 99
def inn : Sh → Value
  | .letter c => .agg #[.int .u8 c]
  | .seq a b => .agg #[.iface (tid a) (inn a), .iface (tid b) (inn b)]
  | .alt a b => .agg #[.iface (tid a) (inn a), .iface (tid b) (inn b)]
  | .many a => .agg #[.iface (tid a) (inn a)]
  | .inv a => .agg #[.iface (tid a) (inn a)]
  | _ => .agg #[]
/-- A shape as a value. -/
abbrev sv (x : Sh) : Value := .iface (tid x) (inn x)
theorem mk_noText (x : Value) (w : World) : (Instr.makeInterface 105 x).run Try.prog w = .ok (.iface 105 x) w := run_makeInterface w 105 x (by kernel_rfl)
theorem mk_emptyText (x : Value) (w : World) : (Instr.makeInterface 101 x).run Try.prog w = .ok (.iface 101 x) w := run_makeInterface w 101 x (by kernel_rfl)
theorem mk_oneLetter (x : Value) (w : World) : (Instr.makeInterface 91 x).run Try.prog w = .ok (.iface 91 x) w := run_makeInterface w 91 x (by kernel_rfl)
theorem mk_anyLetter (x : Value) (w : World) : (Instr.makeInterface 102 x).run Try.prog w = .ok (.iface 102 x) w := run_makeInterface w 102 x (by kernel_rfl)
theorem mk_thenShape (x : Value) (w : World) : (Instr.makeInterface 93 x).run Try.prog w = .ok (.iface 93 x) w := run_makeInterface w 93 x (by kernel_rfl)
theorem mk_eitherShape (x : Value) (w : World) : (Instr.makeInterface 96 x).run Try.prog w = .ok (.iface 96 x) w := run_makeInterface w 96 x (by kernel_rfl)
theorem mk_manyShape (x : Value) (w : World) : (Instr.makeInterface 98 x).run Try.prog w = .ok (.iface 98 x) w := run_makeInterface w 98 x (by kernel_rfl)
theorem mk_notShape (x : Value) (w : World) : (Instr.makeInterface 99 x).run Try.prog w = .ok (.iface 99 x) w := run_makeInterface w 99 x (by kernel_rfl)
theorem as_noText_noText (v : Value) (w : World) : (Instr.typeAssert (.iface 105 v) 60 105 true).run Try.prog w = .ok (.tuple #[v, .bool true]) w := by kernel_rfl
theorem as_noText_emptyText (v : Value) (w : World) : (Instr.typeAssert (.iface 105 v) 60 101 true).run Try.prog w = .ok (.tuple #[.agg #[], .bool false]) w := by kernel_rfl
theorem as_noText_oneLetter (v : Value) (w : World) : (Instr.typeAssert (.iface 105 v) 60 91 true).run Try.prog w = .ok (.tuple #[.agg #[.int .u8 0], .bool false]) w := by kernel_rfl
theorem as_noText_anyLetter (v : Value) (w : World) : (Instr.typeAssert (.iface 105 v) 60 102 true).run Try.prog w = .ok (.tuple #[.agg #[], .bool false]) w := by kernel_rfl
theorem as_noText_thenShape (v : Value) (w : World) : (Instr.typeAssert (.iface 105 v) 60 93 true).run Try.prog w = .ok (.tuple #[.agg #[.nilIface, .nilIface], .bool false]) w := by kernel_rfl
theorem as_noText_eitherShape (v : Value) (w : World) : (Instr.typeAssert (.iface 105 v) 60 96 true).run Try.prog w = .ok (.tuple #[.agg #[.nilIface, .nilIface], .bool false]) w := by kernel_rfl
theorem as_noText_manyShape (v : Value) (w : World) : (Instr.typeAssert (.iface 105 v) 60 98 true).run Try.prog w = .ok (.tuple #[.agg #[.nilIface], .bool false]) w := by kernel_rfl
theorem as_noText_notShape (v : Value) (w : World) : (Instr.typeAssert (.iface 105 v) 60 99 true).run Try.prog w = .ok (.tuple #[.agg #[.nilIface], .bool false]) w := by kernel_rfl
theorem as_emptyText_noText (v : Value) (w : World) : (Instr.typeAssert (.iface 101 v) 60 105 true).run Try.prog w = .ok (.tuple #[.agg #[], .bool false]) w := by kernel_rfl
theorem as_emptyText_emptyText (v : Value) (w : World) : (Instr.typeAssert (.iface 101 v) 60 101 true).run Try.prog w = .ok (.tuple #[v, .bool true]) w := by kernel_rfl
theorem as_emptyText_oneLetter (v : Value) (w : World) : (Instr.typeAssert (.iface 101 v) 60 91 true).run Try.prog w = .ok (.tuple #[.agg #[.int .u8 0], .bool false]) w := by kernel_rfl
theorem as_emptyText_anyLetter (v : Value) (w : World) : (Instr.typeAssert (.iface 101 v) 60 102 true).run Try.prog w = .ok (.tuple #[.agg #[], .bool false]) w := by kernel_rfl
theorem as_emptyText_thenShape (v : Value) (w : World) : (Instr.typeAssert (.iface 101 v) 60 93 true).run Try.prog w = .ok (.tuple #[.agg #[.nilIface, .nilIface], .bool false]) w := by kernel_rfl
theorem as_emptyText_eitherShape (v : Value) (w : World) : (Instr.typeAssert (.iface 101 v) 60 96 true).run Try.prog w = .ok (.tuple #[.agg #[.nilIface, .nilIface], .bool false]) w := by kernel_rfl
theorem as_emptyText_manyShape (v : Value) (w : World) : (Instr.typeAssert (.iface 101 v) 60 98 true).run Try.prog w = .ok (.tuple #[.agg #[.nilIface], .bool false]) w := by kernel_rfl
theorem as_emptyText_notShape (v : Value) (w : World) : (Instr.typeAssert (.iface 101 v) 60 99 true).run Try.prog w = .ok (.tuple #[.agg #[.nilIface], .bool false]) w := by kernel_rfl
theorem as_oneLetter_noText (v : Value) (w : World) : (Instr.typeAssert (.iface 91 v) 60 105 true).run Try.prog w = .ok (.tuple #[.agg #[], .bool false]) w := by kernel_rfl
theorem as_oneLetter_emptyText (v : Value) (w : World) : (Instr.typeAssert (.iface 91 v) 60 101 true).run Try.prog w = .ok (.tuple #[.agg #[], .bool false]) w := by kernel_rfl
theorem as_oneLetter_oneLetter (v : Value) (w : World) : (Instr.typeAssert (.iface 91 v) 60 91 true).run Try.prog w = .ok (.tuple #[v, .bool true]) w := by kernel_rfl
theorem as_oneLetter_anyLetter (v : Value) (w : World) : (Instr.typeAssert (.iface 91 v) 60 102 true).run Try.prog w = .ok (.tuple #[.agg #[], .bool false]) w := by kernel_rfl
theorem as_oneLetter_thenShape (v : Value) (w : World) : (Instr.typeAssert (.iface 91 v) 60 93 true).run Try.prog w = .ok (.tuple #[.agg #[.nilIface, .nilIface], .bool false]) w := by kernel_rfl
theorem as_oneLetter_eitherShape (v : Value) (w : World) : (Instr.typeAssert (.iface 91 v) 60 96 true).run Try.prog w = .ok (.tuple #[.agg #[.nilIface, .nilIface], .bool false]) w := by kernel_rfl
theorem as_oneLetter_manyShape (v : Value) (w : World) : (Instr.typeAssert (.iface 91 v) 60 98 true).run Try.prog w = .ok (.tuple #[.agg #[.nilIface], .bool false]) w := by kernel_rfl
theorem as_oneLetter_notShape (v : Value) (w : World) : (Instr.typeAssert (.iface 91 v) 60 99 true).run Try.prog w = .ok (.tuple #[.agg #[.nilIface], .bool false]) w := by kernel_rfl
theorem as_anyLetter_noText (v : Value) (w : World) : (Instr.typeAssert (.iface 102 v) 60 105 true).run Try.prog w = .ok (.tuple #[.agg #[], .bool false]) w := by kernel_rfl
theorem as_anyLetter_emptyText (v : Value) (w : World) : (Instr.typeAssert (.iface 102 v) 60 101 true).run Try.prog w = .ok (.tuple #[.agg #[], .bool false]) w := by kernel_rfl
theorem as_anyLetter_oneLetter (v : Value) (w : World) : (Instr.typeAssert (.iface 102 v) 60 91 true).run Try.prog w = .ok (.tuple #[.agg #[.int .u8 0], .bool false]) w := by kernel_rfl
theorem as_anyLetter_anyLetter (v : Value) (w : World) : (Instr.typeAssert (.iface 102 v) 60 102 true).run Try.prog w = .ok (.tuple #[v, .bool true]) w := by kernel_rfl
theorem as_anyLetter_thenShape (v : Value) (w : World) : (Instr.typeAssert (.iface 102 v) 60 93 true).run Try.prog w = .ok (.tuple #[.agg #[.nilIface, .nilIface], .bool false]) w := by kernel_rfl
theorem as_anyLetter_eitherShape (v : Value) (w : World) : (Instr.typeAssert (.iface 102 v) 60 96 true).run Try.prog w = .ok (.tuple #[.agg #[.nilIface, .nilIface], .bool false]) w := by kernel_rfl
theorem as_anyLetter_manyShape (v : Value) (w : World) : (Instr.typeAssert (.iface 102 v) 60 98 true).run Try.prog w = .ok (.tuple #[.agg #[.nilIface], .bool false]) w := by kernel_rfl
theorem as_anyLetter_notShape (v : Value) (w : World) : (Instr.typeAssert (.iface 102 v) 60 99 true).run Try.prog w = .ok (.tuple #[.agg #[.nilIface], .bool false]) w := by kernel_rfl
theorem as_thenShape_noText (v : Value) (w : World) : (Instr.typeAssert (.iface 93 v) 60 105 true).run Try.prog w = .ok (.tuple #[.agg #[], .bool false]) w := by kernel_rfl
theorem as_thenShape_emptyText (v : Value) (w : World) : (Instr.typeAssert (.iface 93 v) 60 101 true).run Try.prog w = .ok (.tuple #[.agg #[], .bool false]) w := by kernel_rfl
theorem as_thenShape_oneLetter (v : Value) (w : World) : (Instr.typeAssert (.iface 93 v) 60 91 true).run Try.prog w = .ok (.tuple #[.agg #[.int .u8 0], .bool false]) w := by kernel_rfl
theorem as_thenShape_anyLetter (v : Value) (w : World) : (Instr.typeAssert (.iface 93 v) 60 102 true).run Try.prog w = .ok (.tuple #[.agg #[], .bool false]) w := by kernel_rfl
theorem as_thenShape_thenShape (v : Value) (w : World) : (Instr.typeAssert (.iface 93 v) 60 93 true).run Try.prog w = .ok (.tuple #[v, .bool true]) w := by kernel_rfl
theorem as_thenShape_eitherShape (v : Value) (w : World) : (Instr.typeAssert (.iface 93 v) 60 96 true).run Try.prog w = .ok (.tuple #[.agg #[.nilIface, .nilIface], .bool false]) w := by kernel_rfl
theorem as_thenShape_manyShape (v : Value) (w : World) : (Instr.typeAssert (.iface 93 v) 60 98 true).run Try.prog w = .ok (.tuple #[.agg #[.nilIface], .bool false]) w := by kernel_rfl
theorem as_thenShape_notShape (v : Value) (w : World) : (Instr.typeAssert (.iface 93 v) 60 99 true).run Try.prog w = .ok (.tuple #[.agg #[.nilIface], .bool false]) w := by kernel_rfl
theorem as_eitherShape_noText (v : Value) (w : World) : (Instr.typeAssert (.iface 96 v) 60 105 true).run Try.prog w = .ok (.tuple #[.agg #[], .bool false]) w := by kernel_rfl
theorem as_eitherShape_emptyText (v : Value) (w : World) : (Instr.typeAssert (.iface 96 v) 60 101 true).run Try.prog w = .ok (.tuple #[.agg #[], .bool false]) w := by kernel_rfl
theorem as_eitherShape_oneLetter (v : Value) (w : World) : (Instr.typeAssert (.iface 96 v) 60 91 true).run Try.prog w = .ok (.tuple #[.agg #[.int .u8 0], .bool false]) w := by kernel_rfl
theorem as_eitherShape_anyLetter (v : Value) (w : World) : (Instr.typeAssert (.iface 96 v) 60 102 true).run Try.prog w = .ok (.tuple #[.agg #[], .bool false]) w := by kernel_rfl
theorem as_eitherShape_thenShape (v : Value) (w : World) : (Instr.typeAssert (.iface 96 v) 60 93 true).run Try.prog w = .ok (.tuple #[.agg #[.nilIface, .nilIface], .bool false]) w := by kernel_rfl
theorem as_eitherShape_eitherShape (v : Value) (w : World) : (Instr.typeAssert (.iface 96 v) 60 96 true).run Try.prog w = .ok (.tuple #[v, .bool true]) w := by kernel_rfl
theorem as_eitherShape_manyShape (v : Value) (w : World) : (Instr.typeAssert (.iface 96 v) 60 98 true).run Try.prog w = .ok (.tuple #[.agg #[.nilIface], .bool false]) w := by kernel_rfl
theorem as_eitherShape_notShape (v : Value) (w : World) : (Instr.typeAssert (.iface 96 v) 60 99 true).run Try.prog w = .ok (.tuple #[.agg #[.nilIface], .bool false]) w := by kernel_rfl
theorem as_manyShape_noText (v : Value) (w : World) : (Instr.typeAssert (.iface 98 v) 60 105 true).run Try.prog w = .ok (.tuple #[.agg #[], .bool false]) w := by kernel_rfl
theorem as_manyShape_emptyText (v : Value) (w : World) : (Instr.typeAssert (.iface 98 v) 60 101 true).run Try.prog w = .ok (.tuple #[.agg #[], .bool false]) w := by kernel_rfl
theorem as_manyShape_oneLetter (v : Value) (w : World) : (Instr.typeAssert (.iface 98 v) 60 91 true).run Try.prog w = .ok (.tuple #[.agg #[.int .u8 0], .bool false]) w := by kernel_rfl
theorem as_manyShape_anyLetter (v : Value) (w : World) : (Instr.typeAssert (.iface 98 v) 60 102 true).run Try.prog w = .ok (.tuple #[.agg #[], .bool false]) w := by kernel_rfl
theorem as_manyShape_thenShape (v : Value) (w : World) : (Instr.typeAssert (.iface 98 v) 60 93 true).run Try.prog w = .ok (.tuple #[.agg #[.nilIface, .nilIface], .bool false]) w := by kernel_rfl
theorem as_manyShape_eitherShape (v : Value) (w : World) : (Instr.typeAssert (.iface 98 v) 60 96 true).run Try.prog w = .ok (.tuple #[.agg #[.nilIface, .nilIface], .bool false]) w := by kernel_rfl
theorem as_manyShape_manyShape (v : Value) (w : World) : (Instr.typeAssert (.iface 98 v) 60 98 true).run Try.prog w = .ok (.tuple #[v, .bool true]) w := by kernel_rfl
theorem as_manyShape_notShape (v : Value) (w : World) : (Instr.typeAssert (.iface 98 v) 60 99 true).run Try.prog w = .ok (.tuple #[.agg #[.nilIface], .bool false]) w := by kernel_rfl
theorem as_notShape_noText (v : Value) (w : World) : (Instr.typeAssert (.iface 99 v) 60 105 true).run Try.prog w = .ok (.tuple #[.agg #[], .bool false]) w := by kernel_rfl
theorem as_notShape_emptyText (v : Value) (w : World) : (Instr.typeAssert (.iface 99 v) 60 101 true).run Try.prog w = .ok (.tuple #[.agg #[], .bool false]) w := by kernel_rfl
theorem as_notShape_oneLetter (v : Value) (w : World) : (Instr.typeAssert (.iface 99 v) 60 91 true).run Try.prog w = .ok (.tuple #[.agg #[.int .u8 0], .bool false]) w := by kernel_rfl
theorem as_notShape_anyLetter (v : Value) (w : World) : (Instr.typeAssert (.iface 99 v) 60 102 true).run Try.prog w = .ok (.tuple #[.agg #[], .bool false]) w := by kernel_rfl
theorem as_notShape_thenShape (v : Value) (w : World) : (Instr.typeAssert (.iface 99 v) 60 93 true).run Try.prog w = .ok (.tuple #[.agg #[.nilIface, .nilIface], .bool false]) w := by kernel_rfl
theorem as_notShape_eitherShape (v : Value) (w : World) : (Instr.typeAssert (.iface 99 v) 60 96 true).run Try.prog w = .ok (.tuple #[.agg #[.nilIface, .nilIface], .bool false]) w := by kernel_rfl
theorem as_notShape_manyShape (v : Value) (w : World) : (Instr.typeAssert (.iface 99 v) 60 98 true).run Try.prog w = .ok (.tuple #[.agg #[.nilIface], .bool false]) w := by kernel_rfl
theorem as_notShape_notShape (v : Value) (w : World) : (Instr.typeAssert (.iface 99 v) 60 99 true).run Try.prog w = .ok (.tuple #[v, .bool true]) w := by kernel_rfl
end Go.Proofs.Ytkdiffpbljohkay.L5
