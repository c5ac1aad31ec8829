/-
  Shapes as the program holds them: interface values, no memory. What becomes of one, what each assertion says of each.
-/
import Derived.Test.YtkdiffpbljohkaxL5Pt
import Derived.Test.YtkdiffpbljohkaxL5Lang
namespace Go.Proofs.Ytkdiffpbljohkax.L5
open Go.RowKit L1 L4
set_option linter.unusedVariables false

def tid : Sh → TypeId
  | .none => 137
  | .empty => 117
  | .letter _ => 135
  | .any => 136
  | .seq _ _ => 121
  | .alt _ _ => 122
  | .many _ => 119
  | .inv _ => 123
def inn : Sh → Value
  | .letter c => .agg #[.int .u8 c]
  | .seq a b => .agg #[.iface (tid a) (inn a), .iface (tid b) (inn b)]
  | .alt a b => .agg #[.iface (tid a) (inn a), .iface (tid b) (inn b)]
  | .many a => .agg #[.iface (tid a) (inn a)]
  | .inv a => .agg #[.iface (tid a) (inn a)]
  | _ => .agg #[]
/-- A shape as a value. -/
abbrev sv (x : Sh) : Value := .iface (tid x) (inn x)
theorem mk_noText (x : Value) (w : World) : (Instr.makeInterface 137 x).run Try.prog w = .ok (.iface 137 x) w := run_makeInterface w 137 x (by kernel_rfl)
theorem mk_emptyText (x : Value) (w : World) : (Instr.makeInterface 117 x).run Try.prog w = .ok (.iface 117 x) w := run_makeInterface w 117 x (by kernel_rfl)
theorem mk_oneLetter (x : Value) (w : World) : (Instr.makeInterface 135 x).run Try.prog w = .ok (.iface 135 x) w := run_makeInterface w 135 x (by kernel_rfl)
theorem mk_anyLetter (x : Value) (w : World) : (Instr.makeInterface 136 x).run Try.prog w = .ok (.iface 136 x) w := run_makeInterface w 136 x (by kernel_rfl)
theorem mk_thenShape (x : Value) (w : World) : (Instr.makeInterface 121 x).run Try.prog w = .ok (.iface 121 x) w := run_makeInterface w 121 x (by kernel_rfl)
theorem mk_eitherShape (x : Value) (w : World) : (Instr.makeInterface 122 x).run Try.prog w = .ok (.iface 122 x) w := run_makeInterface w 122 x (by kernel_rfl)
theorem mk_manyShape (x : Value) (w : World) : (Instr.makeInterface 119 x).run Try.prog w = .ok (.iface 119 x) w := run_makeInterface w 119 x (by kernel_rfl)
theorem mk_notShape (x : Value) (w : World) : (Instr.makeInterface 123 x).run Try.prog w = .ok (.iface 123 x) w := run_makeInterface w 123 x (by kernel_rfl)
theorem as_noText_noText (v : Value) (w : World) : (Instr.typeAssert (.iface 137 v) 100 137 true).run Try.prog w = .ok (.tuple #[v, .bool true]) w := by kernel_rfl
theorem as_noText_emptyText (v : Value) (w : World) : (Instr.typeAssert (.iface 137 v) 100 117 true).run Try.prog w = .ok (.tuple #[.agg #[], .bool false]) w := by kernel_rfl
theorem as_noText_oneLetter (v : Value) (w : World) : (Instr.typeAssert (.iface 137 v) 100 135 true).run Try.prog w = .ok (.tuple #[.agg #[.int .u8 0], .bool false]) w := by kernel_rfl
theorem as_noText_anyLetter (v : Value) (w : World) : (Instr.typeAssert (.iface 137 v) 100 136 true).run Try.prog w = .ok (.tuple #[.agg #[], .bool false]) w := by kernel_rfl
theorem as_noText_thenShape (v : Value) (w : World) : (Instr.typeAssert (.iface 137 v) 100 121 true).run Try.prog w = .ok (.tuple #[.agg #[.nilIface, .nilIface], .bool false]) w := by kernel_rfl
theorem as_noText_eitherShape (v : Value) (w : World) : (Instr.typeAssert (.iface 137 v) 100 122 true).run Try.prog w = .ok (.tuple #[.agg #[.nilIface, .nilIface], .bool false]) w := by kernel_rfl
theorem as_noText_manyShape (v : Value) (w : World) : (Instr.typeAssert (.iface 137 v) 100 119 true).run Try.prog w = .ok (.tuple #[.agg #[.nilIface], .bool false]) w := by kernel_rfl
theorem as_noText_notShape (v : Value) (w : World) : (Instr.typeAssert (.iface 137 v) 100 123 true).run Try.prog w = .ok (.tuple #[.agg #[.nilIface], .bool false]) w := by kernel_rfl
theorem as_emptyText_noText (v : Value) (w : World) : (Instr.typeAssert (.iface 117 v) 100 137 true).run Try.prog w = .ok (.tuple #[.agg #[], .bool false]) w := by kernel_rfl
theorem as_emptyText_emptyText (v : Value) (w : World) : (Instr.typeAssert (.iface 117 v) 100 117 true).run Try.prog w = .ok (.tuple #[v, .bool true]) w := by kernel_rfl
theorem as_emptyText_oneLetter (v : Value) (w : World) : (Instr.typeAssert (.iface 117 v) 100 135 true).run Try.prog w = .ok (.tuple #[.agg #[.int .u8 0], .bool false]) w := by kernel_rfl
theorem as_emptyText_anyLetter (v : Value) (w : World) : (Instr.typeAssert (.iface 117 v) 100 136 true).run Try.prog w = .ok (.tuple #[.agg #[], .bool false]) w := by kernel_rfl
theorem as_emptyText_thenShape (v : Value) (w : World) : (Instr.typeAssert (.iface 117 v) 100 121 true).run Try.prog w = .ok (.tuple #[.agg #[.nilIface, .nilIface], .bool false]) w := by kernel_rfl
theorem as_emptyText_eitherShape (v : Value) (w : World) : (Instr.typeAssert (.iface 117 v) 100 122 true).run Try.prog w = .ok (.tuple #[.agg #[.nilIface, .nilIface], .bool false]) w := by kernel_rfl
theorem as_emptyText_manyShape (v : Value) (w : World) : (Instr.typeAssert (.iface 117 v) 100 119 true).run Try.prog w = .ok (.tuple #[.agg #[.nilIface], .bool false]) w := by kernel_rfl
theorem as_emptyText_notShape (v : Value) (w : World) : (Instr.typeAssert (.iface 117 v) 100 123 true).run Try.prog w = .ok (.tuple #[.agg #[.nilIface], .bool false]) w := by kernel_rfl
theorem as_oneLetter_noText (v : Value) (w : World) : (Instr.typeAssert (.iface 135 v) 100 137 true).run Try.prog w = .ok (.tuple #[.agg #[], .bool false]) w := by kernel_rfl
theorem as_oneLetter_emptyText (v : Value) (w : World) : (Instr.typeAssert (.iface 135 v) 100 117 true).run Try.prog w = .ok (.tuple #[.agg #[], .bool false]) w := by kernel_rfl
theorem as_oneLetter_oneLetter (v : Value) (w : World) : (Instr.typeAssert (.iface 135 v) 100 135 true).run Try.prog w = .ok (.tuple #[v, .bool true]) w := by kernel_rfl
theorem as_oneLetter_anyLetter (v : Value) (w : World) : (Instr.typeAssert (.iface 135 v) 100 136 true).run Try.prog w = .ok (.tuple #[.agg #[], .bool false]) w := by kernel_rfl
theorem as_oneLetter_thenShape (v : Value) (w : World) : (Instr.typeAssert (.iface 135 v) 100 121 true).run Try.prog w = .ok (.tuple #[.agg #[.nilIface, .nilIface], .bool false]) w := by kernel_rfl
theorem as_oneLetter_eitherShape (v : Value) (w : World) : (Instr.typeAssert (.iface 135 v) 100 122 true).run Try.prog w = .ok (.tuple #[.agg #[.nilIface, .nilIface], .bool false]) w := by kernel_rfl
theorem as_oneLetter_manyShape (v : Value) (w : World) : (Instr.typeAssert (.iface 135 v) 100 119 true).run Try.prog w = .ok (.tuple #[.agg #[.nilIface], .bool false]) w := by kernel_rfl
theorem as_oneLetter_notShape (v : Value) (w : World) : (Instr.typeAssert (.iface 135 v) 100 123 true).run Try.prog w = .ok (.tuple #[.agg #[.nilIface], .bool false]) w := by kernel_rfl
theorem as_anyLetter_noText (v : Value) (w : World) : (Instr.typeAssert (.iface 136 v) 100 137 true).run Try.prog w = .ok (.tuple #[.agg #[], .bool false]) w := by kernel_rfl
theorem as_anyLetter_emptyText (v : Value) (w : World) : (Instr.typeAssert (.iface 136 v) 100 117 true).run Try.prog w = .ok (.tuple #[.agg #[], .bool false]) w := by kernel_rfl
theorem as_anyLetter_oneLetter (v : Value) (w : World) : (Instr.typeAssert (.iface 136 v) 100 135 true).run Try.prog w = .ok (.tuple #[.agg #[.int .u8 0], .bool false]) w := by kernel_rfl
theorem as_anyLetter_anyLetter (v : Value) (w : World) : (Instr.typeAssert (.iface 136 v) 100 136 true).run Try.prog w = .ok (.tuple #[v, .bool true]) w := by kernel_rfl
theorem as_anyLetter_thenShape (v : Value) (w : World) : (Instr.typeAssert (.iface 136 v) 100 121 true).run Try.prog w = .ok (.tuple #[.agg #[.nilIface, .nilIface], .bool false]) w := by kernel_rfl
theorem as_anyLetter_eitherShape (v : Value) (w : World) : (Instr.typeAssert (.iface 136 v) 100 122 true).run Try.prog w = .ok (.tuple #[.agg #[.nilIface, .nilIface], .bool false]) w := by kernel_rfl
theorem as_anyLetter_manyShape (v : Value) (w : World) : (Instr.typeAssert (.iface 136 v) 100 119 true).run Try.prog w = .ok (.tuple #[.agg #[.nilIface], .bool false]) w := by kernel_rfl
theorem as_anyLetter_notShape (v : Value) (w : World) : (Instr.typeAssert (.iface 136 v) 100 123 true).run Try.prog w = .ok (.tuple #[.agg #[.nilIface], .bool false]) w := by kernel_rfl
theorem as_thenShape_noText (v : Value) (w : World) : (Instr.typeAssert (.iface 121 v) 100 137 true).run Try.prog w = .ok (.tuple #[.agg #[], .bool false]) w := by kernel_rfl
theorem as_thenShape_emptyText (v : Value) (w : World) : (Instr.typeAssert (.iface 121 v) 100 117 true).run Try.prog w = .ok (.tuple #[.agg #[], .bool false]) w := by kernel_rfl
theorem as_thenShape_oneLetter (v : Value) (w : World) : (Instr.typeAssert (.iface 121 v) 100 135 true).run Try.prog w = .ok (.tuple #[.agg #[.int .u8 0], .bool false]) w := by kernel_rfl
theorem as_thenShape_anyLetter (v : Value) (w : World) : (Instr.typeAssert (.iface 121 v) 100 136 true).run Try.prog w = .ok (.tuple #[.agg #[], .bool false]) w := by kernel_rfl
theorem as_thenShape_thenShape (v : Value) (w : World) : (Instr.typeAssert (.iface 121 v) 100 121 true).run Try.prog w = .ok (.tuple #[v, .bool true]) w := by kernel_rfl
theorem as_thenShape_eitherShape (v : Value) (w : World) : (Instr.typeAssert (.iface 121 v) 100 122 true).run Try.prog w = .ok (.tuple #[.agg #[.nilIface, .nilIface], .bool false]) w := by kernel_rfl
theorem as_thenShape_manyShape (v : Value) (w : World) : (Instr.typeAssert (.iface 121 v) 100 119 true).run Try.prog w = .ok (.tuple #[.agg #[.nilIface], .bool false]) w := by kernel_rfl
theorem as_thenShape_notShape (v : Value) (w : World) : (Instr.typeAssert (.iface 121 v) 100 123 true).run Try.prog w = .ok (.tuple #[.agg #[.nilIface], .bool false]) w := by kernel_rfl
theorem as_eitherShape_noText (v : Value) (w : World) : (Instr.typeAssert (.iface 122 v) 100 137 true).run Try.prog w = .ok (.tuple #[.agg #[], .bool false]) w := by kernel_rfl
theorem as_eitherShape_emptyText (v : Value) (w : World) : (Instr.typeAssert (.iface 122 v) 100 117 true).run Try.prog w = .ok (.tuple #[.agg #[], .bool false]) w := by kernel_rfl
theorem as_eitherShape_oneLetter (v : Value) (w : World) : (Instr.typeAssert (.iface 122 v) 100 135 true).run Try.prog w = .ok (.tuple #[.agg #[.int .u8 0], .bool false]) w := by kernel_rfl
theorem as_eitherShape_anyLetter (v : Value) (w : World) : (Instr.typeAssert (.iface 122 v) 100 136 true).run Try.prog w = .ok (.tuple #[.agg #[], .bool false]) w := by kernel_rfl
theorem as_eitherShape_thenShape (v : Value) (w : World) : (Instr.typeAssert (.iface 122 v) 100 121 true).run Try.prog w = .ok (.tuple #[.agg #[.nilIface, .nilIface], .bool false]) w := by kernel_rfl
theorem as_eitherShape_eitherShape (v : Value) (w : World) : (Instr.typeAssert (.iface 122 v) 100 122 true).run Try.prog w = .ok (.tuple #[v, .bool true]) w := by kernel_rfl
theorem as_eitherShape_manyShape (v : Value) (w : World) : (Instr.typeAssert (.iface 122 v) 100 119 true).run Try.prog w = .ok (.tuple #[.agg #[.nilIface], .bool false]) w := by kernel_rfl
theorem as_eitherShape_notShape (v : Value) (w : World) : (Instr.typeAssert (.iface 122 v) 100 123 true).run Try.prog w = .ok (.tuple #[.agg #[.nilIface], .bool false]) w := by kernel_rfl
theorem as_manyShape_noText (v : Value) (w : World) : (Instr.typeAssert (.iface 119 v) 100 137 true).run Try.prog w = .ok (.tuple #[.agg #[], .bool false]) w := by kernel_rfl
theorem as_manyShape_emptyText (v : Value) (w : World) : (Instr.typeAssert (.iface 119 v) 100 117 true).run Try.prog w = .ok (.tuple #[.agg #[], .bool false]) w := by kernel_rfl
theorem as_manyShape_oneLetter (v : Value) (w : World) : (Instr.typeAssert (.iface 119 v) 100 135 true).run Try.prog w = .ok (.tuple #[.agg #[.int .u8 0], .bool false]) w := by kernel_rfl
theorem as_manyShape_anyLetter (v : Value) (w : World) : (Instr.typeAssert (.iface 119 v) 100 136 true).run Try.prog w = .ok (.tuple #[.agg #[], .bool false]) w := by kernel_rfl
theorem as_manyShape_thenShape (v : Value) (w : World) : (Instr.typeAssert (.iface 119 v) 100 121 true).run Try.prog w = .ok (.tuple #[.agg #[.nilIface, .nilIface], .bool false]) w := by kernel_rfl
theorem as_manyShape_eitherShape (v : Value) (w : World) : (Instr.typeAssert (.iface 119 v) 100 122 true).run Try.prog w = .ok (.tuple #[.agg #[.nilIface, .nilIface], .bool false]) w := by kernel_rfl
theorem as_manyShape_manyShape (v : Value) (w : World) : (Instr.typeAssert (.iface 119 v) 100 119 true).run Try.prog w = .ok (.tuple #[v, .bool true]) w := by kernel_rfl
theorem as_manyShape_notShape (v : Value) (w : World) : (Instr.typeAssert (.iface 119 v) 100 123 true).run Try.prog w = .ok (.tuple #[.agg #[.nilIface], .bool false]) w := by kernel_rfl
theorem as_notShape_noText (v : Value) (w : World) : (Instr.typeAssert (.iface 123 v) 100 137 true).run Try.prog w = .ok (.tuple #[.agg #[], .bool false]) w := by kernel_rfl
theorem as_notShape_emptyText (v : Value) (w : World) : (Instr.typeAssert (.iface 123 v) 100 117 true).run Try.prog w = .ok (.tuple #[.agg #[], .bool false]) w := by kernel_rfl
theorem as_notShape_oneLetter (v : Value) (w : World) : (Instr.typeAssert (.iface 123 v) 100 135 true).run Try.prog w = .ok (.tuple #[.agg #[.int .u8 0], .bool false]) w := by kernel_rfl
theorem as_notShape_anyLetter (v : Value) (w : World) : (Instr.typeAssert (.iface 123 v) 100 136 true).run Try.prog w = .ok (.tuple #[.agg #[], .bool false]) w := by kernel_rfl
theorem as_notShape_thenShape (v : Value) (w : World) : (Instr.typeAssert (.iface 123 v) 100 121 true).run Try.prog w = .ok (.tuple #[.agg #[.nilIface, .nilIface], .bool false]) w := by kernel_rfl
theorem as_notShape_eitherShape (v : Value) (w : World) : (Instr.typeAssert (.iface 123 v) 100 122 true).run Try.prog w = .ok (.tuple #[.agg #[.nilIface, .nilIface], .bool false]) w := by kernel_rfl
theorem as_notShape_manyShape (v : Value) (w : World) : (Instr.typeAssert (.iface 123 v) 100 119 true).run Try.prog w = .ok (.tuple #[.agg #[.nilIface], .bool false]) w := by kernel_rfl
theorem as_notShape_notShape (v : Value) (w : World) : (Instr.typeAssert (.iface 123 v) 100 123 true).run Try.prog w = .ok (.tuple #[v, .bool true]) w := by kernel_rfl
end Go.Proofs.Ytkdiffpbljohkax.L5
