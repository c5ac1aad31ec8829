/-
  Small lemmas that the contracts of chapter 1 share. Nothing of the program's text is proved here but closed facts on its types.
-/
import Derived.Test.YtlhmailmgpocbaaDoorChecked
import Derived.Test.YtlhmailmgpocbaaDoorL1Math
import Derived.WalkKit
import Derived.ProofKit
import Derived.OpenShut
import Derived.Laws.BytesArg
import Derived.WalkSpells
import Derived.WalkLawsBesides
namespace Go.Proofs.YtlhmailmgpocbaaDoor.L1
open Go.RowKit
set_option linter.unusedVariables false

theorem hide {p : Prop} (h : p) : Hid p := h
theorem unhide {p : Prop} (h : Hid p) : p := h
theorem ret_int {k : IntKind} {a b : Int} (h : a = b) : Ending.returned (.int k a) = .returned (.int k b) := by rw [h]
theorem addr_add (g i : Nat) : (⟨g, 0, none⟩ : Addr).add i = ⟨g, i, none⟩ := by unfold Addr.add; split <;> simp_all

theorem info_u8 : (Tryd.prog.info? 5).map (fun i => (i.zero, i.size, i.bytes)) = some (some (.int .u8 0), 1, 1) := by kernel_rfl

/-- What a walk is told of a slice of integers that came in: it is nil; or it leads to a row of 'cap' cells, the numbers 'zs' (the first 'len' are its elements), each fitting its kind. -/
def IsRow (k : IntKind) (w : World) (a : Option Addr) (len cap : Nat) (zs : List Int) : Prop :=
  (a = none ∧ len = 0 ∧ cap = 0 ∧ zs = []) ∨
  ∃ x, a = some x ∧ len ≤ cap ∧ cap ≤ maxLen ∧ zs.length = cap ∧ (∀ i, i < zs.length → w.cell? (x.add i) = some (.int k (zs.getD i 0))) ∧ ∀ n ∈ zs, (Lit.int k n).wf = true

/-- A row of bytes that a call owns, as a text. -/
theorem conv_own {w : World} {base : Nat} {v : Value} {n : Nat} {l : List Int} (hown : w.ownsRow base 5 1 v n (l.map (Value.int .u8))) (hn : 0 < n) :
    (convert 22 9 v).run Tryd.prog w = .ok (.string (strOfNums l)) w := by
  have hlen := hown.1
  rcases hown.2 with ⟨_, h0⟩ | ⟨g, cap, cur, rfl, hb, hg, hle, hm, hs, ht⟩
  · omega
  · simp at hlen
    exact run_convert_bytes_arg w 22 5 Tryd.underlying22 Tryd.underlying5 g 0 n cap l hlen (fun i hi => by
      have := hown.cells (g := g) rfl i (.int .u8 (l.getD i 0)) (by
        rw [List.getElem?_map, List.getElem?_eq_getElem (by omega)]
        simp [List.getD, List.getElem?_eq_getElem (show i < l.length by omega)])
      rw [addr_add] at this
      simpa using this) 9 Tryd.underlying9
end Go.Proofs.YtlhmailmgpocbaaDoor.L1
