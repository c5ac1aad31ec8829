/-
  The specification's reader of forms: what (*spec.l5R).form hands back; facts on trees that grow.
-/
import Derived.Test.YtkdiffpbljohkayL5STake
import Derived.Test.YtkdiffpbljohkayL5SpecFlat
namespace Go.Proofs.Ytkdiffpbljohkay.L5
open Go.RowKit L1 L4
set_option linter.unusedVariables false

theorem SMv.alloc {w w' : World} {g k : Nat} {s : ByteArray} {o : Bool} (h : SMv w w' g s k o) (ob : Obj) : SMv w (w'.alloc ob) g s k o := h.below ((Below.refl _ _).alloc (Nat.le_refl _) ob)
/-- New blocks. -/
abbrev Nw (w : World) : Nat → Prop := fun b => w.heap.size ≤ b
/-- What form hands back. -/
def FmP (w : World) (g : Nat) (s : ByteArray) (r : Option Sh × Nat) (e : Ending) (w' : World) : Prop :=
  ∃ p, e = .returned (.pointer p) ∧ SMv w w' g s r.2 (!r.1.isSome) ∧ ∀ x, r.1 = some x → Tr w' (Nw w) p x
def FC (n : Nat) : Prop := ∀ (s : ByteArray) (k g : Nat) (d : Int) (w : World), SB w g s k false → k ≤ s.size → s.size ≤ 120 → 0 ≤ d → d + n = 61 → Calls Try.prog 49 #[.pointer (some ⟨g, 0, none⟩), .int .i64 d] w fun e w' => FmP w g s (prs s n k) e w'
theorem fmp_no {w w' : World} {g k : Nat} {s : ByteArray} {p : Option Addr} (h : SMv w w' g s k true) : FmP w g s (none, k) (.returned (.pointer p)) w' := ⟨p, rfl, h, fun x hx => by cases hx⟩
theorem fmp_yes {w w' : World} {g k : Nat} {s : ByteArray} {p : Option Addr} {x : Sh} (h : SMv w w' g s k false) (t : Tr w' (Nw w) p x) : FmP w g s (some x, k) (.returned (.pointer p)) w' := ⟨p, rfl, h, fun y hy => by cases hy; exact t⟩
def atOfS (w : World) (g : Nat) : Nat := match w.cell? ⟨g, 1, none⟩ with
  | some v => (intOf v).toNat
  | none => 0
theorem at_ofS {w : World} {g k : Nat} {s : ByteArray} {o : Bool} (h : SB w g s k o) : atOfS w g = k := by
  unfold atOfS
  rw [h.k]
  simp [intOf]
theorem drewN_belowF (B : Nat) (w : World) : ∀ q, Below B w (w.drewN q)
  | 0 => Below.refl _ _
  | q + 1 => (drewN_belowF B w q).trans (Below.refl _ _).drew
theorem Tr.drewN {w : World} {S : Nat → Prop} {x : Sh} {p : Option Addr} (h : Tr w S p x) (q : Nat) : Tr (w.drewN q) S p x := h.below (drewN_belowF _ _ q)
theorem Tr.alloc {w : World} {S : Nat → Prop} {x : Sh} {p : Option Addr} (h : Tr w S p x) (ob : Obj) : Tr (w.alloc ob) S p x := h.below ((Below.refl _ _).alloc (Nat.le_refl _) ob)
/-- The reader's own cell is none of a tree's in new blocks. -/
theorem Tr.setR {w w' : World} {x : Sh} {q : Option Addr} {g j : Nat} (h : Tr w' (Nw w) q x) (hg : g < w.heap.size) (u : Value) : Tr (w'.setCell ⟨g, j, none⟩ u) (Nw w) q x :=
  h.set (fun b hb e => by simp only at e; have : w.heap.size ≤ b := hb; omega) u
/-- One node more over a tree. -/
theorem tr_over {w w' : World} {k : Int} {z z' : Sh} {q : Option Addr} (h : Tr w' (Nw w) q z) (hw : w.heap.size ≤ w'.heap.size) (hz : (k = 7 ∧ z' = .many z) ∨ (k = 8 ∧ z' = .inv z)) : Tr (w'.alloc (.cells #[.int .i64 k, .string ByteArray.empty, .pointer q, .pointer none] 84)) (Nw w) (some ⟨w'.heap.size, 0, none⟩) z' := by
  rcases hz with ⟨rfl, rfl⟩ | ⟨rfl, rfl⟩
  · exact ⟨_, _, _, rfl, hw, (FB.new w' 7 ByteArray.empty q none).at, h.alloc _⟩
  · exact ⟨_, _, _, rfl, hw, (FB.new w' 8 ByteArray.empty q none).at, h.alloc _⟩
end Go.Proofs.Ytkdiffpbljohkay.L5
