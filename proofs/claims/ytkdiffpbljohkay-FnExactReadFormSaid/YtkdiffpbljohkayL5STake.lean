/-
  The specification's reader of forms: its block; contract: (*spec.l5R).take.
-/
import Derived.Test.YtkdiffpbljohkayL5Parse
import Derived.Test.YtkdiffpbljohkayL5Grow
import Derived.Deep.QuietTactic
import Derived.BigQuiet
namespace Go.Proofs.Ytkdiffpbljohkay.L5
open Go.RowKit L1 L4
set_option linter.unusedVariables false

/-- A reader's block. -/
def SB (w : World) (g : Nat) (s : ByteArray) (k : Nat) (o : Bool) : Prop := w.heap[g]? = some (.cells #[.string s, .int .i64 (k : Int), .bool o] 71 (0, 0))
theorem SB.lt {w : World} {g k : Nat} {s : ByteArray} {o : Bool} (h : SB w g s k o) : g < w.heap.size := (Array.getElem?_eq_some_iff.1 h).1
theorem SB.s {w : World} {g k : Nat} {s : ByteArray} {o : Bool} (h : SB w g s k o) : w.cell? ⟨g, 0, none⟩ = some (.string s) := Lib.cell_of_heap h 0
theorem SB.k {w : World} {g k : Nat} {s : ByteArray} {o : Bool} (h : SB w g s k o) : w.cell? ⟨g, 1, none⟩ = some (.int .i64 (k : Int)) := Lib.cell_of_heap h 1
theorem SB.o {w : World} {g k : Nat} {s : ByteArray} {o : Bool} (h : SB w g s k o) : w.cell? ⟨g, 2, none⟩ = some (.bool o) := Lib.cell_of_heap h 2
theorem SB.frozen {w : World} {g k : Nat} {s : ByteArray} {o : Bool} (h : SB w g s k o) (j : Nat) : w.frozen? ⟨g, j, none⟩ = false := Lib.frozen_of_heap h j
theorem SB.below {w w' : World} {g k : Nat} {s : ByteArray} {o : Bool} (h : SB w g s k o) (hb : Below w.heap.size w w') : SB w' g s k o := (hb.block g h.lt).trans h
theorem SB.setK {w : World} {g k : Nat} {s : ByteArray} {o : Bool} (h : SB w g s k o) (y : Nat) : SB (w.setCell ⟨g, 1, none⟩ (.int .i64 (y : Int))) g s y o := by
  have h1 := heap_setCell_same w g 1 _ _ (.int .i64 (y : Int)) h
  unfold SB
  rw [h1]
  rfl
theorem SB.setO {w : World} {g k : Nat} {s : ByteArray} {o : Bool} (h : SB w g s k o) (y : Bool) : SB (w.setCell ⟨g, 2, none⟩ (.bool y)) g s k y := by
  have h1 := heap_setCell_same w g 2 _ _ (.bool y) h
  unfold SB
  rw [h1]
  rfl
theorem SB.new (w : World) (s : ByteArray) (k : Nat) (o : Bool) : SB (w.alloc (.cells #[.string s, .int .i64 (k : Int), .bool o] 71)) w.heap.size s k o := by
  unfold SB
  show (w.heap.push _)[w.heap.size]? = _
  exact Array.getElem?_push_size
/-- The reader stands elsewhere; nothing else has turned. -/
structure SMv (w w' : World) (g : Nat) (s : ByteArray) (k : Nat) (o : Bool) : Prop where
  rb : SB w' g s k o
  gr : w.grownBy w' (some g)
theorem SMv.trans {w w' w'' : World} {g k k' : Nat} {s : ByteArray} {o o' : Bool} (h : SMv w w' g s k o) (h2 : SMv w' w'' g s k' o') : SMv w w'' g s k' o' := ⟨h2.rb, h.gr.trans h2.gr⟩
theorem SMv.refl {w : World} {g k : Nat} {s : ByteArray} {o : Bool} (h : SB w g s k o) : SMv w w g s k o := ⟨h, World.grownBy.refl _ _⟩
theorem SMv.below {w w' w'' : World} {g k : Nat} {s : ByteArray} {o : Bool} (h : SMv w w' g s k o) (hb : Below w'.heap.size w' w'') : SMv w w'' g s k o := ⟨h.rb.below hb, h.gr.trans (grown_below0 hb _)⟩
theorem SMv.setK {w w' : World} {g k : Nat} {s : ByteArray} {o : Bool} (h : SMv w w' g s k o) (y : Nat) : SMv w (w'.setCell ⟨g, 1, none⟩ (.int .i64 (y : Int))) g s y o := ⟨h.rb.setK y, h.gr.trans (grown_set _ _ _ _)⟩
theorem SMv.setO {w w' : World} {g k : Nat} {s : ByteArray} {o : Bool} (h : SMv w w' g s k o) (y : Bool) : SMv w (w'.setCell ⟨g, 2, none⟩ (.bool y)) g s k y := ⟨h.rb.setO y, h.gr.trans (grown_set _ _ _ _)⟩
theorem SMv.drewN {w w' : World} {g k : Nat} {s : ByteArray} {o : Bool} (h : SMv w w' g s k o) : ∀ q, SMv w (w'.drewN q) g s k o
  | 0 => h
  | q + 1 => (h.drewN q).below (Below.refl _ _).drew
theorem SMv.step {w w' : World} {g k : Nat} {s : ByteArray} {o : Bool} (h : SMv w w' g s k o) : SMv w (w'.setCell ⟨g, 1, none⟩ (.int .i64 ((k : Int) + 1))) g s (k + 1) o := by
  have e := h.setK (k + 1)
  rw [show ((k + 1 : Nat) : Int) = (k : Int) + 1 by omega] at e
  exact e
set_option maxRecDepth 100000 in
set_option maxHeartbeats 4000000 in
theorem stake_yes (c : Int) (s : ByteArray) (k g : Nat) (o : Bool) (w : World) (h : SB w g s k o) (hs : s.size ≤ 120) (hc : c ≠ 0) (hb : byt s k = c) :
    Calls Try.prog 70 #[.pointer (some ⟨g, 0, none⟩), .int .u8 c] w fun e w' => e = .returned (.tuple #[]) ∧ SMv w w' g s (k + 1) o := by
  have hlt : k < s.size := byt_lt (by omega)
  have hb1 : byt s k = ((s[k]'hlt).toNat : Int) := bts_at s k hlt
  have hb2 := hb1.symm.trans hb
  have hltI : (k : Int) < (s.size : Int) := by omega
  have c0 := h.s
  have c1 := h.k
  have f1 := h.frozen 1
  have H := hide (SMv.refl h)
  clear h hb hb1
  go_enter Try.func70, Try.ntmps70
  go_wp2
  go_quiet (fail)
  go_wp2
  go_end0
  exact ⟨rfl, (H.out.drewN _).step⟩
set_option maxRecDepth 100000 in
set_option maxHeartbeats 4000000 in
theorem stake_no (c : Int) (s : ByteArray) (k g : Nat) (o : Bool) (w : World) (h : SB w g s k o) (hk : k ≤ s.size) (hs : s.size ≤ 120) (hb : byt s k ≠ c) :
    Calls Try.prog 70 #[.pointer (some ⟨g, 0, none⟩), .int .u8 c] w fun e w' => e = .returned (.tuple #[]) ∧ SMv w w' g s k true := by
  have c0 := h.s
  have c1 := h.k
  have c2 := h.o
  have f2 := h.frozen 2
  have H := hide (SMv.refl h)
  by_cases hlt : k < s.size
  · have hb1 : byt s k = ((s[k]'hlt).toNat : Int) := bts_at s k hlt
    obtain ⟨d, hd⟩ : ∃ d, d = byt s k := ⟨_, rfl⟩
    rw [← hd] at hb hb1
    have hb2 := hb1.symm
    have hbb : (d == c) = false := by simpa using hb
    have hltI : (k : Int) < (s.size : Int) := by omega
    clear h hb1 hd
    go_enter Try.func70, Try.ntmps70
    go_wp2
    go_quiet (fail)
    go_wp2
    go_end0
    exact ⟨rfl, (H.out.drewN _).setO true⟩
  · have hltI : ¬ (k : Int) < (s.size : Int) := by omega
    clear h hb
    go_enter Try.func70, Try.ntmps70
    go_wp2
    go_quiet (fail)
    go_wp2
    go_end0
    exact ⟨rfl, (H.out.drewN _).setO true⟩
end Go.Proofs.Ytkdiffpbljohkay.L5
