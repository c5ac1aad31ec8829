/-
  The specification's reader of forms: its block; contract: (*spec.l5R).take.
  The specification's reader of forms: what (*spec.l5R).form hands back; facts on trees that grow.
  Contract: (*spec.l5R).form where a form begins with nothing that a form may begin with.
  Contract: (*spec.l5R).form where a form begins with a mark of no text.
  Contract: (*spec.l5R).form where a form begins with the mark of the empty text.
  Contract: (*spec.l5R).form where a form begins with the mark of any letter.
  Contract: (*spec.l5R).form where a form begins with a letter.
  Two trees and a node over them, while they are read.
-/
import Derived.Test.YtapffbbmofhpoabBundle2
import Derived.Test.YtapffbbmofhpoabBundle3
import Derived.Deep.QuietTactic
import Derived.BigQuiet
import Derived.Lib.SlBytesConst
namespace Go.Proofs.Ytapffbbmofhpoab.L5
open Go.RowKit L1 L4
set_option linter.unusedVariables false

/-- A reader's block. -/
def SB (w : World) (g : Nat) (s : ByteArray) (k : Nat) (o : Bool) : Prop := w.heap[g]? = some (.cells #[.string s, .int .i64 (k : Int), .bool o] 135 (0, 0))
theorem SB.lt {w : World} {g k : Nat} {s : ByteArray} {o : Bool} (h : SB w g s k o) : g < w.heap.size := (Array.getElem?_eq_some_iff.1 h).1
theorem SB.s {w : World} {g k : Nat} {s : ByteArray} {o : Bool} (h : SB w g s k o) : w.cell? ⟨g, 0, none⟩ = some (.string s) := Lib.cell_of_heap h 0
theorem SB.k {w : World} {g k : Nat} {s : ByteArray} {o : Bool} (h : SB w g s k o) : w.cell? ⟨g, 1, none⟩ = some (.int .i64 (k : Int)) := Lib.cell_of_heap h 1
theorem SB.o {w : World} {g k : Nat} {s : ByteArray} {o : Bool} (h : SB w g s k o) : w.cell? ⟨g, 2, none⟩ = some (.bool o) := Lib.cell_of_heap h 2
theorem SB.frozen {w : World} {g k : Nat} {s : ByteArray} {o : Bool} (h : SB w g s k o) (j : Nat) : w.frozen? ⟨g, j, none⟩ = false := Lib.frozen_of_heap h j
theorem SB.below {w w' : World} {g k : Nat} {s : ByteArray} {o : Bool} (h : SB w g s k o) (hb : Below w.heap.size w w') : SB w' g s k o := (hb.block g h.lt).trans h
theorem SB.setK {w : World} {g k : Nat} {s : ByteArray} {o : Bool} (h : SB w g s k o) (y : Nat) : SB (w.setCell ⟨g, 1, none⟩ (.int .i64 (y : Int))) g s y o := by
  have h1 := heap_setCell_same w g 1 _ _ (.int .i64 (y : Int)) h
  unfold SB
  rw [h1]
  rfl
theorem SB.setO {w : World} {g k : Nat} {s : ByteArray} {o : Bool} (h : SB w g s k o) (y : Bool) : SB (w.setCell ⟨g, 2, none⟩ (.bool y)) g s k y := by
  have h1 := heap_setCell_same w g 2 _ _ (.bool y) h
  unfold SB
  rw [h1]
  rfl
theorem SB.new (w : World) (s : ByteArray) (k : Nat) (o : Bool) : SB (w.alloc (.cells #[.string s, .int .i64 (k : Int), .bool o] 135)) w.heap.size s k o := by
  unfold SB
  show (w.heap.push _)[w.heap.size]? = _
  exact Array.getElem?_push_size
/-- The reader stands elsewhere; nothing else has turned. -/
structure SMv (w w' : World) (g : Nat) (s : ByteArray) (k : Nat) (o : Bool) : Prop where
  rb : SB w' g s k o
  gr : w.grownBy w' (some g)
theorem SMv.trans {w w' w'' : World} {g k k' : Nat} {s : ByteArray} {o o' : Bool} (h : SMv w w' g s k o) (h2 : SMv w' w'' g s k' o') : SMv w w'' g s k' o' := ⟨h2.rb, h.gr.trans h2.gr⟩
theorem SMv.refl {w : World} {g k : Nat} {s : ByteArray} {o : Bool} (h : SB w g s k o) : SMv w w g s k o := ⟨h, World.grownBy.refl _ _⟩
theorem SMv.below {w w' w'' : World} {g k : Nat} {s : ByteArray} {o : Bool} (h : SMv w w' g s k o) (hb : Below w'.heap.size w' w'') : SMv w w'' g s k o := ⟨h.rb.below hb, h.gr.trans (grown_below0 hb _)⟩
theorem SMv.setK {w w' : World} {g k : Nat} {s : ByteArray} {o : Bool} (h : SMv w w' g s k o) (y : Nat) : SMv w (w'.setCell ⟨g, 1, none⟩ (.int .i64 (y : Int))) g s y o := ⟨h.rb.setK y, h.gr.trans (grown_set _ _ _ _)⟩
theorem SMv.setO {w w' : World} {g k : Nat} {s : ByteArray} {o : Bool} (h : SMv w w' g s k o) (y : Bool) : SMv w (w'.setCell ⟨g, 2, none⟩ (.bool y)) g s k y := ⟨h.rb.setO y, h.gr.trans (grown_set _ _ _ _)⟩
theorem SMv.drewN {w w' : World} {g k : Nat} {s : ByteArray} {o : Bool} (h : SMv w w' g s k o) : ∀ q, SMv w (w'.drewN q) g s k o
  | 0 => h
  | q + 1 => (h.drewN q).below (Below.refl _ _).drew
theorem SMv.step {w w' : World} {g k : Nat} {s : ByteArray} {o : Bool} (h : SMv w w' g s k o) : SMv w (w'.setCell ⟨g, 1, none⟩ (.int .i64 ((k : Int) + 1))) g s (k + 1) o := by
  have e := h.setK (k + 1)
  rw [show ((k + 1 : Nat) : Int) = (k : Int) + 1 by omega] at e
  exact e
set_option maxRecDepth 100000 in
set_option maxHeartbeats 4000000 in
theorem stake_yes (c : Int) (s : ByteArray) (k g : Nat) (o : Bool) (w : World) (h : SB w g s k o) (hs : s.size ≤ 120) (hc : c ≠ 0) (hb : byt s k = c) :
    Calls Try.prog 139 #[.pointer (some ⟨g, 0, none⟩), .int .u8 c] w fun e w' => e = .returned (.tuple #[]) ∧ SMv w w' g s (k + 1) o := by
  have hlt : k < s.size := byt_lt (by omega)
  have hb1 : byt s k = ((s[k]'hlt).toNat : Int) := bts_at s k hlt
  have hb2 := hb1.symm.trans hb
  have hltI : (k : Int) < (s.size : Int) := by omega
  have c0 := h.s
  have c1 := h.k
  have f1 := h.frozen 1
  have H := hide (SMv.refl h)
  clear h hb hb1
  go_enter Try.func139, Try.ntmps139
  go_wp2
  go_quiet (fail)
  go_wp2
  go_end0
  exact ⟨rfl, (H.out.drewN _).step⟩
set_option maxRecDepth 100000 in
set_option maxHeartbeats 4000000 in
theorem stake_no (c : Int) (s : ByteArray) (k g : Nat) (o : Bool) (w : World) (h : SB w g s k o) (hk : k ≤ s.size) (hs : s.size ≤ 120) (hb : byt s k ≠ c) :
    Calls Try.prog 139 #[.pointer (some ⟨g, 0, none⟩), .int .u8 c] w fun e w' => e = .returned (.tuple #[]) ∧ SMv w w' g s k true := by
  have c0 := h.s
  have c1 := h.k
  have c2 := h.o
  have f2 := h.frozen 2
  have H := hide (SMv.refl h)
  by_cases hlt : k < s.size
  · have hb1 : byt s k = ((s[k]'hlt).toNat : Int) := bts_at s k hlt
    obtain ⟨d, hd⟩ : ∃ d, d = byt s k := ⟨_, rfl⟩
    rw [← hd] at hb hb1
    have hb2 := hb1.symm
    have hbb : (d == c) = false := by simpa using hb
    have hltI : (k : Int) < (s.size : Int) := by omega
    clear h hb1 hd
    go_enter Try.func139, Try.ntmps139
    go_wp2
    go_quiet (fail)
    go_wp2
    go_end0
    exact ⟨rfl, (H.out.drewN _).setO true⟩
  · have hltI : ¬ (k : Int) < (s.size : Int) := by omega
    clear h hb
    go_enter Try.func139, Try.ntmps139
    go_wp2
    go_quiet (fail)
    go_wp2
    go_end0
    exact ⟨rfl, (H.out.drewN _).setO true⟩
end Go.Proofs.Ytapffbbmofhpoab.L5

namespace Go.Proofs.Ytapffbbmofhpoab.L5
open Go.RowKit L1 L4
set_option linter.unusedVariables false

theorem SMv.alloc {w w' : World} {g k : Nat} {s : ByteArray} {o : Bool} (h : SMv w w' g s k o) (ob : Obj) : SMv w (w'.alloc ob) g s k o := h.below ((Below.refl _ _).alloc (Nat.le_refl _) ob)
/-- New blocks. -/
abbrev Nw (w : World) : Nat → Prop := fun b => w.heap.size ≤ b
/-- What form hands back. -/
def FmP (w : World) (g : Nat) (s : ByteArray) (r : Option Sh × Nat) (e : Ending) (w' : World) : Prop :=
  ∃ p, e = .returned (.pointer p) ∧ SMv w w' g s r.2 (!r.1.isSome) ∧ ∀ x, r.1 = some x → Tr w' (Nw w) p x
def FC (n : Nat) : Prop := ∀ (s : ByteArray) (k g : Nat) (d : Int) (w : World), SB w g s k false → k ≤ s.size → s.size ≤ 120 → 0 ≤ d → d + n = 61 → Calls Try.prog 106 #[.pointer (some ⟨g, 0, none⟩), .int .i64 d] w fun e w' => FmP w g s (prs s n k) e w'
theorem fmp_no {w w' : World} {g k : Nat} {s : ByteArray} {p : Option Addr} (h : SMv w w' g s k true) : FmP w g s (none, k) (.returned (.pointer p)) w' := ⟨p, rfl, h, fun x hx => by cases hx⟩
theorem fmp_yes {w w' : World} {g k : Nat} {s : ByteArray} {p : Option Addr} {x : Sh} (h : SMv w w' g s k false) (t : Tr w' (Nw w) p x) : FmP w g s (some x, k) (.returned (.pointer p)) w' := ⟨p, rfl, h, fun y hy => by cases hy; exact t⟩
def atOfS (w : World) (g : Nat) : Nat := match w.cell? ⟨g, 1, none⟩ with
  | some v => (intOf v).toNat
  | none => 0
theorem at_ofS {w : World} {g k : Nat} {s : ByteArray} {o : Bool} (h : SB w g s k o) : atOfS w g = k := by
  unfold atOfS
  rw [h.k]
  simp [intOf]
theorem drewN_belowF (B : Nat) (w : World) : ∀ q, Below B w (w.drewN q)
  | 0 => Below.refl _ _
  | q + 1 => (drewN_belowF B w q).trans (Below.refl _ _).drew
theorem Tr.drewN {w : World} {S : Nat → Prop} {x : Sh} {p : Option Addr} (h : Tr w S p x) (q : Nat) : Tr (w.drewN q) S p x := h.below (drewN_belowF _ _ q)
theorem Tr.alloc {w : World} {S : Nat → Prop} {x : Sh} {p : Option Addr} (h : Tr w S p x) (ob : Obj) : Tr (w.alloc ob) S p x := h.below ((Below.refl _ _).alloc (Nat.le_refl _) ob)
/-- The reader's own cell is none of a tree's in new blocks. -/
theorem Tr.setR {w w' : World} {x : Sh} {q : Option Addr} {g j : Nat} (h : Tr w' (Nw w) q x) (hg : g < w.heap.size) (u : Value) : Tr (w'.setCell ⟨g, j, none⟩ u) (Nw w) q x :=
  h.set (fun b hb e => by simp only at e; have : w.heap.size ≤ b := hb; omega) u
/-- One node more over a tree. -/
theorem tr_over {w w' : World} {k : Int} {z z' : Sh} {q : Option Addr} (h : Tr w' (Nw w) q z) (hw : w.heap.size ≤ w'.heap.size) (hz : (k = 7 ∧ z' = .many z) ∨ (k = 8 ∧ z' = .inv z)) : Tr (w'.alloc (.cells #[.int .i64 k, .string ByteArray.empty, .pointer q, .pointer none] 160)) (Nw w) (some ⟨w'.heap.size, 0, none⟩) z' := by
  rcases hz with ⟨rfl, rfl⟩ | ⟨rfl, rfl⟩
  · exact ⟨_, _, _, rfl, hw, (FB.new w' 7 ByteArray.empty q none).at, h.alloc _⟩
  · exact ⟨_, _, _, rfl, hw, (FB.new w' 8 ByteArray.empty q none).at, h.alloc _⟩
end Go.Proofs.Ytapffbbmofhpoab.L5

namespace Go.Proofs.Ytapffbbmofhpoab.L5
open Go.RowKit L1 L4
set_option linter.unusedVariables false

set_option maxRecDepth 100000 in
set_option maxHeartbeats 8000000 in
theorem form_end (s : ByteArray) (k g : Nat) (d : Int) (w : World) (h : SB w g s k false) (hs : s.size ≤ 120) (hk : k = s.size) :
    Calls Try.prog 106 #[.pointer (some ⟨g, 0, none⟩), .int .i64 d] w fun e w' => FmP w g s (none, k) e w' := by
  obtain rfl := hk
  have c0 := h.s
  have c1 := h.k
  have c2 := h.o
  have f2 := h.frozen 2
  have hgl := h.lt
  have H := hide (SMv.refl h)
  clear h
  go_enter Try.func106, Try.ntmps106
  go_wp2
  go_quiet (fail)
  go_wp2
  go_ret
  exact fmp_no (((H.out.alloc _).drewN _).setO true)
set_option maxRecDepth 100000 in
set_option maxHeartbeats 8000000 in
theorem form_deep (s : ByteArray) (k g : Nat) (d : Int) (w : World) (h : SB w g s k false) (hs : s.size ≤ 120) (hlt : k < s.size) (hd : 60 < d) :
    Calls Try.prog 106 #[.pointer (some ⟨g, 0, none⟩), .int .i64 d] w fun e w' => FmP w g s (none, k) e w' := by
  have hltI : (k : Int) < (s.size : Int) := by omega
  have hneI : ((k : Int) == (s.size : Int)) = false := by simp; omega
  have c0 := h.s
  have c1 := h.k
  have c2 := h.o
  have f2 := h.frozen 2
  have hgl := h.lt
  have H := hide (SMv.refl h)
  clear h
  go_enter Try.func106, Try.ntmps106
  go_wp2
  go_quiet (fail)
  go_wp2
  go_ret
  exact fmp_no (((H.out.alloc _).drewN _).setO true)
set_option maxRecDepth 100000 in
set_option maxHeartbeats 8000000 in
theorem form_bad (s : ByteArray) (k g : Nat) (d : Int) (w : World) (h : SB w g s k false) (hs : s.size ≤ 120) (hlt : k < s.size) (hd : ¬ 60 < d) (q1 : byt s k ≠ 33) (q2 : byt s k ≠ 37) (q3 : byt s k ≠ 46) (q4 : byt s k ≠ 40) (q5 : byt s k ≠ 91) (q6 : ¬ (97 ≤ byt s k ∧ byt s k ≤ 122)) :
    Calls Try.prog 106 #[.pointer (some ⟨g, 0, none⟩), .int .i64 d] w fun e w' => FmP w g s (none, k) e w' := by
  have hb1 : byt s k = ((s[k]'hlt).toNat : Int) := bts_at s k hlt
  have hltI : (k : Int) < (s.size : Int) := by omega
  have hneI : ((k : Int) == (s.size : Int)) = false := by simp; omega
  obtain ⟨b, hbb⟩ : ∃ b, b = byt s k := ⟨_, rfl⟩
  rw [← hbb] at hb1 q1 q2 q3 q4 q5 q6
  have hb2 := hb1.symm
  have e1 : (b == 33) = false := by simpa using q1
  have e2 : (b == 37) = false := by simpa using q2
  have e3 : (b == 46) = false := by simpa using q3
  have e4 : (b == 40) = false := by simpa using q4
  have e5 : (b == 91) = false := by simpa using q5
  have c0 := h.s
  have c1 := h.k
  have c2 := h.o
  have f2 := h.frozen 2
  have hgl := h.lt
  have H := hide (SMv.refl h)
  clear h hbb hb1
  by_cases e6 : 97 ≤ b
  · have e7 : ¬ b ≤ 122 := fun x => q6 ⟨e6, x⟩
    clear q6 q1 q2 q3 q4 q5
    go_enter Try.func106, Try.ntmps106
    go_wp2
    go_quiet (fail)
    go_wp2
    go_quiet (fail)
    go_wp2
    go_loopw [7] (fun v wr => ∃ (q : Option Addr), v = .pointer q ∧ Hid (SMv w wr g s k true)) (fun _ _ => 0)
    case atStart => exact ⟨_, rfl, hide (((H.out.alloc _).drewN _).setO true)⟩
    case round =>
      obtain ⟨q, rfl, MJ⟩ := hrel
      have d2 := MJ.out.rb.o
      go_wp2
      go_quiet (fail)
      go_wp2
      go_ret
      exact fmp_no (MJ.out.drewN _)
  · clear q6 q1 q2 q3 q4 q5
    go_enter Try.func106, Try.ntmps106
    go_wp2
    go_quiet (fail)
    go_wp2
    go_quiet (fail)
    go_wp2
    go_loopw [7] (fun v wr => ∃ (q : Option Addr), v = .pointer q ∧ Hid (SMv w wr g s k true)) (fun _ _ => 0)
    case atStart => exact ⟨_, rfl, hide (((H.out.alloc _).drewN _).setO true)⟩
    case round =>
      obtain ⟨q, rfl, MJ⟩ := hrel
      have d2 := MJ.out.rb.o
      go_wp2
      go_quiet (fail)
      go_wp2
      go_ret
      exact fmp_no (MJ.out.drewN _)
end Go.Proofs.Ytapffbbmofhpoab.L5

namespace Go.Proofs.Ytapffbbmofhpoab.L5
open Go.RowKit L1 L4
set_option linter.unusedVariables false

set_option maxRecDepth 100000 in
set_option maxHeartbeats 8000000 in
theorem form_none (n : Nat) (s : ByteArray) (k g : Nat) (d : Int) (w : World) (h : SB w g s k false) (hk : k ≤ s.size) (hs : s.size ≤ 120) (h0 : 0 ≤ d) (hd : d + n = 60) (hb : byt s k = 33) :
    Calls Try.prog 106 #[.pointer (some ⟨g, 0, none⟩), .int .i64 d] w fun e w' => FmP w g s (some (PP s .none (k + 1)).1, (PP s .none (k + 1)).2) e w' := by
  have hlt : k < s.size := byt_lt (by omega)
  have hb1 : byt s k = ((s[k]'hlt).toNat : Int) := bts_at s k hlt
  have hltI : (k : Int) < (s.size : Int) := by omega
  have hneI : ((k : Int) == (s.size : Int)) = false := by simp; omega
  have hd60 : ¬ 60 < d := by omega
  have c0 := h.s
  have c1 := h.k
  have c2 := h.o
  have f1 := h.frozen 1
  have hgl := h.lt
  have hk1 : k + 1 ≤ s.size := hlt
  have H := hide (SMv.refl h)
  have hb2 := hb1.symm.trans hb
  obtain ⟨R, hR⟩ : ∃ R, R = PP s .none (k + 1) := ⟨_, rfl⟩
  rw [← hR]
  have HR := hide hR.symm
  clear h hb hb1 hR
  go_enter Try.func106, Try.ntmps106
  go_wp2
  go_quiet (fail)
  go_wp2
  go_quiet (fail)
  go_wp2
  go_loopw [7] (fun v wr => ∃ (z : Sh) (j : Nat) (q : Option Addr), v = .pointer q ∧ j ≤ s.size ∧ PP s z j = R ∧ Hid (SMv w wr g s j false) ∧ Hid (Tr wr (Nw w) q z)) (fun _ wr => s.size - atOfS wr g)
  case atStart => exact ⟨.none, _, _, rfl, hk1, HR.out, hide (((H.out.alloc _).drewN _).step), hide (Tr.setR (Tr.drewN (show Tr _ (Nw w) _ .none from ⟨_, _, _, rfl, Nat.le_refl _, (FB.new w 1 ByteArray.empty none none).at⟩) _) hgl _)⟩
  case round =>
    obtain ⟨z, j, q, rfl, hj, hpp, MJ, TJ⟩ := hrel
    have hat := at_ofS MJ.out.rb
    have d0 := MJ.out.rb.s
    have d1 := MJ.out.rb.k
    have d2 := MJ.out.rb.o
    have g1 := MJ.out.rb.frozen 1
    have hww : w.heap.size ≤ wr.heap.size := MJ.out.gr.size
    have dA : ∀ n ob, ((wr.drewN n).alloc ob).cell? ⟨g, 1, none⟩ = some (.int .i64 (j : Int)) := fun n ob => ((MJ.out.drewN n).alloc ob).rb.k
    have gA : ∀ n ob, ((wr.drewN n).alloc ob).frozen? ⟨g, 1, none⟩ = false := fun n ob => ((MJ.out.drewN n).alloc ob).rb.frozen 1
    by_cases q7 : byt s j = 42
    · have hjl : j < s.size := byt_lt (by omega)
      have e1 : byt s j = ((s[j]'hjl).toNat : Int) := bts_at s j hjl
      have e2 := e1.symm.trans q7
      have hjI : (j : Int) < (s.size : Int) := by omega
      have hpp2 := hide ((PP_star q7).symm.trans hpp)
      clear q7 e1 hpp
      go_wp2
      go_quiet (fail)
      go_wp2
      go_quiet (fail)
      go_wp2
      go_roundw
      case rel => exact ⟨.many z, j + 1, _, rfl, hjl, hpp2.out, hide ((MJ.out.drewN _).alloc _).step, hide ((tr_over (k := 7) (TJ.out.drewN _) hww (.inl ⟨rfl, rfl⟩)).setR hgl _)⟩
      case measure =>
        rw [at_ofS ((MJ.out.drewN _).alloc _).step.rb, hat]
        omega
    by_cases q8 : byt s j = 94
    · have hjl : j < s.size := byt_lt (by omega)
      have e1 : byt s j = ((s[j]'hjl).toNat : Int) := bts_at s j hjl
      have e2 := e1.symm.trans q8
      have hjI : (j : Int) < (s.size : Int) := by omega
      have hpp2 := hide ((PP_hat q8).symm.trans hpp)
      clear q7 q8 e1 hpp
      go_wp2
      go_quiet (fail)
      go_wp2
      go_quiet (fail)
      go_wp2
      go_roundw
      case rel => exact ⟨.inv z, j + 1, _, rfl, hjl, hpp2.out, hide ((MJ.out.drewN _).alloc _).step, hide ((tr_over (k := 8) (TJ.out.drewN _) hww (.inr ⟨rfl, rfl⟩)).setR hgl _)⟩
      case measure =>
        rw [at_ofS ((MJ.out.drewN _).alloc _).step.rb, hat]
        omega
    have hpp2 := (PP_stop q7 q8).symm.trans hpp
    subst hpp2
    by_cases hjl : j < s.size
    · have e1 : byt s j = ((s[j]'hjl).toNat : Int) := bts_at s j hjl
      obtain ⟨b, hbb⟩ : ∃ b, b = byt s j := ⟨_, rfl⟩
      rw [← hbb] at e1 q7 q8
      have e2 := e1.symm
      have hjI : (j : Int) < (s.size : Int) := by omega
      have r7 : (b == 42) = false := by simpa using q7
      have r8 : (b == 94) = false := by simpa using q8
      clear hbb e1 hpp
      go_wp2
      go_quiet (fail)
      go_wp2
      go_ret
      exact fmp_yes (MJ.out.drewN _) (TJ.out.drewN _)
    · have hjI : ¬ (j : Int) < (s.size : Int) := by omega
      clear q7 q8 hpp
      go_wp2
      go_quiet (fail)
      go_wp2
      go_ret
      exact fmp_yes (MJ.out.drewN _) (TJ.out.drewN _)
end Go.Proofs.Ytapffbbmofhpoab.L5

namespace Go.Proofs.Ytapffbbmofhpoab.L5
open Go.RowKit L1 L4
set_option linter.unusedVariables false

set_option maxRecDepth 100000 in
set_option maxHeartbeats 8000000 in
theorem form_empty (n : Nat) (s : ByteArray) (k g : Nat) (d : Int) (w : World) (h : SB w g s k false) (hk : k ≤ s.size) (hs : s.size ≤ 120) (h0 : 0 ≤ d) (hd : d + n = 60) (hb : byt s k = 37) :
    Calls Try.prog 106 #[.pointer (some ⟨g, 0, none⟩), .int .i64 d] w fun e w' => FmP w g s (some (PP s .empty (k + 1)).1, (PP s .empty (k + 1)).2) e w' := by
  have hlt : k < s.size := byt_lt (by omega)
  have hb1 : byt s k = ((s[k]'hlt).toNat : Int) := bts_at s k hlt
  have hltI : (k : Int) < (s.size : Int) := by omega
  have hneI : ((k : Int) == (s.size : Int)) = false := by simp; omega
  have hd60 : ¬ 60 < d := by omega
  have c0 := h.s
  have c1 := h.k
  have c2 := h.o
  have f1 := h.frozen 1
  have hgl := h.lt
  have hk1 : k + 1 ≤ s.size := hlt
  have H := hide (SMv.refl h)
  have hb2 := hb1.symm.trans hb
  obtain ⟨R, hR⟩ : ∃ R, R = PP s .empty (k + 1) := ⟨_, rfl⟩
  rw [← hR]
  have HR := hide hR.symm
  clear h hb hb1 hR
  have cA : ∀ n ob oc, (((w.alloc oc).drewN n).alloc ob).cell? ⟨g, 1, none⟩ = some (.int .i64 (k : Int)) := fun n ob oc => (((H.out.alloc oc).drewN n).alloc ob).rb.k
  have fA : ∀ n ob oc, (((w.alloc oc).drewN n).alloc ob).frozen? ⟨g, 1, none⟩ = false := fun n ob oc => (((H.out.alloc oc).drewN n).alloc ob).rb.frozen 1
  go_enter Try.func106, Try.ntmps106
  go_wp2
  go_quiet (fail)
  go_wp2
  go_quiet (fail)
  go_wp2
  go_loopw [7] (fun v wr => ∃ (z : Sh) (j : Nat) (q : Option Addr), v = .pointer q ∧ j ≤ s.size ∧ PP s z j = R ∧ Hid (SMv w wr g s j false) ∧ Hid (Tr wr (Nw w) q z)) (fun _ wr => s.size - atOfS wr g)
  case atStart => exact ⟨.empty, _, _, rfl, hk1, HR.out, hide (((H.out.alloc _).drewN _).step.alloc _), hide (show Tr _ (Nw w) _ .empty from ⟨w.heap.size + 1, none, none, rfl, Nat.le_succ _, (FB.newAt _ (w.heap.size + 1) 2 ByteArray.empty none none (by simp)).at⟩)⟩
  case round =>
    obtain ⟨z, j, q, rfl, hj, hpp, MJ, TJ⟩ := hrel
    have hat := at_ofS MJ.out.rb
    have d0 := MJ.out.rb.s
    have d1 := MJ.out.rb.k
    have d2 := MJ.out.rb.o
    have g1 := MJ.out.rb.frozen 1
    have hww : w.heap.size ≤ wr.heap.size := MJ.out.gr.size
    have dA : ∀ n ob, ((wr.drewN n).alloc ob).cell? ⟨g, 1, none⟩ = some (.int .i64 (j : Int)) := fun n ob => ((MJ.out.drewN n).alloc ob).rb.k
    have gA : ∀ n ob, ((wr.drewN n).alloc ob).frozen? ⟨g, 1, none⟩ = false := fun n ob => ((MJ.out.drewN n).alloc ob).rb.frozen 1
    by_cases q7 : byt s j = 42
    · have hjl : j < s.size := byt_lt (by omega)
      have e1 : byt s j = ((s[j]'hjl).toNat : Int) := bts_at s j hjl
      have e2 := e1.symm.trans q7
      have hjI : (j : Int) < (s.size : Int) := by omega
      have hpp2 := hide ((PP_star q7).symm.trans hpp)
      clear q7 e1 hpp
      go_wp2
      go_quiet (fail)
      go_wp2
      go_quiet (fail)
      go_wp2
      go_roundw
      case rel => exact ⟨.many z, j + 1, _, rfl, hjl, hpp2.out, hide ((MJ.out.drewN _).alloc _).step, hide ((tr_over (k := 7) (TJ.out.drewN _) hww (.inl ⟨rfl, rfl⟩)).setR hgl _)⟩
      case measure =>
        rw [at_ofS ((MJ.out.drewN _).alloc _).step.rb, hat]
        omega
    by_cases q8 : byt s j = 94
    · have hjl : j < s.size := byt_lt (by omega)
      have e1 : byt s j = ((s[j]'hjl).toNat : Int) := bts_at s j hjl
      have e2 := e1.symm.trans q8
      have hjI : (j : Int) < (s.size : Int) := by omega
      have hpp2 := hide ((PP_hat q8).symm.trans hpp)
      clear q7 q8 e1 hpp
      go_wp2
      go_quiet (fail)
      go_wp2
      go_quiet (fail)
      go_wp2
      go_roundw
      case rel => exact ⟨.inv z, j + 1, _, rfl, hjl, hpp2.out, hide ((MJ.out.drewN _).alloc _).step, hide ((tr_over (k := 8) (TJ.out.drewN _) hww (.inr ⟨rfl, rfl⟩)).setR hgl _)⟩
      case measure =>
        rw [at_ofS ((MJ.out.drewN _).alloc _).step.rb, hat]
        omega
    have hpp2 := (PP_stop q7 q8).symm.trans hpp
    subst hpp2
    by_cases hjl : j < s.size
    · have e1 : byt s j = ((s[j]'hjl).toNat : Int) := bts_at s j hjl
      obtain ⟨b, hbb⟩ : ∃ b, b = byt s j := ⟨_, rfl⟩
      rw [← hbb] at e1 q7 q8
      have e2 := e1.symm
      have hjI : (j : Int) < (s.size : Int) := by omega
      have r7 : (b == 42) = false := by simpa using q7
      have r8 : (b == 94) = false := by simpa using q8
      clear hbb e1 hpp
      go_wp2
      go_quiet (fail)
      go_wp2
      go_ret
      exact fmp_yes (MJ.out.drewN _) (TJ.out.drewN _)
    · have hjI : ¬ (j : Int) < (s.size : Int) := by omega
      clear q7 q8 hpp
      go_wp2
      go_quiet (fail)
      go_wp2
      go_ret
      exact fmp_yes (MJ.out.drewN _) (TJ.out.drewN _)
end Go.Proofs.Ytapffbbmofhpoab.L5

namespace Go.Proofs.Ytapffbbmofhpoab.L5
open Go.RowKit L1 L4
set_option linter.unusedVariables false

set_option maxRecDepth 100000 in
set_option maxHeartbeats 8000000 in
theorem form_anyl (n : Nat) (s : ByteArray) (k g : Nat) (d : Int) (w : World) (h : SB w g s k false) (hk : k ≤ s.size) (hs : s.size ≤ 120) (h0 : 0 ≤ d) (hd : d + n = 60) (hb : byt s k = 46) :
    Calls Try.prog 106 #[.pointer (some ⟨g, 0, none⟩), .int .i64 d] w fun e w' => FmP w g s (some (PP s .any (k + 1)).1, (PP s .any (k + 1)).2) e w' := by
  have hlt : k < s.size := byt_lt (by omega)
  have hb1 : byt s k = ((s[k]'hlt).toNat : Int) := bts_at s k hlt
  have hltI : (k : Int) < (s.size : Int) := by omega
  have hneI : ((k : Int) == (s.size : Int)) = false := by simp; omega
  have hd60 : ¬ 60 < d := by omega
  have c0 := h.s
  have c1 := h.k
  have c2 := h.o
  have f1 := h.frozen 1
  have hgl := h.lt
  have hk1 : k + 1 ≤ s.size := hlt
  have H := hide (SMv.refl h)
  have hb2 := hb1.symm.trans hb
  obtain ⟨R, hR⟩ : ∃ R, R = PP s .any (k + 1) := ⟨_, rfl⟩
  rw [← hR]
  have HR := hide hR.symm
  clear h hb hb1 hR
  have cA : ∀ n ob oc, (((w.alloc oc).drewN n).alloc ob).cell? ⟨g, 1, none⟩ = some (.int .i64 (k : Int)) := fun n ob oc => (((H.out.alloc oc).drewN n).alloc ob).rb.k
  have fA : ∀ n ob oc, (((w.alloc oc).drewN n).alloc ob).frozen? ⟨g, 1, none⟩ = false := fun n ob oc => (((H.out.alloc oc).drewN n).alloc ob).rb.frozen 1
  go_enter Try.func106, Try.ntmps106
  go_wp2
  go_quiet (fail)
  go_wp2
  go_quiet (fail)
  go_wp2
  go_loopw [7] (fun v wr => ∃ (z : Sh) (j : Nat) (q : Option Addr), v = .pointer q ∧ j ≤ s.size ∧ PP s z j = R ∧ Hid (SMv w wr g s j false) ∧ Hid (Tr wr (Nw w) q z)) (fun _ wr => s.size - atOfS wr g)
  case atStart => exact ⟨.any, _, _, rfl, hk1, HR.out, hide (((H.out.alloc _).drewN _).step.alloc _), hide (show Tr _ (Nw w) _ .any from ⟨w.heap.size + 1, none, none, rfl, Nat.le_succ _, (FB.newAt _ (w.heap.size + 1) 4 ByteArray.empty none none (by simp)).at⟩)⟩
  case round =>
    obtain ⟨z, j, q, rfl, hj, hpp, MJ, TJ⟩ := hrel
    have hat := at_ofS MJ.out.rb
    have d0 := MJ.out.rb.s
    have d1 := MJ.out.rb.k
    have d2 := MJ.out.rb.o
    have g1 := MJ.out.rb.frozen 1
    have hww : w.heap.size ≤ wr.heap.size := MJ.out.gr.size
    have dA : ∀ n ob, ((wr.drewN n).alloc ob).cell? ⟨g, 1, none⟩ = some (.int .i64 (j : Int)) := fun n ob => ((MJ.out.drewN n).alloc ob).rb.k
    have gA : ∀ n ob, ((wr.drewN n).alloc ob).frozen? ⟨g, 1, none⟩ = false := fun n ob => ((MJ.out.drewN n).alloc ob).rb.frozen 1
    by_cases q7 : byt s j = 42
    · have hjl : j < s.size := byt_lt (by omega)
      have e1 : byt s j = ((s[j]'hjl).toNat : Int) := bts_at s j hjl
      have e2 := e1.symm.trans q7
      have hjI : (j : Int) < (s.size : Int) := by omega
      have hpp2 := hide ((PP_star q7).symm.trans hpp)
      clear q7 e1 hpp
      go_wp2
      go_quiet (fail)
      go_wp2
      go_quiet (fail)
      go_wp2
      go_roundw
      case rel => exact ⟨.many z, j + 1, _, rfl, hjl, hpp2.out, hide ((MJ.out.drewN _).alloc _).step, hide ((tr_over (k := 7) (TJ.out.drewN _) hww (.inl ⟨rfl, rfl⟩)).setR hgl _)⟩
      case measure =>
        rw [at_ofS ((MJ.out.drewN _).alloc _).step.rb, hat]
        omega
    by_cases q8 : byt s j = 94
    · have hjl : j < s.size := byt_lt (by omega)
      have e1 : byt s j = ((s[j]'hjl).toNat : Int) := bts_at s j hjl
      have e2 := e1.symm.trans q8
      have hjI : (j : Int) < (s.size : Int) := by omega
      have hpp2 := hide ((PP_hat q8).symm.trans hpp)
      clear q7 q8 e1 hpp
      go_wp2
      go_quiet (fail)
      go_wp2
      go_quiet (fail)
      go_wp2
      go_roundw
      case rel => exact ⟨.inv z, j + 1, _, rfl, hjl, hpp2.out, hide ((MJ.out.drewN _).alloc _).step, hide ((tr_over (k := 8) (TJ.out.drewN _) hww (.inr ⟨rfl, rfl⟩)).setR hgl _)⟩
      case measure =>
        rw [at_ofS ((MJ.out.drewN _).alloc _).step.rb, hat]
        omega
    have hpp2 := (PP_stop q7 q8).symm.trans hpp
    subst hpp2
    by_cases hjl : j < s.size
    · have e1 : byt s j = ((s[j]'hjl).toNat : Int) := bts_at s j hjl
      obtain ⟨b, hbb⟩ : ∃ b, b = byt s j := ⟨_, rfl⟩
      rw [← hbb] at e1 q7 q8
      have e2 := e1.symm
      have hjI : (j : Int) < (s.size : Int) := by omega
      have r7 : (b == 42) = false := by simpa using q7
      have r8 : (b == 94) = false := by simpa using q8
      clear hbb e1 hpp
      go_wp2
      go_quiet (fail)
      go_wp2
      go_ret
      exact fmp_yes (MJ.out.drewN _) (TJ.out.drewN _)
    · have hjI : ¬ (j : Int) < (s.size : Int) := by omega
      clear q7 q8 hpp
      go_wp2
      go_quiet (fail)
      go_wp2
      go_ret
      exact fmp_yes (MJ.out.drewN _) (TJ.out.drewN _)
end Go.Proofs.Ytapffbbmofhpoab.L5

namespace Go.Proofs.Ytapffbbmofhpoab.L5
open Go.RowKit L1 L4
set_option linter.unusedVariables false

theorem conv_oneF (w : World) (x : Int) (b : Nat) (hb : w.heap.size = b) :
    (convert 22 9 (.slice (some ⟨b, 0, none⟩) 1 1)).run Try.prog (w.alloc (.cells #[.int .u8 x] 5)) = .ok (.string (one x)) (w.alloc (.cells #[.int .u8 x] 5)) := by
  subst hb
  exact run_convert_bytes_arg _ 22 5 Try.underlying22 Try.underlying5 w.heap.size 0 1 1 [x] rfl (fun i hi => by
    obtain rfl : i = 0 := by omega
    simp) 9 Try.underlying9
set_option maxRecDepth 100000 in
set_option maxHeartbeats 8000000 in
theorem form_letter (n : Nat) (c : Int) (hc : 97 ≤ c ∧ c ≤ 122) (s : ByteArray) (k g : Nat) (d : Int) (w : World) (h : SB w g s k false) (hk : k ≤ s.size) (hs : s.size ≤ 120) (h0 : 0 ≤ d) (hd : d + n = 60) (hb : byt s k = c) :
    Calls Try.prog 106 #[.pointer (some ⟨g, 0, none⟩), .int .i64 d] w fun e w' => FmP w g s (some (PP s (.letter c) (k + 1)).1, (PP s (.letter c) (k + 1)).2) e w' := by
  have hlt : k < s.size := byt_lt (by omega)
  have hb1 : byt s k = ((s[k]'hlt).toNat : Int) := bts_at s k hlt
  have hltI : (k : Int) < (s.size : Int) := by omega
  have hneI : ((k : Int) == (s.size : Int)) = false := by simp; omega
  have hd60 : ¬ 60 < d := by omega
  have c0 := h.s
  have c1 := h.k
  have c2 := h.o
  have f1 := h.frozen 1
  have hgl := h.lt
  have hk1 : k + 1 ≤ s.size := hlt
  have H := hide (SMv.refl h)
  have hb2 := hb1.symm.trans hb
  obtain ⟨R, hR⟩ : ∃ R, R = PP s (.letter c) (k + 1) := ⟨_, rfl⟩
  rw [← hR]
  have HR := hide hR.symm
  have HC := hide hc
  obtain ⟨hc1, hc2⟩ := hc
  clear h hb hb1 hR
  have cB : ∀ n oc ob od, ((((w.alloc oc).drewN n).alloc ob).alloc od).cell? ⟨g, 1, none⟩ = some (.int .i64 (k : Int)) := fun n oc ob od => ((((H.out.alloc oc).drewN n).alloc ob).alloc od).rb.k
  have fB : ∀ n oc ob od, ((((w.alloc oc).drewN n).alloc ob).alloc od).frozen? ⟨g, 1, none⟩ = false := fun n oc ob od => ((((H.out.alloc oc).drewN n).alloc ob).alloc od).rb.frozen 1
  have hcv : ∀ n oc, (convert 22 9 (.slice (some ⟨w.heap.size + 1, 0, none⟩) 1 1)).run Try.prog (((w.alloc oc).drewN n).alloc (.cells #[.int .u8 c] 5)) = .ok (.string (one c)) (((w.alloc oc).drewN n).alloc (.cells #[.int .u8 c] 5)) := fun n oc => conv_oneF _ c _ (by simp)
  go_enter Try.func106, Try.ntmps106
  go_wp2
  go_quiet (fail)
  go_wp2
  go_quiet (fail)
  go_wp2
  go_loopw [7] (fun v wr => ∃ (z : Sh) (j : Nat) (q : Option Addr), v = .pointer q ∧ j ≤ s.size ∧ PP s z j = R ∧ Hid (SMv w wr g s j false) ∧ Hid (Tr wr (Nw w) q z)) (fun _ wr => s.size - atOfS wr g)
  case atStart => exact ⟨(.letter c), _, _, rfl, hk1, HR.out, hide (((((H.out.alloc _).drewN _).alloc _).alloc _).step), hide (Tr.setR (show Tr _ (Nw w) _ (.letter c) from ⟨w.heap.size + 2, none, none, rfl, Nat.le_add_right _ 2, (FB.newAt _ (w.heap.size + 2) 3 (one c) none none (by simp)).at⟩) hgl _)⟩
  case round =>
    obtain ⟨z, j, q, rfl, hj, hpp, MJ, TJ⟩ := hrel
    have hat := at_ofS MJ.out.rb
    have d0 := MJ.out.rb.s
    have d1 := MJ.out.rb.k
    have d2 := MJ.out.rb.o
    have g1 := MJ.out.rb.frozen 1
    have hww : w.heap.size ≤ wr.heap.size := MJ.out.gr.size
    have dA : ∀ n ob, ((wr.drewN n).alloc ob).cell? ⟨g, 1, none⟩ = some (.int .i64 (j : Int)) := fun n ob => ((MJ.out.drewN n).alloc ob).rb.k
    have gA : ∀ n ob, ((wr.drewN n).alloc ob).frozen? ⟨g, 1, none⟩ = false := fun n ob => ((MJ.out.drewN n).alloc ob).rb.frozen 1
    by_cases q7 : byt s j = 42
    · have hjl : j < s.size := byt_lt (by omega)
      have e1 : byt s j = ((s[j]'hjl).toNat : Int) := bts_at s j hjl
      have e2 := e1.symm.trans q7
      have hjI : (j : Int) < (s.size : Int) := by omega
      have hpp2 := hide ((PP_star q7).symm.trans hpp)
      clear q7 e1 hpp
      go_wp2
      go_quiet (fail)
      go_wp2
      go_quiet (fail)
      go_wp2
      go_roundw
      case rel => exact ⟨.many z, j + 1, _, rfl, hjl, hpp2.out, hide ((MJ.out.drewN _).alloc _).step, hide ((tr_over (k := 7) (TJ.out.drewN _) hww (.inl ⟨rfl, rfl⟩)).setR hgl _)⟩
      case measure =>
        rw [at_ofS ((MJ.out.drewN _).alloc _).step.rb, hat]
        omega
    by_cases q8 : byt s j = 94
    · have hjl : j < s.size := byt_lt (by omega)
      have e1 : byt s j = ((s[j]'hjl).toNat : Int) := bts_at s j hjl
      have e2 := e1.symm.trans q8
      have hjI : (j : Int) < (s.size : Int) := by omega
      have hpp2 := hide ((PP_hat q8).symm.trans hpp)
      clear q7 q8 e1 hpp
      go_wp2
      go_quiet (fail)
      go_wp2
      go_quiet (fail)
      go_wp2
      go_roundw
      case rel => exact ⟨.inv z, j + 1, _, rfl, hjl, hpp2.out, hide ((MJ.out.drewN _).alloc _).step, hide ((tr_over (k := 8) (TJ.out.drewN _) hww (.inr ⟨rfl, rfl⟩)).setR hgl _)⟩
      case measure =>
        rw [at_ofS ((MJ.out.drewN _).alloc _).step.rb, hat]
        omega
    have hpp2 := (PP_stop q7 q8).symm.trans hpp
    subst hpp2
    by_cases hjl : j < s.size
    · have e1 : byt s j = ((s[j]'hjl).toNat : Int) := bts_at s j hjl
      obtain ⟨b, hbb⟩ : ∃ b, b = byt s j := ⟨_, rfl⟩
      rw [← hbb] at e1 q7 q8
      have e2 := e1.symm
      have hjI : (j : Int) < (s.size : Int) := by omega
      have r7 : (b == 42) = false := by simpa using q7
      have r8 : (b == 94) = false := by simpa using q8
      clear hbb e1 hpp
      go_wp2
      go_quiet (fail)
      go_wp2
      go_ret
      exact fmp_yes (MJ.out.drewN _) (TJ.out.drewN _)
    · have hjI : ¬ (j : Int) < (s.size : Int) := by omega
      clear q7 q8 hpp
      go_wp2
      go_quiet (fail)
      go_wp2
      go_ret
      exact fmp_yes (MJ.out.drewN _) (TJ.out.drewN _)
end Go.Proofs.Ytapffbbmofhpoab.L5

namespace Go.Proofs.Ytapffbbmofhpoab.L5
open Go.RowKit L1 L4
set_option linter.unusedVariables false

theorem SMv.setN {w w' : World} {g k b j : Nat} {s : ByteArray} {o : Bool} (h : SMv w w' g s k o) (hg : g < w.heap.size) (hb : w.heap.size ≤ b) (u : Value) : SMv w (w'.setCell ⟨b, j, none⟩ u) g s k o := by
  refine ⟨?_, grown_trans h.gr (grown_set w' b j u) (fun x hx => by cases hx; exact .inr hb)⟩
  have : (w'.setCell ⟨b, j, none⟩ u).heap[g]? = w'.heap[g]? := Below.heap_setCell w' ⟨b, j, none⟩ u g (by simp only; omega)
  exact this.trans h.rb
theorem FB.grown {w w' : World} {g : Nat} {k : Int} {t : ByteArray} {pa pb : Option Addr} {r : Option Nat} (h : FB w g k t pa pb) (hb : w.grownBy w' r) (hne : r ≠ some g) : FB w' g k t pa pb := (hb.block g h.lt (fun e => hne e.symm)).trans h
/-- The first tree is read, its node stands. -/
structure XN (w wr : World) (g : Nat) (s : ByteArray) (k : Nat) (f : Bool) (gx : Nat) (kd : Int) (p q : Option Addr) (a : Sh) : Prop where
  mv : SMv w wr g s k f
  ta : Tr wr (fun b => w.heap.size ≤ b ∧ b < gx) p a
  fx : FB wr gx kd ByteArray.empty p q
  hx : w.heap.size ≤ gx
  hg : g < w.heap.size
theorem XN.new {w wr W : World} {g k : Nat} {s : ByteArray} {p : Option Addr} {a : Sh} (kd : Int) (q : Option Addr) (hg : g < w.heap.size) (h0 : w.heap.size ≤ W.heap.size) (m : SMv w wr g s k false) (t : Tr wr (Nw W) p a) : XN w (wr.alloc (.cells #[.int .i64 kd, .string ByteArray.empty, .pointer p, .pointer q] 160)) g s k false wr.heap.size kd p q a :=
  ⟨m.alloc _, (t.lt.mono (fun b hb => ⟨Nat.le_trans h0 hb.1, hb.2⟩)).alloc _, FB.new wr kd ByteArray.empty p q, m.gr.size, hg⟩
theorem XN.setK {w wr : World} {g k gx : Nat} {s : ByteArray} {f : Bool} {kd : Int} {p q : Option Addr} {a : Sh} (h : XN w wr g s k f gx kd p q a) (y : Int) : XN w (wr.setCell ⟨gx, 0, none⟩ (.int .i64 y)) g s k f gx y p q a :=
  ⟨h.mv.setN h.hg h.hx _, h.ta.set (fun b hb e => by simp only at e; omega) _, h.fx.setK y, h.hx, h.hg⟩
theorem XN.setB {w wr : World} {g k gx : Nat} {s : ByteArray} {f : Bool} {kd : Int} {p q : Option Addr} {a : Sh} (h : XN w wr g s k f gx kd p q a) (y : Option Addr) : XN w (wr.setCell ⟨gx, 3, none⟩ (.pointer y)) g s k f gx kd p y a :=
  ⟨h.mv.setN h.hg h.hx _, h.ta.set (fun b hb e => by simp only at e; omega) _, h.fx.setB y, h.hx, h.hg⟩
theorem XN.move {w wr w' : World} {g k k' gx : Nat} {s : ByteArray} {f f' : Bool} {kd : Int} {p q : Option Addr} {a : Sh} (h : XN w wr g s k f gx kd p q a) (m : SMv wr w' g s k' f') : XN w w' g s k' f' gx kd p q a :=
  ⟨h.mv.trans m, h.ta.grown m.gr (fun b hb e => by cases e; have := hb.1; have := h.hg; omega), h.fx.grown m.gr (fun e => by cases e; have := h.hx; have := h.hg; omega), h.hx, h.hg⟩
theorem XN.alloc {w wr : World} {g k gx : Nat} {s : ByteArray} {f : Bool} {kd : Int} {p q : Option Addr} {a : Sh} (h : XN w wr g s k f gx kd p q a) (ob : Obj) : XN w (wr.alloc ob) g s k f gx kd p q a := h.move ((SMv.refl h.mv.rb).alloc ob)
/-- Both trees are read. -/
structure YN (w wr : World) (g : Nat) (s : ByteArray) (k : Nat) (f : Bool) (gx : Nat) (kd : Int) (p q : Option Addr) (a b : Sh) : Prop where
  x : XN w wr g s k f gx kd p q a
  tb : Tr wr (fun c => gx < c) q b
theorem YN.new {w W wr : World} {g k k' gx : Nat} {s : ByteArray} {kd : Int} {p q y : Option Addr} {a b : Sh} (h : XN w W g s k false gx kd p q a) (m : SMv W wr g s k' false) (t : Tr wr (Nw W) y b) : YN w (wr.setCell ⟨gx, 3, none⟩ (.pointer y)) g s k' false gx kd p y a b :=
  ⟨(h.move m).setB y, (t.mono (S' := fun c => gx < c) (fun c hc => Nat.lt_of_lt_of_le h.fx.lt hc)).set (fun c hc e => by simp only at e; omega) _⟩
theorem YN.move {w wr w' : World} {g k k' gx : Nat} {s : ByteArray} {f f' : Bool} {kd : Int} {p q : Option Addr} {a b : Sh} (h : YN w wr g s k f gx kd p q a b) (m : SMv wr w' g s k' f') : YN w w' g s k' f' gx kd p q a b :=
  ⟨h.x.move m, h.tb.grown m.gr (fun c hc e => by cases e; have := h.x.hx; have := h.x.hg; omega)⟩
theorem YN.alloc {w wr : World} {g k gx : Nat} {s : ByteArray} {f : Bool} {kd : Int} {p q : Option Addr} {a b : Sh} (h : YN w wr g s k f gx kd p q a b) (ob : Obj) : YN w (wr.alloc ob) g s k f gx kd p q a b := h.move ((SMv.refl h.x.mv.rb).alloc ob)
theorem YN.seq {w wr : World} {g k gx : Nat} {s : ByteArray} {f : Bool} {p q : Option Addr} {a b : Sh} (h : YN w wr g s k f gx 5 p q a b) : Tr wr (Nw w) (some ⟨gx, 0, none⟩) (.seq a b) :=
  ⟨gx, p, q, rfl, h.x.hx, h.x.fx.at, h.x.ta.mono (fun c hc => hc.1), h.tb.mono (fun c hc => Nat.le_trans h.x.hx (Nat.le_of_lt hc))⟩
theorem YN.alt {w wr : World} {g k gx : Nat} {s : ByteArray} {f : Bool} {p q : Option Addr} {a b : Sh} (h : YN w wr g s k f gx 6 p q a b) : Tr wr (Nw w) (some ⟨gx, 0, none⟩) (.alt a b) :=
  ⟨gx, p, q, rfl, h.x.hx, h.x.fx.at, h.x.ta.mono (fun c hc => hc.1), h.tb.mono (fun c hc => Nat.le_trans h.x.hx (Nat.le_of_lt hc))⟩
theorem FC.no {n : Nat} (h : FC n) {s : ByteArray} {k k2 : Nat} (he : prs s n k = (none, k2)) (g : Nat) (d : Int) (w : World) (hr : SB w g s k false) (hk : k ≤ s.size) (hs : s.size ≤ 120) (h0 : 0 ≤ d) (hd : d + n = 61) : Calls Try.prog 106 #[.pointer (some ⟨g, 0, none⟩), .int .i64 d] w fun e w' => ∃ p, e = .returned (.pointer p) ∧ SMv w w' g s k2 true := by
  refine (h s k g d w hr hk hs h0 hd).mono ?_
  rintro e w' ⟨p, h1, h2, _⟩
  rw [he] at h2
  exact ⟨p, h1, h2⟩
theorem FC.yes {n : Nat} (h : FC n) {s : ByteArray} {k k2 : Nat} {x : Sh} (he : prs s n k = (some x, k2)) (g : Nat) (d : Int) (w : World) (hr : SB w g s k false) (hk : k ≤ s.size) (hs : s.size ≤ 120) (h0 : 0 ≤ d) (hd : d + n = 61) : Calls Try.prog 106 #[.pointer (some ⟨g, 0, none⟩), .int .i64 d] w fun e w' => ∃ p, e = .returned (.pointer p) ∧ SMv w w' g s k2 false ∧ Tr w' (Nw w) p x := by
  refine (h s k g d w hr hk hs h0 hd).mono ?_
  rintro e w' ⟨p, h1, h2, h3⟩
  rw [he] at h2 h3
  exact ⟨p, h1, h2, h3 x rfl⟩
abbrev bk2 : Obj := .cells #[.int .u8 41, .int .u8 93] 5
theorem conv_twoF (w : World) (b : Nat) (hb : w.heap.size = b) :
    (convert 22 22 (.slice (some ⟨b, 0, none⟩) 2 2)).run Try.prog (w.alloc (.cells #[.int .u8 41, .int .u8 93] 5)) = .ok (.slice (some ⟨b, 0, none⟩) 2 2) (w.alloc (.cells #[.int .u8 41, .int .u8 93] 5 (2, 3))) := by
  subst hb
  exact Lib.run_convert_bytes_const w 22 5 #[.int .u8 41, .int .u8 93] 2 2 Try.underlying22 Try.underlying5
theorem cell_twoF (w : World) (b : Nat) (hb : w.heap.size = b) : (w.alloc (.cells #[.int .u8 41, .int .u8 93] 5 (2, 3))).cell? ⟨b, 0, none⟩ = some (.int .u8 41) ∧ (w.alloc (.cells #[.int .u8 41, .int .u8 93] 5 (2, 3))).cell? ⟨b, 1, none⟩ = some (.int .u8 93) := by
  subst hb
  have h : (w.alloc (.cells #[.int .u8 41, .int .u8 93] 5 (2, 3))).heap[w.heap.size]? = some (.cells #[.int .u8 41, .int .u8 93] 5 (2, 3)) := by
    show (w.heap.push _)[w.heap.size]? = _
    exact Array.getElem?_push_size
  exact ⟨by unfold World.cell?; rw [h]; rfl, by unfold World.cell?; rw [h]; rfl⟩
set_option maxRecDepth 100000 in
theorem l5Bit_any (b : Bool) (w : World) : Calls Try.prog 140 #[.bool b] w fun e w' => e = .returned (.int .i64 (if b = true then 1 else 0)) ∧ w = w' := by
  cases b with
  | false =>
    go_enter Try.func140, Try.ntmps140
    go_wp2
    go_ret
    exact ⟨rfl, rfl⟩
  | true =>
    go_enter Try.func140, Try.ntmps140
    go_wp2
    go_ret
    exact ⟨rfl, rfl⟩
end Go.Proofs.Ytapffbbmofhpoab.L5
