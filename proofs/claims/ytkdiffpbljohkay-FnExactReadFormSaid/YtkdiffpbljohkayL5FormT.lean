/-
  Two trees and a node over them, while they are read.
-/
import Derived.Test.YtkdiffpbljohkayL5FormB
import Derived.Lib.SlBytesConst
namespace Go.Proofs.Ytkdiffpbljohkay.L5
open Go.RowKit L1 L4
set_option linter.unusedVariables false

theorem SMv.setN {w w' : World} {g k b j : Nat} {s : ByteArray} {o : Bool} (h : SMv w w' g s k o) (hg : g < w.heap.size) (hb : w.heap.size ≤ b) (u : Value) : SMv w (w'.setCell ⟨b, j, none⟩ u) g s k o := by
  refine ⟨?_, grown_trans h.gr (grown_set w' b j u) (fun x hx => by cases hx; exact .inr hb)⟩
  have : (w'.setCell ⟨b, j, none⟩ u).heap[g]? = w'.heap[g]? := Below.heap_setCell w' ⟨b, j, none⟩ u g (by simp only; omega)
  exact this.trans h.rb
theorem FB.grown {w w' : World} {g : Nat} {k : Int} {t : ByteArray} {pa pb : Option Addr} {r : Option Nat} (h : FB w g k t pa pb) (hb : w.grownBy w' r) (hne : r ≠ some g) : FB w' g k t pa pb := (hb.block g h.lt (fun e => hne e.symm)).trans h
/-- The first tree is read, its node stands. -/
structure XN (w wr : World) (g : Nat) (s : ByteArray) (k : Nat) (f : Bool) (gx : Nat) (kd : Int) (p q : Option Addr) (a : Sh) : Prop where
  mv : SMv w wr g s k f
  ta : Tr wr (fun b => w.heap.size ≤ b ∧ b < gx) p a
  fx : FB wr gx kd ByteArray.empty p q
  hx : w.heap.size ≤ gx
  hg : g < w.heap.size
theorem XN.new {w wr W : World} {g k : Nat} {s : ByteArray} {p : Option Addr} {a : Sh} (kd : Int) (q : Option Addr) (hg : g < w.heap.size) (h0 : w.heap.size ≤ W.heap.size) (m : SMv w wr g s k false) (t : Tr wr (Nw W) p a) : XN w (wr.alloc (.cells #[.int .i64 kd, .string ByteArray.empty, .pointer p, .pointer q] 84)) g s k false wr.heap.size kd p q a :=
  ⟨m.alloc _, (t.lt.mono (fun b hb => ⟨Nat.le_trans h0 hb.1, hb.2⟩)).alloc _, FB.new wr kd ByteArray.empty p q, m.gr.size, hg⟩
theorem XN.setK {w wr : World} {g k gx : Nat} {s : ByteArray} {f : Bool} {kd : Int} {p q : Option Addr} {a : Sh} (h : XN w wr g s k f gx kd p q a) (y : Int) : XN w (wr.setCell ⟨gx, 0, none⟩ (.int .i64 y)) g s k f gx y p q a :=
  ⟨h.mv.setN h.hg h.hx _, h.ta.set (fun b hb e => by simp only at e; omega) _, h.fx.setK y, h.hx, h.hg⟩
theorem XN.setB {w wr : World} {g k gx : Nat} {s : ByteArray} {f : Bool} {kd : Int} {p q : Option Addr} {a : Sh} (h : XN w wr g s k f gx kd p q a) (y : Option Addr) : XN w (wr.setCell ⟨gx, 3, none⟩ (.pointer y)) g s k f gx kd p y a :=
  ⟨h.mv.setN h.hg h.hx _, h.ta.set (fun b hb e => by simp only at e; omega) _, h.fx.setB y, h.hx, h.hg⟩
theorem XN.move {w wr w' : World} {g k k' gx : Nat} {s : ByteArray} {f f' : Bool} {kd : Int} {p q : Option Addr} {a : Sh} (h : XN w wr g s k f gx kd p q a) (m : SMv wr w' g s k' f') : XN w w' g s k' f' gx kd p q a :=
  ⟨h.mv.trans m, h.ta.grown m.gr (fun b hb e => by cases e; have := hb.1; have := h.hg; omega), h.fx.grown m.gr (fun e => by cases e; have := h.hx; have := h.hg; omega), h.hx, h.hg⟩
theorem XN.alloc {w wr : World} {g k gx : Nat} {s : ByteArray} {f : Bool} {kd : Int} {p q : Option Addr} {a : Sh} (h : XN w wr g s k f gx kd p q a) (ob : Obj) : XN w (wr.alloc ob) g s k f gx kd p q a := h.move ((SMv.refl h.mv.rb).alloc ob)
/-- Both trees are read. -/
structure YN (w wr : World) (g : Nat) (s : ByteArray) (k : Nat) (f : Bool) (gx : Nat) (kd : Int) (p q : Option Addr) (a b : Sh) : Prop where
  x : XN w wr g s k f gx kd p q a
  tb : Tr wr (fun c => gx < c) q b
theorem YN.new {w W wr : World} {g k k' gx : Nat} {s : ByteArray} {kd : Int} {p q y : Option Addr} {a b : Sh} (h : XN w W g s k false gx kd p q a) (m : SMv W wr g s k' false) (t : Tr wr (Nw W) y b) : YN w (wr.setCell ⟨gx, 3, none⟩ (.pointer y)) g s k' false gx kd p y a b :=
  ⟨(h.move m).setB y, (t.mono (S' := fun c => gx < c) (fun c hc => Nat.lt_of_lt_of_le h.fx.lt hc)).set (fun c hc e => by simp only at e; omega) _⟩
theorem YN.move {w wr w' : World} {g k k' gx : Nat} {s : ByteArray} {f f' : Bool} {kd : Int} {p q : Option Addr} {a b : Sh} (h : YN w wr g s k f gx kd p q a b) (m : SMv wr w' g s k' f') : YN w w' g s k' f' gx kd p q a b :=
  ⟨h.x.move m, h.tb.grown m.gr (fun c hc e => by cases e; have := h.x.hx; have := h.x.hg; omega)⟩
theorem YN.alloc {w wr : World} {g k gx : Nat} {s : ByteArray} {f : Bool} {kd : Int} {p q : Option Addr} {a b : Sh} (h : YN w wr g s k f gx kd p q a b) (ob : Obj) : YN w (wr.alloc ob) g s k f gx kd p q a b := h.move ((SMv.refl h.x.mv.rb).alloc ob)
theorem YN.seq {w wr : World} {g k gx : Nat} {s : ByteArray} {f : Bool} {p q : Option Addr} {a b : Sh} (h : YN w wr g s k f gx 5 p q a b) : Tr wr (Nw w) (some ⟨gx, 0, none⟩) (.seq a b) :=
  ⟨gx, p, q, rfl, h.x.hx, h.x.fx.at, h.x.ta.mono (fun c hc => hc.1), h.tb.mono (fun c hc => Nat.le_trans h.x.hx (Nat.le_of_lt hc))⟩
theorem YN.alt {w wr : World} {g k gx : Nat} {s : ByteArray} {f : Bool} {p q : Option Addr} {a b : Sh} (h : YN w wr g s k f gx 6 p q a b) : Tr wr (Nw w) (some ⟨gx, 0, none⟩) (.alt a b) :=
  ⟨gx, p, q, rfl, h.x.hx, h.x.fx.at, h.x.ta.mono (fun c hc => hc.1), h.tb.mono (fun c hc => Nat.le_trans h.x.hx (Nat.le_of_lt hc))⟩
theorem FC.no {n : Nat} (h : FC n) {s : ByteArray} {k k2 : Nat} (he : prs s n k = (none, k2)) (g : Nat) (d : Int) (w : World) (hr : SB w g s k false) (hk : k ≤ s.size) (hs : s.size ≤ 120) (h0 : 0 ≤ d) (hd : d + n = 61) : Calls Try.prog 49 #[.pointer (some ⟨g, 0, none⟩), .int .i64 d] w fun e w' => ∃ p, e = .returned (.pointer p) ∧ SMv w w' g s k2 true := by
  refine (h s k g d w hr hk hs h0 hd).mono ?_
  rintro e w' ⟨p, h1, h2, _⟩
  rw [he] at h2
  exact ⟨p, h1, h2⟩
theorem FC.yes {n : Nat} (h : FC n) {s : ByteArray} {k k2 : Nat} {x : Sh} (he : prs s n k = (some x, k2)) (g : Nat) (d : Int) (w : World) (hr : SB w g s k false) (hk : k ≤ s.size) (hs : s.size ≤ 120) (h0 : 0 ≤ d) (hd : d + n = 61) : Calls Try.prog 49 #[.pointer (some ⟨g, 0, none⟩), .int .i64 d] w fun e w' => ∃ p, e = .returned (.pointer p) ∧ SMv w w' g s k2 false ∧ Tr w' (Nw w) p x := by
  refine (h s k g d w hr hk hs h0 hd).mono ?_
  rintro e w' ⟨p, h1, h2, h3⟩
  rw [he] at h2 h3
  exact ⟨p, h1, h2, h3 x rfl⟩
abbrev bk2 : Obj := .cells #[.int .u8 41, .int .u8 93] 5
theorem conv_twoF (w : World) (b : Nat) (hb : w.heap.size = b) :
    (convert 108 108 (.slice (some ⟨b, 0, none⟩) 2 2)).run Try.prog (w.alloc (.cells #[.int .u8 41, .int .u8 93] 5)) = .ok (.slice (some ⟨b, 0, none⟩) 2 2) (w.alloc (.cells #[.int .u8 41, .int .u8 93] 5 (2, 3))) := by
  subst hb
  exact Lib.run_convert_bytes_const w 108 5 #[.int .u8 41, .int .u8 93] 2 2 Try.underlying108 Try.underlying5
theorem cell_twoF (w : World) (b : Nat) (hb : w.heap.size = b) : (w.alloc (.cells #[.int .u8 41, .int .u8 93] 5 (2, 3))).cell? ⟨b, 0, none⟩ = some (.int .u8 41) ∧ (w.alloc (.cells #[.int .u8 41, .int .u8 93] 5 (2, 3))).cell? ⟨b, 1, none⟩ = some (.int .u8 93) := by
  subst hb
  have h : (w.alloc (.cells #[.int .u8 41, .int .u8 93] 5 (2, 3))).heap[w.heap.size]? = some (.cells #[.int .u8 41, .int .u8 93] 5 (2, 3)) := by
    show (w.heap.push _)[w.heap.size]? = _
    exact Array.getElem?_push_size
  exact ⟨by unfold World.cell?; rw [h]; rfl, by unfold World.cell?; rw [h]; rfl⟩
set_option maxRecDepth 100000 in
theorem l5Bit_any (b : Bool) (w : World) : Calls Try.prog 71 #[.bool b] w fun e w' => e = .returned (.int .i64 (if b = true then 1 else 0)) ∧ w = w' := by
  cases b with
  | false =>
    go_enter Try.func71, Try.ntmps71
    go_wp2
    go_ret
    exact ⟨rfl, rfl⟩
  | true =>
    go_enter Try.func71, Try.ntmps71
    go_wp2
    go_ret
    exact ⟨rfl, rfl⟩
end Go.Proofs.Ytkdiffpbljohkay.L5
