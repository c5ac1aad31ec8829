/-
  Rows that are owned, footprints, what is kept: lemmas on worlds. Nothing of the program's text is proved here.
-/
import Derived.Test.YtfmfnlpajoikmaoL1Sl
namespace Go.Proofs.Ytfmfnlpajoikmao.Own
open Go.RowKit L1
set_option linter.unusedVariables false

abbrev nilV : Value := .slice none 0 0
def InS (S : Nat → Prop) (v : Value) : Prop := ∀ q, v.ownBlock = some q → S q
structure Kept (S : Nat → Prop) (w w' : World) : Prop where
  os : w'.os = w.os
  tape : w'.tape = w.tape
  output : w'.output = w.output
  size : w.heap.size ≤ w'.heap.size
  block : ∀ q, q < w.heap.size → ¬ S q → w'.heap[q]? = w.heap[q]?
theorem Kept.refl (S : Nat → Prop) (w : World) : Kept S w w := ⟨rfl, rfl, rfl, Nat.le_refl _, fun _ _ _ => rfl⟩
theorem Kept.trans {S T : Nat → Prop} {a b c : World} (h : Kept S a b) (k : Kept T b c) (hT : ∀ q, q < a.heap.size → T q → S q) : Kept S a c :=
  ⟨k.os.trans h.os, k.tape.trans h.tape, k.output.trans h.output, Nat.le_trans h.size k.size, fun q hq hn => (k.block q (by have := h.size; omega) (fun t => hn (hT q hq t))).trans (h.block q hq hn)⟩
theorem kept_below {S : Nat → Prop} {w w' : World} (h : Below w.heap.size w w') : Kept S w w' := ⟨h.os, h.tape, h.output, h.size, fun q hq _ => h.block q hq⟩
theorem kept_grown {S : Nat → Prop} {w w' : World} {row : Option Nat} (h : w.grownBy w' row) (hr : ∀ q, row = some q → S q) : Kept S w w' :=
  ⟨h.os, h.tape, h.output, h.size, fun q hq hn => h.block q hq (fun e => hn (hr q e.symm))⟩
theorem Kept.set {S : Nat → Prop} {w w1 : World} (h : Kept S w w1) (p : Addr) (v : Value) (hp : S p.block ∨ w.heap.size ≤ p.block) : Kept S w (w1.setCell p v) := by
  have h0 := (Below.refl 0 w1).setCell (p := p) (Nat.zero_le _) v
  refine ⟨h0.os.trans h.os, h0.tape.trans h.tape, h0.output.trans h.output, Nat.le_trans h.size h0.size, fun q hq hn => ?_⟩
  have hne : q ≠ p.block := fun e => by
    subst e
    rcases hp with hp | hp
    · exact hn hp
    · omega
  exact (Below.heap_setCell _ _ _ _ hne).trans (h.block q hq hn)
/-- What was kept and what is new. -/
def Grow (S : Nat → Prop) (w w' : World) (q : Nat) : Prop := S q ∨ (w.heap.size ≤ q ∧ q < w'.heap.size)
theorem grow_lt {S : Nat → Prop} {w w' : World} (hS : ∀ q, S q → q < w.heap.size) (h : w.heap.size ≤ w'.heap.size) : ∀ q, Grow S w w' q → q < w'.heap.size := fun q hq => by
  rcases hq with hq | hq
  · have := hS q hq; omega
  · exact hq.2
theorem own_at {w w' : World} {base c n : Nat} {t : TypeId} {v : Value} {xs : List Value} (h : w.ownsRow base t c v n xs) (hb : ∀ q, v.ownBlock = some q → w'.heap[q]? = w.heap[q]?) : w'.ownsRow base t c v n xs := by
  refine ⟨h.1, ?_⟩
  rcases h.2 with h0 | ⟨g, cap, cur, hv, hg, hh, rest⟩
  · exact .inl h0
  · exact .inr ⟨g, cap, cur, hv, hg, by rw [hb g (by rw [hv]; rfl)]; exact hh, rest⟩
theorem own_ltO {w : World} {base c n : Nat} {t : TypeId} {v : Value} {xs : List Value} (h : w.ownsRow base t c v n xs) (q : Nat) (hq : v.ownBlock = some q) : q < w.heap.size := by
  rcases h.2 with ⟨hv, _⟩ | ⟨g, cap, cur, hv, hg, hh, rest⟩
  · rw [hv] at hq; cases hq
  · rw [hv] at hq
    cases hq
    exact (Array.getElem?_eq_some_iff.1 hh).1
theorem own_zero {w : World} {base c n : Nat} {t : TypeId} {v : Value} {xs : List Value} (h : w.ownsRow base t c v n xs) : w.ownsRow 0 t c v n xs := by
  refine ⟨h.1, ?_⟩
  rcases h.2 with h0 | ⟨g, cap, cur, hv, _, r⟩
  · exact .inl h0
  · exact .inr ⟨g, cap, cur, hv, Nat.zero_le _, r⟩
theorem own_from {w : World} {base c n : Nat} {t : TypeId} {v : Value} {xs : List Value} (h : w.ownsRow 0 t c v n xs) (hb : ∀ q, v.ownBlock = some q → base ≤ q) : w.ownsRow base t c v n xs := by
  refine ⟨h.1, ?_⟩
  rcases h.2 with h0 | ⟨g, cap, cur, hv, _, r⟩
  · exact .inl h0
  · exact .inr ⟨g, cap, cur, hv, hb g (by rw [hv]; rfl), r⟩
theorem own_ge {w : World} {base c n : Nat} {t : TypeId} {v : Value} {xs : List Value} (h : w.ownsRow base t c v n xs) (q : Nat) (hq : v.ownBlock = some q) : base ≤ q := by
  rcases h.2 with ⟨hv, _⟩ | ⟨g, cap, cur, hv, hg, hh, rest⟩
  · rw [hv] at hq; cases hq
  · rw [hv] at hq
    cases hq
    exact hg

theorem grow_refl {S : Nat → Prop} {w : World} {q : Nat} (h : S q) : Grow S w w q := .inl h
theorem own_belO {w w' : World} {base n : Nat} {t : TypeId} {c : Nat} {v : Value} {ys : List Value} (h : w.ownsRow base t c v n ys) (hb : Below w.heap.size w w') : w'.ownsRow base t c v n ys := own_at h fun q hq => hb.block q (own_ltO h q hq)
theorem own_setO {w : World} {base n c : Nat} {t : TypeId} {v : Value} {ys : List Value} (h : w.ownsRow base t c v n ys) (p : Addr) (u : Value) (hp : p.block < base) : (w.setCell p u).ownsRow base t c v n ys :=
  own_at h fun q hq => Below.heap_setCell _ _ _ _ (fun e => by have := own_ge h q hq; have e' : q = p.block := e; omega)
theorem own_pastO {w w' : World} {base c n : Nat} {t : TypeId} {v u : Value} {xs : List Value} (ho : w.ownsRow base t c v n xs) (hg : w.grownBy w' u.ownBlock) (hq : ∀ q, v.ownBlock = some q → u.ownBlock ≠ some q) : w'.ownsRow base t c v n xs := own_at ho fun q e => hg.block q (own_ltO ho q e) (fun e2 => hq q e e2.symm)
theorem own_twoO {w : World} {b1 b2 n1 n2 c1 c2 : Nat} {t1 t2 : TypeId} {v1 v2 : Value} {y1 y2 : List Value} (h1 : w.ownsRow b1 t1 c1 v1 n1 y1) (h2 : w.ownsRow b2 t2 c2 v2 n2 y2) (ht : t1 ≠ t2) (g : Nat) (e1 : v1.ownBlock = some g) : v2.ownBlock ≠ some g := fun e2 => by
  rcases h1.2 with ⟨hv, _⟩ | ⟨q1, cap1, cur1, hv1, _, hh1, _⟩
  · rw [hv] at e1; cases e1
  · rcases h2.2 with ⟨hv, _⟩ | ⟨q2, cap2, cur2, hv2, _, hh2, _⟩
    · rw [hv] at e2; cases e2
    · rw [hv1] at e1
      rw [hv2] at e2
      have e1' : q1 = g := Option.some.inj e1
      have e2' : q2 = g := Option.some.inj e2
      rw [e1'] at hh1
      rw [e2', hh1] at hh2
      simp at hh2
      exact ht hh2.2
theorem own_boxO {w : World} {base n c : Nat} {t tb : TypeId} {v : Value} {ys : List Value} {b : Nat} {cur : Array Value} (h : w.ownsRow base t c v n ys) (hb : w.heap[b]? = some (.cells cur tb (0, 0))) (ht : tb ≠ t) : v.ownBlock ≠ some b := fun e => by
  rcases h.2 with ⟨hv, _⟩ | ⟨q1, cap1, cur1, hv1, _, hh1, _⟩
  · rw [hv] at e; cases e
  · rw [hv1] at e
    have e' : q1 = b := Option.some.inj e
    rw [e', hb] at hh1
    simp at hh1
    exact ht hh1.2
theorem own_shapeO {w : World} {base c n : Nat} {t : TypeId} {v : Value} {xs : List Value} (h : w.ownsRow base t c v n xs) : ∃ a cap, v = .slice a n cap := by
  rcases h.2 with ⟨hv, h0⟩ | ⟨g, cap, cur, hv, _⟩
  · exact ⟨none, 0, by rw [hv, h0]⟩
  · exact ⟨_, cap, hv⟩
theorem blk_ltO {w : World} {p : Addr} {v : Value} (h : w.cell? p = some v) : p.block < w.heap.size := by
  by_cases hb : p.block < w.heap.size
  · exact hb
  · simp [World.cell?, Array.getElem?_eq_none (show w.heap.size ≤ p.block by omega)] at h
theorem blk_newO (w : World) (o : Obj) : (w.alloc o).heap[w.heap.size]? = some o := by
  show (w.heap.push o)[w.heap.size]? = some o
  simp
theorem heap_boxO {w : World} {b : Nat} {cur : Array Value} {t : TypeId} (h : w.heap[b]? = some (.cells cur t (0, 0))) (j : Nat) (u : Value) : (w.setCell ⟨b, j, none⟩ u).heap[b]? = some (.cells (cur.setIfInBounds j u) t (0, 0)) := heap_setCell_same w b j cur t u h
theorem frzO {w : World} {b : Nat} {cur : Array Value} {t : TypeId} (h : w.heap[b]? = some (.cells cur t (0, 0))) (i : Nat) : w.frozen? ⟨b, i, none⟩ = false := by
  simp [World.frozen?, h]
theorem blk5 {w : World} {b : Nat} {c0 c1 c2 c3 c4 : Value} {t : TypeId} (h : w.heap[b]? = some (.cells #[c0, c1, c2, c3, c4] t (0, 0))) : w.cell? ⟨b, 0, none⟩ = some c0 ∧ w.cell? ⟨b, 1, none⟩ = some c1 ∧ w.cell? ⟨b, 2, none⟩ = some c2 ∧ w.cell? ⟨b, 3, none⟩ = some c3 ∧ w.cell? ⟨b, 4, none⟩ = some c4 := by
  simp [World.cell?, h]
theorem bel_keptO {S : Nat → Prop} {w1 w2 w3 : World} (h : Below w1.heap.size w1 w2) (k : Kept S w2 w3) (hS : ∀ q, S q → w1.heap.size ≤ q) : Below w1.heap.size w1 w3 :=
  ⟨k.os.trans h.os, k.tape.trans h.tape, k.output.trans h.output, Nat.le_trans h.size k.size, fun q hq => (k.block q (by have := h.size; omega) (fun s => by have := hS q s; omega)).trans (h.block q hq)⟩
end Go.Proofs.Ytfmfnlpajoikmao.Own
