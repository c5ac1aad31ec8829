/-
  Rows of memory: cells of structs one behind the other, blocks that are two, what stays where some blocks are written into. Nothing of the program's text is proved here.
-/
import Derived.Test.YticgejaaoamhmapL4Base
namespace Go.Proofs.Yticgejaaoamhmap.L8
open Go.RowKit L1 L4
set_option linter.unusedVariables false

theorem blk_ltA {w : World} {p : Addr} {v : Value} (h : w.cell? p = some v) : p.block < w.heap.size := by
  by_cases hb : p.block < w.heap.size
  · exact hb
  · simp [World.cell?, Array.getElem?_eq_none (show w.heap.size ≤ p.block by omega)] at h
theorem blk_new (w : World) (o : Obj) : (w.alloc o).heap[w.heap.size]? = some o := by
  show (w.heap.push _)[w.heap.size]? = _
  simp
theorem own_lt {w : World} {base n c : Nat} {t : TypeId} {v : Value} {ys : List Value} (h : w.ownsRow base t c v n ys) (b : Nat) (hb : v.ownBlock = some b) : base ≤ b ∧ b < w.heap.size := by
  rcases h.2 with ⟨rfl, _⟩ | ⟨g, cap, cur, rfl, hbg, hg, r⟩
  · simp [Value.ownBlock] at hb
  · simp [Value.ownBlock] at hb
    subst hb
    exact ⟨hbg, (Array.getElem?_eq_some_iff.1 hg).1⟩
/-- Blocks of two types are two. -/
theorem own_two {w : World} {b1 b2 n1 n2 c1 c2 : Nat} {t1 t2 : TypeId} {v1 v2 : Value} {y1 y2 : List Value} (h1 : w.ownsRow b1 t1 c1 v1 n1 y1) (h2 : w.ownsRow b2 t2 c2 v2 n2 y2) (ht : t1 ≠ t2) (g : Nat) (e1 : v1.ownBlock = some g) : v2.ownBlock ≠ some g := by
  intro e2
  rcases h1.2 with ⟨rfl, _⟩ | ⟨g1, cap1, cur1, rfl, _, hg1, _⟩
  · simp [Value.ownBlock] at e1
  · rcases h2.2 with ⟨rfl, _⟩ | ⟨g2, cap2, cur2, rfl, _, hg2, _⟩
    · simp [Value.ownBlock] at e2
    · simp [Value.ownBlock] at e1 e2
      subst e1
      subst e2
      rw [hg1] at hg2
      simp at hg2
      exact ht hg2.2
theorem own_kept {w w' : World} {base c n : Nat} {t : TypeId} {v : Value} {xs : List Value} {r : Option Nat} (h : w.ownsRow base t c v n xs) (hg : w.grownBy w' r) (hne : ∀ g, v.ownBlock = some g → r ≠ some g) : w'.ownsRow base t c v n xs := by
  refine ⟨h.1, ?_⟩
  rcases h.2 with h0 | ⟨g, cap, cur, hv, hb, hh, rest⟩
  · exact .inl h0
  · refine .inr ⟨g, cap, cur, hv, hb, ?_, rest⟩
    rw [hg.block g (Array.getElem?_eq_some_iff.1 hh).1 (fun e => hne g (by rw [hv]; rfl) e.symm)]
    exact hh
theorem own_setC {w : World} {base n c : Nat} {t : TypeId} {v : Value} {ys : List Value} (h : w.ownsRow base t c v n ys) (p : Addr) (u : Value) (hp : p.block < base) : (w.setCell p u).ownsRow base t c v n ys := by
  refine ⟨h.1, ?_⟩
  rcases h.2 with h0 | ⟨g, cap, cur, rfl, hbg, hg, r⟩
  · exact .inl h0
  · exact .inr ⟨g, cap, cur, rfl, hbg, by rw [Below.heap_setCell _ _ _ _ (by omega)]; exact hg, r⟩
theorem grown_below {w w' : World} {r : Option Nat} (hb : Below w.heap.size w w') : w.grownBy w' r := ⟨hb.os, hb.tape, hb.output, hb.size, fun k hk _ => hb.block k hk⟩
theorem grown_cell {w w' : World} {r : Option Nat} (hg : w.grownBy w' r) (p : Addr) {v : Value} (h : w.cell? p = some v) (hne : some p.block ≠ r) : w'.cell? p = some v := by
  have := hg.block p.block (blk_ltA h) hne
  rw [← h]
  simp only [World.cell?, this]
theorem sl_grown {w w' : World} {r : Option Nat} {a : Option Addr} {xs : List Int} (h : Sl w a xs) (hg : w.grownBy w' r) (hne : ∀ x, a = some x → some x.block ≠ r) : Sl w' a xs := fun i hi => by
  obtain ⟨b, off, ha, hc⟩ := h i hi
  exact ⟨b, off, ha, grown_cell hg ⟨b, off + i, none⟩ hc (hne ⟨b, off, none⟩ ha)⟩
/-- Only blocks between two numbers, and new ones, are written into. -/
structure Only (lo hi : Nat) (w w' : World) : Prop where
  os : w'.os = w.os
  tape : w'.tape = w.tape
  output : w'.output = w.output
  size : w.heap.size ≤ w'.heap.size
  block : ∀ k, k < w.heap.size → (k < lo ∨ hi ≤ k) → w'.heap[k]? = w.heap[k]?
theorem Only.refl (lo hi : Nat) (w : World) : Only lo hi w w := ⟨rfl, rfl, rfl, Nat.le_refl _, fun _ _ _ => rfl⟩
theorem Only.trans {lo hi : Nat} {w w1 w2 : World} (h : Only lo hi w w1) (h2 : Only lo hi w1 w2) : Only lo hi w w2 :=
  ⟨h2.os.trans h.os, h2.tape.trans h.tape, h2.output.trans h.output, Nat.le_trans h.size h2.size, fun k hk ho => (h2.block k (Nat.lt_of_lt_of_le hk h.size) ho).trans (h.block k hk ho)⟩
theorem Only.of_below {lo hi : Nat} {w w' : World} (hb : Below w.heap.size w w') : Only lo hi w w' := ⟨hb.os, hb.tape, hb.output, hb.size, fun k hk _ => hb.block k hk⟩
theorem Only.cell {lo hi : Nat} {w w' : World} (h : Only lo hi w w') {p : Addr} {v : Value} (hc : w.cell? p = some v) (ho : p.block < lo ∨ hi ≤ p.block) : w'.cell? p = some v := by
  have := h.block p.block (blk_ltA hc) ho
  rw [← hc]
  simp only [World.cell?, this]
theorem Only.below {lo hi : Nat} {w w' : World} (h : Only lo hi w w') (hl : lo ≤ w.heap.size) : Below lo w w' := ⟨h.os, h.tape, h.output, h.size, fun k hk => h.block k (by omega) (.inl hk)⟩
theorem Only.grown {lo hi : Nat} {w w1 w2 : World} {r : Option Nat} (h : Only lo hi w w1) (hg : w1.grownBy w2 r) (hr : ∀ g, r = some g → lo ≤ g ∧ g < hi) : Only lo hi w w2 := by
  refine ⟨hg.os.trans h.os, hg.tape.trans h.tape, hg.output.trans h.output, Nat.le_trans h.size hg.size, fun k hk ho => (hg.block k (Nat.lt_of_lt_of_le hk h.size) (fun e => ?_)).trans (h.block k hk ho)⟩
  have := hr k e.symm
  omega
theorem Only.row {lo hi : Nat} {w w' : World} (h : Only lo hi w w') {base n c : Nat} {t : TypeId} {v : Value} {xs : List Value} (ho : w.ownsRow base t c v n xs) (hb : hi ≤ base) : w'.ownsRow base t c v n xs := by
  refine ⟨ho.1, ?_⟩
  rcases ho.2 with h0 | ⟨g, cap, cur, rfl, hbg, hg, r⟩
  · exact .inl h0
  · exact .inr ⟨g, cap, cur, rfl, hbg, by rw [h.block g (Array.getElem?_eq_some_iff.1 hg).1 (.inr (by omega))]; exact hg, r⟩

/-! Cells of structs, one behind the other. -/
theorem flat_len {α : Type} (f : α → List Value) (c : Nat) (hf : ∀ x, (f x).length = c) : ∀ L : List α, (L.flatMap f).length = L.length * c
  | [] => by simp
  | x :: L => by rw [List.flatMap_cons, List.length_append, hf, flat_len f c hf L, List.length_cons, Nat.succ_mul]; omega
theorem flat_get {α : Type} (f : α → List Value) (c : Nat) (hf : ∀ x, (f x).length = c) (d : α) : ∀ (L : List α) (i j : Nat), i < L.length → j < c → (L.flatMap f)[i * c + j]? = (f (L.getD i d))[j]?
  | [], i, j, h, _ => by simp at h
  | x :: L, 0, j, _, hj => by
    rw [List.flatMap_cons, Nat.zero_mul, Nat.zero_add, List.getElem?_append_left (by rw [hf]; exact hj)]
    rfl
  | x :: L, i + 1, j, h, hj => by
    have ih := flat_get f c hf d L i j (by simpa using h) hj
    rw [List.flatMap_cons, List.getElem?_append_right (by rw [hf, Nat.succ_mul]; omega), hf]
    rw [show (i + 1) * c + j - c = i * c + j by rw [Nat.succ_mul]; omega, ih]
    rfl
theorem flat_set {α : Type} (f : α → List Value) (c : Nat) (hf : ∀ x, (f x).length = c) (d : α) : ∀ (L : List α) (i j : Nat) (u : Value) (y : α), i < L.length → j < c → f y = (f (L.getD i d)).set j u → (L.flatMap f).set (i * c + j) u = (L.set i y).flatMap f
  | [], i, j, u, y, h, _, _ => by simp at h
  | x :: L, 0, j, u, y, _, hj, e => by
    have e' : f y = (f x).set j u := e
    rw [List.flatMap_cons, Nat.zero_mul, Nat.zero_add, List.set_append_left _ _ (by rw [hf]; exact hj), List.set_cons_zero, List.flatMap_cons, e']
  | x :: L, i + 1, j, u, y, h, hj, e => by
    have ih := flat_set f c hf d L i j u y (by simpa using h) hj (by simpa using e)
    rw [List.flatMap_cons, List.set_append_right _ _ (by rw [hf, Nat.succ_mul]; omega), hf]
    rw [show (i + 1) * c + j - c = i * c + j by rw [Nat.succ_mul]; omega, ih, List.set_cons_succ, List.flatMap_cons]
theorem getD_self {α : Type} (M : List α) (k : Nat) (p d : α) (h : k < M.length) : (M.set k p).getD k d = p := by simp [List.getD, h]
theorem getD_ne {α : Type} (M : List α) (k i : Nat) (p d : α) (h : i ≠ k) : (M.set k p).getD i d = M.getD i d := by simp [List.getD, Ne.symm h]
theorem set_twice {α : Type} (M : List α) (k : Nat) (p q : α) : (M.set k p).set k q = M.set k q := by simp
theorem keep2 {wa wb W : World} {N : Nat} {p0 p1 : Addr} {v0 v1 : Value} (h : (wa.cell? p0 = some v0 ∧ wa.cell? p1 = some v1) ∧ Below N W wa) (hb : Below wa.heap.size wa wb) (hN : N ≤ W.heap.size) : (wb.cell? p0 = some v0 ∧ wb.cell? p1 = some v1) ∧ Below N W wb := by
  obtain ⟨⟨h0, h1⟩, hz⟩ := h
  exact ⟨⟨(hb.cell (blk_ltA h0)).trans h0, (hb.cell (blk_ltA h1)).trans h1⟩, hz.trans (hb.mono (Nat.le_trans hN hz.size))⟩
theorem keep3 {wa wb W : World} {N : Nat} {p0 p1 p2 : Addr} {v0 v1 v2 : Value} (h : (wa.cell? p0 = some v0 ∧ wa.cell? p1 = some v1 ∧ wa.cell? p2 = some v2) ∧ Below N W wa) (hb : Below wa.heap.size wa wb) (hN : N ≤ W.heap.size) : (wb.cell? p0 = some v0 ∧ wb.cell? p1 = some v1 ∧ wb.cell? p2 = some v2) ∧ Below N W wb := by
  obtain ⟨⟨h0, h1, h2⟩, hz⟩ := h
  exact ⟨⟨(hb.cell (blk_ltA h0)).trans h0, (hb.cell (blk_ltA h1)).trans h1, (hb.cell (blk_ltA h2)).trans h2⟩, hz.trans (hb.mono (Nat.le_trans hN hz.size))⟩
theorem keep4 {wa wb W : World} {N : Nat} {p0 p1 p2 p3 : Addr} {v0 v1 v2 v3 : Value} (h : (wa.cell? p0 = some v0 ∧ wa.cell? p1 = some v1 ∧ wa.cell? p2 = some v2 ∧ wa.cell? p3 = some v3) ∧ Below N W wa) (hb : Below wa.heap.size wa wb) (hN : N ≤ W.heap.size) : (wb.cell? p0 = some v0 ∧ wb.cell? p1 = some v1 ∧ wb.cell? p2 = some v2 ∧ wb.cell? p3 = some v3) ∧ Below N W wb := by
  obtain ⟨⟨h0, h1, h2, h3⟩, hz⟩ := h
  exact ⟨⟨(hb.cell (blk_ltA h0)).trans h0, (hb.cell (blk_ltA h1)).trans h1, (hb.cell (blk_ltA h2)).trans h2, (hb.cell (blk_ltA h3)).trans h3⟩, hz.trans (hb.mono (Nat.le_trans hN hz.size))⟩
theorem keep5 {wa wb W : World} {N : Nat} {p0 p1 p2 p3 p4 : Addr} {v0 v1 v2 v3 v4 : Value} (h : (wa.cell? p0 = some v0 ∧ wa.cell? p1 = some v1 ∧ wa.cell? p2 = some v2 ∧ wa.cell? p3 = some v3 ∧ wa.cell? p4 = some v4) ∧ Below N W wa) (hb : Below wa.heap.size wa wb) (hN : N ≤ W.heap.size) : (wb.cell? p0 = some v0 ∧ wb.cell? p1 = some v1 ∧ wb.cell? p2 = some v2 ∧ wb.cell? p3 = some v3 ∧ wb.cell? p4 = some v4) ∧ Below N W wb := by
  obtain ⟨⟨h0, h1, h2, h3, h4⟩, hz⟩ := h
  exact ⟨⟨(hb.cell (blk_ltA h0)).trans h0, (hb.cell (blk_ltA h1)).trans h1, (hb.cell (blk_ltA h2)).trans h2, (hb.cell (blk_ltA h3)).trans h3, (hb.cell (blk_ltA h4)).trans h4⟩, hz.trans (hb.mono (Nat.le_trans hN hz.size))⟩
theorem keep6 {wa wb W : World} {N : Nat} {p0 p1 p2 p3 p4 p5 : Addr} {v0 v1 v2 v3 v4 v5 : Value} (h : (wa.cell? p0 = some v0 ∧ wa.cell? p1 = some v1 ∧ wa.cell? p2 = some v2 ∧ wa.cell? p3 = some v3 ∧ wa.cell? p4 = some v4 ∧ wa.cell? p5 = some v5) ∧ Below N W wa) (hb : Below wa.heap.size wa wb) (hN : N ≤ W.heap.size) : (wb.cell? p0 = some v0 ∧ wb.cell? p1 = some v1 ∧ wb.cell? p2 = some v2 ∧ wb.cell? p3 = some v3 ∧ wb.cell? p4 = some v4 ∧ wb.cell? p5 = some v5) ∧ Below N W wb := by
  obtain ⟨⟨h0, h1, h2, h3, h4, h5⟩, hz⟩ := h
  exact ⟨⟨(hb.cell (blk_ltA h0)).trans h0, (hb.cell (blk_ltA h1)).trans h1, (hb.cell (blk_ltA h2)).trans h2, (hb.cell (blk_ltA h3)).trans h3, (hb.cell (blk_ltA h4)).trans h4, (hb.cell (blk_ltA h5)).trans h5⟩, hz.trans (hb.mono (Nat.le_trans hN hz.size))⟩
theorem keep8 {wa wb W : World} {N : Nat} {p0 p1 p2 p3 p4 p5 p6 p7 : Addr} {v0 v1 v2 v3 v4 v5 v6 v7 : Value} (h : (wa.cell? p0 = some v0 ∧ wa.cell? p1 = some v1 ∧ wa.cell? p2 = some v2 ∧ wa.cell? p3 = some v3 ∧ wa.cell? p4 = some v4 ∧ wa.cell? p5 = some v5 ∧ wa.cell? p6 = some v6 ∧ wa.cell? p7 = some v7) ∧ Below N W wa) (hb : Below wa.heap.size wa wb) (hN : N ≤ W.heap.size) : (wb.cell? p0 = some v0 ∧ wb.cell? p1 = some v1 ∧ wb.cell? p2 = some v2 ∧ wb.cell? p3 = some v3 ∧ wb.cell? p4 = some v4 ∧ wb.cell? p5 = some v5 ∧ wb.cell? p6 = some v6 ∧ wb.cell? p7 = some v7) ∧ Below N W wb := by
  obtain ⟨⟨h0, h1, h2, h3, h4, h5, h6, h7⟩, hz⟩ := h
  exact ⟨⟨(hb.cell (blk_ltA h0)).trans h0, (hb.cell (blk_ltA h1)).trans h1, (hb.cell (blk_ltA h2)).trans h2, (hb.cell (blk_ltA h3)).trans h3, (hb.cell (blk_ltA h4)).trans h4, (hb.cell (blk_ltA h5)).trans h5, (hb.cell (blk_ltA h6)).trans h6, (hb.cell (blk_ltA h7)).trans h7⟩, hz.trans (hb.mono (Nat.le_trans hN hz.size))⟩
theorem keep10 {wa wb W : World} {N : Nat} {p0 p1 p2 p3 p4 p5 p6 p7 p8 p9 : Addr} {v0 v1 v2 v3 v4 v5 v6 v7 v8 v9 : Value} (h : (wa.cell? p0 = some v0 ∧ wa.cell? p1 = some v1 ∧ wa.cell? p2 = some v2 ∧ wa.cell? p3 = some v3 ∧ wa.cell? p4 = some v4 ∧ wa.cell? p5 = some v5 ∧ wa.cell? p6 = some v6 ∧ wa.cell? p7 = some v7 ∧ wa.cell? p8 = some v8 ∧ wa.cell? p9 = some v9) ∧ Below N W wa) (hb : Below wa.heap.size wa wb) (hN : N ≤ W.heap.size) : (wb.cell? p0 = some v0 ∧ wb.cell? p1 = some v1 ∧ wb.cell? p2 = some v2 ∧ wb.cell? p3 = some v3 ∧ wb.cell? p4 = some v4 ∧ wb.cell? p5 = some v5 ∧ wb.cell? p6 = some v6 ∧ wb.cell? p7 = some v7 ∧ wb.cell? p8 = some v8 ∧ wb.cell? p9 = some v9) ∧ Below N W wb := by
  obtain ⟨⟨h0, h1, h2, h3, h4, h5, h6, h7, h8, h9⟩, hz⟩ := h
  exact ⟨⟨(hb.cell (blk_ltA h0)).trans h0, (hb.cell (blk_ltA h1)).trans h1, (hb.cell (blk_ltA h2)).trans h2, (hb.cell (blk_ltA h3)).trans h3, (hb.cell (blk_ltA h4)).trans h4, (hb.cell (blk_ltA h5)).trans h5, (hb.cell (blk_ltA h6)).trans h6, (hb.cell (blk_ltA h7)).trans h7, (hb.cell (blk_ltA h8)).trans h8, (hb.cell (blk_ltA h9)).trans h9⟩, hz.trans (hb.mono (Nat.le_trans hN hz.size))⟩
end Go.Proofs.Yticgejaaoamhmap.L8
