/-
  Blocks of three cells, and cuts of texts. Nothing of the program's text is proved here but closed facts on its types.
  Pieces as they are made; blocks that are new. Nothing of the program's text is proved here but closed facts on its types.
  Cells that stay where they are. Nothing of the program's text is proved here.
  A log's own memory behind a write elsewhere; a box of two cells. Nothing of the program's text is proved here.
  'copy' of pieces, each of three cells, into a row that is owned whole. Nothing of the program's text is proved here but closed facts on its types.
  What stays where one block alone is written into. Nothing of the program's text is proved here.
  Contract: impl.copyLog.
  Contract: impl.shorten: the first pieces of a row that is the call's own; those behind them are cleared.
-/
import Derived.Test.YtbcljhafdpnjbabDoorBundle2
import Derived.Deep.RegionHeld3
import Derived.Laws.CopyOwn
import Derived.Maps.AppendAt
import Derived.Deep.Upon
namespace Go.Proofs.YtbcljhafdpnjbabDoor.L6
open Go.RowKit L1
set_option linter.unusedVariables false

theorem blk3 {w : World} {g : Nat} {a b c : Value} {t : TypeId} (h : w.heap[g]? = some (.cells #[a, b, c] t (0, 0))) :
    w.cell? ⟨g, 0, none⟩ = some a ∧ w.cell? ⟨g, 1, none⟩ = some b ∧ w.cell? ⟨g, 2, none⟩ = some c ∧ w.frozen? ⟨g, 0, none⟩ = false ∧ w.frozen? ⟨g, 1, none⟩ = false ∧ w.frozen? ⟨g, 2, none⟩ = false := by
  simp [World.cell?, World.frozen?, h]
theorem blk_new (w : World) (o : Obj) : (w.alloc o).heap[w.heap.size]? = some o := by
  show (w.heap.push o)[w.heap.size]? = some o
  exact Array.getElem?_push_size
theorem own_setC {w : World} {base n c : Nat} {t : TypeId} {v : Value} {ys : List Value} (h : w.ownsRow base t c v n ys) (p : Addr) (u : Value) (hp : p.block < base) : (w.setCell p u).ownsRow base t c v n ys := by
  refine ⟨h.1, ?_⟩
  rcases h.2 with h0 | ⟨g, cap, cur, rfl, hbg, hg, r⟩
  · exact .inl h0
  · exact .inr ⟨g, cap, cur, rfl, hbg, by rw [Below.heap_setCell _ _ _ _ (by omega)]; exact hg, r⟩
theorem slice_to (w : World) (s : ByteArray) (k : Nat) (h : k ≤ s.size) :
    (Instr.slice 9 (.string s) none (some (.int .i64 (k : Int))) none).run Tryd.prog w = .ok (.string (s.extract 0 k)) w := by
  have h := run_slice_string_to_if (P := Tryd.prog) w 9 s .i64 (k : Int) Tryd.underlying9
  rw [h]
  rw [if_pos (by omega)]
  congr 4

end Go.Proofs.YtbcljhafdpnjbabDoor.L6

namespace Go.Proofs.YtbcljhafdpnjbabDoor.L6
open Go.RowKit L1
set_option linter.unusedVariables false

theorem blk_three (w : World) (o1 o2 o3 : Obj) : (((w.alloc o1).alloc o2).alloc o3).heap[w.heap.size + 2]? = some o3 ∧ (((w.alloc o1).alloc o2).alloc o3).heap[w.heap.size + 1]? = some o2 ∧ (((w.alloc o1).alloc o2).alloc o3).heap[w.heap.size]? = some o1 ∧ (((w.alloc o1).alloc o2).alloc o3).heap.size = w.heap.size + 3 := by
  have h1 := blk_new w o1
  have h2 := blk_new (w.alloc o1) o2
  have h3 := blk_new ((w.alloc o1).alloc o2) o3
  have e2 : (w.alloc o1).heap.size = w.heap.size + 1 := by simp
  have e3 : ((w.alloc o1).alloc o2).heap.size = w.heap.size + 2 := by simp
  rw [e2] at h2
  rw [e3] at h3
  have k2 := ((Below.refl ((w.alloc o1).alloc o2).heap.size ((w.alloc o1).alloc o2)).alloc (Nat.le_refl _) o3)
  have k1 := ((Below.refl (w.alloc o1).heap.size (w.alloc o1)).alloc (Nat.le_refl _) o2)
  refine ⟨h3, (k2.block (w.heap.size + 1) (by rw [e3]; omega)).trans h2, (k2.block w.heap.size (by rw [e3]; omega)).trans ((k1.block w.heap.size (by rw [e2]; omega)).trans h1), by simp⟩
theorem made_cs (n : Nat) : (madeCells (Value.agg #[.int .i64 0, .string ByteArray.empty, .slice none 0 0]).cells (n * 3)).toList = flatC (List.replicate n eV) := by
  apply List.ext_getElem?
  intro j
  by_cases hj : j < n * 3
  · have hi : j / 3 < (List.replicate n eV).length := by simp; omega
    obtain ⟨f1, f2, f3⟩ := flatC_get (List.replicate n eV) (j / 3) hi
    have hg : (List.replicate n eV).getD (j / 3) eV = eV := by
      simp [List.getD, List.getElem?_replicate]; split <;> rfl
    rw [hg] at f1 f2 f3
    have hm : (madeCells (Value.agg #[.int .i64 0, .string ByteArray.empty, .slice none 0 0]).cells (n * 3)).toList[j]? = [Value.int .i64 0, .string ByteArray.empty, .slice none 0 0][j % 3]? := by
      simp only [madeCells, Value.cells, Array.toList_map, Array.toList_range, List.getElem?_map]
      rw [List.getElem?_range hj]
      simp only [Option.map_some, List.size_toArray, List.length_cons, List.length_nil]
      have h01 : j % 3 = 0 ∨ j % 3 = 1 ∨ j % 3 = 2 := by omega
      rcases h01 with h | h | h <;> simp [h]
    rw [hm]
    have h01 : j % 3 = 0 ∨ j % 3 = 1 ∨ j % 3 = 2 := by omega
    rcases h01 with h | h | h
    · rw [h, show j = j / 3 * 3 by omega, f1]; rfl
    · rw [h, show j = j / 3 * 3 + 1 by omega, f2]; rfl
    · rw [h, show j = j / 3 * 3 + 2 by omega, f3]; rfl
  · rw [List.getElem?_eq_none (by simp [size_madeCells]; omega), List.getElem?_eq_none (by rw [flatC_len]; simp; omega)]
/-- Pieces as they are made: each without anything. -/
theorem own_zero {w : World} {base n : Nat} {v : Value} (h : w.ownsRow base 50 3 v n (flatC (List.replicate n eV))) : OwC w base v n (List.replicate n eV) := by
  have hg : ∀ i, (List.replicate n eV).getD i eV = eV := fun i => by
    simp [List.getD, List.getElem?_replicate]; split <;> rfl
  refine ⟨by simp, h, fun i hi => by rw [hg i]; exact World.ownsRow_nil _ _ _ _, fun i j _ _ g e => ?_⟩
  rw [hg i] at e
  simp [eV, Value.ownBlock] at e
theorem list_sameC {M : List PV} {L : List Pc} {n : Nat} (h1 : M.length = n) (h2 : L.length = n) (h : ∀ j, j < n → (M.getD j eV).1 = gc L j) : pcs M = L := by
  apply List.ext_getElem?
  intro j
  by_cases hj : j < n
  · have h := h j hj
    simp only [gc, List.getD, List.getElem?_eq_getElem (show j < M.length by omega), List.getElem?_eq_getElem (show j < L.length by omega), Option.getD_some] at h
    rw [List.getElem?_map, List.getElem?_eq_getElem (show j < M.length by omega), List.getElem?_eq_getElem (show j < L.length by omega), ← h]
    rfl
  · rw [List.getElem?_eq_none (by simp; omega), List.getElem?_eq_none (by omega)]

end Go.Proofs.YtbcljhafdpnjbabDoor.L6

namespace Go.Proofs.YtbcljhafdpnjbabDoor.L6
open Go.RowKit L1
set_option linter.unusedVariables false

theorem blk_ltA {w : World} {p : Addr} {v : Value} (h : w.cell? p = some v) : p.block < w.heap.size := by
  by_cases hb : p.block < w.heap.size
  · exact hb
  · simp [World.cell?, Array.getElem?_eq_none (show w.heap.size ≤ p.block by omega)] at h
theorem keep2 {wa wb W : World} {N : Nat} {p0 p1 : Addr} {v0 v1 : Value} (h : (wa.cell? p0 = some v0 ∧ wa.cell? p1 = some v1) ∧ Below N W wa) (hb : Below wa.heap.size wa wb) (hN : N ≤ W.heap.size) : (wb.cell? p0 = some v0 ∧ wb.cell? p1 = some v1) ∧ Below N W wb := by
  obtain ⟨⟨h0, h1⟩, hz⟩ := h
  exact ⟨⟨(hb.cell (blk_ltA h0)).trans h0, (hb.cell (blk_ltA h1)).trans h1⟩, hz.trans (hb.mono (Nat.le_trans hN hz.size))⟩
theorem keep3 {wa wb W : World} {N : Nat} {p0 p1 p2 : Addr} {v0 v1 v2 : Value} (h : (wa.cell? p0 = some v0 ∧ wa.cell? p1 = some v1 ∧ wa.cell? p2 = some v2) ∧ Below N W wa) (hb : Below wa.heap.size wa wb) (hN : N ≤ W.heap.size) : (wb.cell? p0 = some v0 ∧ wb.cell? p1 = some v1 ∧ wb.cell? p2 = some v2) ∧ Below N W wb := by
  obtain ⟨⟨h0, h1, h2⟩, hz⟩ := h
  exact ⟨⟨(hb.cell (blk_ltA h0)).trans h0, (hb.cell (blk_ltA h1)).trans h1, (hb.cell (blk_ltA h2)).trans h2⟩, hz.trans (hb.mono (Nat.le_trans hN hz.size))⟩
theorem keep4 {wa wb W : World} {N : Nat} {p0 p1 p2 p3 : Addr} {v0 v1 v2 v3 : Value} (h : (wa.cell? p0 = some v0 ∧ wa.cell? p1 = some v1 ∧ wa.cell? p2 = some v2 ∧ wa.cell? p3 = some v3) ∧ Below N W wa) (hb : Below wa.heap.size wa wb) (hN : N ≤ W.heap.size) : (wb.cell? p0 = some v0 ∧ wb.cell? p1 = some v1 ∧ wb.cell? p2 = some v2 ∧ wb.cell? p3 = some v3) ∧ Below N W wb := by
  obtain ⟨⟨h0, h1, h2, h3⟩, hz⟩ := h
  exact ⟨⟨(hb.cell (blk_ltA h0)).trans h0, (hb.cell (blk_ltA h1)).trans h1, (hb.cell (blk_ltA h2)).trans h2, (hb.cell (blk_ltA h3)).trans h3⟩, hz.trans (hb.mono (Nat.le_trans hN hz.size))⟩
theorem keep5 {wa wb W : World} {N : Nat} {p0 p1 p2 p3 p4 : Addr} {v0 v1 v2 v3 v4 : Value} (h : (wa.cell? p0 = some v0 ∧ wa.cell? p1 = some v1 ∧ wa.cell? p2 = some v2 ∧ wa.cell? p3 = some v3 ∧ wa.cell? p4 = some v4) ∧ Below N W wa) (hb : Below wa.heap.size wa wb) (hN : N ≤ W.heap.size) : (wb.cell? p0 = some v0 ∧ wb.cell? p1 = some v1 ∧ wb.cell? p2 = some v2 ∧ wb.cell? p3 = some v3 ∧ wb.cell? p4 = some v4) ∧ Below N W wb := by
  obtain ⟨⟨h0, h1, h2, h3, h4⟩, hz⟩ := h
  exact ⟨⟨(hb.cell (blk_ltA h0)).trans h0, (hb.cell (blk_ltA h1)).trans h1, (hb.cell (blk_ltA h2)).trans h2, (hb.cell (blk_ltA h3)).trans h3, (hb.cell (blk_ltA h4)).trans h4⟩, hz.trans (hb.mono (Nat.le_trans hN hz.size))⟩
theorem keep6 {wa wb W : World} {N : Nat} {p0 p1 p2 p3 p4 p5 : Addr} {v0 v1 v2 v3 v4 v5 : Value} (h : (wa.cell? p0 = some v0 ∧ wa.cell? p1 = some v1 ∧ wa.cell? p2 = some v2 ∧ wa.cell? p3 = some v3 ∧ wa.cell? p4 = some v4 ∧ wa.cell? p5 = some v5) ∧ Below N W wa) (hb : Below wa.heap.size wa wb) (hN : N ≤ W.heap.size) : (wb.cell? p0 = some v0 ∧ wb.cell? p1 = some v1 ∧ wb.cell? p2 = some v2 ∧ wb.cell? p3 = some v3 ∧ wb.cell? p4 = some v4 ∧ wb.cell? p5 = some v5) ∧ Below N W wb := by
  obtain ⟨⟨h0, h1, h2, h3, h4, h5⟩, hz⟩ := h
  exact ⟨⟨(hb.cell (blk_ltA h0)).trans h0, (hb.cell (blk_ltA h1)).trans h1, (hb.cell (blk_ltA h2)).trans h2, (hb.cell (blk_ltA h3)).trans h3, (hb.cell (blk_ltA h4)).trans h4, (hb.cell (blk_ltA h5)).trans h5⟩, hz.trans (hb.mono (Nat.le_trans hN hz.size))⟩
theorem keep8 {wa wb W : World} {N : Nat} {p0 p1 p2 p3 p4 p5 p6 p7 : Addr} {v0 v1 v2 v3 v4 v5 v6 v7 : Value} (h : (wa.cell? p0 = some v0 ∧ wa.cell? p1 = some v1 ∧ wa.cell? p2 = some v2 ∧ wa.cell? p3 = some v3 ∧ wa.cell? p4 = some v4 ∧ wa.cell? p5 = some v5 ∧ wa.cell? p6 = some v6 ∧ wa.cell? p7 = some v7) ∧ Below N W wa) (hb : Below wa.heap.size wa wb) (hN : N ≤ W.heap.size) : (wb.cell? p0 = some v0 ∧ wb.cell? p1 = some v1 ∧ wb.cell? p2 = some v2 ∧ wb.cell? p3 = some v3 ∧ wb.cell? p4 = some v4 ∧ wb.cell? p5 = some v5 ∧ wb.cell? p6 = some v6 ∧ wb.cell? p7 = some v7) ∧ Below N W wb := by
  obtain ⟨⟨h0, h1, h2, h3, h4, h5, h6, h7⟩, hz⟩ := h
  exact ⟨⟨(hb.cell (blk_ltA h0)).trans h0, (hb.cell (blk_ltA h1)).trans h1, (hb.cell (blk_ltA h2)).trans h2, (hb.cell (blk_ltA h3)).trans h3, (hb.cell (blk_ltA h4)).trans h4, (hb.cell (blk_ltA h5)).trans h5, (hb.cell (blk_ltA h6)).trans h6, (hb.cell (blk_ltA h7)).trans h7⟩, hz.trans (hb.mono (Nat.le_trans hN hz.size))⟩
end Go.Proofs.YtbcljhafdpnjbabDoor.L6

namespace Go.Proofs.YtbcljhafdpnjbabDoor.L6
open Go.RowKit L1
set_option linter.unusedVariables false

theorem OwC.setC {w : World} {base n : Nat} {v : Value} {M : List PV} (h : OwC w base v n M) (p : Addr) (u : Value) (hp : p.block < base) : OwC (w.setCell p u) base v n M :=
  ⟨h.len, own_setC h.row p u hp, fun i hi => own_setC (h.idx i hi) p u hp, h.apart⟩
theorem blkp {w : World} {g : Nat} {a b : Value} {t : TypeId} (h : w.heap[g]? = some (.cells #[a, b] t (0, 0))) :
    w.cell? ⟨g, 0, none⟩ = some a ∧ w.cell? ⟨g, 1, none⟩ = some b ∧ w.frozen? ⟨g, 0, none⟩ = false ∧ w.frozen? ⟨g, 1, none⟩ = false := by
  simp [World.cell?, World.frozen?, h]
/-- All blocks of a log lie below a number. -/
structure InC (hi : Nat) (v : Value) (n : Nat) (M : List PV) : Prop where
  row : ∀ g, v.ownBlock = some g → g < hi
  idx : ∀ i, i < n → ∀ g, (M.getD i eV).2.ownBlock = some g → g < hi
theorem OwC.inC {w : World} {base n : Nat} {v : Value} {M : List PV} (h : OwC w base v n M) : InC w.heap.size v n M :=
  ⟨fun g hg => (own_ltC h.row g hg).2, fun i hi g hg => (own_ltC (h.idx i hi) g hg).2⟩
end Go.Proofs.YtbcljhafdpnjbabDoor.L6

namespace Go.Proofs.YtbcljhafdpnjbabDoor.L6
open Go.RowKit L1
set_option linter.unusedVariables false

theorem run_copy_k (P : Program) (w : World) (dT sT ty elem : TypeId) (g o dLen dCap k : Nat) (a : Addr) (sLen sCap m : Nat) (cur : Array Value) (t : TypeId) (cs : List Value)
    (hu : P.underlying dT = some (.slice elem)) (hs : (P.info? elem).map (·.size) = some k)
    (hg : w.heap[g]? = some (.cells cur t (0, 0))) (hm : m = Nat.min sLen dLen) (hn : cs.length = m * k)
    (hsrc : ∀ j v, cs[j]? = some v → w.cell? (a.add j) = some v) (hfit : o + cs.length ≤ cur.size) (h1 : ∀ v ∈ cs, v.oneCell' = true) :
    (Builtin.copy_ #[dT, sT] ty #[.slice (some ⟨g, o, none⟩) dLen dCap, .slice (some a) sLen sCap]).run P w =
      .ok (goInt m) (w.setRow g (cur.toList.take o ++ cs ++ cur.toList.drop (o + cs.length)).toArray) := by
  have hl := run_loadCells_list (P := P) w a cs hsrc
  have hst := run_storeCells_at P g o t cs 0 cur w hg (by simpa using hfit) h1
  rw [hn] at hl
  cases hq : P.info? elem with
  | none => simp [hq] at hs
  | some i =>
    have hi : i.size = k := by simpa [hq] using hs
    simp [Builtin.copy_, run_underlying hu, Builtin.lenOf, Builtin.firstCells, sizeOf, typeInfo, hq, hi, ← hm, hl, hst]
/-- The same, the whole row written over: what is owned behind it. -/
theorem run_copy_all (P : Program) (w : World) (dT sT ty elem : TypeId) (k : Nat) (hu : P.underlying dT = some (.slice elem)) (hsz : (P.info? elem).map (·.size) = some k)
    (base g n : Nat) (ad : Addr) (sCap : Nat) (xs : List Value) (hown : w.ownsRow base elem k (.slice (some ⟨g, 0, none⟩) n n) n xs) (cs : List Value) (hn : cs.length = n * k)
    (hsrc : ∀ j v, cs[j]? = some v → w.cell? (ad.add j) = some v) (h1 : ∀ v ∈ cs, v.oneCell' = true) :
    ∃ w', (Builtin.copy_ #[dT, sT] ty #[.slice (some ⟨g, 0, none⟩) n n, .slice (some ad) n sCap]).run P w = .ok (goInt n) w' ∧ w'.ownsRow base elem k (.slice (some ⟨g, 0, none⟩) n n) n cs ∧ w.grownBy w' (some g) := by
  obtain ⟨hl, h2⟩ := hown
  rcases h2 with ⟨hv, _⟩ | ⟨g', cap', cur, hv, hbg, hg, hc1, hc2, hc3, hc4⟩
  · cases hv
  · simp at hv
    obtain ⟨rfl, rfl⟩ := hv
    have hcs : cur.size = cs.length := by rw [hc3, hn]
    have hdrop : cur.toList.drop (0 + cs.length) = [] := List.drop_eq_nil_of_le (by simp; omega)
    refine ⟨_, run_copy_k P w dT sT ty elem g 0 n n k ad n sCap n cur elem cs hu hsz hg (by simp) hn hsrc (by omega) h1, ⟨hn, .inr ⟨g, n, _, rfl, hbg, setRow_heap w g cur _ elem _ hg, Nat.le_refl _, hc2, ?_, ?_⟩⟩, ⟨rfl, rfl, rfl, by simp [World.setRow], fun q hq hne => setRow_other w g q _ (fun e => hne (by rw [e]))⟩⟩
    · rw [hdrop]
      simp
      exact hn
    · rw [hdrop]
      simp
      first
        | exact Nat.le_of_eq hn
        | exact List.take_of_length_le (Nat.le_of_eq hn)
theorem app_none (t ty : TypeId) (ht : Tryd.prog.underlying t = some (.slice 3)) (base ax : Option Addr) (n cap c : Nat) (h : n ≤ cap) (w : World) :
    (Builtin.append_ #[t, t] ty #[.slice base n cap, .slice ax 0 c]).run Tryd.prog w = .ok (.slice base n cap) w := by
  obtain ⟨i1, hi1, _, _, _⟩ := info_parts info_int
  refine run_append_nothing w t t ty 3 i1 ht hi1 base n cap h _ ?_
  cases ax with
  | none => exact Src.ofNil _ ht c
  | some x => exact Src.ofSlice _ ht x 0 c [] (by simp) (fun j u hu => by simp at hu) (fun u hu => by simp at hu)
theorem sl_cells6 {w : World} {b off : Nat} {xs : List Int} (h : Sl w (some ⟨b, off, none⟩) xs) : ∀ j u, (xs.map (Value.int .i64))[j]? = some u → w.cell? ((⟨b, off, none⟩ : Addr).add j) = some u := fun j u hu => by
  have hj : j < xs.length := by
    by_cases hj : j < xs.length
    · exact hj
    · rw [List.getElem?_eq_none (by simp; omega)] at hu; cases hu
  rw [add_at6, h.at j hj]
  rw [List.getElem?_map, List.getElem?_eq_getElem hj] at hu
  simp at hu
  rw [← hu]
  simp [List.getD, List.getElem?_eq_getElem hj]
/-- 'append' of a list behind an empty one that is the call's own: a copy in new memory. -/
theorem wpList_append_copy {ops : Array Oper} {rest : List Oper} {o : Oper} {a : Act} {Q : Exit → Act → World → Prop} {w : World} (hgd : o.guard = none) (s x : Operand)
    (ho : o.op = .call { callee := .builtin .append, args := #[s, x], argTypes := #[48, 48] })
    (base : Nat) (ad ax : Option Addr) (cd n c : Nat) (xs : List Int) (hxs : xs.length = n) (hn2 : n ≤ 1048576) (hs : a.eval s = .slice ad 0 cd) (hown : w.ownsRow base 3 1 (.slice ad 0 cd) 0 []) (hx : a.eval x = .slice ax n c) (hsl : Sl w ax xs) (hbase : base ≤ w.heap.size)
    (h : ∀ a' c' w', w'.ownsRow base 3 1 (.slice a' n c') n (xs.map (Value.int .i64)) → w.grownBy w' (Value.slice ad 0 cd).ownBlock → ((Value.slice a' n c').ownBlock = (Value.slice ad 0 cd).ownBlock ∨ (Value.slice a' n c').ownBlock = some w.heap.size) → wpList Tryd.prog ops Q rest (a.put o.dst (.slice a' n c')) w') : wpList Tryd.prog ops Q (o :: rest) a w := by
  by_cases h0 : n = 0
  · subst h0
    have hx0 : xs = [] := List.eq_nil_of_length_eq_zero hxs
    subst hx0
    refine wpList_plain hgd fun K hK => ?_
    unfold Oper.wp execOp
    simp only [ho, resolve, invoke, builtin, Sem.run_bind, Sem.run_pure, Result.andThen_ok, List.map_toArray, List.map_cons, List.map_nil, hs, hx, app_none 48 o.type Tryd.underlying48 ad ax 0 cd c (Nat.zero_le _) w]
    exact hK _ _ (h ad cd w hown (World.grownBy.refl _ _) (.inl rfl))
  · obtain ⟨i0, hi, hz0, hz1, hz2⟩ := info_parts info_int
    obtain ⟨b, off, rfl, _⟩ := hsl 0 (by omega)
    refine wpList_append_own_at w hgd s x 48 ho base 3 i0 (.int .i64 0) 1 8 Tryd.underlying48 hi hz0 hz1 hz2 rfl (by decide) (.slice ad 0 cd) 0 [] hs hown ⟨b, off, none⟩ n c (xs.map (Value.int .i64)) hx (by simp; omega) (sl_cells6 hsl) (by intro u hu; obtain ⟨y, _, rfl⟩ := List.mem_map.1 hu; rfl) (by unfold maxLen; omega) (by omega) hbase ?_
    intro v' w' h1 h2 _ h4
    rw [Nat.zero_add, List.nil_append] at h1
    obtain ⟨a', c', rfl, _, _⟩ := own_form h1
    exact h a' c' w' h1 h2 h4
end Go.Proofs.YtbcljhafdpnjbabDoor.L6

namespace Go.Proofs.YtbcljhafdpnjbabDoor.L6
open Go.RowKit L1
set_option linter.unusedVariables false

theorem grown_below {w w' : World} {r : Option Nat} (hb : Below w.heap.size w w') : w.grownBy w' r := ⟨hb.os, hb.tape, hb.output, hb.size, fun k hk _ => hb.block k hk⟩
theorem grown_cell {w w' : World} {r : Option Nat} (hg : w.grownBy w' r) (p : Addr) {v : Value} (h : w.cell? p = some v) (hne : some p.block ≠ r) : w'.cell? p = some v := by
  have hb : p.block < w.heap.size := by
    by_cases hb : p.block < w.heap.size
    · exact hb
    · simp [World.cell?, Array.getElem?_eq_none (show w.heap.size ≤ p.block by omega)] at h
  have := hg.block p.block hb hne
  rw [← h]
  simp only [World.cell?, this]
theorem sl_grown {w w' : World} {r : Option Nat} {a : Option Addr} {xs : List Int} (h : Sl w a xs) (hg : w.grownBy w' r) (hne : ∀ x, a = some x → some x.block ≠ r) : Sl w' a xs := fun i hi => by
  obtain ⟨b, off, ha, hc⟩ := h i hi
  exact ⟨b, off, ha, grown_cell hg ⟨b, off + i, none⟩ hc (hne ⟨b, off, none⟩ ha)⟩

end Go.Proofs.YtbcljhafdpnjbabDoor.L6

namespace Go.Proofs.YtbcljhafdpnjbabDoor.L6
open Go.RowKit L1
set_option linter.unusedVariables false

/-- Pieces in memory, with the slices that their Indexes are. -/
theorem slC_vals {w : World} {a : Option Addr} {L : List Pc} (h : SlC w a L) : ∃ M : List PV, pcs M = L ∧ (∀ i, i < L.length → ∃ ai ci, (M.getD i eV).2 = .slice ai (gc L i).x.length ci ∧ Sl w ai (gc L i).x) ∧ (∀ j v, (flatC M)[j]? = some v → ∃ b off, a = some ⟨b, off, none⟩ ∧ w.cell? ⟨b, off + j, none⟩ = some v) := by
  obtain ⟨F, hF⟩ : ∃ F : Nat → Value, ∀ i, i < L.length → ∃ b off ai ci, a = some ⟨b, off, none⟩ ∧ F i = .slice ai (gc L i).x.length ci ∧ AtC w b (off + i * 3) (gc L i) ai ci := by
    classical
    refine ⟨fun i => if hi : i < L.length then .slice (Classical.choose (Classical.choose_spec (Classical.choose_spec (h i hi))).2) (gc L i).x.length (Classical.choose (Classical.choose_spec (Classical.choose_spec (Classical.choose_spec (h i hi))).2)) else .slice none 0 0, fun i hi => ?_⟩
    have h1 := Classical.choose_spec (Classical.choose_spec (h i hi))
    have h2 := Classical.choose_spec (Classical.choose_spec h1.2)
    exact ⟨_, _, _, _, h1.1, by simp only [dif_pos hi], h2⟩
  refine ⟨(List.range L.length).map (fun i => (gc L i, F i)), ?_, fun i hi => ?_, fun j v hv => ?_⟩
  · apply List.ext_getElem?
    intro j
    by_cases hj : j < L.length
    · simp [gc, List.getD, hj]
    · rw [List.getElem?_eq_none (by simp; omega), List.getElem?_eq_none (by omega)]
  · obtain ⟨b, off, ai, ci, _, h2, h3⟩ := hF i hi
    have hgd : ((List.range L.length).map (fun i => (gc L i, F i))).getD i eV = (gc L i, F i) := by simp [List.getD, hi]
    exact ⟨ai, ci, by rw [hgd]; exact h2, h3.l⟩
  · have hj : j < (flatC ((List.range L.length).map (fun i => (gc L i, F i)))).length := by
      by_cases hj : j < (flatC ((List.range L.length).map (fun i => (gc L i, F i)))).length
      · exact hj
      · rw [List.getElem?_eq_none (by omega)] at hv; cases hv
    rw [flatC_len] at hj
    simp at hj
    have hi : j / 3 < L.length := by omega
    have hi' : j / 3 < ((List.range L.length).map (fun i => (gc L i, F i))).length := by simp; exact hi
    obtain ⟨f1, f2, f3⟩ := flatC_get _ _ hi'
    have hgd : ((List.range L.length).map (fun i => (gc L i, F i))).getD (j / 3) eV = (gc L (j / 3), F (j / 3)) := by simp [List.getD, hi]
    rw [hgd] at f1 f2 f3
    simp only at f1 f2 f3
    obtain ⟨b, off, ai, ci, ha, hFi, hat⟩ := hF (j / 3) hi
    refine ⟨b, off, ha, ?_⟩
    have hm : j % 3 = 0 ∨ j % 3 = 1 ∨ j % 3 = 2 := by omega
    rcases hm with e | e | e
    · have ej : j = j / 3 * 3 := by omega
      rw [← ej] at f1; rw [f1] at hv; cases hv
      rw [show off + j = off + j / 3 * 3 by omega]; exact hat.f
    · have ej : j = j / 3 * 3 + 1 := by omega
      rw [← ej] at f2; rw [f2] at hv; cases hv
      rw [show off + j = off + j / 3 * 3 + 1 by omega]; exact hat.s
    · have ej : j = j / 3 * 3 + 2 := by omega
      rw [← ej] at f3; rw [f3] at hv; cases hv
      rw [show off + j = off + j / 3 * 3 + 2 by omega, hFi]; exact hat.x
/-- Pieces of which the first so many have an Index of their own. -/
structure OwK (w : World) (base : Nat) (v : Value) (n k : Nat) (M : List PV) : Prop where
  len : M.length = n
  row : w.ownsRow base 50 3 v n (flatC M)
  idx : ∀ i, i < k → w.ownsRow base 3 1 (M.getD i eV).2 (M.getD i eV).1.x.length ((M.getD i eV).1.x.map (Value.int .i64))
  apart : ∀ i j, i < j → j < k → ∀ g, (M.getD i eV).2.ownBlock = some g → (M.getD j eV).2.ownBlock ≠ some g
theorem OwK.all {w : World} {base n : Nat} {v : Value} {M : List PV} (h : OwK w base v n n M) : OwC w base v n M := ⟨h.len, h.row, h.idx, h.apart⟩
theorem OwK.grown {w w' : World} {base n k : Nat} {v : Value} {M : List PV} (h : OwK w base v n k M) (hg : w.grownBy w' none) : OwK w' base v n k M :=
  ⟨h.len, own_keptC h.row hg (fun _ _ e => by cases e), fun i hi => own_keptC (h.idx i hi) hg (fun _ _ e => by cases e), h.apart⟩
/-- The next Index. -/
theorem OwK.step {w : World} {base g n k : Nat} {M : List PV} (h : OwK w base (.slice (some ⟨g, 0, none⟩) n n) n k M) (hk : k < n) (u : Value) (hu : w.ownsRow base 3 1 u (M.getD k eV).1.x.length ((M.getD k eV).1.x.map (Value.int .i64)))
    (hnew : ∀ i, i < k → ∀ b, u.ownBlock = some b → (M.getD i eV).2.ownBlock ≠ some b) :
    OwK (w.setCell ⟨g, k * 3 + 2, none⟩ u) base (.slice (some ⟨g, 0, none⟩) n n) n (k + 1) (M.set k ((M.getD k eV).1, u)) ∧ w.grownBy (w.setCell ⟨g, k * 3 + 2, none⟩ u) (some g) := by
  have h1 := h.row.stored (k * 3 + 2) u
  have hl := h.len
  have hfl : (flatC M).length = n * 3 := by rw [flatC_len, hl]
  have keep : ∀ {c m : Nat} {v : Value} {ys : List Value}, w.ownsRow base 3 c v m ys → (w.setCell ⟨g, k * 3 + 2, none⟩ u).ownsRow base 3 c v m ys := fun hv =>
    own_keptC hv h1.2 (fun b hb e => by
      simp at e
      subst e
      exact own_two h.row hv int_piece g rfl hb)
  refine ⟨⟨by simpa using hl, ?_, fun i hi => ?_, fun i j hij hj => ?_⟩, h1.2⟩
  · obtain ⟨f1, f2, f3⟩ := flatC_get M k (by omega)
    rw [flatC_set]
    unfold L6.setC
    simp only
    have e1 : (flatC M).set (k * 3) (.int .i64 (M.getD k eV).1.f) = flatC M := by
      apply List.ext_getElem?
      intro j
      by_cases e : j = k * 3
      · subst e
        rw [List.getElem?_set_self (by omega), f1]
      · rw [List.getElem?_set_ne (by omega)]
    have e2 : (flatC M).set (k * 3 + 1) (.string (M.getD k eV).1.s) = flatC M := by
      apply List.ext_getElem?
      intro j
      by_cases e : j = k * 3 + 1
      · subst e
        rw [List.getElem?_set_self (by omega), f2]
      · rw [List.getElem?_set_ne (by omega)]
    rw [e1, e2]
    exact h1.1
  · by_cases e : i = k
    · subst e
      rw [getD_set_self M i _ (by omega)]
      exact keep hu
    · rw [getD_set_ne M k i _ e]
      exact keep (h.idx i (by omega))
  · intro b
    by_cases e : j = k
    · subst e
      rw [getD_set_self M j _ (by omega), getD_set_ne M j i _ (by omega)]
      intro h1 h2
      exact hnew i (by omega) b h2 h1
    · rw [getD_set_ne M k i _ (by omega), getD_set_ne M k j _ e]
      exact h.apart i j hij (by omega) b

set_option maxRecDepth 100000 in
set_option maxHeartbeats 4000000 in
theorem copyLog_any (a : Option Addr) (L : List Pc) (n cap : Nat) (B : Int) (w : World) (hn : L.length = n) (h1 : 1 ≤ n) (h20 : n ≤ 20) (hs : SlC w a L) (hX : ∀ i, i < n → (gc L i).x.length ≤ 60) :
    Calls Tryd.prog 35 #[.agg #[.slice a n cap, .int .i64 B]] w fun e w' => ∃ g M, e = .returned (.agg #[.slice (some ⟨g, 0, none⟩) n n, .int .i64 B]) ∧ pcs M = L ∧ OwC w' w.heap.size (.slice (some ⟨g, 0, none⟩) n n) n M ∧ Below w.heap.size w w' := by
  obtain ⟨i0, hi, hz0, hz1, hz2⟩ := info_parts info_piece
  obtain ⟨b, off, rfl, _⟩ := hs 0 (by omega)
  obtain ⟨W, hW⟩ : ∃ W, W = (w.alloc (.cells #[.slice (some ⟨b, off, none⟩) n cap, .int .i64 B] 25 (0, 0))).alloc (.cells #[.slice none 0 0, .int .i64 0] 25 (0, 0)) := ⟨_, rfl⟩
  have hWs : W.heap.size = w.heap.size + 2 := by rw [hW]; simp
  have hbW : Below w.heap.size w W := by rw [hW]; exact ((Below.refl _ _).alloc (Nat.le_refl _) _).alloc (by simp) _
  obtain ⟨w1, hmk, hown1, hg1⟩ := run_make_full (P := Tryd.prog) W W.heap.size 23 50 i0 (.agg #[.int .i64 0, .string ByteArray.empty, .slice none 0 0]) 3 Tryd.underlying23 hi hz0 hz1 .i64 .i64 n (by rw [hz2]; omega) (by unfold maxLen; omega) (Nat.le_refl _)
  have hb1 : Below W.heap.size W w1 := (Below.refl _ _).grown hg1 (Nat.le_refl _) (fun k hk => by cases hk)
  obtain ⟨M0, hM0, hM1, hM2⟩ := slC_vals hs
  have hM0l : M0.length = n := by rw [← hn, ← hM0]; simp
  have hbw1 : Below w.heap.size w w1 := hbW.trans (hb1.mono (by omega))
  have G0 : W.heap[w.heap.size]? = some (.cells #[.slice (some ⟨b, off, none⟩) n cap, .int .i64 B] 25 (0, 0)) ∧ W.heap[w.heap.size + 1]? = some (.cells #[.slice none 0 0, .int .i64 0] 25 (0, 0)) := by
    rw [hW]
    have e2 := blk_new (w.alloc (.cells #[.slice (some ⟨b, off, none⟩) n cap, .int .i64 B] 25 (0, 0))) (.cells #[.slice none 0 0, .int .i64 0] 25 (0, 0))
    rw [World.size_alloc] at e2
    exact ⟨(((Below.refl (w.alloc (.cells #[.slice (some ⟨b, off, none⟩) n cap, .int .i64 B] 25 (0, 0))).heap.size _).alloc (Nat.le_refl _) _).block w.heap.size (by simp)).trans (blk_new _ _), e2⟩
  obtain ⟨k0, k1, _, _⟩ := blkp ((hb1.block w.heap.size (by omega)).trans G0.1)
  have HG1 := hide ((hb1.block (w.heap.size + 1) (by omega)).trans G0.2)
  have hsrc : ∀ j v, (flatC M0)[j]? = some v → w1.cell? ((⟨b, off, none⟩ : Addr).add j) = some v := fun j v hv => by
    obtain ⟨b', off', he, hc⟩ := hM2 j v hv
    cases he
    rw [add_at6]
    exact (hbw1.cell (p := ⟨b, off + j, none⟩) (blk_lt hc)).trans hc
  have hone : ∀ v ∈ flatC M0, v.oneCell' = true := flatC_one M0 (fun q hq => by
    obtain ⟨i, hi, rfl⟩ := List.getElem_of_mem hq
    obtain ⟨ai, ci, e, _⟩ := hM1 i (by omega)
    rw [show M0[i] = M0.getD i eV by simp [List.getD, List.getElem?_eq_getElem hi], e]
    rfl)
  have HSRC := hide hsrc
  have HONE := hide hone
  have HM0 := hide hM0
  have HM1 := hide hM1
  have HML := hide hM0l
  have HX := hide hX
  have HN := hide hn
  have HBW1 := hide hbw1
  rw [hWs] at hmk hown1
  have HO1 := hide hown1
  have hsz1 : w.heap.size + 2 ≤ w1.heap.size := by have := hb1.size; omega
  have hinf : (Tryd.prog.info? 50).map (·.size) = some 3 := by rw [hi]; simp [hz1]
  obtain ⟨w2, hcp, ho2, hg2⟩ := run_copy_all Tryd.prog w1 23 23 3 50 3 Tryd.underlying23 hinf (w.heap.size + 2) (w.heap.size + 2) n ⟨b, off, none⟩ cap _ HO1.out (flatC M0) (by rw [flatC_len, HML.out]) HSRC.out HONE.out
  have k0' := grown_cell hg2 ⟨w.heap.size, 0, none⟩ k0 (by simp)
  have k1' := grown_cell hg2 ⟨w.heap.size, 1, none⟩ k1 (by simp)
  have HR0 : Hid (w2.heap[w.heap.size + 1]? = some (.cells #[.slice none 0 0, .int .i64 0] 25 (0, 0))) := (hg2.block (w.heap.size + 1) (by omega) (by simp)).trans HG1.out
  have HK0 : Hid (OwK w2 (w.heap.size + 2) (.slice (some ⟨w.heap.size + 2, 0, none⟩) n n) n 0 M0) := ⟨HML.out, ho2, fun i hi => absurd hi (Nat.not_lt_zero _), fun i j _ hj => absurd hj (Nat.not_lt_zero _)⟩
  have HB2 : Hid (Below w.heap.size w w2) := HBW1.out.grown hg2 (by omega) (fun q hq => by cases hq; omega)
  subst hW
  clear ho2 hg2
  clear hs hn hX hM0 hM1 hM2 hM0l hsrc hone hown1 hg1 hb1 hbw1 hbW hWs G0
  go_enter Tryd.func35, Tryd.ntmps35
  go_wp2
  go_loopw [16] (fun i wr => ∃ (k : Nat) (N : List PV), k ≤ n ∧ i = .int .i64 k ∧ Hid (OwK wr (w.heap.size + 2) (.slice (some ⟨w.heap.size + 2, 0, none⟩) n n) n k N) ∧ Hid (∀ t, k ≤ t → t < n → N.getD t eV = M0.getD t eV) ∧ Hid (pcs N = L) ∧ wr.cell? ⟨w.heap.size, 1, none⟩ = some (.int .i64 B) ∧ Hid (wr.heap[w.heap.size + 1]? = some (.cells #[.slice none 0 0, .int .i64 0] 25 (0, 0))) ∧ Below w.heap.size w wr) (fun i _ => n - (intOf i).toNat)
  case atStart => exact ⟨0, M0, Nat.zero_le _, rfl, HK0.out, fun _ _ _ => rfl, HM0.out, k1', HR0.out, HB2.out⟩
  case round =>
    obtain ⟨k, N, hk, rfl, HK, HT2, HP, kB, HR, hbel⟩ := hrel
    by_cases hlt : k < n
    · have hltI : (k : Int) < (n : Int) := by omega
      have hNk := HT2.out k (Nat.le_refl _) hlt
      obtain ⟨ai, ci, hv, hsl⟩ := HM1.out k (by rw [HN.out]; exact hlt)
      have hNl := HK.out.len
      have hp1 : (N.getD k eV).1 = gc L k := by
        have := pcs_get N k (by omega)
        rw [HP.out] at this
        exact this.symm
      obtain ⟨f1, f2, f3⟩ := flatC_get N k (by omega)
      rw [hp1] at f1 f2
      rw [hNk, hv] at f3
      have hfl : (flatC N).length = n * 3 := by rw [flatC_len, hNl]
      have c1 := (HK.out.row.cellAt (k * 3) (by omega)).trans f1
      have c2 := (HK.out.row.cellAt (k * 3 + 1) (by omega)).trans f2
      have c3 := (HK.out.row.cellAt (k * 3 + 2) (by omega)).trans f3
      have hxl := HX.out k hlt
      have hsl2 := hsl.below hbel
      obtain ⟨p, hp⟩ : ∃ p, p = gc L k := ⟨_, rfl⟩
      rw [← hp] at c1 c2 c3 hsl2 hxl hp1
      obtain ⟨f, s, x⟩ := p
      simp only at c1 c2 c3 hsl2 hxl
      obtain ⟨m, hm⟩ : ∃ m, m = x.length := ⟨_, rfl⟩
      rw [← hm] at c3 hxl
      have hrz : w.heap.size + 2 ≤ wr.heap.size := by have := (own_ltC HK.out.row (w.heap.size + 2) rfl).2; omega
      have HSL := hide hsl2
      have HMX := hide hm
      have HP1 := hide hp1
      have BB := hide hbel
      clear hNk hv hsl f1 f2 f3 hp hm hsl2 hp1 hfl hbel
      go_wp2_with (first
        | (at_builtin; refine wpList_append_copy rfl _ _ rfl (w.heap.size + 2) none ai 0 m ci x HMX.out.symm (by omega) rfl (World.ownsRow_nil _ _ _ _) rfl (HSL.out.below ((Below.refl _ _).alloc (Nat.le_refl _) _)) (by simp; omega) ?_)
        | go_in)
      intro a' c' w6 h6 g6 hat6
      have hal := (Below.refl wr.heap.size wr).alloc (Nat.le_refl _) (.cells #[.int .i64 f, .string s, .slice ai m ci] 50 (0, 0))
      have g7 : wr.grownBy w6 none := ⟨g6.os.trans hal.os, g6.tape.trans hal.tape, g6.output.trans hal.output, Nat.le_trans hal.size g6.size, fun q hq hne => (g6.block q (by simp; omega) (by simp [Value.ownBlock])).trans (hal.block q hq)⟩
      have K6 := HK.out.grown g7
      have kB6 := grown_cell g7 ⟨w.heap.size, 1, none⟩ kB (by simp)
      have HR6 : Hid (w6.heap[w.heap.size + 1]? = some (.cells #[.slice none 0 0, .int .i64 0] 25 (0, 0))) := (g7.block (w.heap.size + 1) (by omega) (by simp)).trans HR.out
      have B6 := BB.out.grown g7 (Nat.le_trans BB.out.size (Nat.le_refl _)) (fun q hq => by cases hq)
      have hcl := K6.row.cellAt (k * 3 + 2) (by omega)
      have hfr := K6.row.frozenAt (k * 3 + 2)
      have hfl6 : (flatC N).length = n * 3 := by rw [flatC_len, HK.out.len]
      obtain ⟨u2, hu2⟩ : ∃ v, w6.cell? ⟨w.heap.size + 2, k * 3 + 2, none⟩ = some v := ⟨_, hcl.trans (List.getElem?_eq_getElem (by omega))⟩
      have P := K6.step hlt (.slice a' m c') (by rw [HP1.out]; show w6.ownsRow _ _ _ _ x.length _; rw [← HMX.out]; exact h6) (fun q hq b hb e => by
        have h1 := (own_ltC (HK.out.idx q hq) b e).2
        rcases hat6 with h | h
        · rw [h] at hb; simp [Value.ownBlock] at hb
        · rw [h] at hb; simp at hb; omega)
      have R : ∃ (k' : Nat) (N' : List PV), k' ≤ n ∧ Value.int .i64 ((k : Int) + 1) = .int .i64 k' ∧ Hid (OwK (w6.setCell ⟨w.heap.size + 2, k * 3 + 2, none⟩ (.slice a' m c')) (w.heap.size + 2) (.slice (some ⟨w.heap.size + 2, 0, none⟩) n n) n k' N') ∧ Hid (∀ t, k' ≤ t → t < n → N'.getD t eV = M0.getD t eV) ∧ Hid (pcs N' = L) ∧ (w6.setCell ⟨w.heap.size + 2, k * 3 + 2, none⟩ (.slice a' m c')).cell? ⟨w.heap.size, 1, none⟩ = some (.int .i64 B) ∧ Hid ((w6.setCell ⟨w.heap.size + 2, k * 3 + 2, none⟩ (.slice a' m c')).heap[w.heap.size + 1]? = some (.cells #[.slice none 0 0, .int .i64 0] 25 (0, 0))) ∧ Below w.heap.size w (w6.setCell ⟨w.heap.size + 2, k * 3 + 2, none⟩ (.slice a' m c')) := by
        refine ⟨k + 1, _, by omega, by simp, P.1, fun t h1 h2 => ?_, ?_, grown_cell P.2 ⟨w.heap.size, 1, none⟩ kB6 (by simp), (P.2.block (w.heap.size + 1) (by have := g7.size; omega) (by simp)).trans HR6.out, B6.grown P.2 (by have := g7.size; omega) (fun q hq => by cases hq; omega)⟩
        · rw [getD_set_ne N k t _ (by omega)]
          exact HT2.out t (by omega) h2
        · show pcs (N.set k _) = L
          rw [← HP.out]
          apply List.ext_getElem?
          intro j
          by_cases e : j = k
          · subst e
            have hj : j < N.length := by rw [HK.out.len]; exact hlt
            rw [List.getElem?_map, List.getElem?_map, List.getElem?_set_self hj, List.getElem?_eq_getElem hj]
            simp [List.getD, List.getElem?_eq_getElem hj]
          · rw [List.getElem?_map, List.getElem?_map, List.getElem?_set_ne (by omega)]
      have HRR := hide R
      clear R P K6 hcl hfl6 h6 g6 g7 hal B6 hat6 kB6 HR6
      go_wp2
      go_roundw
      case rel => exact HRR.out
      case measure => simp [intOf]; omega
    · obtain rfl : k = n := by omega
      have hltI : ¬ (k : Int) < (k : Int) := by omega
      obtain ⟨z0, z1, z2, z3⟩ := blkp HR.out
      have BB := hide hbel
      clear hbel
      go_wp2
      refine bodyPost_ret (v := .agg #[.slice (some ⟨w.heap.size + 2, 0, none⟩) k k, .int .i64 B]) (by simp [results, Tryd.f35, go_sem, z0, z1]) rfl ⟨_, rfl, N, HP.out, ?_, ?_⟩
      · have z : w.heap.size + 1 < w.heap.size + 2 := by omega
        exact (((HK.out.all).setC ⟨_, _, none⟩ _ z).setC ⟨_, _, none⟩ _ z).base (by omega)
      · exact (BB.out.setCell (p := ⟨_, _, none⟩) (by show w.heap.size ≤ w.heap.size + 1; omega) _).setCell (p := ⟨_, _, none⟩) (by show w.heap.size ≤ w.heap.size + 1; omega) _
end Go.Proofs.YtbcljhafdpnjbabDoor.L6

namespace Go.Proofs.YtbcljhafdpnjbabDoor.L6
open Go.RowKit L1
set_option linter.unusedVariables false

theorem elem_pc : Tryd.prog.elem 23 = 50 := by kernel_rfl
theorem size_pc : (Tryd.prog.info? 50).map (·.size) = some 3 := by kernel_rfl
theorem run_size_pc (w : World) : (sizeOf (Tryd.prog.elem 23)).run Tryd.prog w = .ok 3 w := by
  rw [elem_pc]
  cases hq : Tryd.prog.info? 50 with
  | none => have := size_pc; rw [hq] at this; cases this
  | some i =>
    have hi : i.size = 3 := by have := size_pc; rw [hq] at this; simpa using this
    simp [sizeOf, typeInfo, hq, hi]
theorem slice_toC (g n p : Nat) (hp : p ≤ n) : ∀ w, (Instr.slice 23 (.slice (some ⟨g, 0, none⟩) n n) none (some (.int .i64 (p : Int))) none).run Tryd.prog w = .ok (.slice (some ⟨g, 0, none⟩) p n) w := fun w => by
  rw [run_slice_h w 23 _ n n (by rw [elem_pc]; exact Tryd.underlying23) .i64 (p : Int) (by omega) (by omega), run_size_pc]
  simp [sliced, Addr.add]
theorem slice_fromC (g n p : Nat) (hp : p < n) : ∀ w, (Instr.slice 23 (.slice (some ⟨g, 0, none⟩) n n) (some (.int .i64 (p : Int))) none none).run Tryd.prog w = .ok (.slice (some ⟨g, p * 3, none⟩) (n - p) (n - p)) w := fun w => by
  rw [run_slice_l w 23 _ n n (by rw [elem_pc]; exact Tryd.underlying23) .i64 (p : Int) (by omega) (by omega), run_size_pc]
  have h1 : ¬ n = p := by omega
  simp [sliced, h1, Addr.add]
  try (intro h; omega)
theorem slice_endC (g n : Nat) : ∃ a' c', ∀ w, (Instr.slice 23 (.slice (some ⟨g, 0, none⟩) n n) (some (.int .i64 (n : Int))) none none).run Tryd.prog w = .ok (.slice a' 0 c') w := by
  refine ⟨some ⟨g, 0, none⟩, 0, fun w => ?_⟩
  rw [run_slice_l w 23 _ n n (by rw [elem_pc]; exact Tryd.underlying23) .i64 (n : Int) (by omega) (by omega), run_size_pc]
  simp [sliced]
theorem clear_none (a' : Option Addr) (c' : Nat) (ty : TypeId) : ∀ w, (Builtin.clear_ #[23] ty #[.slice a' 0 c']).run Tryd.prog w = .ok (.tuple #[]) w := fun w => by
  cases a' <;> simp [Builtin.clear_, run_underlying Tryd.underlying23]
theorem zero_pc (w : World) : (zeroValue 50).run Tryd.prog w = .ok (.agg #[.int .i64 0, .string ByteArray.empty, .slice none 0 0]) w := by
  obtain ⟨i0, hi, hz0, hz1, hz2⟩ := info_parts info_piece
  simp [zeroValue, typeInfo, hi, hz0]
theorem zeros_len (z : Value) (k : Nat) (hz : z.cells.size = k) (n : Nat) : (Builtin.zeroCells z.cells n).toList.length = n * k := by simp [Builtin.zeroCells, hz]
theorem zeros_one (n : Nat) : ∀ v ∈ (Builtin.zeroCells (Value.agg #[.int .i64 0, .string ByteArray.empty, .slice none 0 0]).cells n).toList, v.oneCell' = true := by
  intro v hv
  simp only [Builtin.zeroCells, Value.cells, Array.toList_map, List.mem_map] at hv
  obtain ⟨i, _, rfl⟩ := hv
  have h3 : (#[Value.int .i64 0, .string ByteArray.empty, .slice none 0 0] : Array Value).size = 3 := rfl
  have hm : i % 3 = 0 ∨ i % 3 = 1 ∨ i % 3 = 2 := by omega
  rcases hm with e | e | e <;> simp [e] <;> rfl
/-- The pieces behind a place are cleared: those ahead of it are a row of their own. -/
theorem clear_short {w : World} {base g n p : Nat} {xs : List Value} (hp : p < n) (h : w.ownsRow base 50 3 (.slice (some ⟨g, 0, none⟩) n n) n xs) (ty : TypeId) :
    ∃ w', (Builtin.clear_ #[23] ty #[.slice (some ⟨g, p * 3, none⟩) (n - p) (n - p)]).run Tryd.prog w = .ok (.tuple #[]) w' ∧ w'.ownsRow base 50 3 (.slice (some ⟨g, 0, none⟩) p n) p (xs.take (p * 3)) ∧ w.grownBy w' (some g) := by
  obtain ⟨hl, h2⟩ := h
  rcases h2 with ⟨hv, _⟩ | ⟨g', cap', cur, hv, hbg, hg, hc1, hc2, hc3, hc4⟩
  · cases hv
  · simp at hv
    obtain ⟨rfl, rfl⟩ := hv
    obtain ⟨cs, hcs⟩ : ∃ cs, cs = (Builtin.zeroCells (Value.agg #[.int .i64 0, .string ByteArray.empty, .slice none 0 0]).cells (n - p)).toList := ⟨_, rfl⟩
    have hlen : cs.length = (n - p) * 3 := by rw [hcs]; exact zeros_len _ 3 rfl _
    have hst := run_storeCells_at Tryd.prog g (p * 3) 50 cs 0 cur w hg (by omega) (by rw [hcs]; exact zeros_one _)
    simp only [Nat.add_zero] at hst
    refine ⟨w.setRow g (cur.toList.take (p * 3) ++ cs ++ cur.toList.drop (p * 3 + cs.length)).toArray, ?_, ⟨by rw [List.length_take, hl]; omega, .inr ⟨g, n, (cur.toList.take (p * 3) ++ cs ++ cur.toList.drop (p * 3 + cs.length)).toArray, rfl, hbg, setRow_heap w g cur _ 50 _ hg, Nat.le_of_lt hp, hc2, ?_, ?_⟩⟩, ⟨rfl, rfl, rfl, by simp [World.setRow], fun q hq hne => setRow_other w g q _ (fun e => hne (by rw [e]))⟩⟩
    · obtain ⟨m, hm⟩ : ∃ m, n - p = m + 1 := ⟨n - p - 1, by omega⟩
      rw [hm] at hcs ⊢
      simp only [Builtin.clear_, run_underlying Tryd.underlying23, Sem.run_bind, Result.andThen_ok, zero_pc, List.getElem?_toArray, List.getElem?_cons_zero, ← hcs, hst]
      rfl
    · simp
      omega
    · simp only
      rw [List.append_assoc, List.take_append_of_le_length (by simp; omega), ← hc4, List.take_take, List.take_take]
      simp
      first | rfl | omega | (congr 1; omega)
theorem flatC_take : ∀ (M : List PV) (k : Nat), (flatC M).take (k * 3) = flatC (M.take k)
  | [], k => by simp [flatC]
  | p :: M, 0 => by simp [flatC]
  | p :: M, k + 1 => by
    have ih := flatC_take M k
    rw [show (k + 1) * 3 = k * 3 + 1 + 1 + 1 by omega]
    simp only [flatC, List.take_succ_cons, ih]
theorem take_getD (M : List PV) (k i : Nat) (h : i < k) : (M.take k).getD i eV = M.getD i eV := by simp [List.getD, h]
/-- The first pieces of a log that is a call's own. -/
theorem OwC.short {w w' : World} {base g n cap p : Nat} {M : List PV} (h : OwC w base (.slice (some ⟨g, 0, none⟩) n cap) n M) (hp : p ≤ n) (hr : w'.ownsRow base 50 3 (.slice (some ⟨g, 0, none⟩) p cap) p (flatC (M.take p))) (hg : w.grownBy w' (some g)) : OwC w' base (.slice (some ⟨g, 0, none⟩) p cap) p (M.take p) := by
  refine ⟨by rw [List.length_take, h.len]; omega, hr, fun i hi => ?_, fun i j hij hj => ?_⟩
  · rw [take_getD M p i hi]
    exact own_keptC (h.idx i (by omega)) hg (fun b hb e => by
      simp at e
      subst e
      exact own_two h.row (h.idx i (by omega)) int_piece g rfl hb)
  · rw [take_getD M p i (by omega), take_getD M p j hj]
    exact h.apart i j hij (by omega)

set_option maxRecDepth 100000 in
set_option maxHeartbeats 1000000 in
theorem shorten_any (base g n p : Nat) (M : List PV) (w : World) (hp : p ≤ n) (hn : n ≤ 1048576) (ho : OwC w base (.slice (some ⟨g, 0, none⟩) n n) n M) :
    Calls Tryd.prog 50 #[.slice (some ⟨g, 0, none⟩) n n, .int .i64 (p : Int)] w fun e w' => e = .returned (.slice (some ⟨g, 0, none⟩) p n) ∧ OwC w' base (.slice (some ⟨g, 0, none⟩) p n) p (M.take p) ∧ w.grownBy w' (some g) := by
  have hto := slice_toC g n p hp
  by_cases hpn : p < n
  · have hfr := slice_fromC g n p hpn
    obtain ⟨w', hclr, hown, hgr⟩ := clear_short hpn ho.row 0
    rw [flatC_take] at hown
    have R := hide (And.intro (ho.short hp hown hgr) hgr)
    have hle : (p : Int) ≤ (n : Int) := by omega
    clear ho hown hgr
    go_enter Tryd.func50, Tryd.ntmps50
    go_wp2
    go_ret
    exact ⟨rfl, R.out⟩
  · obtain rfl : p = n := by omega
    obtain ⟨a', c', hfr⟩ := slice_endC g p
    have hclr := clear_none a' c' 0
    have R := hide (show OwC w base (.slice (some ⟨g, 0, none⟩) p p) p (M.take p) ∧ w.grownBy w (some g) from ⟨by rw [List.take_of_length_le (by rw [ho.len]; exact Nat.le_refl _)]; exact ho, World.grownBy.refl _ _⟩)
    clear ho hpn
    go_enter Tryd.func50, Tryd.ntmps50
    go_wp2
    go_ret
    exact ⟨rfl, R.out⟩
end Go.Proofs.YtbcljhafdpnjbabDoor.L6
