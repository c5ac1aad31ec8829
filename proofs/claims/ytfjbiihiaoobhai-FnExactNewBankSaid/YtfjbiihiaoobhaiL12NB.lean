/-
  A new bank under way in memory.
-/
import Derived.Test.YtfjbiihiaoobhaiL12Grow
import Derived.Test.YtfjbiihiaoobhaiL12Bel
import Derived.Laws.MakeOwn
import Derived.Deep.DeepCutAuto
namespace Go.Proofs.Ytfjbiihiaoobhai.L12
open Go.RowKit L1 L9 Own Sli
set_option linter.unusedVariables false

/-- A new bank under way: its box, the result's box, what it owns. -/
structure NB (w : World) (bx : Nat) (v : Vs) (m : Bk) (wr : World) : Prop where
  box : wr.heap[bx]? = some (bvO v)
  res : wr.heap[w.heap.size]? = some zB
  bw : BW wr (fun q => w.heap.size ≤ q) v m
  bel : Below w.heap.size w wr
  ge : w.heap.size < bx
section
variable {w wr wx w4 : World} {bx : Nat} {v : Vs} {m : Bk}
theorem NB.sz (h : NB w bx v m wr) : w.heap.size ≤ wr.heap.size := h.bel.size
theorem NB.keep (h : NB w bx v m wr) {u : Value} {n c : Nat} {t : TypeId} {xs : List Value} (hx : Below wr.heap.size wr wx) (ho : wx.ownsRow 0 t c u n xs) (ht : 39 ≠ t) (hu : ∀ q, u.ownBlock = some q → w.heap.size ≤ q) (hg : wx.grownBy w4 u.ownBlock) : w4.heap[bx]? = some (bvO v) ∧ w4.heap[w.heap.size]? = some zB ∧ Below w.heap.size w w4 :=
  ⟨box_grown h.box hx ho ht hg, box_grown h.res hx ho ht hg, (h.bel.trans (hx.mono h.bel.size)).grown hg (Nat.le_trans h.bel.size hx.size) (fun q e => hu q e)⟩
theorem NB.set {v' : Vs} {m' : Bk} (hb : w4.heap[bx]? = some (bvO v)) (hr : w4.heap[w.heap.size]? = some zB) (hbel : Below w.heap.size w w4) (hge : w.heap.size < bx) (hW : BW w4 (fun q => w.heap.size ≤ q) v' m') (j : Nat) (u : Value) (he : (#[v.c, v.W, v.k, v.H, v.F].setIfInBounds j u) = #[v'.c, v'.W, v'.k, v'.H, v'.F]) : NB w bx v' m' (w4.setCell ⟨bx, j, none⟩ u) := by
  refine ⟨?_, ?_, hW.setB hb j u, hbel.setCell (p := ⟨bx, j, none⟩) (by show w.heap.size ≤ bx; omega) _, hge⟩
  · rw [heap_boxO hb j u, he]
  · rw [Below.heap_setCell _ _ _ _ (show w.heap.size ≠ bx by omega)]; exact hr
theorem NB.fldc (h : NB w bx v m wr) (o : Obj) (x : Int) {g c : Nat} (h4 : w4.ownsRow 0 3 1 (.slice (some ⟨g, 0, none⟩) (m.c.length + 1) c) (m.c.length + 1) (m.c.map (Value.int .i64) ++ [.int .i64 x])) (hg : (wr.alloc o).grownBy w4 v.c.ownBlock) (hn : v.c.ownBlock = some g ∨ g = (wr.alloc o).heap.size) :
    (w4.cell? ⟨bx, 0, none⟩ = some v.c ∧ ∀ i, w4.frozen? ⟨bx, i, none⟩ = false) ∧ NB w bx (v.put (.slice (some ⟨g, 0, none⟩) (m.c.length + 1) c) .c) (m.put (m.c ++ [x]) .c) (w4.setCell ⟨bx, 0, none⟩ (.slice (some ⟨g, 0, none⟩) (m.c.length + 1) c)) := by
  have hx := (Below.refl wr.heap.size wr).alloc (Nat.le_refl _) o
  have own0 : (wr.alloc o).ownsRow 0 3 1 v.c m.c.length (m.c.map (Value.int .i64)) := own_belO (h.bw.r .c) hx
  obtain ⟨k1, k2, k3⟩ := h.keep hx own0 t_Bi (h.bw.sr .c) hg
  have hW := h.bw.fld .c (.inl rfl) hx (.slice (some ⟨g, 0, none⟩) (m.c.length + 1) c) (m.c ++ [x]) (by rw [List.length_append, List.map_append]; exact h4) hg (fun q e => by
    have e' : g = q := Option.some.inj e
    rcases hn with e2 | e2
    · exact .inl (by rw [← e']; exact e2)
    · exact .inr (by omega)) (fun q hq => Nat.le_trans h.bel.size hq)
  exact ⟨⟨(blk5 k1).1, fun i => frzO k1 i⟩, NB.set k1 k2 k3 h.ge hW 0 _ rfl⟩
theorem NB.fldk (h : NB w bx v m wr) (o : Obj) (x : Int) {g c : Nat} (h4 : w4.ownsRow 0 3 1 (.slice (some ⟨g, 0, none⟩) (m.k.length + 1) c) (m.k.length + 1) (m.k.map (Value.int .i64) ++ [.int .i64 x])) (hg : (wr.alloc o).grownBy w4 v.k.ownBlock) (hn : v.k.ownBlock = some g ∨ g = (wr.alloc o).heap.size) :
    (w4.cell? ⟨bx, 2, none⟩ = some v.k ∧ ∀ i, w4.frozen? ⟨bx, i, none⟩ = false) ∧ NB w bx (v.put (.slice (some ⟨g, 0, none⟩) (m.k.length + 1) c) .k) (m.put (m.k ++ [x]) .k) (w4.setCell ⟨bx, 2, none⟩ (.slice (some ⟨g, 0, none⟩) (m.k.length + 1) c)) := by
  have hx := (Below.refl wr.heap.size wr).alloc (Nat.le_refl _) o
  have own0 : (wr.alloc o).ownsRow 0 3 1 v.k m.k.length (m.k.map (Value.int .i64)) := own_belO (h.bw.r .k) hx
  obtain ⟨k1, k2, k3⟩ := h.keep hx own0 t_Bi (h.bw.sr .k) hg
  have hW := h.bw.fld .k (.inr rfl) hx (.slice (some ⟨g, 0, none⟩) (m.k.length + 1) c) (m.k ++ [x]) (by rw [List.length_append, List.map_append]; exact h4) hg (fun q e => by
    have e' : g = q := Option.some.inj e
    rcases hn with e2 | e2
    · exact .inl (by rw [← e']; exact e2)
    · exact .inr (by omega)) (fun q hq => Nat.le_trans h.bel.size hq)
  exact ⟨⟨(blk5 k1).2.2.1, fun i => frzO k1 i⟩, NB.set k1 k2 k3 h.ge hW 2 _ rfl⟩
theorem NB.addH (h : NB w bx v m wr) (hx : Below wr.heap.size wr wx) (xr : Value) (row : List Bool) (hr : wx.ownsRow wr.heap.size 4 1 xr row.length (row.map Value.bool)) {g c : Nat} (h4 : w4.ownsRow 0 58 1 (.slice (some ⟨g, 0, none⟩) (m.H.length + 1) c) (m.H.length + 1) (v.VH ++ [xr])) (hg : wx.grownBy w4 v.H.ownBlock) (hn : v.H.ownBlock = some g ∨ g = wx.heap.size) :
    (w4.cell? ⟨bx, 3, none⟩ = some v.H ∧ ∀ i, w4.frozen? ⟨bx, i, none⟩ = false) ∧ NB w bx { v with H := .slice (some ⟨g, 0, none⟩) (m.H.length + 1) c, VH := v.VH ++ [xr] } { m with H := m.H ++ [row] } (w4.setCell ⟨bx, 3, none⟩ (.slice (some ⟨g, 0, none⟩) (m.H.length + 1) c)) := by
  have own0 : wx.ownsRow 0 58 1 v.H m.H.length v.VH := own_belO h.bw.H hx
  obtain ⟨k1, k2, k3⟩ := h.keep hx own0 t_Bb2 h.bw.sH hg
  have hW := h.bw.addH hx xr row hr (.slice (some ⟨g, 0, none⟩) (m.H.length + 1) c) h4 hg (fun q e => by
    have e' : g = q := Option.some.inj e
    rcases hn with e2 | e2
    · exact .inl (by rw [← e']; exact e2)
    · exact .inr (by omega)) (fun q hq => Nat.le_trans h.bel.size hq)
  exact ⟨⟨(blk5 k1).2.2.2.1, fun i => frzO k1 i⟩, NB.set k1 k2 k3 h.ge hW 3 _ rfl⟩
theorem NB.addF (h : NB w bx v m wr) (hx : Below wr.heap.size wr wx) (xr : Value) (row : List Int) (hr : wx.ownsRow wr.heap.size 3 1 xr row.length (row.map (Value.int .i64))) {g c : Nat} (h4 : w4.ownsRow 0 24 1 (.slice (some ⟨g, 0, none⟩) (m.F.length + 1) c) (m.F.length + 1) (v.VF ++ [xr])) (hg : wx.grownBy w4 v.F.ownBlock) (hn : v.F.ownBlock = some g ∨ g = wx.heap.size) :
    (w4.cell? ⟨bx, 4, none⟩ = some v.F ∧ ∀ i, w4.frozen? ⟨bx, i, none⟩ = false) ∧ NB w bx { v with F := .slice (some ⟨g, 0, none⟩) (m.F.length + 1) c, VF := v.VF ++ [xr] } { m with F := m.F ++ [row] } (w4.setCell ⟨bx, 4, none⟩ (.slice (some ⟨g, 0, none⟩) (m.F.length + 1) c)) := by
  have own0 : wx.ownsRow 0 24 1 v.F m.F.length v.VF := own_belO h.bw.F hx
  obtain ⟨k1, k2, k3⟩ := h.keep hx own0 t_Bi2 h.bw.sF hg
  have hW := h.bw.addF hx xr row hr (.slice (some ⟨g, 0, none⟩) (m.F.length + 1) c) h4 hg (fun q e => by
    have e' : g = q := Option.some.inj e
    rcases hn with e2 | e2
    · exact .inl (by rw [← e']; exact e2)
    · exact .inr (by omega)) (fun q hq => Nat.le_trans h.bel.size hq)
  exact ⟨⟨(blk5 k1).2.2.2.2, fun i => frzO k1 i⟩, NB.set k1 k2 k3 h.ge hW 4 _ rfl⟩
end
theorem info_intS12 : (Try.prog.info? 24).map (fun i => (i.zero, i.size, i.bytes)) = some (some (.slice none 0 0), 1, 24) := by kernel_rfl
theorem info_boolS12 : (Try.prog.info? 58).map (fun i => (i.zero, i.size, i.bytes)) = some (some (.slice none 0 0), 1, 24) := by kernel_rfl
abbrev oSS (n : Nat) : Obj := .cells (madeCells (Value.slice none 0 0).cells (n * 1)) 24 (0, 0)
abbrev oIn (n : Nat) : Obj := .cells (madeCells (Value.int .i64 0).cells (n * 1)) 3 (0, 0)
abbrev oBo (n : Nat) : Obj := .cells (madeCells (Value.bool false).cells (n * 1)) 4 (0, 0)
theorem mk_ways (n : Nat) (h : n ≤ 25) : ∃ OA : Obj, OA = oSS n ∧ ∀ w, (Instr.makeSlice 36 (.int .i64 (n : Int)) (.int .i64 (n : Int))).run Try.prog w = .ok (.slice (some ⟨w.heap.size, 0, none⟩) n n) (w.alloc OA) := by
  obtain ⟨i0, hi, hz0, hz1, hz2⟩ := info_parts info_intS12
  refine ⟨_, rfl, fun w => ?_⟩
  have hr := run_make (P := Try.prog) w 36 24 i0 (.slice none 0 0) Try.underlying36 hi hz0 .i64 .i64 (n : Int) (n : Int) (by omega) (Int.le_refl _) (by rw [hz2]; omega) (by omega)
  simp only [Int.toNat_natCast, hz1] at hr
  exact hr
theorem mk_ints (n : Nat) (h : n ≤ 5) : ∃ OB : Obj, OB = oIn n ∧ ∀ w, (Instr.makeSlice 24 (.int .i64 (n : Int)) (.int .i64 (n : Int))).run Try.prog w = .ok (.slice (some ⟨w.heap.size, 0, none⟩) n n) (w.alloc OB) := by
  obtain ⟨i0, hi, hz0, hz1, hz2⟩ := info_parts info_int
  refine ⟨_, rfl, fun w => ?_⟩
  have hr := run_make (P := Try.prog) w 24 3 i0 (.int .i64 0) Try.underlying24 hi hz0 .i64 .i64 (n : Int) (n : Int) (by omega) (Int.le_refl _) (by rw [hz2]; omega) (by omega)
  simp only [Int.toNat_natCast, hz1] at hr
  exact hr
theorem mk_bools (n : Nat) (h : n ≤ 5) : ∃ OB : Obj, OB = oBo n ∧ ∀ w, (Instr.makeSlice 58 (.int .i64 (n : Int)) (.int .i64 (n : Int))).run Try.prog w = .ok (.slice (some ⟨w.heap.size, 0, none⟩) n n) (w.alloc OB) := by
  obtain ⟨i0, hi, hz0, hz1, hz2⟩ := info_parts info_bool
  refine ⟨_, rfl, fun w => ?_⟩
  have hr := run_make (P := Try.prog) w 58 4 i0 (.bool false) Try.underlying58 hi hz0 .i64 .i64 (n : Int) (n : Int) (by omega) (Int.le_refl _) (by rw [hz2]; omega) (by omega)
  simp only [Int.toNat_natCast, hz1] at hr
  exact hr
theorem own_made12 {w : World} {base g n : Nat} {z : Value} {t : TypeId} (hz : z.cells = #[z]) (h : w.heap[g]? = some (.cells (madeCells z.cells (n * 1)) t (0, 0))) (hb : base ≤ g) (hn : n ≤ maxLen) : w.ownsRow base t 1 (.slice (some ⟨g, 0, none⟩) n n) n (List.replicate n z) := by
  have e : (madeCells z.cells (n * 1)).toList = List.replicate n z := by
    rw [hz, Nat.mul_one, toList_madeCells_one]
  have e2 : (madeCells z.cells (n * 1)).size = n * 1 := size_madeCells _ _
  exact ⟨by simp, .inr ⟨g, n, _, rfl, hb, h, Nat.le_refl _, hn, e2, by rw [e]; simp⟩⟩
theorem rep_nil (n i : Nat) : (List.replicate n nilV).getD i nilV = nilV := by
  simp only [List.getD, List.getElem?_replicate]
  split <;> rfl
theorem rep_emp (n i : Nat) : (List.replicate n ([] : List Int)).getD i [] = [] := by
  simp only [List.getD, List.getElem?_replicate]
  split <;> rfl
/-- Ways are made, nothing else. -/
theorem bw_ways {w : World} {S : Nat → Prop} {g n : Nat} (cs : List Int) (h : w.heap[g]? = some (oSS (n * n))) (hn : n * n ≤ 25) (hS : S g) : BW w S ⟨nilV, .slice (some ⟨g, 0, none⟩) (n * n) (n * n), nilV, nilV, nilV, List.replicate (n * n) nilV, [], []⟩ (nbk cs n 0) := by
  have o1 := own_made12 (base := 0) (t := 24) (z := .slice none 0 0) rfl h (Nat.zero_le _) (by unfold maxLen; omega)
  have hat : ∀ t, (⟨nilV, .slice (some ⟨g, 0, none⟩) (n * n) (n * n), nilV, nilV, nilV, List.replicate (n * n) nilV, [], []⟩ : Vs).at t = nilV := fun t => by
    cases t with
    | c => rfl
    | k => rfl
    | w i => exact rep_nil _ _
    | f i => rfl
  have hro : ∀ t, (nbk cs n 0).row t = [] := fun t => by
    cases t with
    | c => simp [nbk, Bk.row]
    | k => rfl
    | w i => exact rep_emp _ _
    | f i => rfl
  refine ⟨fun t => ?_, fun s t q _ e => ?_, ?_, World.ownsRow_nil _ _ _ _, fun q _ e => (by cases e), World.ownsRow_nil _ _ _ _, fun i => World.ownsRow_nil _ _ _ _, fun i j q _ e => (by cases e), fun t => ?_, fun q e => ?_, fun q e => (by cases e), fun q e => (by cases e), fun i q e => (by cases e)⟩
  · rw [hat, hro]; exact World.ownsRow_nil _ _ _ _
  · rw [hat] at e; cases e
  · show World.ownsRow _ 0 _ 1 _ (List.replicate (n * n) []).length _
    rw [List.length_replicate]; exact o1
  · rw [hat]; exact fun q e => (by cases e)
  · have e' : g = q := Option.some.inj e
    rw [← e']; exact hS
theorem rep_snoc {α : Type} (x : α) (k : Nat) : List.replicate k x ++ [x] = List.replicate (k + 1) x := (List.replicate_succ' ).symm
theorem nbk_step (cs : List Int) (n k : Nat) (hk : k < cs.length) : (⟨cs.take k ++ [cs.getD k 0], List.replicate (n * n) [], List.replicate k (-1) ++ [-1], List.replicate k (List.replicate n false) ++ [List.replicate n false], List.replicate k (List.replicate n 0) ++ [List.replicate n 0]⟩ : Bk) = nbk cs n (k + 1) := by
  unfold nbk
  rw [rep_snoc, rep_snoc, rep_snoc, List.take_succ_eq_append_getElem hk]
  simp [List.getD, List.getElem?_eq_getElem hk]
theorem cell_oneN (w : World) (v : Value) (t : TypeId) : ∀ j u, [v][j]? = some u → (w.alloc (.cells #[v] t)).cell? ((⟨w.heap.size, 0, none⟩ : Addr).add j) = some u := by
  intro j u hu
  have hb := blk_newO w (.cells #[v] t)
  have e0 : (⟨w.heap.size, 0, none⟩ : Addr).add j = ⟨w.heap.size, j, none⟩ := by unfold Addr.add; split <;> simp_all
  rw [e0]
  match j with
  | 0 => unfold World.cell?; rw [hb]; simpa using hu
  | j + 1 => simp at hu
theorem NB.out {w wr : World} {bx : Nat} {v : Vs} {m : Bk} (h : NB w bx v m wr) (v0 v1 v2 v3 v4 : Value) : RetB w m true (.returned (.tuple #[.agg #[v.c, v.W, v.k, v.H, v.F], .bool true])) (((((wr.setCell ⟨w.heap.size, 0, none⟩ v0).setCell ⟨w.heap.size, 1, none⟩ v1).setCell ⟨w.heap.size, 2, none⟩ v2).setCell ⟨w.heap.size, 3, none⟩ v3).setCell ⟨w.heap.size, 4, none⟩ v4) := by
  have h0 := h.res
  have b0 := h.bw.setB h0 0 v0
  have h1 := heap_boxO h0 0 v0
  have b1 := b0.setB h1 1 v1
  have h2 := heap_boxO h1 1 v1
  have b2 := b1.setB h2 2 v2
  have h3 := heap_boxO h2 2 v2
  have b3 := b2.setB h3 3 v3
  have h4 := heap_boxO h3 3 v3
  have b4 := b3.setB h4 4 v4
  exact ⟨v, rfl, b4.tight, ((((h.bel.setCell (p := ⟨w.heap.size, 0, none⟩) (Nat.le_refl _) _).setCell (p := ⟨w.heap.size, 1, none⟩) (Nat.le_refl _) _).setCell (p := ⟨w.heap.size, 2, none⟩) (Nat.le_refl _) _).setCell (p := ⟨w.heap.size, 3, none⟩) (Nat.le_refl _) _).setCell (p := ⟨w.heap.size, 4, none⟩) (Nat.le_refl _) _⟩
theorem five_zeroB {w : World} {w1 : World} (hb : Below w.heap.size w w1) (v0 v1 v2 v3 v4 : Value) : Below w.heap.size w (((((w1.setCell ⟨w.heap.size, 0, none⟩ v0).setCell ⟨w.heap.size, 1, none⟩ v1).setCell ⟨w.heap.size, 2, none⟩ v2).setCell ⟨w.heap.size, 3, none⟩ v3).setCell ⟨w.heap.size, 4, none⟩ v4) :=
  ((((hb.setCell (p := ⟨w.heap.size, 0, none⟩) (Nat.le_refl _) _).setCell (p := ⟨w.heap.size, 1, none⟩) (Nat.le_refl _) _).setCell (p := ⟨w.heap.size, 2, none⟩) (Nat.le_refl _) _).setCell (p := ⟨w.heap.size, 3, none⟩) (Nat.le_refl _) _).setCell (p := ⟨w.heap.size, 4, none⟩) (Nat.le_refl _) _
end Go.Proofs.Ytfjbiihiaoobhai.L12
