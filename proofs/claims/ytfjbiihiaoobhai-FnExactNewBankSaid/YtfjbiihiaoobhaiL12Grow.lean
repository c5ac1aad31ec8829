/-
  A bank that is built up in memory. Nothing of the program's text is proved here.
-/
import Derived.Test.YtfjbiihiaoobhaiL12GMath
import Derived.Deep.DeepCutAuto
namespace Go.Proofs.Ytfjbiihiaoobhai.L12
open Go.RowKit L1 L9 Own Sli
set_option linter.unusedVariables false

abbrev bvO (v : Vs) : Obj := .cells #[v.c, v.W, v.k, v.H, v.F] 39 (0, 0)
theorem getD_snoc {α : Type} (l : List α) (x d : α) (i : Nat) : (l ++ [x]).getD i d = if i = l.length then x else l.getD i d := by
  simp only [List.getD, List.getElem?_append]
  by_cases h : i < l.length
  · rw [if_pos h, if_neg (by omega)]
  · rw [if_neg h]
    by_cases e : i = l.length
    · subst e; simp
    · rw [if_neg e, List.getElem?_eq_none (by simp; omega), List.getElem?_eq_none (by omega)]
section
variable {w wx w4 : World} {S : Nat → Prop} {v : Vs} {m : Bk}
/-- Coins or Kept put anew. -/
theorem BW.fld (h : BW w S v m) (t : Tg) (ht : t = .c ∨ t = .k) (hx : Below w.heap.size w wx) (x : Value) (l : List Int) (ho : w4.ownsRow 0 3 1 x l.length (l.map (Value.int .i64))) (hg : wx.grownBy w4 (v.at t).ownBlock) (hnew : ∀ q, x.ownBlock = some q → (v.at t).ownBlock = some q ∨ wx.heap.size ≤ q) (hS : ∀ q, w.heap.size ≤ q → S q) : BW w4 S (v.put x t) (m.put l t) := by
  have hw := h.below hx
  have has : m.has t := by rcases ht with rfl | rfl <;> trivial
  obtain ⟨q1, q2⟩ := hw.rowput t has x l ho hg hnew
  have hxS : InS S x := fun q hq => by
    rcases hnew q hq with e | e
    · exact h.sr t q e
    · exact hS q (Nat.le_trans hx.size e)
  have ne : ∀ {c n : Nat} {t2 : TypeId} {u : Value} {xs : List Value}, wx.ownsRow 0 t2 c u n xs → 3 ≠ t2 → ∀ q, u.ownBlock = some q → (v.at t).ownBlock ≠ some q := fun ho hn q hq e => own_twoO (hw.r t) ho hn q e hq
  have s1 := hw.rowS t has x (fun q hq => hq) hxS
  have W4 : w4.ownsRow 0 24 1 v.W m.W.length v.VW := own_pastO hw.W hg (ne hw.W t_i2.symm)
  have F4 : w4.ownsRow 0 24 1 v.F m.F.length v.VF := own_pastO hw.F hg (ne hw.F t_i2.symm)
  have H4 : w4.ownsRow 0 58 1 v.H m.H.length v.VH := own_pastO hw.H hg (ne hw.H t_i_b2)
  have h4 : ∀ i, w4.ownsRow 0 4 1 (v.VH.getD i nilV) (m.H.getD i []).length ((m.H.getD i []).map Value.bool) := fun i => own_pastO (hw.h i) hg (ne (hw.h i) t_ib)
  rcases ht with rfl | rfl
  · exact ⟨q1, q2, W4, F4, hw.WF, H4, h4, hw.hp, s1, hw.sW, hw.sF, hw.sH, hw.sh⟩
  · exact ⟨q1, q2, W4, F4, hw.WF, H4, h4, hw.hp, s1, hw.sW, hw.sF, hw.sH, hw.sh⟩
/-- A row more of Heard. -/
theorem BW.addH (h : BW w S v m) (hx : Below w.heap.size w wx) (xr : Value) (row : List Bool) (hr : wx.ownsRow w.heap.size 4 1 xr row.length (row.map Value.bool)) (xo : Value) (ho : w4.ownsRow 0 58 1 xo (m.H.length + 1) (v.VH ++ [xr])) (hg : wx.grownBy w4 v.H.ownBlock) (hnew : ∀ q, xo.ownBlock = some q → v.H.ownBlock = some q ∨ wx.heap.size ≤ q) (hS : ∀ q, w.heap.size ≤ q → S q) : BW w4 S { v with H := xo, VH := v.VH ++ [xr] } { m with H := m.H ++ [row] } := by
  have hw := h.below hx
  have hlen := h.lenH
  have ne : ∀ {c n : Nat} {t2 : TypeId} {u : Value} {xs : List Value}, wx.ownsRow 0 t2 c u n xs → 58 ≠ t2 → ∀ q, u.ownBlock = some q → v.H.ownBlock ≠ some q := fun ho hn q hq e => own_twoO hw.H ho hn q e hq
  have gV : ∀ i, (v.VH ++ [xr]).getD i nilV = if i = m.H.length then xr else v.VH.getD i nilV := fun i => by rw [getD_snoc, hlen]
  have gM : ∀ i, (m.H ++ [row]).getD i [] = if i = m.H.length then row else m.H.getD i [] := fun i => getD_snoc _ _ _ _
  have hr0 := own_zero hr
  have fresh : ∀ q i, xr.ownBlock = some q → (v.VH.getD i nilV).ownBlock ≠ some q := fun q i e e2 => by
    have h1 := own_ge hr q e
    have h2 := own_ltO (h.h i) q e2
    omega
  refine ⟨fun s => own_pastO (hw.r s) hg (ne (hw.r s) t_i_b2.symm), hw.ap, own_pastO hw.W hg (ne hw.W t_ib2.symm), own_pastO hw.F hg (ne hw.F t_ib2.symm), hw.WF, ?_, fun i => ?_, fun i j q hij e => ?_, hw.sr, hw.sW, hw.sF, fun q hq => ?_, fun i => ?_⟩
  · show World.ownsRow _ 0 _ 1 xo (m.H ++ [row]).length _
    rw [List.length_append]
    exact ho
  · show World.ownsRow _ 0 _ 1 ((v.VH ++ [xr]).getD i nilV) ((m.H ++ [row]).getD i []).length (((m.H ++ [row]).getD i []).map Value.bool)
    rw [gV, gM]
    by_cases e : i = m.H.length
    · rw [if_pos e, if_pos e]; exact own_pastO hr0 hg (ne hr0 t_b2)
    · rw [if_neg e, if_neg e]; exact own_pastO (hw.h i) hg (ne (hw.h i) t_b2)
  · have e' : ((v.VH ++ [xr]).getD i nilV).ownBlock = some q := e
    show ((v.VH ++ [xr]).getD j nilV).ownBlock ≠ some q
    rw [gV] at e' ⊢
    by_cases e1 : i = m.H.length
    · rw [if_pos e1] at e'
      rw [if_neg (fun e2 => hij (e1.trans e2.symm))]
      exact fresh q j e'
    · rw [if_neg e1] at e'
      by_cases e2 : j = m.H.length
      · rw [if_pos e2]
        exact fun e3 => fresh q i e3 e'
      · rw [if_neg e2]
        exact h.hp i j q hij e'
  · rcases hnew q hq with e | e
    · exact h.sH q e
    · exact hS q (Nat.le_trans hx.size e)
  · show InS S ((v.VH ++ [xr]).getD i nilV)
    rw [gV]
    by_cases e : i = m.H.length
    · rw [if_pos e]; exact fun q hq => hS q (own_ge hr q hq)
    · rw [if_neg e]; exact h.sh i
/-- A row more of Found. -/
theorem BW.addF (h : BW w S v m) (hx : Below w.heap.size w wx) (xr : Value) (row : List Int) (hr : wx.ownsRow w.heap.size 3 1 xr row.length (row.map (Value.int .i64))) (xo : Value) (ho : w4.ownsRow 0 24 1 xo (m.F.length + 1) (v.VF ++ [xr])) (hg : wx.grownBy w4 v.F.ownBlock) (hnew : ∀ q, xo.ownBlock = some q → v.F.ownBlock = some q ∨ wx.heap.size ≤ q) (hS : ∀ q, w.heap.size ≤ q → S q) : BW w4 S { v with F := xo, VF := v.VF ++ [xr] } { m with F := m.F ++ [row] } := by
  have hw := h.below hx
  have hlen := h.lenF
  have ne : ∀ {c n : Nat} {t2 : TypeId} {u : Value} {xs : List Value}, wx.ownsRow 0 t2 c u n xs → 24 ≠ t2 → ∀ q, u.ownBlock = some q → v.F.ownBlock ≠ some q := fun ho hn q hq e => own_twoO hw.F ho hn q e hq
  have gV : ∀ i, (v.VF ++ [xr]).getD i nilV = if i = m.F.length then xr else v.VF.getD i nilV := fun i => by rw [getD_snoc, hlen]
  have gM : ∀ i, (m.F ++ [row]).getD i [] = if i = m.F.length then row else m.F.getD i [] := fun i => getD_snoc _ _ _ _
  have hr0 := own_zero hr
  have fresh : ∀ q s, xr.ownBlock = some q → (v.at s).ownBlock ≠ some q := fun q s e e2 => by
    have h1 := own_ge hr q e
    have h2 := own_ltO (h.r s) q e2
    omega
  have atV : ∀ s, ({ v with F := xo, VF := v.VF ++ [xr] } : Vs).at s = if s = .f m.F.length then xr else v.at s := fun s => by
    cases s with
    | c => rfl
    | k => rfl
    | w i => rfl
    | f i =>
      show (v.VF ++ [xr]).getD i nilV = _
      rw [gV]
      by_cases e : i = m.F.length
      · rw [if_pos e, if_pos (by rw [e])]
      · rw [if_neg e, if_neg (fun e2 => e (by cases e2; rfl))]; rfl
  have roV : ∀ s, ({ m with F := m.F ++ [row] } : Bk).row s = if s = .f m.F.length then row else m.row s := fun s => by
    cases s with
    | c => rfl
    | k => rfl
    | w i => rfl
    | f i =>
      show (m.F ++ [row]).getD i [] = _
      rw [gM]
      by_cases e : i = m.F.length
      · rw [if_pos e, if_pos (by rw [e])]
      · rw [if_neg e, if_neg (fun e2 => e (by cases e2; rfl))]; rfl
  refine ⟨fun s => ?_, fun s u q hsu e => ?_, ?_, ?_, fun q e e2 => ?_, own_pastO hw.H hg (ne hw.H t_ib2), fun i => own_pastO (hw.h i) hg (ne (hw.h i) t_i2b), hw.hp, fun s => ?_, hw.sW, fun q hq => ?_, hw.sH, hw.sh⟩
  · rw [atV, roV]
    by_cases e : s = .f m.F.length
    · rw [if_pos e, if_pos e]; exact own_pastO hr0 hg (ne hr0 t_i2)
    · rw [if_neg e, if_neg e]; exact own_pastO (hw.r s) hg (ne (hw.r s) t_i2)
  · rw [atV] at e ⊢
    by_cases e1 : s = .f m.F.length
    · rw [if_pos e1] at e
      rw [if_neg (fun e2 => hsu (e1.trans e2.symm))]
      exact fresh q u e
    · rw [if_neg e1] at e
      by_cases e2 : u = .f m.F.length
      · rw [if_pos e2]; exact fun e3 => fresh q s e3 e
      · rw [if_neg e2]; exact h.ap s u q hsu e
  · exact own_pastO hw.W hg (fun q hq e => h.WF q hq e)
  · show World.ownsRow _ 0 _ 1 xo (m.F ++ [row]).length _
    rw [List.length_append]
    exact ho
  · rcases hnew q e2 with e3 | e3
    · exact h.WF q e e3
    · have := own_ltO h.W q e
      have := hx.size
      omega
  · rw [atV]
    by_cases e : s = .f m.F.length
    · rw [if_pos e]; exact fun q hq => hS q (own_ge hr q hq)
    · rw [if_neg e]; exact h.sr s
  · rcases hnew q hq with e | e
    · exact h.sF q e
    · exact hS q (Nat.le_trans hx.size e)
/-- The box stays while a row that is owned grows. -/
theorem box_grown {u : Value} {b n c : Nat} {t : TypeId} {xs : List Value} {cur : Array Value} (hb : w.heap[b]? = some (.cells cur 39 (0, 0))) (hx : Below w.heap.size w wx) (ho : wx.ownsRow 0 t c u n xs) (ht : 39 ≠ t) (hg : wx.grownBy w4 u.ownBlock) : w4.heap[b]? = some (.cells cur 39 (0, 0)) := by
  have h1 := (hx.block b (Array.getElem?_eq_some_iff.1 hb).1).trans hb
  exact (hg.block b (Array.getElem?_eq_some_iff.1 h1).1 (fun e => own_boxO ho h1 ht e.symm)).trans h1
end
/-- A new bank behind so many nodes. -/
def nbk (cs : List Int) (n k : Nat) : Bk := ⟨cs.take k, List.replicate (n * n) [], List.replicate k (-1), List.replicate k (List.replicate n false), List.replicate k (List.replicate n 0)⟩
/-- A new bank. -/
def newB (cs : List Int) : Bk := nbk cs cs.length cs.length
abbrev zeroB : Bk := ⟨[], [], [], [], []⟩
def NewOk (cs : List Int) : Prop := (1 ≤ cs.length ∧ cs.length ≤ 5) ∧ ∀ j, j < cs.length → 0 ≤ cs.getD j 0 ∧ cs.getD j 0 ≤ 50
structure NwIs (cs : List Int) (m : Bk) (ok : Bool) : Prop where
  yes : NewOk cs → m = newB cs ∧ ok = true
  no : ¬ NewOk cs → m = zeroB ∧ ok = false
theorem nw_ex (cs : List Int) : ∃ m ok, NwIs cs m ok := by
  by_cases h : NewOk cs
  · exact ⟨_, true, fun _ => ⟨rfl, rfl⟩, fun h' => absurd h h'⟩
  · exact ⟨zeroB, false, fun h' => absurd h' h, fun _ => ⟨rfl, rfl⟩⟩
/-- A bank that a call hands back, in new memory. -/
def RetB (w : World) (m : Bk) (ok : Bool) (e : Ending) (w' : World) : Prop :=
  ∃ v, e = .returned (.tuple #[.agg #[v.c, v.W, v.k, v.H, v.F], .bool ok]) ∧ BW w' (fun q => w.heap.size ≤ q ∧ q < w'.heap.size) v m ∧ Below w.heap.size w w'
abbrev zeroV : Vs := ⟨nilV, nilV, nilV, nilV, nilV, [], [], []⟩
theorem zeroV_at (t : Tg) : zeroV.at t = nilV := by cases t <;> rfl
theorem zeroB_row (t : Tg) : zeroB.row t = [] := by cases t <;> rfl
theorem bw_zero (w : World) (S : Nat → Prop) : BW w S zeroV zeroB := by
  refine ⟨fun t => ?_, fun s t q _ e => ?_, World.ownsRow_nil _ _ _ _, World.ownsRow_nil _ _ _ _, fun q e => (by cases e), World.ownsRow_nil _ _ _ _, fun i => World.ownsRow_nil _ _ _ _, fun i j q _ e => (by cases e), fun t => ?_, fun q e => (by cases e), fun q e => (by cases e), fun q e => (by cases e), fun i q e => (by cases e)⟩
  · rw [zeroV_at, zeroB_row]; exact World.ownsRow_nil _ _ _ _
  · rw [zeroV_at] at e; cases e
  · rw [zeroV_at]; exact fun q e => (by cases e)
theorem retB_zero {w w' : World} (hb : Below w.heap.size w w') : RetB w zeroB false (.returned (.tuple #[.agg #[nilV, nilV, nilV, nilV, nilV], .bool false])) w' := ⟨zeroV, rfl, bw_zero _ _, hb⟩
end Go.Proofs.Ytfjbiihiaoobhai.L12
