/-
  A Heavy in memory: names, counts. Nothing of the program's text is proved here but closed facts on its types.
-/
import Derived.Test.YtfmfnlpajoikmaoStr
import Derived.Test.YtfmfnlpajoikmaoL8Gen
import Derived.Test.YtfmfnlpajoikmaoOwnG
namespace Go.Proofs.Ytfmfnlpajoikmao.L15H
open Go.RowKit L1 Own Str
set_option linter.unusedVariables false

/-- A Heavy: Names, Counts, Gone, Total. -/
structure Hv where
  nm : List ByteArray
  ct : List Int
  g : Int
  t : Int
def e0H : Hv := ⟨[], [], 0, 0⟩
abbrev ints (l : List Int) : List Value := l.map (Value.int .i64)
abbrev hvV (v u : Value) (G T : Int) : Value := .agg #[v, u, .int .i64 G, .int .i64 T]
abbrev hvO (v u : Value) (G T : Int) : Obj := .cells #[v, u, .int .i64 G, .int .i64 T] 27 (0, 0)
theorem st_int : 9 ≠ 3 := by decide
theorem hv_int : 27 ≠ 3 := by decide
theorem hv_str : 27 ≠ 9 := by decide
theorem blk4 {w : World} {b : Nat} {c0 c1 c2 c3 : Value} {t : TypeId} (h : w.heap[b]? = some (.cells #[c0, c1, c2, c3] t (0, 0))) :
    w.cell? ⟨b, 0, none⟩ = some c0 ∧ w.cell? ⟨b, 1, none⟩ = some c1 ∧ w.cell? ⟨b, 2, none⟩ = some c2 ∧ w.cell? ⟨b, 3, none⟩ = some c3 := by
  simp [World.cell?, h]
theorem frz4 {w : World} {b : Nat} {c0 c1 c2 c3 : Value} {t : TypeId} (h : w.heap[b]? = some (.cells #[c0, c1, c2, c3] t (0, 0))) :
    w.frozen? ⟨b, 0, none⟩ = false ∧ w.frozen? ⟨b, 1, none⟩ = false ∧ w.frozen? ⟨b, 2, none⟩ = false ∧ w.frozen? ⟨b, 3, none⟩ = false := by
  simp [World.frozen?, h]
/-- What is read of it. -/
structure HF (w : World) (aN aC : Option Addr) (n m : Nat) (h : Hv) : Prop where
  sN : SlS w aN h.nm
  sC : Sl w aC h.ct
  ln : h.nm.length = n
  lc : h.ct.length = m
theorem HF.below {w w' : World} {aN aC : Option Addr} {n m : Nat} {h : Hv} (k : HF w aN aC n m h) (hb : Below w.heap.size w w') : HF w' aN aC n m h := ⟨k.sN.below hb, k.sC.below hb, k.ln, k.lc⟩
/-- A Heavy that is owned. -/
structure OwH (w : World) (base : Nat) (v u : Value) (n m : Nat) (h : Hv) : Prop where
  oN : w.ownsRow base 9 1 v n (mapS h.nm)
  oC : w.ownsRow base 3 1 u m (ints h.ct)
section
variable {w w' : World} {base : Nat} {v u : Value} {n m : Nat} {h : Hv}
theorem OwH.below (k : OwH w base v u n m h) (hb : Below w.heap.size w w') : OwH w' base v u n m h := ⟨own_belO k.oN hb, own_belO k.oC hb⟩
theorem OwH.toBase {b2 : Nat} (k : OwH w base v u n m h) (hb : b2 ≤ base) : OwH w b2 v u n m h := ⟨own_baseS k.oN hb, own_baseS k.oC hb⟩
theorem OwH.setC (k : OwH w base v u n m h) (p : Addr) (x : Value) (hp : p.block < base) : OwH (w.setCell p x) base v u n m h := ⟨L8.own_setC k.oN p x hp, L8.own_setC k.oC p x hp⟩
theorem OwH.form (k : OwH w base v u n m h) : ∃ aN cN aC cC, v = .slice aN n cN ∧ u = .slice aC m cC ∧ HF w aN aC n m h := by
  obtain ⟨aN, cN, e1, s1, l1⟩ := own_formS k.oN
  obtain ⟨aC, cC, e2, s2, l2⟩ := own_form k.oC
  exact ⟨aN, cN, aC, cC, e1, e2, s1, s2, l1, l2⟩
theorem OwH.hf {aN aC : Option Addr} {cN cC : Nat} (k : OwH w base (.slice aN n cN) (.slice aC m cC) n m h) : HF w aN aC n m h := by
  obtain ⟨_, _, _, _, e1, e2, f⟩ := k.form
  cases e1
  cases e2
  exact f
/-- What a call hands back, in new memory. -/
def RH (w w' : World) (v u : Value) (h : Hv) : Prop := OwH w' w.heap.size v u h.nm.length h.ct.length h ∧ Below w.heap.size w w'
theorem rh_nil (hb : Below w.heap.size w w') : RH w w' (.slice none 0 0) (.slice none 0 0) e0H := ⟨⟨World.ownsRow_nil _ _ _ _, World.ownsRow_nil _ _ _ _⟩, hb⟩
/-- A Heavy in its box. -/
structure HG (base : Nat) (w : World) (b : Nat) (v u : Value) (n m : Nat) (h : Hv) : Prop where
  box : w.heap[b]? = some (hvO v u h.g h.t)
  bs : base ≤ b
  ow : OwH w base v u n m h
  iv : ∀ g, v.ownBlock = some g → g < b
  iu : ∀ g, u.ownBlock = some g → g < b
theorem HG.below {b : Nat} (k : HG base w b v u n m h) (hb : Below w.heap.size w w') : HG base w' b v u n m h :=
  ⟨(hb.block b (Array.getElem?_eq_some_iff.1 k.box).1).trans k.box, k.bs, k.ow.below hb, k.iv, k.iu⟩
theorem HG.lt {b : Nat} (k : HG base w b v u n m h) : b < w.heap.size := (Array.getElem?_eq_some_iff.1 k.box).1
theorem hg_made (k : RH w w' v u h) : (∃ aN cN aC cC, v = .slice aN h.nm.length cN ∧ u = .slice aC h.ct.length cC ∧ HG w.heap.size (w'.alloc (hvO v u h.g h.t)) w'.heap.size v u h.nm.length h.ct.length h) ∧ Below w.heap.size w w' := by
  obtain ⟨ho, hb⟩ := k
  obtain ⟨aN, cN, aC, cC, e1, e2, _⟩ := ho.form
  exact ⟨⟨aN, cN, aC, cC, e1, e2, L8.blk_new _ _, hb.size, ho.below ((Below.refl _ _).alloc (Nat.le_refl _) _), fun g hg => own_ltO ho.oN g hg, fun g hg => own_ltO ho.oC g hg⟩, hb⟩
theorem hg_copy {wp : World} (ho : OwH w' wp.heap.size v u n m h) (hb : Below wp.heap.size wp w') : HG wp.heap.size (w'.alloc (hvO v u h.g h.t)) w'.heap.size v u n m h :=
  ⟨L8.blk_new _ _, hb.size, ho.below ((Below.refl _ _).alloc (Nat.le_refl _) _), fun g hg => own_ltO ho.oN g hg, fun g hg => own_ltO ho.oC g hg⟩
theorem HG.only {b lo hi : Nat} (k : HG base w b v u n m h) (ho : L8.Only lo hi w w') (hd : b < lo ∨ hi ≤ base) : HG base w' b v u n m h := by
  have hr : ∀ {t : TypeId} {c q : Nat} {x : Value} {xs : List Value}, w.ownsRow base t c x q xs → (∀ g, x.ownBlock = some g → g < b) → w'.ownsRow base t c x q xs := fun hu hlt =>
    own_at hu (fun q hq => ho.block q (own_ltO hu q hq) (by have h1 := hlt q hq; have h2 := own_ge hu q hq; rcases hd with hd | hd <;> omega))
  exact ⟨(ho.block b k.lt (by have := k.bs; omega)).trans k.box, k.bs, ⟨hr k.ow.oN k.iv, hr k.ow.oC k.iu⟩, k.iv, k.iu⟩
theorem HG.marked {b : Nat} {h' : Hv} (k : HG base w b v u n m h) (ho : L8.Only base b w w') (hw : OwH w' base v u n m h') (hg : h'.g = h.g) (ht : h'.t = h.t) : HG base w' b v u n m h' :=
  ⟨by rw [ho.block b k.lt (.inr (Nat.le_refl _)), hg, ht]; exact k.box, k.bs, hw, k.iv, k.iu⟩
end
theorem only_rowH {lo hi : Nat} {w w' : World} (ho : L8.Only lo hi w w') {base n c : Nat} {t : TypeId} {v : Value} {xs : List Value} (hu : w.ownsRow base t c v n xs) (hl : ∀ g, v.ownBlock = some g → g < lo ∨ hi ≤ g) : w'.ownsRow base t c v n xs := own_at hu (fun q hq => ho.block q (own_ltO hu q hq) (hl q hq))
theorem blk_kept {w w' : World} {g : Nat} {o : Obj} (h : w.heap[g]? = some o) (hb : Below w.heap.size w w') : w'.heap[g]? = some o := (hb.block g (Array.getElem?_eq_some_iff.1 h).1).trans h
theorem set4 {W : World} {g : Nat} {a b c d a' b' c' d' : Value} {t : TypeId} (h : W.heap[g]? = some (.cells #[a, b, c, d] t (0, 0))) : ((((W.setCell ⟨g, 0, none⟩ a').setCell ⟨g, 1, none⟩ b').setCell ⟨g, 2, none⟩ c').setCell ⟨g, 3, none⟩ d').heap[g]? = some (.cells #[a', b', c', d'] t (0, 0)) :=
  heap_boxO (heap_boxO (heap_boxO (heap_boxO h 0 a') 1 b') 2 c') 3 d'
theorem OwH.setC4 {w : World} {base : Nat} {v u : Value} {n m : Nat} {h : Hv} (k : OwH w base v u n m h) (z : Nat) (hz : z < base) (a b c d : Value) : OwH ((((w.setCell ⟨z, 0, none⟩ a).setCell ⟨z, 1, none⟩ b).setCell ⟨z, 2, none⟩ c).setCell ⟨z, 3, none⟩ d) base v u n m h :=
  (((k.setC _ a hz).setC _ b hz).setC _ c hz).setC _ d hz
theorem below4 {N : Nat} {w w' : World} (h : Below N w w') (z : Nat) (hz : N ≤ z) (a b c d : Value) : Below N w ((((w'.setCell ⟨z, 0, none⟩ a).setCell ⟨z, 1, none⟩ b).setCell ⟨z, 2, none⟩ c).setCell ⟨z, 3, none⟩ d) :=
  (((h.setCell (p := ⟨z, 0, none⟩) hz a).setCell (p := ⟨z, 1, none⟩) hz b).setCell (p := ⟨z, 2, none⟩) hz c).setCell (p := ⟨z, 3, none⟩) hz d
end Go.Proofs.Ytfmfnlpajoikmao.L15H
