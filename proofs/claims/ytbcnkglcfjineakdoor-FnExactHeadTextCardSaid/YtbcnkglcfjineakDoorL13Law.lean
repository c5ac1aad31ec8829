/-
  A head in its box. Nothing of the program's text is proved here.
-/
import Derived.Test.YtbcnkglcfjineakDoorL13Mem
namespace Go.Proofs.YtbcnkglcfjineakDoor.L13
open Go.RowKit L1
set_option linter.unusedVariables false

/-- Rows that a call hands back, in new memory. -/
def RH (w w' : World) (v : Value) (L : List Rw) : Prop := (∃ M, rws M = L ∧ OwR w' w.heap.size v L.length M) ∧ Below w.heap.size w w'
abbrev hdO (v : Value) (o : Int) : Obj := .cells #[v, .int .i64 o] 41 (0, 0)
/-- All blocks of a head's rows lie below a number. -/
structure InR (hi : Nat) (v : Value) (n : Nat) (M : List PR) : Prop where
  row : ∀ g, v.ownBlock = some g → g < hi
  idx : ∀ i, i < n → ∀ g, (M.getD i eV).2.ownBlock = some g → g < hi
theorem OwR.inR {w : World} {base n : Nat} {v : Value} {M : List PR} (h : OwR w base v n M) : InR w.heap.size v n M :=
  ⟨fun g hg => (L8.own_lt h.row g hg).2, fun i hi g hg => (L8.own_lt (h.idx i hi) g hg).2⟩
theorem InR.mono {hi hi' : Nat} {v : Value} {n : Nat} {M : List PR} (h : InR hi v n M) (hh : hi ≤ hi') : InR hi' v n M :=
  ⟨fun g hg => Nat.lt_of_lt_of_le (h.row g hg) hh, fun i hi g hg => Nat.lt_of_lt_of_le (h.idx i hi g hg) hh⟩
/-- A head in its box: its rows lie between a base and the box. -/
structure HG (base : Nat) (w : World) (b : Nat) (v : Value) (n : Nat) (M : List PR) (L : List Rw) (o : Int) : Prop where
  box : w.heap[b]? = some (hdO v o)
  bs : base ≤ b
  ow : OwR w base v n M
  inr : InR b v n M
  eq : rws M = L
theorem HG.below {base : Nat} {w w' : World} {b : Nat} {v : Value} {n : Nat} {M : List PR} {L : List Rw} {o : Int} (h : HG base w b v n M L o) (hb : Below w.heap.size w w') : HG base w' b v n M L o :=
  ⟨(hb.block b (Array.getElem?_eq_some_iff.1 h.box).1).trans h.box, h.bs, h.ow.below hb, h.inr, h.eq⟩
theorem HG.len {base : Nat} {w : World} {b : Nat} {v : Value} {n : Nat} {M : List PR} {L : List Rw} {o : Int} (h : HG base w b v n M L o) : L.length = n := by
  have := h.ow.len
  rw [← h.eq]
  simpa using this
theorem HG.sl {base : Nat} {w : World} {b n cap : Nat} {a : Option Addr} {M : List PR} {L : List Rw} {o : Int} (h : HG base w b (.slice a n cap) n M L o) : SlR w a L := by
  have := h.ow.sl
  rw [h.eq] at this
  exact this
theorem HG.lt {base : Nat} {w : World} {b : Nat} {v : Value} {n : Nat} {M : List PR} {L : List Rw} {o : Int} (h : HG base w b v n M L o) : b < w.heap.size := (Array.getElem?_eq_some_iff.1 h.box).1
/-- What a call handed back, put into a box. -/
theorem hg_made {w w' : World} {v : Value} {L : List Rw} (o : Int) (h : RH w w' v L) : (∃ a cap M, v = .slice a L.length cap ∧ HG w.heap.size (w'.alloc (hdO v o)) w'.heap.size v L.length M L o) ∧ Below w.heap.size w w' := by
  obtain ⟨⟨M, hM, ho⟩, hb⟩ := h
  obtain ⟨a, cap, hv, _⟩ := ho.form
  exact ⟨⟨a, cap, M, hv, L8.blk_new _ _, hb.size, ho.below ((Below.refl _ _).alloc (Nat.le_refl _) _), ho.inR, hM⟩, hb⟩
theorem only_below {lo hi : Nat} {w w' : World} (h : L8.Only lo hi w w') (c : Nat) (hc : c ≤ lo) (hl : lo ≤ w.heap.size) : Below c w w' := (h.below hl).mono hc
/-- A head that is not written into. -/
theorem HG.only {base : Nat} {w w' : World} {b : Nat} {v : Value} {n : Nat} {M : List PR} {L : List Rw} {o : Int} {lo hi : Nat} (h : HG base w b v n M L o) (ho : L8.Only lo hi w w') (hd : b < lo ∨ hi ≤ base) : HG base w' b v n M L o := by
  have hr : ∀ {t : TypeId} {c m : Nat} {u : Value} {xs : List Value}, w.ownsRow base t c u m xs → (∀ g, u.ownBlock = some g → g < b) → w'.ownsRow base t c u m xs := fun {t c m u xs} hu hlt => by
    refine ⟨hu.1, ?_⟩
    rcases hu.2 with h0 | ⟨g, cap, cur, rfl, hbg, hg, r⟩
    · exact .inl h0
    · refine .inr ⟨g, cap, cur, rfl, hbg, ?_, r⟩
      rw [ho.block g (Array.getElem?_eq_some_iff.1 hg).1 (by have := hlt g rfl; rcases hd with hd | hd <;> omega)]
      exact hg
  refine ⟨?_, h.bs, ⟨h.ow.len, hr h.ow.row h.inr.row, fun i hi => hr (h.ow.idx i hi) (h.inr.idx i hi), h.ow.apart⟩, h.inr, h.eq⟩
  rw [ho.block b h.lt (by have := h.bs; omega)]
  exact h.box
/-- A head that was written over: its box stays. -/
theorem HG.marked {base : Nat} {w w' : World} {b : Nat} {v : Value} {n : Nat} {M M' : List PR} {L L' : List Rw} {o : Int} (h : HG base w b v n M L o) (ho : L8.Only base b w w') (hw : OwR w' base v n M') (hs : ∀ i, i < n → (M'.getD i eV).2 = (M.getD i eV).2) (hM : rws M' = L') : HG base w' b v n M' L' o :=
  ⟨by rw [ho.block b h.lt (.inr (Nat.le_refl _))]; exact h.box, h.bs, hw, ⟨h.inr.row, fun i hi g hg => h.inr.idx i hi g (by rw [← hs i hi]; exact hg)⟩, hM⟩
end Go.Proofs.YtbcnkglcfjineakDoor.L13
