/-
  Helpers of the draws: a cursor that is new, rows that stay where one block is written into. Nothing of the program's text is proved here.
-/
import Derived.Test.YticgejaaoamhmafL4Base
import Derived.Test.YticgejaaoamhmafL3Cur
import Derived.Test.YticgejaaoamhmafL1Bytes
namespace Go.Proofs.Yticgejaaoamhmaf.L4
open Go.RowKit L1
set_option linter.unusedVariables false

theorem cur_new {w : World} {a : Option Addr} {n cap : Nat} (h : Slb w w.heap.size a n) (hn : n ≤ 1048576) : Cur (w.alloc (Obj.cells #[.slice a n cap, .int .i64 0, .int .u64 0] 66)) w.heap.size 0 := by
  refine ⟨a, n, cap, 0, 0, by show (w.heap.push _)[w.heap.size]? = _; simp, Nat.le_refl _, hn, fun i hi => ?_⟩
  obtain ⟨bb, off, x, ha, hlt, hc, hx⟩ := h i hi
  exact ⟨bb, off, x, ha, hlt, by rw [World.cell?_of_block (w := w) (Below.heap_alloc _ _ _ hlt)]; exact hc, hx⟩
theorem grown_to_below {w w' : World} {o : Obj} (h : (w.alloc o).grownBy w' (some w.heap.size)) : Below w.heap.size w w' := by
  have h1 : Below w.heap.size (w.alloc o) w' := ⟨h.os, h.tape, h.output, h.size, fun k hk => h.block k (by simp; omega) (by simp; omega)⟩
  exact ((Below.refl _ _).alloc (Nat.le_refl _) _).trans h1
theorem Slb.below {w w' : World} {a : Option Addr} {n : Nat} (h : Slb w w.heap.size a n) (hb : Below w.heap.size w w') : Slb w' w'.heap.size a n := fun i hi => by
  obtain ⟨bb, off, x, ha, hlt, hc, hx⟩ := h i hi
  exact ⟨bb, off, x, ha, by have := hb.size; omega, by rw [hb.cell (p := ⟨bb, off + i, none⟩) hlt]; exact hc, hx⟩
theorem sl_len {w : World} {k : IntKind} {a : Option Addr} {len cap : Nat} {zs : List Int} (h : IsRow k w a len cap zs) : len ≤ 9223372036854775807 := by
  rcases h with ⟨_, rfl, _⟩ | ⟨x, _, hl, hm, _⟩
  · omega
  · unfold maxLen at hm; omega
theorem slb_of_row {w : World} {a : Option Addr} {len cap : Nat} {zs : List Int} (h : IsRow .u8 w a len cap zs) : Slb w w.heap.size a len := by
  rcases h with ⟨rfl, rfl, rfl, rfl⟩ | ⟨x, rfl, hl, hm, hz, hc, hwf⟩
  · exact fun i hi => absurd hi (Nat.not_lt_zero _)
  · intro i hi
    have hi' : i < zs.length := by omega
    have h0 := hc i hi'
    obtain ⟨b, off, spot⟩ := x
    have hspot : spot = none := by
      have h00 := hc 0 (by omega)
      simpa [Addr.add] using World.cell?_spot h00
    subst hspot
    have e : (⟨b, off, none⟩ : Addr).add i = ⟨b, off + i, none⟩ := by unfold Addr.add; split <;> simp_all
    rw [e] at h0
    have hw := hwf (zs.getD i 0) (by rw [List.getD, List.getElem?_eq_getElem hi']; simp)
    have hb := bounds_u8 hw
    exact ⟨b, off, zs.getD i 0, rfl, blk_lt h0, h0, by omega, by omega⟩


theorem own_grown4 {w w' : World} {base n b c : Nat} {t : TypeId} {v : Value} {ys : List Value} (h : w.ownsRow base t c v n ys) (hg : w.grownBy w' (some b)) (hb : b < base) : w'.ownsRow base t c v n ys := by
  refine ⟨h.1, ?_⟩
  rcases h.2 with h0 | ⟨g, cap, cur, rfl, hbg, hgg, r⟩
  · exact .inl h0
  · exact .inr ⟨g, cap, cur, rfl, hbg, by rw [hg.block g (Array.getElem?_eq_some_iff.1 hgg).1 (fun e => by cases e; omega)]; exact hgg, r⟩
theorem grown_low {a b c : World} {r : Option Nat} (h : a.grownBy b r) (k : Below a.heap.size b c) : a.grownBy c r :=
  ⟨k.os.trans h.os, k.tape.trans h.tape, k.output.trans h.output, Nat.le_trans h.size k.size, fun i hi hn => (k.block i hi).trans (h.block i hi hn)⟩
/-- Some ints that the caller owns. -/
def OwnP (w : World) (B : Nat) (v : Value) (m : Nat) : Prop := ∃ xs : List Int, xs.length ≤ m ∧ w.ownsRow B 3 1 v xs.length (xs.map (Value.int .i64))
theorem OwnP.grown {w w' : World} {B b m : Nat} {v : Value} (h : OwnP w B v m) (hg : w.grownBy w' (some b)) (hb : b < B) : OwnP w' B v m := by
  obtain ⟨xs, hl, ho⟩ := h
  exact ⟨xs, hl, own_grown4 ho hg hb⟩
theorem OwnP.base {w : World} {B B' m : Nat} {v : Value} (h : OwnP w B v m) (hB : B' ≤ B) : OwnP w B' v m := by
  obtain ⟨xs, hl, ho⟩ := h
  exact ⟨xs, hl, own_baseT ho hB⟩

end Go.Proofs.Yticgejaaoamhmaf.L4
