/-
  Rows of samples and pairs of rows that a call owns.
-/
import Derived.Test.YtapffbbmofhpoaaDoorL2Parts
namespace Go.Proofs.YtapffbbmofhpoaaDoor.L1
open Go.RowKit
set_option linter.unusedVariables false

/-- The cells of samples, one behind the other. -/
def flat2 : List (Int × Int) → List Value
  | [] => []
  | p :: l => .int .i64 p.1 :: .int .i64 p.2 :: flat2 l
theorem flat2_append (l m : List (Int × Int)) : flat2 (l ++ m) = flat2 l ++ flat2 m := by
  induction l with
  | nil => rfl
  | cons p l ih => simp [flat2, ih]
theorem flat2_len : ∀ l : List (Int × Int), (flat2 l).length = l.length * 2
  | [] => rfl
  | p :: l => by simp [flat2, flat2_len l]; omega
theorem flat2_get : ∀ (l : List (Int × Int)) (i : Nat), i < l.length → (flat2 l)[i * 2]? = some (.int .i64 (l.getD i (0, 0)).1) ∧ (flat2 l)[i * 2 + 1]? = some (.int .i64 (l.getD i (0, 0)).2)
  | [], i, h => by simp at h
  | p :: l, 0, _ => ⟨rfl, rfl⟩
  | p :: l, i + 1, h => by
    have := flat2_get l i (by simpa using h)
    have e1 : (i + 1) * 2 = i * 2 + 1 + 1 := by omega
    rw [e1]
    simpa only [flat2, List.getElem?_cons_succ, List.getD_cons_succ] using this
theorem own_formS {w : World} {base n : Nat} {v : Value} {l : List (Int × Int)} (h : w.ownsRow base 50 2 v n (flat2 l)) : ∃ a cap, v = .slice a n cap ∧ Sl2 w a l ∧ l.length = n := by
  have hl := h.1
  rw [flat2_len] at hl
  have hl' : l.length = n := by omega
  rcases h.2 with ⟨hv, h0⟩ | ⟨g, cap, cur, hv, _⟩
  · subst h0
    exact ⟨none, 0, hv, fun i hi => by omega, hl'⟩
  · subst hv
    refine ⟨_, cap, rfl, fun i hi => ?_, hl'⟩
    have hf := flat2_get l i hi
    have h1 := h.cells (g := g) rfl (i * 2) _ hf.1
    have h2 := h.cells (g := g) rfl (i * 2 + 1) _ hf.2
    rw [addr_add] at h1 h2
    exact ⟨g, 0, rfl, by simpa using h1, by simpa using h2⟩
theorem own_belowS {w w' : World} {base n : Nat} {v : Value} {ys : List Value} (h : w.ownsRow base 50 2 v n ys) (hb : Below w.heap.size w w') : w'.ownsRow base 50 2 v n ys := by
  refine ⟨h.1, ?_⟩
  rcases h.2 with h0 | ⟨g, cap, cur, rfl, hbg, hg, r⟩
  · exact .inl h0
  · exact .inr ⟨g, cap, cur, rfl, hbg, by rw [hb.block g (Array.getElem?_eq_some_iff.1 hg).1]; exact hg, r⟩
theorem info_smpS : (Tryd.prog.info? 50).map (fun i => (i.zero, i.size, i.bytes)) = some (some (.agg #[.int .i64 0, .int .i64 0]), 2, 16) := by kernel_rfl
/-- Samples that a call hands back, in new memory, and whether there are some. -/
def RetS (w : World) (r : Option (List (Int × Int))) (e : Ending) (w' : World) : Prop :=
  ∃ v, e = .returned (.tuple #[v, .bool r.isSome]) ∧ w'.ownsRow w.heap.size 50 2 v (r.getD []).length (flat2 (r.getD [])) ∧ Below w.heap.size w w'
theorem cell_two_newS (w : World) (p q : Value) (t : TypeId) : ∀ j u, [p, q][j]? = some u → (w.alloc (.cells #[p, q] t)).cell? ((⟨w.heap.size, 0, none⟩ : Addr).add j) = some u := by
  intro j u h
  rw [addr_add]
  match j, h with
  | 0, h => simp at h; subst h; simp
  | 1, h => simp at h; subst h; simp
  | j + 2, h => simp at h
/-- Behind the first append of a round that makes one new row only. -/
theorem two_firstS {B k : Nat} {wr w3 : World} {ot ov v3 : Value} {ts vs : List Int} {x : Int} {o : Obj} (h : Two B wr ot ov k ts vs)
    (hg : (wr.alloc o).grownBy w3 ot.ownBlock) (hown : w3.ownsRow B 3 1 v3 (k + 1) (ts.map (Value.int .i64) ++ [.int .i64 x]))
    (hblk : v3.ownBlock = ot.ownBlock ∨ v3.ownBlock = some (wr.heap.size + 1)) (hB : B ≤ wr.heap.size := by omega) :
    Below B wr w3 ∧ Hid (w3.ownsRow B 3 1 v3 (k + 1) ((ts ++ [x]).map (Value.int .i64)) ∧ w3.ownsRow B 3 1 ov k (vs.map (Value.int .i64)) ∧ ∀ g, v3.ownBlock = some g → ov.ownBlock ≠ some g) := by
  refine ⟨((Below.refl B wr).alloc hB _).grown hg (by simp; omega) (fun g e => (h.1.lt g e).1), by simpa using hown, ?_, ?_⟩
  · refine (h.2.1.alloc _).kept hg ?_
    cases hov : ov.ownBlock with
    | none => exact .inl rfl
    | some g => exact .inr (fun e => h.2.2 g e.symm hov)
  · intro g e1 e2
    rcases hblk with hb | hb
    · exact h.2.2 g (hb ▸ e1) e2
    · rw [hb] at e1
      cases e1
      have := (h.2.1.lt _ e2).2
      omega
theorem own_baseS {w : World} {b c n size : Nat} {e : TypeId} {v : Value} {xs : List Value} (h : w.ownsRow c e size v n xs) (hbc : b ≤ c) : w.ownsRow b e size v n xs := by
  refine ⟨h.1, ?_⟩
  rcases h.2 with h0 | ⟨g, cap, cur, hv, hg, r⟩
  · exact .inl h0
  · exact .inr ⟨g, cap, cur, hv, Nat.le_trans hbc hg, r⟩
theorem sRes_yes {xs : List Int} (h40 : xs.length ≤ 40) (h : OkL xs) (hd : OkL (sm 0 xs)) : sRes xs = some (sm 0 xs) := by
  unfold sRes; rw [if_pos ⟨h40, h, hd⟩]
theorem sRes_no {xs : List Int} (h : ¬ OkL (sm 0 xs)) : sRes xs = none := by
  unfold sRes; rw [if_neg (fun hh => h hh.2.2)]
theorem ofPairs_some {xs : List Int} (h : GoodS (unS (ev xs) (od xs))) : ofPairs xs = some (unS (ev xs) (od xs)) := by unfold ofPairs; rw [if_pos h]
theorem ofPairs_none {xs : List Int} (h : ¬ GoodS (unS (ev xs) (od xs))) : ofPairs xs = none := by unfold ofPairs; rw [if_neg h]
theorem zip_take (l m : List Int) (k : Nat) (h : l.length = m.length) (hk : k < l.length) : (l.zip m).take (k + 1) = (l.zip m).take k ++ [(l.getD k 0, m.getD k 0)] := by
  rw [List.take_succ_eq_append_getElem (by simp; omega)]
  simp [List.getD, List.getElem?_eq_getElem hk, List.getElem?_eq_getElem (show k < m.length by omega)]
theorem sl_base' {w w' : World} {a : Option Addr} {xs : List Int} {B : Nat} (h : Sl w a xs) (hw : w.heap.size = B) (hb : Below B w w') : Sl w' a xs := h.below (by rw [hw]; exact hb)
end Go.Proofs.YtapffbbmofhpoaaDoor.L1
