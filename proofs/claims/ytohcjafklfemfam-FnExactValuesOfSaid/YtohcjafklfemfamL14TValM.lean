/-
  The values of totals. Nothing of the program's text is proved here.
-/
import Derived.Test.YtohcjafklfemfamL14TGMath
namespace Go.Proofs.Ytohcjafklfemfam.L14T
open Go.RowKit L1 L3
set_option linter.unusedVariables false

/-- What an op tells of a total. -/
def valOf (op : Int) (p : Rw) : Int := if op = 2 then p.v1 else if op = 3 then p.v2 else if op = 4 then p.v3 else p.v0
def vals (op : Int) (L : List Rw) : List Value := L.map fun p => Value.int .i64 (valOf op p)
theorem vals_take (op : Int) (L : List Rw) (k : Nat) (h : k < L.length) : vals op (L.take (k + 1)) = vals op (L.take k) ++ [Value.int .i64 (valOf op (gr L k))] := by
  have e : gr L k = L[k] := by simp [gr, List.getD, List.getElem?_eq_getElem h]
  show List.map _ _ = List.map _ _ ++ _
  rw [List.take_succ_eq_append_getElem h, List.map_append, e]
  rfl
theorem vals_zero (op : Int) (L : List Rw) : vals op (L.take 0) = [] := by simp [vals]
theorem vals_ints (op : Int) (L : List Rw) : vals op L = (L.map (valOf op)).map (Value.int .i64) := by simp [vals]
def okOp (op : Int) : Prop := op = 1 ∨ op = 2 ∨ op = 3 ∨ op = 4
theorem okOp_iff (op : Int) : okOp op ↔ 1 ≤ op ∧ op ≤ 4 := by unfold okOp; omega
open Classical in
noncomputable def valRes (L : List Rw) (op : Int) : Option (List Int) := if GoodT L ∧ okOp op then some (L.map (valOf op)) else none
theorem valRes_len (L : List Rw) (op : Int) : ((valRes L op).getD []).length ≤ 40 := by
  unfold valRes
  split
  · rename_i h; have := h.1.1; simpa using this
  · simp
theorem own_shapeV {w : World} {base n c : Nat} {t : TypeId} {v : Value} {xs : List Value} (h : w.ownsRow base t c v n xs) : ∃ a cap, v = .slice a n cap := by
  rcases h.2 with ⟨hv, h0⟩ | ⟨g, cap, cur, hv, _⟩
  · exact ⟨none, 0, by rw [hv, h0]⟩
  · exact ⟨_, cap, hv⟩
theorem cell_oneV (w : World) (p : Value) (t : TypeId) : ∀ j u, [p][j]? = some u → (w.alloc (.cells #[p] t)).cell? ((⟨w.heap.size, 0, none⟩ : Addr).add j) = some u := by
  intro j u h
  rw [addr_add]
  match j, h with
  | 0, h => simp at h; subst h; simp
  | j + 1, h => simp at h
theorem cell_one2V (w : World) (o : Obj) (p : Value) (t : TypeId) : ∀ j u, [p][j]? = some u → ((w.alloc o).alloc (.cells #[p] t)).cell? ((⟨w.heap.size + 1, 0, none⟩ : Addr).add j) = some u := by
  intro j u h
  have := cell_oneV (w.alloc o) p t j u h
  rwa [World.size_alloc] at this
/-- Ints that a call hands back, in new memory, and whether there are some. -/
def RetI (w : World) (r : Option (List Int)) (e : Ending) (w' : World) : Prop :=
  ∃ v, e = .returned (.tuple #[v, .bool r.isSome]) ∧ w'.ownsRow w.heap.size 3 1 v (r.getD []).length ((r.getD []).map (Value.int .i64)) ∧ Below w.heap.size w w'
end Go.Proofs.Ytohcjafklfemfam.L14T
