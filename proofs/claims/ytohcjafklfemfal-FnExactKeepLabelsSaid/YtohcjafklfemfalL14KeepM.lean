/-
  Labels that are kept by their names. Nothing of the program's text is proved here.
-/
import Derived.Test.YtohcjafklfemfalL3Lab
import Derived.Test.YtohcjafklfemfalStr
namespace Go.Proofs.Ytohcjafklfemfal.L14K
open Go.RowKit L1 L3
set_option linter.unusedVariables false

open Classical in
/-- Those whose Name is among names. -/
noncomputable def keepL (l : List Lb) (ns : List ByteArray) : List Lb := l.filter (fun p => decide (p.1 ∈ ns))
theorem keepL_len (l : List Lb) (ns : List ByteArray) : (keepL l ns).length ≤ l.length := List.length_filter_le _ _
theorem keepL_take (l : List Lb) (ns : List ByteArray) (k : Nat) (hk : k < l.length) : ((l.getD k eL).1 ∈ ns → keepL (l.take (k + 1)) ns = keepL (l.take k) ns ++ [l.getD k eL]) ∧ ((l.getD k eL).1 ∉ ns → keepL (l.take (k + 1)) ns = keepL (l.take k) ns) := by
  have e : l.take (k + 1) = l.take k ++ [l.getD k eL] := by
    rw [List.take_succ_eq_append_getElem hk]
    simp [List.getD, List.getElem?_eq_getElem hk]
  unfold keepL
  generalize l.getD k eL = q at e ⊢
  rw [e, List.filter_append]
  constructor
  · intro h; simp [h]
  · intro h; simp [h]
theorem keepL_good {l : List Lb} (ns : List ByteArray) (hg : GoodL l) : GoodL (keepL l ns) := by
  have hpair : l.Pairwise (fun x y => Ahead x.1 y.1) := by
    rw [List.pairwise_iff_getElem]
    intro i j hi hj hij
    have key : ∀ d, i + 1 + d < l.length → Ahead (l.getD i eL).1 (l.getD (i + 1 + d) eL).1 := fun d => by
      induction d with
      | zero => intro hd; have := (hg.2 (i + 1) hd).2 (by omega); simpa using this
      | succ d ih =>
        intro hd
        have h1 := ih (by omega)
        have h2 := (hg.2 (i + 1 + (d + 1)) hd).2 (by omega)
        have e : i + 1 + (d + 1) - 1 = i + 1 + d := by omega
        rw [e] at h2
        exact bl_trans _ _ _ h1 h2
    have := key (j - i - 1) (by omega)
    rw [show i + 1 + (j - i - 1) = j by omega] at this
    simpa [List.getD, List.getElem?_eq_getElem hi, List.getElem?_eq_getElem hj] using this
  have hall : ∀ x ∈ l, okL x := fun x hx => by
    obtain ⟨j, hj, e⟩ := List.getElem_of_mem hx
    have := (hg.2 j hj).1
    simpa [List.getD, List.getElem?_eq_getElem hj, e] using this
  have hp2 : (keepL l ns).Pairwise (fun x y => Ahead x.1 y.1) := hpair.filter _
  refine ⟨Nat.le_trans (keepL_len l ns) hg.1, fun j hj => ⟨?_, fun h0 => ?_⟩⟩
  · have : (keepL l ns)[j] ∈ l := (List.mem_filter.1 (List.getElem_mem hj)).1
    have h2 := hall _ this
    simpa [List.getD, List.getElem?_eq_getElem hj] using h2
  · have h1 := List.pairwise_iff_getElem.1 hp2 (j - 1) j (by omega) hj (by omega)
    simpa [List.getD, List.getElem?_eq_getElem hj, List.getElem?_eq_getElem (show j - 1 < (keepL l ns).length by omega)] using h1
open Classical in
noncomputable def keepRes (l : List Lb) (ns : List ByteArray) : Option (List Lb) := if GoodL l ∧ ns.length ≤ 6 then some (keepL l ns) else none
theorem keepRes_len (l : List Lb) (ns : List ByteArray) : ((keepRes l ns).getD []).length ≤ 6 := by
  unfold keepRes
  split
  · rename_i h
    have h1 := h.1.1
    have h2 := keepL_len l ns
    simp only [Option.getD_some]
    omega
  · simp
theorem own_shape14 {w : World} {base n c : Nat} {t : TypeId} {v : Value} {xs : List Value} (h : w.ownsRow base t c v n xs) : ∃ a cap, v = .slice a n cap := by
  rcases h.2 with ⟨hv, h0⟩ | ⟨g, cap, cur, hv, _⟩
  · exact ⟨none, 0, by rw [hv, h0]⟩
  · exact ⟨_, cap, hv⟩
theorem cell_two_new2 (w : World) (o : Obj) (p q : Value) (t : TypeId) : ∀ j u, [p, q][j]? = some u → ((w.alloc o).alloc (.cells #[p, q] t)).cell? ((⟨w.heap.size + 1, 0, none⟩ : Addr).add j) = some u := by
  intro j u h
  rw [addr_add]
  have hs : (w.alloc o).heap.size = w.heap.size + 1 := by simp
  match j, h with
  | 0, h => simp at h; subst h; rw [← hs]; simp
  | 1, h => simp at h; subst h; rw [← hs]; simp
  | j + 2, h => simp at h
theorem flatL_snoc14 (l : List Lb) (p : Lb) : flatL (l ++ [p]) = flatL l ++ [.string p.1, .string p.2] := by rw [flatL_append]; rfl
theorem own_base14 {w : World} {b1 b2 n c : Nat} {t : TypeId} {v : Value} {ys : List Value} (h : w.ownsRow b1 t c v n ys) (hb : b2 ≤ b1) : w.ownsRow b2 t c v n ys := by
  refine ⟨h.1, ?_⟩
  rcases h.2 with h0 | ⟨g, cap, cur, rfl, hbg, hg, r⟩
  · exact .inl h0
  · exact .inr ⟨g, cap, cur, rfl, Nat.le_trans hb hbg, hg, r⟩
end Go.Proofs.Ytohcjafklfemfal.L14K
