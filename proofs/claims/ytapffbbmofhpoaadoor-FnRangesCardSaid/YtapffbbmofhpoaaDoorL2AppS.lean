/-
  'append' of samples behind a list that is the call's own, and a list's first samples as a slice. Nothing of the program's text is proved here but closed facts on its types.
-/
import Derived.Test.YtapffbbmofhpoaaDoorL2Join
import Derived.Maps.AppendAt
import Derived.Deep.Upon
import Derived.Deep.AppendLies
namespace Go.Proofs.YtapffbbmofhpoaaDoor.L1
open Go.RowKit
set_option linter.unusedVariables false

theorem size_smp : (Tryd.prog.info? 50).map (·.size) = some 2 := by kernel_rfl
theorem elem_smp : Tryd.prog.elem 41 = 50 := by kernel_rfl
theorem run_size_smp (w : World) : (sizeOf (Tryd.prog.elem 41)).run Tryd.prog w = .ok 2 w := by
  rw [elem_smp]
  cases hq : Tryd.prog.info? 50 with
  | none => have := size_smp; rw [hq] at this; cases this
  | some i =>
    have hi : i.size = 2 := by have := size_smp; rw [hq] at this; simpa using this
    simp [sizeOf, typeInfo, hq, hi]
theorem slice_toS (a : Option Addr) (n cap p : Nat) (hp : p ≤ n) (hc : n ≤ cap) (h0 : a = none → cap = 0) :
    ∃ c', ∀ w, (Instr.slice 41 (.slice a n cap) none (some (.int .i64 (p : Int))) none).run Tryd.prog w = .ok (.slice a p c') w := by
  refine ⟨cap, fun w => ?_⟩
  rw [run_slice_h w 41 a n cap (by rw [elem_smp]; exact Tryd.underlying41) .i64 (p : Int) (by omega) (by omega), run_size_smp]
  cases a with
  | none => have := h0 rfl; subst this; simp [sliced]
  | some x => obtain ⟨b, off, sp⟩ := x; simp [sliced, Addr.add]; try (split <;> simp_all)
theorem flat2_cells {w : World} {b off : Nat} {l : List (Int × Int)} (h : Sl2 w (some ⟨b, off, none⟩) l) : ∀ j u, (flat2 l)[j]? = some u → w.cell? ((⟨b, off, none⟩ : Addr).add j) = some u := fun j u hu => by
  have hj : j < l.length * 2 := by
    by_cases hj : j < l.length * 2
    · exact hj
    · rw [List.getElem?_eq_none (by rw [flat2_len]; omega)] at hu; cases hu
  have e0 : (⟨b, off, none⟩ : Addr).add j = ⟨b, off + j, none⟩ := by unfold Addr.add; split <;> simp_all
  rw [e0]
  obtain ⟨b', off', ha, h1, h2⟩ := h (j / 2) (by omega)
  cases ha
  have hf := flat2_get l (j / 2) (by omega)
  have h01 : j % 2 = 0 ∨ j % 2 = 1 := by omega
  rcases h01 with e | e
  · rw [show j / 2 * 2 = j by omega] at hf h1
    rw [h1, ← hf.1, hu]
  · rw [show j / 2 * 2 + 1 = j by omega] at hf
    rw [show off + j / 2 * 2 + 1 = off + j by omega] at h2
    rw [h2, ← hf.2, hu]
theorem own_capS {w : World} {base n cap c : Nat} {t : TypeId} {a : Option Addr} {xs : List Value} (h : w.ownsRow base t c (.slice a n cap) n xs) : n ≤ cap := by
  rcases h.2 with ⟨h, h0⟩ | ⟨g', cap', cur, e, _, _, hle, _⟩
  · omega
  · cases e; exact hle
/-- 'append' of a list behind one that is the call's own. -/
theorem wpList_append_smp {ops : Array Oper} {rest : List Oper} {o : Oper} {a : Act} {Q : Exit → Act → World → Prop} {w : World} (hw : Region.wanted o (yielded ops a.tmps) = true) (s x : Operand)
    (ho : o.op = .call { callee := .builtin .append, args := #[s, x], argTypes := #[41, 41] })
    (m base : Nat) (ad ax : Option Addr) (k cd n c : Nat) (O xs : List (Int × Int)) (hm : k + n = m) (hO : O.length = k) (hxs : xs.length = n) (hk2 : k ≤ 1048576) (hn2 : n ≤ 1048576) (hs : a.eval s = .slice ad k cd) (hown : w.ownsRow base 50 2 (.slice ad k cd) k (flat2 O)) (hx : a.eval x = .slice ax n c) (hsl : Sl2 w ax xs) (hbase : base ≤ w.heap.size)
    (h : ∀ a' c' w', w'.ownsRow base 50 2 (.slice a' m c') m (flat2 (O ++ xs)) → w.grownBy w' (Value.slice ad k cd).ownBlock → wpList Tryd.prog ops Q rest (a.put o.dst (.slice a' m c')) w') : wpList Tryd.prog ops Q (o :: rest) a w := by
  subst hm
  obtain ⟨i0, hi, hz0, hz1, hz2⟩ := info_parts info_smpS
  by_cases h0 : n = 0
  · subst h0
    have hx0 : xs = [] := List.eq_nil_of_length_eq_zero hxs
    subst hx0
    have hr : (Builtin.append_ #[41, 41] o.type #[.slice ad k cd, .slice ax 0 c]).run Tryd.prog w = .ok (.slice ad k cd) w := by
      refine run_append_nothing w 41 41 o.type 50 i0 Tryd.underlying41 hi ad k cd (own_capS hown) _ ?_
      cases ax with
      | none => exact Src.ofNil _ Tryd.underlying41 c
      | some x => exact Src.ofSlice _ Tryd.underlying41 x 0 c [] (by simp) (fun j u hu => by simp at hu) (fun u hu => by simp at hu)
    refine wpList_step fun K hK => ?_
    rw [if_pos hw]
    unfold Oper.wp execOp
    simp only [ho, resolve, invoke, builtin, Sem.run_bind, Sem.run_pure, Result.andThen_ok, List.map_toArray, List.map_cons, List.map_nil, hs, hx, hr]
    exact hK _ _ (h ad cd w (by simpa using hown) (World.grownBy.refl _ _))
  · obtain ⟨b, off, rfl, _⟩ := hsl 0 (by omega)
    refine wpList_step fun K hK => ?_
    rw [if_pos hw]
    refine wp_append_lies w s x 41 ho base 50 i0 (.agg #[.int .i64 0, .int .i64 0]) 2 16 Tryd.underlying41 hi hz0 hz1 hz2 rfl (by decide) (.slice ad k cd) k (flat2 O) hs hown ⟨b, off, none⟩ n c (flat2 xs) hx (by rw [flat2_len]; omega) (flat2_cells hsl) (flat2_one xs) (by omega) (by unfold maxLen; omega) (by omega) hbase _ rfl ?_
    intro g' c' w' h1 h2 _ _
    rw [← flat2_append] at h1
    exact hK _ _ (h (some ⟨g', 0, none⟩) c' w' h1 h2)
theorem own_emptyS (w : World) (base : Nat) (hb : base ≤ w.heap.size) : (w.alloc (.cells #[] 50)).ownsRow base 50 2 (.slice (some ⟨w.heap.size, 0, none⟩) 0 0) 0 (flat2 []) :=
  ⟨rfl, .inr ⟨w.heap.size, 0, #[], rfl, hb, (by show (w.heap.push _)[w.heap.size]? = _; exact Array.getElem?_push_size), Nat.le_refl _, by unfold maxLen; omega, rfl, rfl⟩⟩
end Go.Proofs.YtapffbbmofhpoaaDoor.L1
