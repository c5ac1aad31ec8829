/-
  One list of entries behind another, at a step of a region that draws.
-/
import Derived.Test.YtdnmklcnlndmhbbL7App
import Derived.Deep.AppendLies
namespace Go.Proofs.Ytdnmklcnlndmhbb.L7
open Go.RowKit L1
set_option linter.unusedVariables false

/-- 'append' of a list behind one that is the call's own, at a step of a region that draws. -/
theorem wp_append_ent {o : Oper} {a : Act} {K : Act → World → Prop} {Q : Exit → Act → World → Prop} {w : World} (s x : Operand)
    (ho : o.op = .call { callee := .builtin .append, args := #[s, x], argTypes := #[26, 26] })
    (base : Nat) (ad ax : Option Addr) (k cd n c : Nat) (O xs : List En) (hO : O.length = k) (hxs : xs.length = n) (hk2 : k ≤ 1048576) (hn2 : n ≤ 1048576) (hs : a.eval s = .slice ad k cd) (hown : w.ownsRow base 50 2 (.slice ad k cd) k (flatE O)) (hx : a.eval x = .slice ax n c) (hsl : SlE w ax xs) (hbase : base ≤ w.heap.size)
    (h : ∀ a' c' w', w'.ownsRow base 50 2 (.slice a' (k + n) c') (k + n) (flatE (O ++ xs)) → w.grownBy w' (Value.slice ad k cd).ownBlock → K (a.put o.dst (.slice a' (k + n) c')) w') : o.wp Try.prog a w K Q := by
  obtain ⟨i0, hi, hz0, hz1, hz2⟩ := info_parts info_ent
  by_cases h0 : n = 0
  · subst h0
    have hx0 : xs = [] := List.eq_nil_of_length_eq_zero hxs
    subst hx0
    have hr : (Builtin.append_ #[26, 26] o.type #[.slice ad k cd, .slice ax 0 c]).run Try.prog w = .ok (.slice ad k cd) w := by
      refine run_append_nothing w 26 26 o.type 50 i0 Try.underlying26 hi ad k cd (own_capE hown) _ ?_
      cases ax with
      | none => exact Src.ofNil _ Try.underlying26 c
      | some x => exact Src.ofSlice _ Try.underlying26 x 0 c [] (by simp) (fun j u hu => by simp at hu) (fun u hu => by simp at hu)
    unfold Oper.wp execOp
    simp only [ho, resolve, invoke, builtin, Sem.run_bind, Sem.run_pure, Result.andThen_ok, List.map_toArray, List.map_cons, List.map_nil, hs, hx, hr]
    exact h ad cd w (by simpa using hown) (World.grownBy.refl _ _)
  · obtain ⟨b, off, rfl, _⟩ := hsl 0 (by omega)
    refine wp_append_lies w s x 26 ho base 50 i0 (.agg #[.int .i64 0, .string ByteArray.empty]) 2 24 Try.underlying26 hi hz0 hz1 hz2 rfl (by decide) (.slice ad k cd) k (flatE O) hs hown ⟨b, off, none⟩ n c (flatE xs) hx (by rw [flatE_len]; omega) (flatE_cells hsl) (flatE_one xs) (by omega) (by unfold maxLen; omega) (by omega) hbase _ rfl ?_
    intro g4 c4 w4 hown4 hgrow4 _ _
    rw [← flatE_append] at hown4
    exact h _ _ w4 hown4 hgrow4
theorem own_emptyE (w : World) (base : Nat) (hb : base ≤ w.heap.size) : (w.alloc (.cells #[] 50)).ownsRow base 50 2 (.slice (some ⟨w.heap.size, 0, none⟩) 0 0) 0 (flatE []) :=
  ⟨rfl, .inr ⟨w.heap.size, 0, #[], rfl, hb, by show (w.heap.push _)[w.heap.size]? = _; simp, Nat.le_refl _, by unfold maxLen; omega, rfl, rfl⟩⟩
end Go.Proofs.Ytdnmklcnlndmhbb.L7
