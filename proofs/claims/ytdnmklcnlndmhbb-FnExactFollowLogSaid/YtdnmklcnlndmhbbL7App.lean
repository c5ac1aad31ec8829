/-
  Pieces of lists of entries, and one list of entries behind another that is the call's own. Nothing of the program's text is proved here but closed facts on its types.
-/
import Derived.Test.YtdnmklcnlndmhbbL7Ent
import Derived.Maps.AppendAt
import Derived.Deep.Upon
namespace Go.Proofs.Ytdnmklcnlndmhbb.L7
open Go.RowKit L1
set_option linter.unusedVariables false

theorem size_ent : (Try.prog.info? 50).map (·.size) = some 2 := by kernel_rfl
theorem elem_ent : Try.prog.elem 26 = 50 := by kernel_rfl
theorem run_size_ent (w : World) : (sizeOf (Try.prog.elem 26)).run Try.prog w = .ok 2 w := by
  rw [elem_ent]
  cases hq : Try.prog.info? 50 with
  | none => have := size_ent; rw [hq] at this; cases this
  | some i =>
    have hi : i.size = 2 := by have := size_ent; rw [hq] at this; simpa using this
    simp [sizeOf, typeInfo, hq, hi]
theorem slE_take {w : World} {a : Option Addr} {l : List En} (h : SlE w a l) (p : Nat) : SlE w a (l.take p) := fun i hi => by
  have hi' : i < l.length := by simp at hi; omega
  have hip : i < p := by simp at hi; omega
  obtain ⟨b, off, ha, h1, h2⟩ := h i hi'
  have e : (l.take p).getD i eE = l.getD i eE := by simp [List.getD, hip]
  rw [e]
  exact ⟨b, off, ha, h1, h2⟩
theorem slE_drop {w : World} {b off : Nat} {l : List En} (h : SlE w (some ⟨b, off, none⟩) l) (p : Nat) : SlE w (some ⟨b, off + p * 2, none⟩) (l.drop p) := fun i hi => by
  have hi' : p + i < l.length := by simp at hi; omega
  obtain ⟨b', off', ha, h1, h2⟩ := h (p + i) hi'
  cases ha
  have e : (l.drop p).getD i eE = l.getD (p + i) eE := by simp [List.getD]
  rw [e]
  have e2 : off + (p + i) * 2 = off + p * 2 + i * 2 := by omega
  rw [e2] at h1 h2
  exact ⟨b, off + p * 2, rfl, h1, h2⟩
/-- A list's first entries, as a slice. -/
theorem slice_to (a : Option Addr) (n cap p : Nat) (hp : p ≤ n) (hc : n ≤ cap) (h0 : a = none → cap = 0) :
    ∃ c', ∀ w, (Instr.slice 26 (.slice a n cap) none (some (.int .i64 (p : Int))) none).run Try.prog w = .ok (.slice a p c') w := by
  refine ⟨cap, fun w => ?_⟩
  rw [run_slice_h w 26 a n cap (by rw [elem_ent]; exact Try.underlying26) .i64 (p : Int) (by omega) (by omega), run_size_ent]
  cases a with
  | none => have := h0 rfl; subst this; simp [sliced]
  | some x => obtain ⟨b, off, sp⟩ := x; simp [sliced, Addr.add]; try (split <;> simp_all)
/-- A list's entries from a place on, as a slice. -/
theorem slice_from (w0 : World) (a : Option Addr) (l : List En) (n cap p : Nat) (hn : l.length = n) (hs : SlE w0 a l) (hp : p ≤ n) (hc : n ≤ cap) (h0 : a = none → cap = 0) :
    ∃ a' c', (∀ w, (Instr.slice 26 (.slice a n cap) (some (.int .i64 (p : Int))) none none).run Try.prog w = .ok (.slice a' (n - p) c') w) ∧ ∀ w, SlE w a l → SlE w a' (l.drop p) := by
  by_cases e : p = n
  · refine ⟨if cap = p then a else a.map (·.add (p * 2)), cap - p, fun w => ?_, fun w _ i hi => ?_⟩
    · rw [run_slice_l w 26 a n cap (by rw [elem_ent]; exact Try.underlying26) .i64 (p : Int) (by omega) (by omega), run_size_ent]
      simp only [Result.andThen_ok, sliced, Int.toNat_natCast]
    · simp at hi; omega
  · obtain ⟨b, off, rfl, _⟩ := hs p (by omega)
    refine ⟨some ⟨b, off + p * 2, none⟩, cap - p, fun w => ?_, fun w h => slE_drop h p⟩
    rw [run_slice_l w 26 (some ⟨b, off, none⟩) n cap (by rw [elem_ent]; exact Try.underlying26) .i64 (p : Int) (by omega) (by omega), run_size_ent]
    have h1 : ¬ cap = p := by omega
    simp [sliced, h1, Addr.add]
theorem flatE_cells {w : World} {b off : Nat} {l : List En} (h : SlE w (some ⟨b, off, none⟩) l) : ∀ j u, (flatE l)[j]? = some u → w.cell? ((⟨b, off, none⟩ : Addr).add j) = some u := fun j u hu => by
  have hj : j < l.length * 2 := by
    by_cases hj : j < l.length * 2
    · exact hj
    · rw [List.getElem?_eq_none (by rw [flatE_len]; omega)] at hu; cases hu
  have e0 : (⟨b, off, none⟩ : Addr).add j = ⟨b, off + j, none⟩ := by unfold Addr.add; split <;> simp_all
  rw [e0]
  obtain ⟨b', off', ha, h1, h2⟩ := h (j / 2) (by omega)
  cases ha
  have hf := flatE_get l (j / 2) (by omega)
  have h01 : j % 2 = 0 ∨ j % 2 = 1 := by omega
  rcases h01 with e | e
  · rw [show j / 2 * 2 = j by omega] at hf h1
    rw [h1, ← hf.1, hu]
  · rw [show j / 2 * 2 + 1 = j by omega] at hf
    rw [show off + j / 2 * 2 + 1 = off + j by omega] at h2
    rw [h2, ← hf.2, hu]
theorem flatE_one (l : List En) : ∀ u ∈ flatE l, u.oneCell' = true := by
  induction l with
  | nil => intro u hu; simp [flatE] at hu
  | cons p l ih =>
    intro u hu
    simp only [flatE, List.mem_cons] at hu
    rcases hu with rfl | rfl | hu
    · rfl
    · rfl
    · exact ih u hu
theorem own_capE {w : World} {base n cap c : Nat} {t : TypeId} {a : Option Addr} {xs : List Value} (h : w.ownsRow base t c (.slice a n cap) n xs) : n ≤ cap := by
  rcases h.2 with ⟨h, h0⟩ | ⟨g', cap', cur, e, _, _, hle, _⟩
  · omega
  · cases e; exact hle
/-- 'append' of a list behind one that is the call's own. -/
theorem wpList_append_ent {ops : Array Oper} {rest : List Oper} {o : Oper} {a : Act} {Q : Exit → Act → World → Prop} {w : World} (hgd : o.guard = none) (s x : Operand)
    (ho : o.op = .call { callee := .builtin .append, args := #[s, x], argTypes := #[26, 26] })
    (base : Nat) (ad ax : Option Addr) (k cd n c : Nat) (O xs : List En) (hO : O.length = k) (hxs : xs.length = n) (hk2 : k ≤ 1048576) (hn2 : n ≤ 1048576) (hs : a.eval s = .slice ad k cd) (hown : w.ownsRow base 50 2 (.slice ad k cd) k (flatE O)) (hx : a.eval x = .slice ax n c) (hsl : SlE w ax xs) (hbase : base ≤ w.heap.size)
    (h : ∀ a' c' w', w'.ownsRow base 50 2 (.slice a' (k + n) c') (k + n) (flatE (O ++ xs)) → w.grownBy w' (Value.slice ad k cd).ownBlock → wpList Try.prog ops Q rest (a.put o.dst (.slice a' (k + n) c')) w') : wpList Try.prog ops Q (o :: rest) a w := by
  obtain ⟨i0, hi, hz0, hz1, hz2⟩ := info_parts info_ent
  by_cases h0 : n = 0
  · subst h0
    have hx0 : xs = [] := List.eq_nil_of_length_eq_zero hxs
    subst hx0
    have hr : (Builtin.append_ #[26, 26] o.type #[.slice ad k cd, .slice ax 0 c]).run Try.prog w = .ok (.slice ad k cd) w := by
      refine run_append_nothing w 26 26 o.type 50 i0 Try.underlying26 hi ad k cd (own_capE hown) _ ?_
      cases ax with
      | none => exact Src.ofNil _ Try.underlying26 c
      | some x => exact Src.ofSlice _ Try.underlying26 x 0 c [] (by simp) (fun j u hu => by simp at hu) (fun u hu => by simp at hu)
    refine wpList_plain hgd fun K hK => ?_
    unfold Oper.wp execOp
    simp only [ho, resolve, invoke, builtin, Sem.run_bind, Sem.run_pure, Result.andThen_ok, List.map_toArray, List.map_cons, List.map_nil, hs, hx, hr]
    exact hK _ _ (h ad cd w (by simpa using hown) (World.grownBy.refl _ _))
  · obtain ⟨b, off, rfl, _⟩ := hsl 0 (by omega)
    refine wpList_append_own_at w hgd s x 26 ho base 50 i0 (.agg #[.int .i64 0, .string ByteArray.empty]) 2 24 Try.underlying26 hi hz0 hz1 hz2 rfl (by decide) (.slice ad k cd) k (flatE O) hs hown ⟨b, off, none⟩ n c (flatE xs) hx (by rw [flatE_len]; omega) (flatE_cells hsl) (flatE_one xs) (by unfold maxLen; omega) (by omega) hbase ?_
    intro v' w' h1 h2 _ h4
    rw [← flatE_append] at h1
    obtain ⟨a', c', rfl, _, _⟩ := own_formE h1
    exact h a' c' w' h1 h2
end Go.Proofs.Ytdnmklcnlndmhbb.L7
