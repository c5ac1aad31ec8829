/-
  'append' of ints behind an empty list, of a row behind rows, slices.Clone of ints: in new memory. Nothing of the program's text is proved here but slices.Clone and closed facts on its types.
-/
import Derived.Test.YtfmfnlpajoikmanL15Mem
import Derived.Maps.AppendAt
import Derived.Laws.CopyOwn
import Derived.Deep.Upon
import Derived.Deep.RegionHeld3
namespace Go.Proofs.Ytfmfnlpajoikman.L15
open Go.RowKit L1 Own Sli
set_option linter.unusedVariables false

/-- 'append' onto what the call owns, at an operation by itself. -/
theorem oper_append_at {P : Program} {w : World} {o : Oper} {a : Act} {K : Act → World → Prop} {Q : Exit → Act → World → Prop} (s x : Operand) (t : TypeId)
    (ho : o.op = .call { callee := .builtin .append, args := #[s, x], argTypes := #[t, t] })
    (base : Nat) (e : TypeId) (i : TypeInfo) (z : Value) (size bytes : Nat) (ht : P.underlying t = some (.slice e)) (hi : P.info? e = some i) (hz : i.zero = some z)
    (hsize : i.size = size) (hby : i.bytes = bytes) (hzs : z.cells.size = size) (hsz : 0 < size)
    (v : Value) (n : Nat) (xs : List Value) (hs : a.eval s = v) (hown : w.ownsRow base e size v n xs)
    (ad : Addr) (m c : Nat) (news : List Value) (hx : a.eval x = .slice (some ad) m c) (hl : news.length = m * size) (hnews : ∀ j u, news[j]? = some u → w.cell? (ad.add j) = some u) (h1 : ∀ u ∈ news, u.oneCell' = true)
    (h63 : n + m ≤ maxLen) (hbytes : (n + m) * bytes ≤ 140737488355328) (hbase : base ≤ w.heap.size)
    (h : ∀ v' w', w'.ownsRow base e size v' (n + m) (xs ++ news) → w.grownBy w' v.ownBlock → (v'.ownBlock = v.ownBlock ∨ v'.ownBlock = some w.heap.size) → K (a.put o.dst v') w') :
    Oper.wp P o a w K Q := by
  obtain ⟨v', w', hr, h2, h3, _, h5⟩ := run_append_own_at (P := P) w base t o.type e i z size bytes ht hi hz hsize hby hzs hsz v n xs hown ad m c news hl hnews h1 h63 hbytes hbase
  unfold Oper.wp execOp
  simp only [ho, resolve, invoke, builtin, Sem.run_bind, Sem.run_pure, Result.andThen_ok, List.map_toArray, List.map_cons, List.map_nil, hs, hx, hr]
  exact h v' w' h2 h3 h5
theorem run_build0I (w : World) : (Instr.buildSlice 41 0 #[]).run Try.prog w = .ok (.slice (some ⟨w.heap.size, 0, none⟩) 0 0) (w.alloc (.cells #[] 3)) := by
  obtain ⟨i0, hi, hz0, hz1, hz2⟩ := info_parts info_int
  simp [Instr.buildSlice, run_underlying Try.underlying41, sizeOf, typeInfo, hi, newRow, Instr.fill, Array.range_zero']
theorem app_noneI (t ty : TypeId) (ht : Try.prog.underlying t = some (.slice 3)) (base ax : Option Addr) (n cap c : Nat) (h : n ≤ cap) (w : World) :
    (Builtin.append_ #[t, t] ty #[.slice base n cap, .slice ax 0 c]).run Try.prog w = .ok (.slice base n cap) w := by
  obtain ⟨i1, hi1, _, _, _⟩ := info_parts info_int
  refine run_append_nothing w t t ty 3 i1 ht hi1 base n cap h _ ?_
  cases ax with
  | none => exact Src.ofNil _ ht c
  | some x => exact Src.ofSlice _ ht x 0 c [] (by simp) (fun j u hu => by simp at hu) (fun u hu => by simp at hu)
theorem own_emptyC (w : World) (base : Nat) (hb : base ≤ w.heap.size) : (w.alloc (.cells #[] 3)).ownsRow base 3 1 (.slice (some ⟨w.heap.size, 0, none⟩) 0 0) 0 [] :=
  ⟨rfl, .inr ⟨w.heap.size, 0, #[], rfl, hb, by show (w.heap.push _)[w.heap.size]? = _; simp, Nat.le_refl _, by unfold maxLen; omega, rfl, rfl⟩⟩
theorem ints_oneC (xs : List Int) : ∀ u ∈ xs.map (Value.int .i64), u.oneCell' = true := fun u hu => by
  obtain ⟨x, _, rfl⟩ := List.mem_map.1 hu
  rfl
theorem sl_cellsI {w : World} {b off : Nat} {l : List Int} (h : Sl w (some ⟨b, off, none⟩) l) : ∀ j u, (ints l)[j]? = some u → w.cell? ((⟨b, off, none⟩ : Addr).add j) = some u := fun j u hu => by
  have hj : j < l.length := by
    by_cases hj : j < l.length
    · exact hj
    · rw [List.getElem?_eq_none (by simp; omega)] at hu; cases hu
  obtain ⟨b', off', ha, h1⟩ := h j hj
  simp only [Option.some.injEq, Addr.mk.injEq, and_true] at ha
  obtain ⟨rfl, rfl⟩ := ha
  rw [add_atI, h1]
  rw [← hu]
  simp [List.getD, List.getElem?_eq_getElem hj]
/-- A list without ints, made, at an operation by itself. -/
theorem oper_build0I {w : World} {o : Oper} {a : Act} {K : Act → World → Prop} {Q : Exit → Act → World → Prop} (ho : o.op = .buildSlice 41 0 #[])
    (h : K (a.put o.dst (.slice (some ⟨w.heap.size, 0, none⟩) 0 0)) (w.alloc (.cells #[] 3))) : Oper.wp Try.prog o a w K Q := by
  unfold Oper.wp execOp
  have e : (#[] : Array (Nat × Operand)).map (fun x => (x.1, a.eval x.2)) = #[] := by simp
  simp only [ho, Sem.run_bind, e, run_build0I, Result.andThen_ok]
  exact h
/-- 'append' of ints behind an empty list of the call's own, at an operation by itself. -/
theorem oper_append_copyI {w : World} {o : Oper} {a : Act} {K : Act → World → Prop} {Q : Exit → Act → World → Prop} (s x : Operand)
    (ho : o.op = .call { callee := .builtin .append, args := #[s, x], argTypes := #[41, 41] })
    (base : Nat) (ad ax : Option Addr) (cd n c : Nat) (xs : List Int) (hxs : xs.length = n) (hn2 : n ≤ 1048576) (hs : a.eval s = .slice ad 0 cd) (hown : w.ownsRow base 3 1 (.slice ad 0 cd) 0 []) (hx : a.eval x = .slice ax n c) (hsl : Sl w ax xs) (hbase : base ≤ w.heap.size)
    (h : ∀ a' c' w', w'.ownsRow base 3 1 (.slice a' n c') n (ints xs) → w.grownBy w' (Value.slice ad 0 cd).ownBlock → K (a.put o.dst (.slice a' n c')) w') : Oper.wp Try.prog o a w K Q := by
  by_cases h0 : n = 0
  · subst h0
    have hx0 : xs = [] := List.eq_nil_of_length_eq_zero hxs
    subst hx0
    unfold Oper.wp execOp
    simp only [ho, resolve, invoke, builtin, Sem.run_bind, Sem.run_pure, Result.andThen_ok, List.map_toArray, List.map_cons, List.map_nil, hs, hx, app_noneI 41 o.type Try.underlying41 ad ax 0 cd c (Nat.zero_le _) w]
    exact h ad cd w hown (World.grownBy.refl _ _)
  · obtain ⟨i0, hi, hz0, hz1, hz2⟩ := info_parts info_int
    obtain ⟨b, off, rfl, _⟩ := hsl 0 (by omega)
    refine oper_append_at s x 41 ho base 3 i0 (.int .i64 0) 1 8 Try.underlying41 hi hz0 hz1 hz2 rfl (by decide) (.slice ad 0 cd) 0 [] hs hown ⟨b, off, none⟩ n c (ints xs) hx (by simp; omega) (sl_cellsI hsl) (ints_oneC xs) (by unfold maxLen; omega) (by omega) hbase ?_
    intro v' w' h1 h2 h4
    rw [Nat.zero_add, List.nil_append] at h1
    obtain ⟨a', c', rfl, _, _⟩ := own_form h1
    exact h a' c' w' h1 h2
/-- Rows and one more. -/
theorem OwR.more {w w' : World} {base n : Nat} {v v' : Value} {M : List PR} (h : OwR w base v n M) (p : List Int) (u : Value) (hu : w.ownsRow base 3 1 u p.length (ints p))
    (hne : ∀ i, i < n → ∀ b, u.ownBlock = some b → (M.getD i eV).2.ownBlock ≠ some b) (hrow : w'.ownsRow base 41 1 v' (n + 1) (flatR M ++ [u])) (hg : w.grownBy w' v.ownBlock) : OwR w' base v' (n + 1) (M ++ [(p, u)]) := by
  have hl := h.len
  have keep : ∀ {c m : Nat} {u : Value} {ys : List Value}, w.ownsRow base 3 c u m ys → w'.ownsRow base 3 c u m ys := fun hu =>
    L8.own_kept hu hg (fun b hb e => L8.own_two h.row hu ss_int b e hb)
  have g1 : ∀ i, i < n → (M ++ [(p, u)]).getD i eV = M.getD i eV := fun i hi => by
    simp [List.getD, List.getElem?_append_left (show i < M.length by omega)]
  have g2 : (M ++ [(p, u)]).getD n eV = (p, u) := by
    subst hl
    simp [List.getD]
  refine ⟨by simp [hl], by rw [show flatR (M ++ [(p, u)]) = flatR M ++ [u] by simp]; exact hrow, fun i hi => ?_, fun i j hij hj => ?_⟩
  · by_cases e : i = n
    · subst e
      rw [g2]
      exact keep hu
    · rw [g1 i (by omega)]
      exact keep (h.idx i (by omega))
  · intro b
    rw [g1 i (by omega)]
    by_cases e : j = n
    · subst e
      rw [g2]
      intro h1 h2
      exact hne i hij b h2 h1
    · rw [g1 j (by omega)]
      exact h.apart i j hij (by omega) b
theorem rws_more (M : List PR) (p : List Int) (u : Value) : rws (M ++ [(p, u)]) = rws M ++ [p] := by simp
theorem take_more {L : List (List Int)} {k : Nat} (h : k < L.length) : L.take (k + 1) = L.take k ++ [gi L k] := by
  rw [List.take_succ_eq_append_getElem h]
  simp [gi, List.getD, List.getElem?_eq_getElem h]
theorem cell_one_newR (w : World) (a : Value) (t : TypeId) : ∀ j u, [a][j]? = some u → (w.alloc (.cells #[a] t)).cell? ((⟨w.heap.size, 0, none⟩ : Addr).add j) = some u := by
  intro j u hj
  rw [add_atI]
  match j, hj with
  | 0, hj => simp at hj; subst hj; simp
  | j + 1, hj => simp at hj
theorem own_made15 {w : World} {base g n : Nat} {z : Value} {t : TypeId} (hz : z.cells = #[z]) (h : w.heap[g]? = some (.cells (madeCells z.cells (n * 1)) t (0, 0))) (hb : base ≤ g) (hn : n ≤ maxLen) : w.ownsRow base t 1 (.slice (some ⟨g, 0, none⟩) n n) n (List.replicate n z) := by
  have e : (madeCells z.cells (n * 1)).toList = List.replicate n z := by
    rw [hz, Nat.mul_one, toList_madeCells_one]
  have e2 : (madeCells z.cells (n * 1)).size = n * 1 := size_madeCells _ _
  exact ⟨by simp, .inr ⟨g, n, _, rfl, hb, h, Nat.le_refl _, hn, e2, by rw [e]; simp⟩⟩
theorem set1 {W : World} {g : Nat} {a b a' : Value} {t : TypeId} (h : W.heap[g]? = some (.cells #[a, b] t (0, 0))) : (W.setCell ⟨g, 0, none⟩ a').heap[g]? = some (.cells #[a', b] t (0, 0)) := by
  have hlt := (Array.getElem?_eq_some_iff.1 h).1
  have he := (Array.getElem?_eq_some_iff.1 h).2
  simp [World.setCell, Array.getElem_modify, he, hlt]
theorem set2 {W : World} {g : Nat} {a b a' b' : Value} {t : TypeId} (h : W.heap[g]? = some (.cells #[a, b] t (0, 0))) : ((W.setCell ⟨g, 0, none⟩ a').setCell ⟨g, 1, none⟩ b').heap[g]? = some (.cells #[a', b'] t (0, 0)) := by
  have hlt := (Array.getElem?_eq_some_iff.1 h).1
  have he := (Array.getElem?_eq_some_iff.1 h).2
  simp [World.setCell, Array.getElem_modify, he, hlt]
theorem set_old {W : World} {p : Addr} {v : Value} {g : Nat} {o : Obj} (h : W.heap[g]? = some o) (hne : p.block ≠ g) : (W.setCell p v).heap[g]? = some o := by
  rw [Below.heap_setCell _ _ _ _ (Ne.symm hne)]; exact h
theorem blk_oldR {w : World} {g : Nat} {o o2 : Obj} (h : w.heap[g]? = some o) : (w.alloc o2).heap[g]? = some o :=
  (((Below.refl w.heap.size w).alloc (Nat.le_refl _) o2).block g (Array.getElem?_eq_some_iff.1 h).1).trans h
theorem blk_kept {w w' : World} {g : Nat} {o : Obj} (h : w.heap[g]? = some o) (hb : Below w.heap.size w w') : w'.heap[g]? = some o := (hb.block g (Array.getElem?_eq_some_iff.1 h).1).trans h
theorem blk_grown {w w' : World} {g : Nat} {o : Obj} {r : Option Nat} (h : w.heap[g]? = some o) (hg : w.grownBy w' r) (hne : r ≠ some g) : w'.heap[g]? = some o :=
  (hg.block g (Array.getElem?_eq_some_iff.1 h).1 (fun e => hne e.symm)).trans h
theorem cells2X {w : World} {g : Nat} {a b : Value} {t : TypeId} (h : w.heap[g]? = some (.cells #[a, b] t (0, 0))) : w.cell? ⟨g, 0, none⟩ = some a ∧ w.cell? ⟨g, 1, none⟩ = some b := ⟨(blkp h).1, (blkp h).2.1⟩
set_option maxRecDepth 100000 in
set_option maxHeartbeats 1000000 in
theorem cloneO_any (g off : Nat) (l : List Int) (n cap : Nat) (w : World) (hn : l.length = n) (hm : n ≤ 1048576) (hc : ∀ j u, (l.map (Value.int .i64))[j]? = some u → w.cell? ((⟨g, off, none⟩ : Addr).add j) = some u) (hg : g < w.heap.size) :
    Calls Try.prog 67 #[.slice (some ⟨g, off, none⟩) n cap] w fun e w' => ∃ v, e = .returned v ∧ w'.ownsRow w.heap.size 3 1 v n (l.map (Value.int .i64)) ∧ Below w.heap.size w w' := by
  obtain ⟨i1, hi1, hy0, hy1, hy2⟩ := info_parts info_int
  have hnil : ∀ w, (binOp .eql 41 (.slice (some ⟨g, off, none⟩) n cap) (.slice none 0 0)).run Try.prog w = .ok (.bool false) w := fun w => Lib.run_eql_slice_nil w _ _ _ _ _ _ _ Try.underlying41
  have HCC := hide (fun j u h => (((Below.refl w.heap.size w).alloc (Nat.le_refl _) (.cells #[] 3)).cell (p := (⟨g, off, none⟩ : Addr).add j) (by unfold Addr.add; split <;> exact hg)).trans (hc j u h))
  have HN := hide (show (l.map (Value.int .i64)).length = n * 1 by simp; exact hn)
  clear hc hn
  go_enter Try.func67, Try.ntmps67
  go_wp2_with (first
    | (at_builtin; refine wpList_append_own _ rfl _ _ 41 rfl w.heap.size 3 i1 (.int .i64 0) 1 8 Try.underlying41 hi1 hy0 hy1 hy2 rfl (by decide) (.slice (some ⟨w.heap.size, 0, none⟩) 0 0) 0 [] rfl (own_emptyC w _ (Nat.le_refl _)) ⟨g, off, none⟩ n cap (l.map (Value.int .i64)) rfl HN.out HCC.out (ints_oneC l) (by unfold maxLen; omega) (by omega) (by simp) ?_)
    | go_in)
  intro v3 w3 hown3 hgrow3 hnil3
  have hb3 : Below w.heap.size w w3 := ((Below.refl _ _).alloc (Nat.le_refl _) _).grown hgrow3 (by simp) (fun g hg => by cases hg; exact Nat.le_refl _)
  try simp only [List.nil_append, Nat.zero_add] at hown3
  have O3 := hide hown3
  have B3 := hide hb3
  clear hown3 hgrow3 hnil3 hb3
  go_wp2
  go_ret
  exact ⟨_, rfl, O3.out, B3.out⟩
set_option maxRecDepth 100000 in
set_option maxHeartbeats 1000000 in
theorem cloneI_none (w : World) : Calls Try.prog 67 #[.slice none 0 0] w fun e w' => e = .returned (.slice none 0 0) ∧ w = w' := by
  have hnil : ∀ w, (binOp .eql 41 (.slice none 0 0) (.slice none 0 0)).run Try.prog w = .ok (.bool true) w := fun w => Lib.run_eql_slice_nil w _ _ _ _ _ _ _ Try.underlying41
  go_enter Try.func67, Try.ntmps67
  go_wp2
  go_ret
  exact ⟨rfl, rfl⟩
end Go.Proofs.Ytfmfnlpajoikman.L15
