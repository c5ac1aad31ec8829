/-
  A queue of ints in memory: a slice that is cut at its front and grows at its end.
-/
import Derived.Test.YtkfnejiiancmhaiL1Sl
import Derived.ArgAppend
namespace Go.Proofs.Ytkfnejiiancmhai.Own
open Go.RowKit L1
set_option linter.unusedVariables false

/-- A queue lies in a block. -/
structure Qu (w : World) (B b off cap : Nat) (xs : List Int) : Prop where
  ge : B ≤ b
  le : xs.length ≤ cap
  mx : cap ≤ maxLen
  blk : ∃ cur, w.heap[b]? = some (.cells cur 3 (0, 0)) ∧ off + cap ≤ cur.size ∧ ∀ j, j < xs.length → cur[off + j]? = some (.int .i64 (xs.getD j 0))
section
variable {w w' : World} {B b off cap : Nat} {xs : List Int}
theorem Qu.cell (h : Qu w B b off cap xs) (j : Nat) (hj : j < xs.length) : w.cell? ⟨b, off + j, none⟩ = some (.int .i64 (xs.getD j 0)) := by
  obtain ⟨cur, h1, h2, h3⟩ := h.blk
  unfold World.cell?
  simp only [h1]
  exact h3 j hj
theorem Qu.lt (h : Qu w B b off cap xs) : b < w.heap.size := by
  obtain ⟨cur, h1, _⟩ := h.blk
  exact (Array.getElem?_eq_some_iff.1 h1).1
theorem Qu.same (h : Qu w B b off cap xs) (hb : w'.heap[b]? = w.heap[b]?) : Qu w' B b off cap xs := by
  obtain ⟨cur, h1, h2, h3⟩ := h.blk
  exact ⟨h.ge, h.le, h.mx, cur, hb.trans h1, h2, h3⟩
theorem Qu.below (h : Qu w B b off cap xs) (hb : Below w.heap.size w w') : Qu w' B b off cap xs := h.same (hb.block b h.lt)
theorem qu_new (w : World) (B : Nat) (hB : B ≤ w.heap.size) (x : Int) : Qu (w.alloc (.cells #[.int .i64 x] 3)) B w.heap.size 0 1 [x] := by
  refine ⟨hB, by simp, by unfold maxLen; omega, #[.int .i64 x], by show (w.heap.push _)[w.heap.size]? = _; exact Array.getElem?_push_size, by simp, fun j hj => ?_⟩
  obtain rfl : j = 0 := by simpa using hj
  simp
theorem Qu.pop {x : Int} (h : Qu w B b off cap (x :: xs)) : Qu w B b (if cap = 1 then off else off + 1) (cap - 1) xs := by
  have hl := h.le
  simp at hl
  obtain ⟨cur, h1, h2, h3⟩ := h.blk
  refine ⟨h.ge, by omega, by have := h.mx; omega, cur, h1, ?_, fun j hj => ?_⟩
  · split <;> omega
  · rw [if_neg (by omega)]
    have := h3 (j + 1) (by simp; omega)
    rw [show off + 1 + j = off + (j + 1) by omega, this]
    simp
end
theorem elem_int11 : Try.prog.elem 24 = 3 := by kernel_rfl
theorem size_int11 : (Try.prog.info? 3).map (·.size) = some 1 := by kernel_rfl
theorem run_size_int11 (w : World) : (sizeOf (Try.prog.elem 24)).run Try.prog w = .ok 1 w := by
  rw [elem_int11]
  cases hq : Try.prog.info? 3 with
  | none => have := size_int11; rw [hq] at this; cases this
  | some i =>
    have hi : i.size = 1 := by have := size_int11; rw [hq] at this; simpa using this
    simp [sizeOf, typeInfo, hq, hi]
theorem slice_pop (b off m cap off' : Nat) (h1 : 1 ≤ m) (h2 : m ≤ cap) (ho : off' = if cap = 1 then off else off + 1) (w : World) :
    (Instr.slice 24 (.slice (some ⟨b, off, none⟩) m cap) (some (.int .i64 1)) none none).run Try.prog w = .ok (.slice (some ⟨b, off', none⟩) (m - 1) (cap - 1)) w := by
  rw [run_slice_l w 24 (some ⟨b, off, none⟩) m cap (by rw [elem_int11]; exact Try.underlying24) .i64 1 (by omega) (by omega), run_size_int11, ho]
  by_cases hc : cap = 1
  · simp [sliced, hc]
  · simp [sliced, hc, Addr.add]
/-- One number more behind a queue. -/
theorem run_append_queue {w : World} {B b off cap : Nat} {xs : List Int} (h : Qu w B b off cap xs) (hB : B ≤ w.heap.size) (x : Int) (hm : xs.length ≤ 1000000) (ad : Addr) (c : Nat) (hx : w.cell? (ad.add 0) = some (.int .i64 x)) (ty : TypeId) :
    ∃ b' off' cap' w', (Builtin.append_ #[24, 24] ty #[.slice (some ⟨b, off, none⟩) xs.length cap, .slice (some ad) 1 c]).run Try.prog w = .ok (.slice (some ⟨b', off', none⟩) (xs.length + 1) cap') w' ∧
      Qu w' B b' off' cap' (xs ++ [x]) ∧ w.grownBy w' (some b) ∧ (b' = b ∨ w.heap.size ≤ b') := by
  obtain ⟨i0, hi, hz0, hz1, hz2⟩ := info_parts info_int
  have hnews : ∀ j u, [Value.int .i64 x][j]? = some u → w.cell? (ad.add j) = some u := fun j u hu => by
    match j, hu with
    | 0, hu => simp at hu; subst hu; exact hx
    | j + 1, hu => simp at hu
  obtain ⟨cur, h1, h2, h3⟩ := h.blk
  by_cases hroom : xs.length + 1 ≤ cap
  · have hcl : (w.cell? ⟨b, off + xs.length, none⟩).isSome = true := by
      unfold World.cell?
      simp only [h1]
      rw [Array.getElem?_eq_getElem (show off + xs.length < cur.size by omega)]
      rfl
    have hfr : w.frozen? ⟨b, off + xs.length, none⟩ = false := by simp [World.frozen?, h1]
    have hr := run_append_room_cells (P := Try.prog) w 24 ty 3 i0 Try.underlying24 hi b off xs.length cap ad 1 c [.int .i64 x] (by rw [hz1]; rfl) hnews (by intro u hu; simp at hu; subst hu; rfl) hroom
      (fun j hj => by obtain rfl : j = 0 := by simpa using hj
                      rw [hz1]; simpa using hcl) (fun j hj => by obtain rfl : j = 0 := by simpa using hj
                                                                 rw [hz1]; simpa using hfr)
    rw [hz1, Nat.mul_one] at hr
    have hset : w.setCells b (off + xs.length) [.int .i64 x] = w.setCell ⟨b, off + xs.length, none⟩ (.int .i64 x) := rfl
    rw [hset] at hr
    refine ⟨b, off, cap, _, hr, ⟨h.ge, by simp; omega, h.mx, cur.setIfInBounds (off + xs.length) (.int .i64 x), ?_, by simpa using h2, fun j hj => ?_⟩, ⟨rfl, rfl, rfl, by simp, fun k _ hk => Below.heap_setCell w _ _ k (fun e => hk (by rw [e]))⟩, .inl rfl⟩
    · exact heap_setCell_same w b (off + xs.length) cur 3 (.int .i64 x) h1
    · by_cases e : j = xs.length
      · subst e
        rw [Array.getElem?_setIfInBounds_self_of_lt (by omega)]
        simp [List.getD]
      · have hj' : j < xs.length := by simp at hj; omega
        rw [Array.getElem?_setIfInBounds_ne (by omega), h3 j hj']
        simp [List.getD, List.getElem?_append_left hj']
  · have hc : xs.length = cap := by have := h.le; omega
    obtain ⟨v', w', hr, ho, hg⟩ := run_append_arg_grows (P := Try.prog) w 24 ty 3 i0 (.int .i64 0) 1 8 Try.underlying24 hi hz0 hz1 hz2 rfl (by decide) ⟨b, off, none⟩ xs.length cap (xs.map (Value.int .i64)) (by simp)
      (fun j u hu => by
        have hj : j < xs.length := by
          by_cases hj : j < xs.length
          · exact hj
          · rw [List.getElem?_eq_none (by simp; omega)] at hu; cases hu
        have e : (⟨b, off, none⟩ : Addr).add j = ⟨b, off + j, none⟩ := by unfold Addr.add; split <;> simp_all
        rw [e, h.cell j hj]
        rw [List.getElem?_map, List.getElem?_eq_getElem hj] at hu
        simp at hu
        rw [← hu]
        simp [List.getD, List.getElem?_eq_getElem hj]) ad 1 c [.int .i64 x] rfl hnews (by omega) (by unfold maxLen; omega) (by omega)
    rcases ho.2 with ⟨_, h0⟩ | ⟨g, cap', cur', hv, hbg, hh, hle, hmx, hsz, htk⟩
    · omega
    · subst hv
      refine ⟨g, 0, cap', w', hr, ⟨Nat.le_trans hB hbg, by simp; omega, hmx, cur', hh, by omega, fun j hj => ?_⟩, ⟨hg.os, hg.tape, hg.output, hg.size, fun k hk _ => hg.block k hk (by simp)⟩, .inr hbg⟩
      have hj' : j < xs.length + 1 := by simpa using hj
      have h5 : (cur'.toList.take ((xs.length + 1) * 1))[j]? = (xs.map (Value.int .i64) ++ [Value.int .i64 x])[j]? := by rw [htk]
      rw [List.getElem?_take_of_lt (by omega)] at h5
      rw [Nat.zero_add, ← Array.getElem?_toList, h5]
      by_cases e : j = xs.length
      · subst e
        rw [List.getElem?_append_right (by simp)]
        simp [List.getD]
      · rw [List.getElem?_append_left (by simp; omega)]
        simp [List.getD, List.getElem?_append_left (show j < xs.length by omega), List.getElem?_eq_getElem (show j < xs.length by omega)]
/-- At the operation, for the walk. -/
theorem wpList_append_queue {ops : Array Oper} {rest : List Oper} {o : Oper} {a : Act} {Q : Exit → Act → World → Prop} {w : World} (hgd : o.guard = none) (s x : Operand)
    (ho : o.op = .call { callee := .builtin .append, args := #[s, x], argTypes := #[24, 24] })
    (B b off cap : Nat) (xs : List Int) (h : Qu w B b off cap xs) (hB : B ≤ w.heap.size) (z : Int) (hm : xs.length ≤ 1000000) (n : Nat) (hn : xs.length = n) (hs : a.eval s = .slice (some ⟨b, off, none⟩) n cap) (ad : Addr) (c : Nat) (hx : a.eval x = .slice (some ad) 1 c) (hz : w.cell? (ad.add 0) = some (.int .i64 z))
    (k : ∀ b' off' cap' w', Qu w' B b' off' cap' (xs ++ [z]) → w.grownBy w' (some b) → (b' = b ∨ w.heap.size ≤ b') → wpList Try.prog ops Q rest (a.put o.dst (.slice (some ⟨b', off', none⟩) (n + 1) cap')) w') : wpList Try.prog ops Q (o :: rest) a w := by
  subst hn
  refine wpList_plain hgd fun K hK => ?_
  obtain ⟨b', off', cap', w', hr, h1, h2, h3⟩ := run_append_queue h hB z hm ad c hz o.type
  unfold Oper.wp execOp
  simp only [ho, resolve, invoke, builtin, Sem.run_bind, Sem.run_pure, Result.andThen_ok, List.map_toArray, List.map_cons, List.map_nil, hs, hx, hr]
  exact hK _ _ (k b' off' cap' w' h1 h2 h3)
end Go.Proofs.Ytkfnejiiancmhai.Own
